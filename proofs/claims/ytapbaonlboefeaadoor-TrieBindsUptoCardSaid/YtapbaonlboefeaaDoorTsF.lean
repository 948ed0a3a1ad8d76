/- trie: trail.preimages: the preimages along a path. -/
import Derived.Test.YtapbaonlboefeaaDoorTsD
namespace Go.Proofs.YtapbaonlboefeaaDoor
open Go.RowKit

/-- The siblings that lie in T. -/
def sibsT (T : List UInt8) : List (List UInt8) := (List.range (T.length / 32)).map (sibAt T)
theorem sibsT_len (T : List UInt8) : (sibsT T).length = T.length / 32 := by simp [sibsT]
theorem sibsT_32 (T : List UInt8) : ∀ s ∈ sibsT T, s.length = 32 := by
  intro s hs
  obtain ⟨x, hx, rfl⟩ := List.mem_map.1 hs
  exact sibAt_len (by simpa using hx)
theorem sibsT_flat : ∀ (S : List (List UInt8)), (∀ s ∈ S, s.length = 32) → sibsT S.flatten = S
  | [], _ => rfl
  | s :: S, h => by
    have hs := h s (by simp)
    have ih := sibsT_flat S (fun x hx => h x (by simp [hx]))
    have hl : (s :: S).flatten.length = S.flatten.length + 32 := by simp [hs]; omega
    unfold sibsT at ih ⊢
    rw [hl, show (S.flatten.length + 32) / 32 = S.flatten.length / 32 + 1 from by omega, List.range_succ_eq_map, List.map_cons, List.map_map]
    congr 1
    · simp [sibAt, hs]
    · refine (List.map_congr_left (fun x _ => ?_)).trans ih
      simp only [Function.comp, sibAt, List.flatten_cons]
      rw [show (x.succ) * 32 = s.length + x * 32 from by rw [hs, Nat.succ_mul]; omega, List.drop_length_add_append]
theorem preT_drop (key : List UInt8) (e : List Ent) : ∀ (d k : Nat) (ss : List (List UInt8)), k ≤ ss.length → (preT key d ss e).drop k = preT key (d + k) (ss.drop k) e
  | d, 0, ss, _ => by simp
  | d, k + 1, [], h => by simp at h
  | d, k + 1, s :: ss, h => by
    rw [preT, List.drop_succ_cons, preT_drop key e (d + 1) k ss (by simpa using h), List.drop_succ_cons, show d + 1 + k = d + (k + 1) from by omega]
theorem fold_pre (key T : List UInt8) (E : List Ent) (D : Nat) (hT : T.length = D * 32) : ∀ k, k ≤ D → foldP key T E D (dn D k) = ((preT key (D - k) ((sibsT T).drop (D - k)) E).headD [], List.replicate (D - k) [] ++ preT key (D - k) ((sibsT T).drop (D - k)) E)
  | 0, _ => by
    have hl : (sibsT T).length = D := by rw [sibsT_len]; omega
    have e1 : (sibsT T).drop (D - 0) = [] := by rw [Nat.sub_zero, List.drop_of_length_le (by omega)]
    rw [e1]
    show foldP key T E D [] = _
    simp only [foldP, List.foldl_nil, preT, List.headD_cons, Nat.sub_zero, Prod.mk.injEq, true_and]
    rw [List.replicate_succ', List.set_append, if_neg (by simp)]
    simp
  | k + 1, hk => by
    have hl : (sibsT T).length = D := by rw [sibsT_len]; omega
    have ih := fold_pre key T E D hT k (by omega)
    have hd : D - 1 - k < D := by omega
    rw [dn_succ D k (by omega), foldP_snoc, ih]
    have e1 : (sibsT T).drop (D - (k + 1)) = sibAt T (D - 1 - k) :: (sibsT T).drop (D - k) := by
      rw [List.drop_eq_getElem_cons (by omega)]
      congr 1
      · simp only [sibsT, List.getElem_map, List.getElem_range]
        rw [show D - (k + 1) = D - 1 - k from by omega]
      · rw [show D - (k + 1) + 1 = D - k from by omega]
    rw [e1, preT, show D - (k + 1) + 1 = D - k from by omega]
    simp only [stepP, List.headD_cons, Prod.mk.injEq]
    rw [show D - (k + 1) = D - 1 - k from by omega]
    refine ⟨rfl, ?_⟩
    rw [show D - k = (D - 1 - k) + 1 from by omega, List.replicate_succ', List.append_assoc, List.set_append, if_neg (by simp)]
    simp
theorem pre_any (w : World) (key : List UInt8) (hkey : key.length = 32) (hk : Consts w) (T : List UInt8) (h32 : T.length % 32 = 0) (hT : T.length ≤ 8192) (As : Option Addr) (cs : Nat) (hS : Slot w w.heap.size (.slice As T.length cs) T)
    (B : Nat) (hBw : B ≤ w.heap.size) (A3 : Option Addr) (c3 : Nat) (vs0 : List Value) (E : List Ent) (h : EntsW w B A3 vs0 E) (h2 : E.length < 2) (hc : E.length ≤ c3) (hcm : c3 ≤ 9223372036854775807) :
    Calls Tryd.prog 35 #[.agg #[.slice As T.length cs, .slice A3 E.length c3], .agg (bys key).toArray] w (PreP w (preT key 0 (sibsT T) E)) := by
  obtain ⟨D, hD⟩ : ∃ D, T.length = D * 32 := ⟨T.length / 32, by omega⟩
  have := pre_fold w key hkey hk D (by omega) T hD As cs (by rw [← hD]; exact hS) B hBw A3 c3 vs0 E h h2 hc hcm
  rw [fold_pre key T E D hD D (Nat.le_refl _)] at this
  simp only [Nat.sub_self, List.drop_zero, List.replicate_zero, List.nil_append] at this
  rw [hD]
  exact this
end Go.Proofs.YtapbaonlboefeaaDoor
