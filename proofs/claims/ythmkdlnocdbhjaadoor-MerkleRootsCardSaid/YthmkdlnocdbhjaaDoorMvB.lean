/- What a list proves is taken. -/
import Derived.Test.YthmkdlnocdbhjaaDoorMvA
namespace Go.Proofs.YthmkdlnocdbhjaaDoor
open Go.RowKit

/-- Up the path of place i the digests are those of the sublists that hold it. -/
theorem cD_append (i : Nat) (S T : List (Nat × Nat)) (ps qs : List (List UInt8)) (d0 : List UInt8) (hl : ps.length = S.length) : ∀ k, k ≤ S.length → cD i (S ++ T) (ps ++ qs) d0 k = cD i S ps d0 k
  | 0, _ => rfl
  | k + 1, h => by
    have e1 : (S ++ T).getD k (0, 0) = S.getD k (0, 0) := by
      rw [List.getD_eq_getElem?_getD, List.getD_eq_getElem?_getD, List.getElem?_append_left (by omega)]
    have e2 : (ps ++ qs).getD k [] = ps.getD k [] := by
      rw [List.getD_eq_getElem?_getD, List.getD_eq_getElem?_getD, List.getElem?_append_left (by omega)]
    simp only [cD]
    rw [cD_append i S T ps qs d0 hl k (by omega), e1, e2]
theorem cD_snoc (i : Nat) (S : List (Nat × Nat)) (s : Nat × Nat) (ps : List (List UInt8)) (p d0 : List UInt8) (hl : ps.length = S.length) : cD i (S ++ [s]) (ps ++ [p]) d0 (S ++ [s]).length = shaF (stepP i s p (cD i S ps d0 S.length)) := by
  have e1 : (S ++ [s]).getD S.length (0, 0) = s := by simp [List.getD_eq_getElem?_getD]
  have e2 : (ps ++ [p]).getD S.length [] = p := by rw [← hl]; simp [List.getD_eq_getElem?_getD]
  rw [List.length_append, List.length_singleton]
  simp only [cD]
  rw [cD_append i S [s] ps [p] d0 hl _ (Nat.le_refl _), e1, e2]
theorem climb_dig (ls : List (List UInt8)) (i : Nat) : ∀ (d f t : Nat), t - f = d → f ≤ i → i < t → t - f < 9223372036854775808 → cD i (sibs f t i) ((sibs f t i).map fun p => dig ls p.1 p.2) (shaF (leafB (ls.getD i []))) (sibs f t i).length = dig ls f t := by
  intro d
  induction d using Nat.strongRecOn with
  | ind d ih =>
    intro f t hd hf ht h63
    rcases Nat.lt_or_ge d 2 with h2 | h2
    · rw [sibs_one f t i (by omega), dig_leaf ls f t (by omega)]
      have : f = i := by omega
      subst this
      rfl
    · obtain ⟨k1, k2, -⟩ := half_spec (t - f) (by omega) h63
      rw [dig_node ls f t (by omega) h63]
      rcases Nat.lt_or_ge i (f + half (t - f)) with hlt | hge
      · rw [sibs_left f t i (by omega) h63 hlt, List.map_append, List.map_singleton, cD_snoc i _ _ _ _ _ (by simp), ih (f + half (t - f) - f) (by omega) f (f + half (t - f)) rfl hf hlt (by omega)]
        unfold stepP
        rw [if_neg (by simp only; omega)]
      · rw [sibs_right f t i (by omega) h63 hge, List.map_append, List.map_singleton, cD_snoc i _ _ _ _ _ (by simp), ih (t - (f + half (t - f))) (by omega) (f + half (t - f)) t rfl hge ht (by omega)]
        unfold stepP
        rw [if_pos (by simp only; omega)]
theorem top_path (ls : List (List UInt8)) (i : Nat) (hi : i < ls.length) (h63 : ls.length < 9223372036854775808) : topF ls.length i (ls.getD i []) (pathF ls i) = dig ls 0 ls.length :=
  climb_dig ls i ls.length 0 ls.length (by omega) (by omega) hi (by omega)
theorem pathF_len (ls : List (List UInt8)) (i : Nat) : (pathF ls i).length = (sibs 0 ls.length i).length := by simp [pathF]
theorem pathF_32 (ls : List (List UInt8)) (i : Nat) : ∀ p ∈ pathF ls i, p.length = 32 := by
  intro p hp
  simp only [pathF, List.mem_map] at hp
  obtain ⟨q, _, rfl⟩ := hp
  exact dig_len _ _ _
/-- A path just written. -/
theorem path_own {w : World} {base : Nat} {A : Option Addr} {c : Nat} {ps : List (List UInt8)} (h : w.ownsRow base 28 32 (.slice A ps.length c) ps.length (digCells ps)) (hl : ∀ p ∈ ps, p.length = 32) (hc : c < 9223372036854775808) : PathW w w.heap.size A c ps := by
  obtain ⟨A', c', e, h1, h2, _, h4⟩ := own_slice h
  injection e with e1 _ e2
  subst e1
  subst e2
  exact ⟨h4, hl, ⟨h1, hc⟩, Nat.le_refl _⟩
/-- Verify of what Prove wrote. -/
theorem verify_proved (i B : Nat) (A : Option Addr) (c : Nat) (vs : List Value) (ls : List (List UInt8)) (W : World) (hW : LsW W B A c vs ls) (hi : i < ls.length) (Ap : Option Addr) (cp : Nat) (hP : PathW W W.heap.size Ap cp (pathF ls i)) (Ae : Option Addr) (ce : Nat) (hs : vs[i]? = some (.slice Ae (ls[i]'hi).length ce)) :
    Calls Tryd.prog 36 #[.agg (bys (rootF ls)).toArray, .int .i64 (ls.length : Int), .int .i64 (i : Int), .slice Ae (ls[i]'hi).length ce, .slice Ap (pathF ls i).length cp] W fun en w' => en = .returned (.bool true) ∧ Below W.heap.size W w' := by
  obtain ⟨A2, c2, h1, h2, h3, h4⟩ := hW.lists.at_ hi
  rw [hs] at h1
  injection h1 with h1
  injection h1 with e1 _ e2
  subst e1
  subst e2
  have hcap := hW.cap
  have h63 : ls.length < 9223372036854775808 := by omega
  have hv := verify_ok (rootF ls) (shaF_len _) ls.length i hi h63 B Ae ce (ls[i]'hi) W.heap.size Ap cp (pathF ls i) W h4 hW.hB h2 h3 (hW.small i _ (List.getElem?_eq_getElem hi)) hP (pathF_len ls i) hW.consts
  have e : ls[i]'hi = ls.getD i [] := by rw [List.getD_eq_getElem?_getD, List.getElem?_eq_getElem hi]; rfl
  have et : topF ls.length i (ls[i]'hi) (pathF ls i) = dig ls 0 ls.length := by rw [e]; exact top_path ls i hi h63
  rw [et] at hv
  have er : (shaF (rootB ls.length (dig ls 0 ls.length)) == rootF ls) = true := by simp [rootF]
  rw [er] at hv
  exact hv
end Go.Proofs.YthmkdlnocdbhjaaDoor
