/- What is taken stands there, or a clash is told: plain part. -/
import Derived.Test.YthmkdlnocdbhjaaDoorMcC
namespace Go.Proofs.YthmkdlnocdbhjaaDoor
open Go.RowKit

theorem leafB_inj {e e' : List UInt8} (h : leafB e = leafB e') : e = e' := by
  have hl : e.length = e'.length := by have h2 := congrArg List.length h; rw [leafB_len, leafB_len] at h2; omega
  simp only [leafB, joinF, partsOf, part, hl, List.append_nil, List.length_cons, List.length_nil] at h
  exact List.append_cancel_left (List.append_cancel_left (List.append_cancel_left h))
theorem rootB_inj {n : Nat} {d d' : List UInt8} (h : rootB n d = rootB n d') : d = d' := by
  have hl : d.length = d'.length := by have h2 := congrArg List.length h; rw [rootB_len, rootB_len] at h2; omega
  simp only [rootB, joinF, partsOf, part, hl, List.append_nil, List.length_cons, List.length_nil] at h
  exact List.append_cancel_left (List.append_cancel_left (List.append_cancel_left (List.append_cancel_left h)))
theorem nodeB_inj {a b a' b' : List UInt8} (ha : a.length = 32) (ha' : a'.length = 32) (h : nodeB a b = nodeB a' b') : a = a' ∧ b = b' := by
  have hl : b.length = b'.length := by have h2 := congrArg List.length h; rw [nodeB_len, nodeB_len] at h2; omega
  simp only [nodeB, joinF, partsOf, part, hl, ha, ha', List.append_nil, List.length_cons, List.length_nil] at h
  have h1 := List.append_cancel_left (List.append_cancel_left h)
  rw [List.append_assoc, List.append_assoc] at h1
  have h2 := List.append_cancel_left h1
  obtain ⟨h3, h4⟩ := List.append_inj h2 (by rw [ha, ha'])
  exact ⟨h3, List.append_cancel_left h4⟩
theorem stepP_inj {i : Nat} {s : Nat × Nat} {p d p' d' : List UInt8} (hp : p.length = 32) (hp' : p'.length = 32) (hd : d.length = 32) (hd' : d'.length = 32) (h : stepP i s p d = stepP i s p' d') : d = d' := by
  unfold stepP at h
  split at h
  · exact (nodeB_inj hp hp' h).2
  · exact (nodeB_inj hd hd' h).1
section
variable (n i : Nat) (e : List UInt8) (ps : List (List UInt8))
theorem climb_first : (climbF n i e ps).getD 0 [] = leafB e := rfl
theorem climb_step (j : Nat) (hj : j < (sibs 0 n i).length) : (climbF n i e ps).getD (j + 1) [] = stepP i ((sibs 0 n i).getD j (0, 0)) (ps.getD j []) (cD i (sibs 0 n i) ps (shaF (leafB e)) j) := by
  rw [List.getD_eq_getElem?_getD, climbF, List.getElem?_append_left (by rw [cP_len]; omega), cP, List.getElem?_cons_succ, List.getElem?_map, List.getElem?_range hj]
  rfl
theorem climb_last : (climbF n i e ps).getD ((sibs 0 n i).length + 1) [] = rootB n (topF n i e ps) := by
  rw [List.getD_eq_getElem?_getD, climbF_eq, List.getElem?_append_right (by rw [cP_len]; omega), cP_len, Nat.sub_self]
  rfl
theorem climb_sha (j : Nat) (hj : j ≤ (sibs 0 n i).length) : shaF ((climbF n i e ps).getD j []) = cD i (sibs 0 n i) ps (shaF (leafB e)) j := by
  cases j with
  | zero => rfl
  | succ j => rw [climb_step n i e ps j (by omega)]; rfl
end
theorem clashAt_none (own comp : List (List UInt8)) (k : Nat) (h : clashAt own comp (k + 1) = none) (hs : shaF (own.getD k []) = shaF (comp.getD k [])) : own.getD k [] = comp.getD k [] ∧ clashAt own comp k = none := by
  rw [clashAt] at h
  split at h
  · cases h
  · next hc =>
    refine ⟨?_, h⟩
    rw [hs] at hc
    simp at hc
    exact hc
/-- Two climbs to one digest without a clash began with one element. -/
theorem climb_same (n i : Nat) (e e' : List UInt8) (ps ps' : List (List UInt8)) (hl : ps.length = (sibs 0 n i).length) (hl' : ps'.length = (sibs 0 n i).length) (hp : ∀ p ∈ ps, p.length = 32) (hp' : ∀ p ∈ ps', p.length = 32)
    (hs : shaF (rootB n (topF n i e ps)) = shaF (rootB n (topF n i e' ps'))) (hc : clashAt (climbF n i e ps) (climbF n i e' ps') ((sibs 0 n i).length + 2) = none) : e = e' := by
  have key : ∀ m k, k + m = (sibs 0 n i).length + 1 → clashAt (climbF n i e ps) (climbF n i e' ps') (k + 1) = none ∧ shaF ((climbF n i e ps).getD k []) = shaF ((climbF n i e' ps').getD k []) := by
    intro m
    induction m with
    | zero =>
      intro k hk
      obtain rfl : k = (sibs 0 n i).length + 1 := by omega
      exact ⟨hc, by rw [climb_last, climb_last]; exact hs⟩
    | succ m ih =>
      intro k hk
      obtain ⟨h1, h2⟩ := ih (k + 1) (by omega)
      obtain ⟨h3, h4⟩ := clashAt_none _ _ _ h1 h2
      refine ⟨h4, ?_⟩
      rw [climb_sha n i e ps k (by omega), climb_sha n i e' ps' k (by omega)]
      rcases Nat.lt_or_ge k (sibs 0 n i).length with hlt | hge
      · rw [climb_step n i e ps k hlt, climb_step n i e' ps' k hlt] at h3
        have g : ∀ qs : List (List UInt8), qs.length = (sibs 0 n i).length → (∀ p ∈ qs, p.length = 32) → (qs.getD k []).length = 32 := fun qs hq h32 => by
          rw [List.getD_eq_getElem?_getD, List.getElem?_eq_getElem (by omega)]
          exact h32 _ (List.getElem_mem _)
        exact stepP_inj (g ps hl hp) (g ps' hl' hp') (cD_len _ _ _ _ (shaF_len _) _) (cD_len _ _ _ _ (shaF_len _) _) h3
      · obtain rfl : k = (sibs 0 n i).length := by omega
        rw [climb_last, climb_last] at h3
        exact rootB_inj h3
  obtain ⟨h1, h2⟩ := key ((sibs 0 n i).length + 1) 0 (by omega)
  obtain ⟨h3, -⟩ := clashAt_none _ _ _ h1 h2
  rw [climb_first, climb_first] at h3
  exact leafB_inj h3
end Go.Proofs.YthmkdlnocdbhjaaDoor
