/- string(b), bytes.Equal. | merkle.Clash: plain part, and where there is no path. -/
import Derived.Test.YthmkdlnocdbhjaaDoorJb
import Derived.Laws.BytesArg
import Derived.Outline
import Derived.Test.YthmkdlnocdbhjaaDoorMvB
namespace Go.Proofs.YthmkdlnocdbhjaaDoor
open Go.RowKit

def strB (b : List UInt8) : ByteArray := ⟨b.toArray⟩
theorem strB_inj {a b : List UInt8} (h : strB a = strB b) : a = b := by
  have h2 := congrArg (fun x => x.data.toList) h
  simpa [strB] using h2
theorem conv_sees {w : World} {B : Nat} {A : Option Addr} {n : Nat} (c : Nat) {b : List UInt8} (hs : Sees w B 1 A n (bys b)) : (convert 33 9 (.slice A n c)).run Tryd.prog w = .ok (.string (strB b)) w := by
  have hn : b.length = n := by have h := hs.len; rw [bys_len] at h; omega
  cases A with
  | none =>
    have hb : b = [] := by
      rcases hs.2 with h | ⟨ad, h, _⟩
      · exact List.eq_nil_of_length_eq_zero (by omega)
      · cases h
    subst hb
    exact run_convert_bytes_nil w 33 5 Tryd.underlying33 Tryd.underlying5 n c 9 Tryd.underlying9
  | some ad =>
    have hl : (loadCells ad n).run Tryd.prog w = .ok ((b.map fun x => (x.toNat : Int)).map (Value.int .u8)).toArray w := by
      have h := run_loadCells_list (P := Tryd.prog) w ad (bys b) (fun j v hj => by
        rcases hs.2 with h0 | ⟨ad', e, _, hx⟩
        · rw [List.getElem?_eq_none (by rw [bys_len]; omega)] at hj; cases hj
        · injection e with e
          subst e
          exact hx j v hj)
      rw [bys_len, hn] at h
      rw [h]
      simp [bys]
    rw [run_convert_bytes_string w 33 9 5 _ n c Tryd.underlying33 Tryd.underlying5 Tryd.underlying9, run_bytesToString w _ n c _ hl, foldl_push_bytes]
    have e : (b.map fun x => (x.toNat : Int)).map (fun n => UInt8.ofNat n.toNat) = b := by
      rw [List.map_map]
      have h2 : ∀ l : List UInt8, l.map ((fun n : Int => UInt8.ofNat n.toNat) ∘ fun x => (x.toNat : Int)) = l := by
        intro l
        induction l with
        | nil => rfl
        | cons x l ih => rw [List.map_cons, ih]; simp
      exact h2 b
    rw [e]
    simp [strB]
theorem strB_list (a : List UInt8) : (strB a).toList = a := ByteArray.toList_mk _
theorem strB_beq (a b : List UInt8) : ((strB a).toList == (strB b).toList) = (a == b) := by rw [strB_list, strB_list]
theorem equal_any (B B' : Nat) (A A' : Option Addr) (c c' : Nat) (a b : List UInt8) (w : World) (ha : Sees w B 1 A a.length (bys a)) (hb : Sees w B' 1 A' b.length (bys b)) :
    Calls Tryd.prog 50 #[.slice A a.length c, .slice A' b.length c'] w fun e w' => e = .returned (.bool (a == b)) ∧ w = w' := by
  have h1 := conv_sees c ha
  have h2 := conv_sees c' hb
  have hs := Lib.hid (strB_beq a b)
  clear ha hb
  go_enter Tryd.func50, Tryd.ntmps50
  go_wp2
  go_ret

  exact ⟨by rw [← hs.out]; rfl, rfl⟩
end Go.Proofs.YthmkdlnocdbhjaaDoor
namespace Go.Proofs.YthmkdlnocdbhjaaDoor
open Go.RowKit

/-- The first two texts, from the k-th inwards, that are unlike and have one digest. -/
def clashAt (own comp : List (List UInt8)) : Nat → Option (List UInt8 × List UInt8)
  | 0 => none
  | k + 1 => if (!(own.getD k [] == comp.getD k []) && (shaF (own.getD k []) == shaF (comp.getD k []))) = true then some (own.getD k [], comp.getD k []) else clashAt own comp k
theorem clashAt_some (own comp : List (List UInt8)) (a b : List UInt8) : ∀ k, clashAt own comp k = some (a, b) → a ≠ b ∧ shaF a = shaF b
  | 0, h => by cases h
  | k + 1, h => by
    rw [clashAt] at h
    split at h
    · next hc =>
      rw [Bool.and_eq_true] at hc
      injection h with h
      injection h with h1 h2
      subst h1
      subst h2
      exact ⟨fun e => by have := hc.1; rw [e] at this; simp at this, eq_of_beq hc.2⟩
    · exact clashAt_some own comp a b k h
theorem clashAt_same (l : List (List UInt8)) : ∀ k, clashAt l l k = none
  | 0 => rfl
  | k + 1 => by
    rw [clashAt, if_neg (by simp)]
    exact clashAt_same l k
theorem clashAt_eq (own comp : List (List UInt8)) (k : Nat) (h : (own.getD k [] == comp.getD k []) = true) : clashAt own comp (k + 1) = clashAt own comp k := by
  rw [clashAt, if_neg (by rw [h]; simp)]
theorem clashAt_ne (own comp : List (List UInt8)) (k : Nat) (h : (shaF (own.getD k []) == shaF (comp.getD k [])) = false) : clashAt own comp (k + 1) = clashAt own comp k := by
  rw [clashAt, if_neg (by rw [h]; simp)]
theorem clashAt_is (own comp : List (List UInt8)) (k : Nat) (h1 : (own.getD k [] == comp.getD k []) = false) (h2 : (shaF (own.getD k []) == shaF (comp.getD k [])) = true) : clashAt own comp (k + 1) = some (own.getD k [], comp.getD k []) := by
  rw [clashAt, if_pos (by rw [h1, h2]; rfl)]
theorem climbF_len (n i : Nat) (e : List UInt8) (ps : List (List UInt8)) : (climbF n i e ps).length = (sibs 0 n i).length + 2 := by
  unfold climbF
  rw [List.length_append, cP_len]; rfl
theorem climb_small (n i : Nat) (e : List UInt8) (ps : List (List UInt8)) (he : e.length ≤ 140737488351232) (hp : ∀ p ∈ ps, p.length = 32) (hl : ps.length = (sibs 0 n i).length) : ∀ k, ((climbF n i e ps).getD k []).length ≤ 140737488351260 := by
  have all : ∀ x ∈ climbF n i e ps, x.length ≤ 140737488351260 := by
    intro x hx
    simp only [climbF, cP, List.cons_append, List.mem_cons, List.mem_append, List.mem_map, List.mem_range, List.not_mem_nil, or_false] at hx
    rcases hx with rfl | ⟨j, hj, rfl⟩ | rfl
    · rw [leafB_len]; omega
    · have h1 : (ps.getD j []).length = 32 := by
        rw [List.getD_eq_getElem?_getD, List.getElem?_eq_getElem (by omega)]
        exact hp _ (List.getElem_mem _)
      rw [stepP_len _ _ _ _ h1 (cD_len _ _ _ _ (shaF_len _) _)]; omega
    · rw [rootB_len, cD_len _ _ _ _ (shaF_len _)]; omega
  intro k
  rw [List.getD_eq_getElem?_getD]
  rcases Nat.lt_or_ge k (climbF n i e ps).length with h | h
  · rw [List.getElem?_eq_getElem h]; exact all _ (List.getElem_mem _)
  · rw [List.getElem?_eq_none h]; simp
/-- What Clash hands back. -/
def ClashR (w : World) (r : Option (List UInt8 × List UInt8)) (en : Ending) (w' : World) : Prop :=
  (match r with
    | none => en = .returned (.tuple #[.slice none 0 0, .slice none 0 0, .bool false])
    | some (a, b) => ∃ A c A' c', en = .returned (.tuple #[.slice A a.length c, .slice A' b.length c', .bool true]) ∧ (a.length ≤ 140737488351260 ∧ a.length ≤ c ∧ c ≤ 9223372036854775807 ∧ Sees w' w'.heap.size 1 A a.length (bys a)) ∧ (b.length ≤ 140737488351260 ∧ b.length ≤ c' ∧ c' ≤ 9223372036854775807 ∧ Sees w' w'.heap.size 1 A' b.length (bys b))) ∧
  Below w.heap.size w w'

theorem clash_no (L : Option Addr) (n cl : Nat) (i : Int) (A : Option Addr) (m c : Nat) (B : Option Addr) (k d : Nat) (hi : i < 0 ∨ (n : Int) ≤ i) (w : World) :
    Calls Tryd.prog 20 #[.slice L n cl, .int .i64 i, .slice A m c, .slice B k d] w (ClashR w none) := by
  have hc := Lib.hid (climb_no (n : Int) i A m c B k d hi w)
  clear hi
  go_enter Tryd.func20, Tryd.ntmps20
  go_wp2_with fail
  refine hc.out.mono ?_
  rintro e w1 ⟨rfl, rfl⟩
  go_wp2
  go_ret3
  exact ⟨rfl, Below.refl _ _⟩
theorem clash_len (L : Option Addr) (n cl i : Nat) (hi : i < n) (hn : n < 9223372036854775808) (A : Option Addr) (m c : Nat) (B : Option Addr) (k d : Nat) (hk : k ≠ (sibs 0 n i).length) (w : World) :
    Calls Tryd.prog 20 #[.slice L n cl, .int .i64 (i : Int), .slice A m c, .slice B k d] w (ClashR w none) := by
  have hc := Lib.hid (climb_len n i hi hn A m c B k d hk w)
  clear hk hi
  go_enter Tryd.func20, Tryd.ntmps20
  go_wp2_with fail
  refine hc.out.mono ?_
  rintro e w1 ⟨rfl, h1⟩
  go_wp2
  go_ret3
  exact ⟨rfl, h1⟩
end Go.Proofs.YthmkdlnocdbhjaaDoor
