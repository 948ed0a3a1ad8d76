/- The digests of sublists as a plain function. -/
import Derived.Test.YthmkdlnocdbhjaaDoorMkH
import Derived.Test.YthmkdlnocdbhjaaDoorOf
namespace Go.Proofs.YthmkdlnocdbhjaaDoor
open Go.RowKit

def digGo (ls : List (List UInt8)) : Nat → Nat → Nat → List UInt8
  | 0, _, _ => shaF noneB
  | n + 1, f, t => if t - f = 0 then shaF noneB else if t - f = 1 then shaF (leafB (ls.getD f [])) else shaF (nodeB (digGo ls n f (f + half (t - f))) (digGo ls n (f + half (t - f)) t))
/-- The digest of the elements from f up to t without it. -/
def dig (ls : List (List UInt8)) (f t : Nat) : List UInt8 := digGo ls (t - f) f t
theorem digGo_enough (ls : List (List UInt8)) : ∀ n m f t, t - f ≤ n → t - f ≤ m → t - f < 9223372036854775808 → digGo ls n f t = digGo ls m f t := by
  intro n
  induction n with
  | zero =>
    intro m f t h1 h2 h3
    cases m with
    | zero => rfl
    | succ m => simp only [digGo]; rw [if_pos (by omega)]
  | succ n ih =>
    intro m f t h1 h2 h3
    cases m with
    | zero => simp only [digGo]; rw [if_pos (by omega)]
    | succ m =>
      simp only [digGo]
      by_cases h0 : t - f = 0
      · rw [if_pos h0, if_pos h0]
      · rw [if_neg h0, if_neg h0]
        by_cases h4 : t - f = 1
        · rw [if_pos h4, if_pos h4]
        · obtain ⟨k1, k2, -⟩ := half_spec (t - f) (by omega) h3
          rw [if_neg h4, if_neg h4, ih m f (f + half (t - f)) (by omega) (by omega) (by omega), ih m (f + half (t - f)) t (by omega) (by omega) (by omega)]
theorem dig_none (ls : List (List UInt8)) (f t : Nat) (h : t - f = 0) : dig ls f t = shaF noneB := by
  unfold dig; rw [h]; rfl
theorem dig_leaf (ls : List (List UInt8)) (f t : Nat) (h : t - f = 1) : dig ls f t = shaF (leafB (ls.getD f [])) := by
  unfold dig; rw [h]; simp only [digGo]; rw [if_neg (by omega), if_pos h]
theorem dig_node (ls : List (List UInt8)) (f t : Nat) (h : f + 2 ≤ t) (h3 : t - f < 9223372036854775808) : dig ls f t = shaF (nodeB (dig ls f (f + half (t - f))) (dig ls (f + half (t - f)) t)) := by
  obtain ⟨k1, k2, -⟩ := half_spec (t - f) (by omega) h3
  obtain ⟨n, hn⟩ : ∃ n, t - f = n + 1 := ⟨t - f - 1, by omega⟩
  have e : dig ls f t = digGo ls (n + 1) f t := by unfold dig; rw [hn]
  rw [e]
  simp only [digGo]
  rw [if_neg (by omega), if_neg (by omega), digGo_enough ls n (f + half (t - f) - f) f (f + half (t - f)) (by omega) (by omega) (by omega), digGo_enough ls n (t - (f + half (t - f))) (f + half (t - f)) t (by omega) (by omega) (by omega)]
  rfl
theorem dig_len (ls : List (List UInt8)) (f t : Nat) : (dig ls f t).length = 32 := by
  unfold dig
  cases t - f with
  | zero => exact shaF_len _
  | succ n =>
    simp only [digGo]
    split
    · exact shaF_len _
    · split <;> exact shaF_len _

/-- A list of byte strings that lies at a world, its closure's variables beside it. -/
structure DigW (w : World) (gl go : Nat) (A : Option Addr) (c : Nat) (vs : List Value) (ls : List (List UInt8)) : Prop where
  l : HB w gl 22 [.slice A ls.length c]
  of : HB w go 117 [.func (.func 59) #[] #[.pointer (some ⟨gl, 0, none⟩), .pointer (some ⟨go, 0, none⟩)]]
  sees : Sees w w.heap.size 1 A ls.length vs
  lists : Lists w w.heap.size vs ls
  small : ∀ (i : Nat) (l : List UInt8), ls[i]? = some l → l.length ≤ 140737488351232
  len : ls.length < 9223372036854775808
  consts : Consts w
theorem DigW.below {w w' : World} {gl go : Nat} {A : Option Addr} {c : Nat} {vs : List Value} {ls : List (List UInt8)} (h : DigW w gl go A c vs ls) (hb : Below w.heap.size w w') : DigW w' gl go A c vs ls :=
  ⟨h.l.below hb h.l.lt, h.of.below hb h.of.lt, (h.sees.below hb).wide hb.size, (h.lists.below hb).wide hb.size, h.small, h.len, h.consts.below hb h.consts.2.2⟩
end Go.Proofs.YthmkdlnocdbhjaaDoor
