/- merkle.siblings' closure: what it is called with and what it leaves. -/
import Derived.Test.YtdjbaigfpmibnaaDoorMkG
namespace Go.Proofs.YtdjbaigfpmibnaaDoor
open Go.RowKit

/-- The sibling sublists of place i among the elements from f up to t, from the element outwards. -/
def sibsGo (i : Nat) : Nat → Nat → Nat → List (Nat × Nat)
  | 0, _, _ => []
  | n + 1, f, t => if t - f ≤ 1 then [] else if i < f + half (t - f) then sibsGo i n f (f + half (t - f)) ++ [(f + half (t - f), t)] else sibsGo i n (f + half (t - f)) t ++ [(f, f + half (t - f))]
def sibs (f t i : Nat) : List (Nat × Nat) := sibsGo i (t - f) f t
theorem sibsGo_enough (i : Nat) : ∀ n m f t, t - f ≤ n → t - f ≤ m → t - f < 9223372036854775808 → sibsGo i n f t = sibsGo i m f t := by
  intro n
  induction n with
  | zero =>
    intro m f t h1 h2 h3
    cases m with
    | zero => rfl
    | succ m => simp only [sibsGo]; rw [if_pos (by omega)]
  | succ n ih =>
    intro m f t h1 h2 h3
    cases m with
    | zero => simp only [sibsGo]; rw [if_pos (by omega)]
    | succ m =>
      simp only [sibsGo]
      by_cases h0 : t - f ≤ 1
      · rw [if_pos h0, if_pos h0]
      · obtain ⟨k1, k2, -⟩ := half_spec (t - f) (by omega) h3
        rw [if_neg h0, if_neg h0, ih m f (f + half (t - f)) (by omega) (by omega) (by omega), ih m (f + half (t - f)) t (by omega) (by omega) (by omega)]
theorem sibs_one (f t i : Nat) (h : t - f ≤ 1) : sibs f t i = [] := by
  unfold sibs
  cases hn : t - f with
  | zero => rfl
  | succ n => simp only [sibsGo]; rw [if_pos h]
theorem sibs_more (f t i : Nat) (h : f + 2 ≤ t) (h3 : t - f < 9223372036854775808) : sibs f t i = if i < f + half (t - f) then sibs f (f + half (t - f)) i ++ [(f + half (t - f), t)] else sibs (f + half (t - f)) t i ++ [(f, f + half (t - f))] := by
  obtain ⟨k1, k2, -⟩ := half_spec (t - f) (by omega) h3
  obtain ⟨n, hn⟩ : ∃ n, t - f = n + 1 := ⟨t - f - 1, by omega⟩
  have e : sibs f t i = sibsGo i (n + 1) f t := by unfold sibs; rw [hn]
  rw [e]
  simp only [sibsGo]
  rw [if_neg (by omega), sibsGo_enough i n (f + half (t - f) - f) f (f + half (t - f)) (by omega) (by omega) (by omega), sibsGo_enough i n (t - (f + half (t - f))) (f + half (t - f)) t (by omega) (by omega) (by omega)]
  rfl
theorem sibs_left (f t i : Nat) (h : f + 2 ≤ t) (h3 : t - f < 9223372036854775808) (hi : i < f + half (t - f)) : sibs f t i = sibs f (f + half (t - f)) i ++ [(f + half (t - f), t)] := by
  rw [sibs_more f t i h h3, if_pos hi]
theorem sibs_right (f t i : Nat) (h : f + 2 ≤ t) (h3 : t - f < 9223372036854775808) (hi : f + half (t - f) ≤ i) : sibs f t i = sibs (f + half (t - f)) t i ++ [(f, f + half (t - f))] := by
  rw [sibs_more f t i h h3, if_neg (by omega)]
/-- There are at most as many as the length has bits. -/
theorem sibs_few (i : Nat) : ∀ (j f t : Nat), t - f ≤ 2 ^ j → t - f < 9223372036854775808 → (sibs f t i).length ≤ j := by
  intro j
  induction j with
  | zero => intro f t h _; rw [sibs_one f t i (by simpa using h)]; simp
  | succ j ih =>
    intro f t h h63
    rcases Nat.lt_or_ge (t - f) 2 with h2 | h2
    · rw [sibs_one f t i (by omega)]; simp
    · obtain ⟨k1, k2, k3, -⟩ := half_spec (t - f) h2 h63
      have hh : half (t - f) ≤ 2 ^ j := by
        unfold half at k2 ⊢
        generalize Lib.bitLen (t - f - 1) - 1 = e at *
        have h5 : 2 ^ e < 2 ^ (j + 1) := by omega
        have h6 := (Nat.pow_lt_pow_iff_right (by omega : 1 < 2)).1 h5
        exact Nat.pow_le_pow_right (by omega) (by omega)
      rw [sibs_more f t i (by omega) h63]
      have a1 := ih f (f + half (t - f)) (by omega) (by omega)
      have a2 := ih (f + half (t - f)) t (by omega) (by omega)
      split <;> simp <;> omega
def spanV (p : Nat × Nat) : List Value := [.int .i64 (p.1 : Int), .int .i64 (p.2 : Int)]
def spanCells (l : List (Nat × Nat)) : List Value := l.flatMap spanV
theorem spanCells_append (a b : List (Nat × Nat)) : spanCells (a ++ b) = spanCells a ++ spanCells b := by simp [spanCells]
theorem spanCells_len (l : List (Nat × Nat)) : (spanCells l).length = l.length * 2 := by
  induction l with
  | nil => rfl
  | cons p l ih => simp only [spanCells, List.flatMap_cons, List.length_append, List.length_cons] at ih ⊢; rw [ih]; simp [spanV]; omega

/-- Only block gb and row r may have changed. -/
structure Frame (w w' : World) (gb : Nat) (r : Option Nat) : Prop where
  os : w'.os = w.os
  tape : w'.tape = w.tape
  output : w'.output = w.output
  size : w.heap.size ≤ w'.heap.size
  block : ∀ k, k < w.heap.size → k ≠ gb → some k ≠ r → w'.heap[k]? = w.heap[k]?
theorem Frame.of_below {w w' : World} {gb : Nat} {r : Option Nat} (h : Below w.heap.size w w') : Frame w w' gb r := ⟨h.os, h.tape, h.output, h.size, fun k hk _ _ => h.block k hk⟩
theorem Frame.trans {w w1 w2 : World} {gb : Nat} {r r' : Option Nat} (h : Frame w w1 gb r) (hm : Moved w r r') (k : Frame w1 w2 gb r') : Frame w w2 gb r :=
  ⟨k.os.trans h.os, k.tape.trans h.tape, k.output.trans h.output, Nat.le_trans h.size k.size, fun j hj h1 h2 => (k.block j (Nat.lt_of_lt_of_le hj h.size) h1 (by
    rcases hm with rfl | ⟨g, rfl, hg⟩
    · exact h2
    · intro e; injection e with e; omega)).trans (h.block j hj h1 h2)⟩
theorem Frame.of_grown {w w' : World} {gb : Nat} {r : Option Nat} (h : w.grownBy w' r) : Frame w w' gb r := ⟨h.os, h.tape, h.output, h.size, fun k hk _ h2 => h.block k hk h2⟩
theorem Frame.of_set {w : World} {gb : Nat} {r : Option Nat} (v : Value) : Frame w (w.setCell ⟨gb, 0, none⟩ v) gb r :=
  ⟨rfl, rfl, rfl, by simp [World.setCell], fun _ _ hne _ => heap_setCell_other _ _ _ _ (fun e => hne (by rw [e]))⟩
theorem Frame.keep {w w' : World} {gb g : Nat} {r : Option Nat} {t : TypeId} {cs : List Value} (h : Frame w w' gb r) (hb : HB w g t cs) (h1 : g ≠ gb) (h2 : some g ≠ r) : HB w' g t cs := hb.keep (h.block g hb.lt h1 h2)

/-- What the closure finds: i, itself, what it has gathered. -/
structure SibW (w : World) (base gi ge gb i : Nat) (v : Value) (n : Nat) (xs : List Value) : Prop where
  i : HB w gi 3 [.int .i64 (i : Int)]
  en : HB w ge 113 [.func (.func 69) #[] #[.pointer (some ⟨gi, 0, none⟩), .pointer (some ⟨ge, 0, none⟩), .pointer (some ⟨gb, 0, none⟩)]]
  bs : HB w gb 69 [v]
  own : w.ownsRow base 72 2 v n xs
  gi_ : gi < base ∧ gi ≠ gb
  ge_ : ge < base ∧ ge ≠ gb
  gb_ : gb < base
  base_ : base ≤ w.heap.size
theorem SibW.row {w : World} {base gi ge gb i n : Nat} {v : Value} {xs : List Value} (h : SibW w base gi ge gb i v n xs) : ∀ g, v.ownBlock = some g → base ≤ g ∧ g < w.heap.size := h.own.lt
theorem SibW.below {w w' : World} {base gi ge gb i n : Nat} {v : Value} {xs : List Value} (h : SibW w base gi ge gb i v n xs) (hb : Below w.heap.size w w') : SibW w' base gi ge gb i v n xs :=
  ⟨h.i.below hb h.i.lt, h.en.below hb h.en.lt, h.bs.below hb h.bs.lt, own_below h.own hb, h.gi_, h.ge_, h.gb_, Nat.le_trans h.base_ hb.size⟩
/-- What it leaves: these more. -/
def SibPost (w : World) (base gi ge gb i : Nat) (v : Value) (n : Nat) (xs : List Value) (l : List (Nat × Nat)) (e : Ending) (w' : World) : Prop :=
  e = .returned (.tuple #[]) ∧ ∃ v', SibW w' base gi ge gb i v' (n + l.length) (xs ++ spanCells l) ∧ Frame w w' gb v.ownBlock ∧ Moved w v.ownBlock v'.ownBlock

set_option maxRecDepth 20000 in
set_option maxHeartbeats 1600000 in
theorem sib_rec1 (f t : Nat) (h : t - f = 1) (w : World) (base gi ge gb i : Nat) (v : Value) (n : Nat) (xs : List Value) (hW : SibW w base gi ge gb i v n xs) :
    Calls Tryd.prog 69 #[.agg #[.int .i64 (f : Int), .int .i64 (t : Int)], .pointer (some ⟨gi, 0, none⟩), .pointer (some ⟨ge, 0, none⟩), .pointer (some ⟨gb, 0, none⟩)] w (SibPost w base gi ge gb i v n xs (sibs f t i)) := by
  have b1 : (t : Int) - f = 1 := by omega
  have b2 : 0 ≤ (f : Int) := by omega
  have hb := below_alloc1 w (.cells #[.int .i64 (f : Int), .int .i64 (t : Int)] 72)
  have hfin : SibPost w base gi ge gb i v n xs (sibs f t i) (.returned (.tuple #[])) (w.alloc (.cells #[.int .i64 (f : Int), .int .i64 (t : Int)] 72)) := by
    rw [sibs_one f t i (by omega)]
    exact ⟨rfl, v, by simpa [spanCells] using hW.below hb, Frame.of_below hb, .inl rfl⟩
  have HF := Lib.hid hfin
  clear hfin hW hb h
  go_enter Tryd.func69, Tryd.ntmps69
  go_wp2
  go_end0
  exact HF.out
end Go.Proofs.YtdjbaigfpmibnaaDoor
