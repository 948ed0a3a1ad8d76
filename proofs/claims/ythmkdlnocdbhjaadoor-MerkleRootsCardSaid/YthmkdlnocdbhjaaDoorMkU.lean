/- merkle.siblings' closure: what it is called with and what it leaves. | merkle.siblings' closure: more elements. | merkle.siblings. -/
import Derived.Test.YthmkdlnocdbhjaaDoorMkG
namespace Go.Proofs.YthmkdlnocdbhjaaDoor
open Go.RowKit

/-- The sibling sublists of place i among the elements from f up to t, from the element outwards. -/
def sibsGo (i : Nat) : Nat → Nat → Nat → List (Nat × Nat)
  | 0, _, _ => []
  | n + 1, f, t => if t - f ≤ 1 then [] else if i < f + half (t - f) then sibsGo i n f (f + half (t - f)) ++ [(f + half (t - f), t)] else sibsGo i n (f + half (t - f)) t ++ [(f, f + half (t - f))]
def sibs (f t i : Nat) : List (Nat × Nat) := sibsGo i (t - f) f t
theorem sibsGo_enough (i : Nat) : ∀ n m f t, t - f ≤ n → t - f ≤ m → t - f < 9223372036854775808 → sibsGo i n f t = sibsGo i m f t := by
  intro n
  induction n with
  | zero =>
    intro m f t h1 h2 h3
    cases m with
    | zero => rfl
    | succ m => simp only [sibsGo]; rw [if_pos (by omega)]
  | succ n ih =>
    intro m f t h1 h2 h3
    cases m with
    | zero => simp only [sibsGo]; rw [if_pos (by omega)]
    | succ m =>
      simp only [sibsGo]
      by_cases h0 : t - f ≤ 1
      · rw [if_pos h0, if_pos h0]
      · obtain ⟨k1, k2, -⟩ := half_spec (t - f) (by omega) h3
        rw [if_neg h0, if_neg h0, ih m f (f + half (t - f)) (by omega) (by omega) (by omega), ih m (f + half (t - f)) t (by omega) (by omega) (by omega)]
theorem sibs_one (f t i : Nat) (h : t - f ≤ 1) : sibs f t i = [] := by
  unfold sibs
  cases hn : t - f with
  | zero => rfl
  | succ n => simp only [sibsGo]; rw [if_pos h]
theorem sibs_more (f t i : Nat) (h : f + 2 ≤ t) (h3 : t - f < 9223372036854775808) : sibs f t i = if i < f + half (t - f) then sibs f (f + half (t - f)) i ++ [(f + half (t - f), t)] else sibs (f + half (t - f)) t i ++ [(f, f + half (t - f))] := by
  obtain ⟨k1, k2, -⟩ := half_spec (t - f) (by omega) h3
  obtain ⟨n, hn⟩ : ∃ n, t - f = n + 1 := ⟨t - f - 1, by omega⟩
  have e : sibs f t i = sibsGo i (n + 1) f t := by unfold sibs; rw [hn]
  rw [e]
  simp only [sibsGo]
  rw [if_neg (by omega), sibsGo_enough i n (f + half (t - f) - f) f (f + half (t - f)) (by omega) (by omega) (by omega), sibsGo_enough i n (t - (f + half (t - f))) (f + half (t - f)) t (by omega) (by omega) (by omega)]
  rfl
theorem sibs_left (f t i : Nat) (h : f + 2 ≤ t) (h3 : t - f < 9223372036854775808) (hi : i < f + half (t - f)) : sibs f t i = sibs f (f + half (t - f)) i ++ [(f + half (t - f), t)] := by
  rw [sibs_more f t i h h3, if_pos hi]
theorem sibs_right (f t i : Nat) (h : f + 2 ≤ t) (h3 : t - f < 9223372036854775808) (hi : f + half (t - f) ≤ i) : sibs f t i = sibs (f + half (t - f)) t i ++ [(f, f + half (t - f))] := by
  rw [sibs_more f t i h h3, if_neg (by omega)]
/-- There are at most as many as the length has bits. -/
theorem sibs_few (i : Nat) : ∀ (j f t : Nat), t - f ≤ 2 ^ j → t - f < 9223372036854775808 → (sibs f t i).length ≤ j := by
  intro j
  induction j with
  | zero => intro f t h _; rw [sibs_one f t i (by simpa using h)]; simp
  | succ j ih =>
    intro f t h h63
    rcases Nat.lt_or_ge (t - f) 2 with h2 | h2
    · rw [sibs_one f t i (by omega)]; simp
    · obtain ⟨k1, k2, k3, -⟩ := half_spec (t - f) h2 h63
      have hh : half (t - f) ≤ 2 ^ j := by
        unfold half at k2 ⊢
        generalize Lib.bitLen (t - f - 1) - 1 = e at *
        have h5 : 2 ^ e < 2 ^ (j + 1) := by omega
        have h6 := (Nat.pow_lt_pow_iff_right (by omega : 1 < 2)).1 h5
        exact Nat.pow_le_pow_right (by omega) (by omega)
      rw [sibs_more f t i (by omega) h63]
      have a1 := ih f (f + half (t - f)) (by omega) (by omega)
      have a2 := ih (f + half (t - f)) t (by omega) (by omega)
      split <;> simp <;> omega
def spanV (p : Nat × Nat) : List Value := [.int .i64 (p.1 : Int), .int .i64 (p.2 : Int)]
def spanCells (l : List (Nat × Nat)) : List Value := l.flatMap spanV
theorem spanCells_append (a b : List (Nat × Nat)) : spanCells (a ++ b) = spanCells a ++ spanCells b := by simp [spanCells]
theorem spanCells_len (l : List (Nat × Nat)) : (spanCells l).length = l.length * 2 := by
  induction l with
  | nil => rfl
  | cons p l ih => simp only [spanCells, List.flatMap_cons, List.length_append, List.length_cons] at ih ⊢; rw [ih]; simp [spanV]; omega

/-- Only block gb and row r may have changed. -/
structure Frame (w w' : World) (gb : Nat) (r : Option Nat) : Prop where
  os : w'.os = w.os
  tape : w'.tape = w.tape
  output : w'.output = w.output
  size : w.heap.size ≤ w'.heap.size
  block : ∀ k, k < w.heap.size → k ≠ gb → some k ≠ r → w'.heap[k]? = w.heap[k]?
theorem Frame.of_below {w w' : World} {gb : Nat} {r : Option Nat} (h : Below w.heap.size w w') : Frame w w' gb r := ⟨h.os, h.tape, h.output, h.size, fun k hk _ _ => h.block k hk⟩
theorem Frame.trans {w w1 w2 : World} {gb : Nat} {r r' : Option Nat} (h : Frame w w1 gb r) (hm : Moved w r r') (k : Frame w1 w2 gb r') : Frame w w2 gb r :=
  ⟨k.os.trans h.os, k.tape.trans h.tape, k.output.trans h.output, Nat.le_trans h.size k.size, fun j hj h1 h2 => (k.block j (Nat.lt_of_lt_of_le hj h.size) h1 (by
    rcases hm with rfl | ⟨g, rfl, hg⟩
    · exact h2
    · intro e; injection e with e; omega)).trans (h.block j hj h1 h2)⟩
theorem Frame.of_grown {w w' : World} {gb : Nat} {r : Option Nat} (h : w.grownBy w' r) : Frame w w' gb r := ⟨h.os, h.tape, h.output, h.size, fun k hk _ h2 => h.block k hk h2⟩
theorem Frame.of_set {w : World} {gb : Nat} {r : Option Nat} (v : Value) : Frame w (w.setCell ⟨gb, 0, none⟩ v) gb r :=
  ⟨rfl, rfl, rfl, by simp [World.setCell], fun _ _ hne _ => heap_setCell_other _ _ _ _ (fun e => hne (by rw [e]))⟩
theorem Frame.keep {w w' : World} {gb g : Nat} {r : Option Nat} {t : TypeId} {cs : List Value} (h : Frame w w' gb r) (hb : HB w g t cs) (h1 : g ≠ gb) (h2 : some g ≠ r) : HB w' g t cs := hb.keep (h.block g hb.lt h1 h2)

/-- What the closure finds: i, itself, what it has gathered. -/
structure SibW (w : World) (base gi ge gb i : Nat) (v : Value) (n : Nat) (xs : List Value) : Prop where
  i : HB w gi 3 [.int .i64 (i : Int)]
  en : HB w ge 114 [.func (.func 57) #[] #[.pointer (some ⟨gi, 0, none⟩), .pointer (some ⟨ge, 0, none⟩), .pointer (some ⟨gb, 0, none⟩)]]
  bs : HB w gb 72 [v]
  own : w.ownsRow base 75 2 v n xs
  gi_ : gi < base ∧ gi ≠ gb
  ge_ : ge < base ∧ ge ≠ gb
  gb_ : gb < base
  base_ : base ≤ w.heap.size
theorem SibW.row {w : World} {base gi ge gb i n : Nat} {v : Value} {xs : List Value} (h : SibW w base gi ge gb i v n xs) : ∀ g, v.ownBlock = some g → base ≤ g ∧ g < w.heap.size := h.own.lt
theorem SibW.below {w w' : World} {base gi ge gb i n : Nat} {v : Value} {xs : List Value} (h : SibW w base gi ge gb i v n xs) (hb : Below w.heap.size w w') : SibW w' base gi ge gb i v n xs :=
  ⟨h.i.below hb h.i.lt, h.en.below hb h.en.lt, h.bs.below hb h.bs.lt, own_below h.own hb, h.gi_, h.ge_, h.gb_, Nat.le_trans h.base_ hb.size⟩
/-- What it leaves: these more. -/
def SibPost (w : World) (base gi ge gb i : Nat) (v : Value) (n : Nat) (xs : List Value) (l : List (Nat × Nat)) (e : Ending) (w' : World) : Prop :=
  e = .returned (.tuple #[]) ∧ ∃ v', SibW w' base gi ge gb i v' (n + l.length) (xs ++ spanCells l) ∧ Frame w w' gb v.ownBlock ∧ Moved w v.ownBlock v'.ownBlock

set_option maxRecDepth 20000 in
set_option maxHeartbeats 1600000 in
theorem sib_rec1 (f t : Nat) (h : t - f = 1) (w : World) (base gi ge gb i : Nat) (v : Value) (n : Nat) (xs : List Value) (hW : SibW w base gi ge gb i v n xs) :
    Calls Tryd.prog 57 #[.agg #[.int .i64 (f : Int), .int .i64 (t : Int)], .pointer (some ⟨gi, 0, none⟩), .pointer (some ⟨ge, 0, none⟩), .pointer (some ⟨gb, 0, none⟩)] w (SibPost w base gi ge gb i v n xs (sibs f t i)) := by
  have b1 : (t : Int) - f = 1 := by omega
  have b2 : 0 ≤ (f : Int) := by omega
  have hb := below_alloc1 w (.cells #[.int .i64 (f : Int), .int .i64 (t : Int)] 75)
  have hfin : SibPost w base gi ge gb i v n xs (sibs f t i) (.returned (.tuple #[])) (w.alloc (.cells #[.int .i64 (f : Int), .int .i64 (t : Int)] 75)) := by
    rw [sibs_one f t i (by omega)]
    exact ⟨rfl, v, by simpa [spanCells] using hW.below hb, Frame.of_below hb, .inl rfl⟩
  have HF := Lib.hid hfin
  clear hfin hW hb h
  go_enter Tryd.func57, Tryd.ntmps57
  go_wp2
  go_end0
  exact HF.out
end Go.Proofs.YthmkdlnocdbhjaaDoor
namespace Go.Proofs.YthmkdlnocdbhjaaDoor
open Go.RowKit

theorem Tryd.infoSpan : (Tryd.prog.info? 75).map (fun i => (i.zero, i.size, i.bytes)) = some (some (.agg #[.int .i64 0, .int .i64 0]), 2, 16) := by kernel_rfl
/-- Behind the append and the store. -/
theorem sib_end {w W3 w4 w5 : World} {base gi ge gb i n : Nat} {v v' v'' : Value} {xs : List Value} {l : List (Nat × Nat)} {p : Nat × Nat} (hB3 : Below w.heap.size w W3) (hS : SibW w4 base gi ge gb i v' (n + l.length) (xs ++ spanCells l)) (hF : Frame W3 w4 gb v.ownBlock) (hM : Moved W3 v.ownBlock v'.ownBlock)
    {o : Obj} (ho : w5.ownsRow base 75 2 v'' (n + l.length + 1) (xs ++ (spanCells l ++ spanV p))) (hg : (w4.alloc o).grownBy w5 v'.ownBlock) (hat : v''.ownBlock = v'.ownBlock ∨ v''.ownBlock = some (w4.heap.size + 1)) :
    SibPost w base gi ge gb i v n xs (l ++ [p]) (.returned (.tuple #[])) (w5.setCell ⟨gb, 0, none⟩ v'') := by
  have hb4 : Below w4.heap.size w4 (w4.alloc o) := below_alloc1 _ _
  have hS1 := hS.below hb4
  have hgb := hS.bs.lt
  have hrow := hS1.row
  have hne : ∀ g, g < base → some g ≠ v'.ownBlock := fun g hg e => by have := (hrow g e.symm).1; omega
  have i5 := hS1.i.grown hg (hne _ hS.gi_.1)
  have e5 := hS1.en.grown hg (hne _ hS.ge_.1)
  have b5 := hS1.bs.grown hg (hne _ hS.gb_)
  have hz4 : (w4.alloc o).heap.size = w4.heap.size + 1 := by simp
  have hz5 := hg.size
  have hm5 : Moved W3 v.ownBlock v''.ownBlock := by
    rcases hat with e | e
    · rw [e]; exact hM
    · exact .inr ⟨_, e, by have := hF.size; omega⟩
  have hmw : ∀ r, Moved W3 v.ownBlock r → Moved w v.ownBlock r := fun r h => by
    rcases h with h | ⟨g, e, h⟩
    · exact .inl h
    · exact .inr ⟨g, e, by have := hB3.size; omega⟩
  have hown : (w5.setCell ⟨gb, 0, none⟩ v'').ownsRow base 75 2 v'' (n + (l ++ [p]).length) (xs ++ spanCells (l ++ [p])) := by
    have e1 : n + (l ++ [p]).length = n + l.length + 1 := by simp; omega
    have e2 : xs ++ spanCells (l ++ [p]) = xs ++ (spanCells l ++ spanV p) := by rw [spanCells_append]; simp [spanCells]
    rw [e1, e2]
    refine ho.kept (grownBy_setCell_ w5 gb 0 v'') ?_
    rcases hv : v''.ownBlock with _ | g
    · exact .inl rfl
    · refine .inr fun e => ?_
      injection e with e
      have := (ho.lt g hv).1
      have := hS.gb_
      omega
  have hbase : base ≤ (w5.setCell ⟨gb, 0, none⟩ v'').heap.size := by
    have h1 := hS.base_
    have h2 : (w5.setCell ⟨gb, 0, none⟩ v'').heap.size = w5.heap.size := by simp [World.setCell]
    omega
  refine ⟨rfl, v'', ⟨i5.far hS.gi_.2 _, e5.far hS.ge_.2 _, by simpa using b5.set_ 0 v'', hown, hS.gi_, hS.ge_, hS.gb_, hbase⟩, ?_, hmw _ hm5⟩
  have f1 : Frame w W3 gb v.ownBlock := Frame.of_below hB3
  have f2 : Frame w w4 gb v.ownBlock := f1.trans (.inl rfl) hF
  have f3 : Frame w (w4.alloc o) gb v.ownBlock := f2.trans (hmw _ hM) (Frame.of_below (r := v'.ownBlock) hb4)
  have f4 : Frame w w5 gb v.ownBlock := f3.trans (hmw _ hM) (Frame.of_grown hg)
  exact f4.trans (.inl rfl) (Frame.of_set v'')

set_option maxRecDepth 20000 in
set_option maxHeartbeats 3200000 in
theorem sib_left (f t m : Nat) (h : f + 2 ≤ t) (ht : t < 9223372036854775808) (hm : m = f + half (t - f)) (i : Nat) (hi : i < m) (base gi ge gb n : Nat) (v : Value) (xs : List Value) (hn : n + (sibs f t i).length ≤ 1099511627776) (w : World) (hW : SibW w base gi ge gb i v n xs)
    (ih : ∀ W : World, SibW W base gi ge gb i v n xs → Calls Tryd.prog 57 #[.agg #[.int .i64 (f : Int), .int .i64 (m : Int)], .pointer (some ⟨gi, 0, none⟩), .pointer (some ⟨ge, 0, none⟩), .pointer (some ⟨gb, 0, none⟩)] W (SibPost W base gi ge gb i v n xs (sibs f m i))) :
    Calls Tryd.prog 57 #[.agg #[.int .i64 (f : Int), .int .i64 (t : Int)], .pointer (some ⟨gi, 0, none⟩), .pointer (some ⟨ge, 0, none⟩), .pointer (some ⟨gb, 0, none⟩)] w (SibPost w base gi ge gb i v n xs (sibs f t i)) := by
  have hs := sibs_left f t i h (by omega) (by rw [← hm]; exact hi)
  rw [← hm] at hs
  rw [hs] at hn ⊢
  rw [List.length_append, List.length_singleton] at hn
  have IH := Lib.hid ih
  have hhv := Lib.hid (fun W : World => halves_any f t W h ht)
  rw [← hm] at hhv
  have b1 : 2 ≤ (t : Int) - f := by omega
  have b2 : (t : Int) ≤ 9223372036854775807 := by omega
  have b3 : 0 ≤ (f : Int) := by omega
  have b4 : (i : Int) < (m : Int) := by omega
  clear ih h ht hi hs hm
  have hb1 := below_alloc1 w (.cells #[.int .i64 (f : Int), .int .i64 (t : Int)] 75)
  go_enter Tryd.func57, Tryd.ntmps57
  go_wp2_with fail
  refine (hhv.out _).mono ?_
  rintro e w2 ⟨rfl, hB2⟩
  have hb2 := hb1.trans (hB2.mono hb1.size)
  clear hb1 hB2 hhv
  obtain ⟨W3, hW3⟩ : ∃ W3 : World, W3 = (w2.alloc (.cells #[.int .i64 (f : Int), .int .i64 (m : Int)] 75)).alloc (.cells #[.int .i64 (m : Int), .int .i64 (t : Int)] 75) := ⟨_, rfl⟩
  have hB3 : Below w.heap.size w W3 := by rw [hW3]; exact (hb2.alloc hb2.size _).alloc (by have := hb2.size; simp; omega) _
  have hW' := hW.below hB3
  have hgi := hW'.i.cell 0
  have hge := hW'.en.cell 0
  have hz : w.heap.size ≤ w2.heap.size := hb2.size
  have ho3 : HB W3 (w2.heap.size + 1) 75 [.int .i64 (m : Int), .int .i64 (t : Int)] := by
    have e : (w2.alloc (.cells #[.int .i64 (f : Int), .int .i64 (m : Int)] 75)).heap.size = w2.heap.size + 1 := by simp
    rw [hW3, ← e]; exact HB.new _ _ _
  have hcall := Lib.hid (IH.out W3 hW')
  rw [hW3] at hgi hge
  simp only [List.getElem?_cons_zero] at hgi hge
  have HW := Lib.hid hW
  have HW' := Lib.hid hW'
  have HB3 := Lib.hid hB3
  have HO3 := Lib.hid ho3
  have H3 := Lib.hid hW3
  have Hn := Lib.hid hn
  rw [hW3] at hcall
  clear hW hW' hB3 ho3 hb2 hn hW3
  go_wp2_with fail
  refine hcall.out.mono ?_
  rintro e w4 ⟨rfl, v', hS', hF, hM⟩
  rw [← H3.out] at hF hM
  have hgb := HW.out.gb_
  have hba := HW.out.base_
  have ho4 := hF.keep HO3.out (by omega) (fun e => by have := (HW.out.row _ e.symm).2; omega)
  have hv4 := hS'.bs.cell 0
  have hc0 := ho4.cell 0
  have hc1 := ho4.cell 1
  simp only [List.getElem?_cons_zero, List.getElem?_cons_succ] at hv4 hc0 hc1
  have hown := hS'.own
  have hbn := hS'.base_
  obtain ⟨i0, hi0, hz0, hz1, hz2⟩ := info_parts Tryd.infoSpan
  have HS' := Lib.hid hS'
  have HF := Lib.hid hF
  have HM := Lib.hid hM
  clear hS' hF hM ho4 hcall IH hgi hge
  go_wp2_with (at_builtin; refine wpList_append_own_at _ rfl (.tmp 27) (.tmp 29) 72 rfl base 75 i0 (.agg #[.int .i64 0, .int .i64 0]) 2 16 Tryd.underlying72 hi0 hz0 hz1 hz2 rfl (by decide) v' (n + (sibs f m i).length) _ rfl (hown.alloc _) ⟨w4.heap.size, 0, none⟩ 1 1 [.int .i64 (m : Int), .int .i64 (t : Int)] rfl rfl ?c1 ?c2 ?c3 ?c4 ?c5 ?_)
  case c1 =>
    intro j u hu
    rw [add_at, boxed]; simpa using hu
  case c2 => intro u hu; simp at hu; rcases hu with rfl | rfl <;> rfl
  case c3 => have := Hn.out; unfold maxLen; omega
  case c4 => have := Hn.out; omega
  case c5 => simp; omega
  intro v'' w5 hown5 hg5 _ hat5
  have hfin := Lib.hid (sib_end (p := (m, t)) HB3.out HS'.out HF.out HM.out hown5 hg5 hat5)
  have hb5 : HB w5 gb 72 [v'] := (HS'.out.bs.alloc _).grown hg5 (fun e => by have := (HS'.out.row gb e.symm).1; omega)
  have hcb := hb5.cell 0
  have hfb := hb5.frozen 0
  simp only [List.getElem?_cons_zero] at hcb
  obtain ⟨A5, c5, rfl, -⟩ := own_slice hown5
  clear hown5 hg5 hat5 hb5 hown hv4 hc0 hc1
  go_wp2
  go_end0
  exact hfin.out
set_option maxRecDepth 20000 in
set_option maxHeartbeats 3200000 in
theorem sib_right (f t m : Nat) (h : f + 2 ≤ t) (ht : t < 9223372036854775808) (hm : m = f + half (t - f)) (i : Nat) (hi : m ≤ i) (base gi ge gb n : Nat) (v : Value) (xs : List Value) (hn : n + (sibs f t i).length ≤ 1099511627776) (w : World) (hW : SibW w base gi ge gb i v n xs)
    (ih : ∀ W : World, SibW W base gi ge gb i v n xs → Calls Tryd.prog 57 #[.agg #[.int .i64 (m : Int), .int .i64 (t : Int)], .pointer (some ⟨gi, 0, none⟩), .pointer (some ⟨ge, 0, none⟩), .pointer (some ⟨gb, 0, none⟩)] W (SibPost W base gi ge gb i v n xs (sibs m t i))) :
    Calls Tryd.prog 57 #[.agg #[.int .i64 (f : Int), .int .i64 (t : Int)], .pointer (some ⟨gi, 0, none⟩), .pointer (some ⟨ge, 0, none⟩), .pointer (some ⟨gb, 0, none⟩)] w (SibPost w base gi ge gb i v n xs (sibs f t i)) := by
  have hs := sibs_right f t i h (by omega) (by rw [← hm]; exact hi)
  rw [← hm] at hs
  rw [hs] at hn ⊢
  rw [List.length_append, List.length_singleton] at hn
  have IH := Lib.hid ih
  have hhv := Lib.hid (fun W : World => halves_any f t W h ht)
  rw [← hm] at hhv
  have b1 : 2 ≤ (t : Int) - f := by omega
  have b2 : (t : Int) ≤ 9223372036854775807 := by omega
  have b3 : 0 ≤ (f : Int) := by omega
  have b4 : (m : Int) ≤ (i : Int) := by omega
  clear ih h ht hi hs hm
  have hb1 := below_alloc1 w (.cells #[.int .i64 (f : Int), .int .i64 (t : Int)] 75)
  go_enter Tryd.func57, Tryd.ntmps57
  go_wp2_with fail
  refine (hhv.out _).mono ?_
  rintro e w2 ⟨rfl, hB2⟩
  have hb2 := hb1.trans (hB2.mono hb1.size)
  clear hb1 hB2 hhv
  obtain ⟨W3, hW3⟩ : ∃ W3 : World, W3 = (w2.alloc (.cells #[.int .i64 (m : Int), .int .i64 (t : Int)] 75)).alloc (.cells #[.int .i64 (f : Int), .int .i64 (m : Int)] 75) := ⟨_, rfl⟩
  have hB3 : Below w.heap.size w W3 := by rw [hW3]; exact (hb2.alloc hb2.size _).alloc (by have := hb2.size; simp; omega) _
  have hW' := hW.below hB3
  have hB3p : Below w.heap.size w ((w2.alloc (.cells #[.int .i64 (f : Int), .int .i64 (m : Int)] 75)).alloc (.cells #[.int .i64 (m : Int), .int .i64 (t : Int)] 75)) := (hb2.alloc hb2.size _).alloc (by have := hb2.size; simp; omega) _
  have hgi := (hW.below hB3p).i.cell 0
  have hge := hW'.en.cell 0
  have hz : w.heap.size ≤ w2.heap.size := hb2.size
  have ho3 : HB W3 (w2.heap.size + 1) 75 [.int .i64 (f : Int), .int .i64 (m : Int)] := by
    have e : (w2.alloc (.cells #[.int .i64 (m : Int), .int .i64 (t : Int)] 75)).heap.size = w2.heap.size + 1 := by simp
    rw [hW3, ← e]; exact HB.new _ _ _
  have hcall := Lib.hid (IH.out W3 hW')
  rw [hW3] at hge
  simp only [List.getElem?_cons_zero] at hgi hge
  have HW := Lib.hid hW
  have HW' := Lib.hid hW'
  have HB3 := Lib.hid hB3
  have HO3 := Lib.hid ho3
  have H3 := Lib.hid hW3
  have Hn := Lib.hid hn
  rw [hW3] at hcall
  clear hW hW' hB3 hB3p ho3 hb2 hn hW3
  go_wp2_with fail
  refine hcall.out.mono ?_
  rintro e w4 ⟨rfl, v', hS', hF, hM⟩
  rw [← H3.out] at hF hM
  have hgb := HW.out.gb_
  have hba := HW.out.base_
  have ho4 := hF.keep HO3.out (by omega) (fun e => by have := (HW.out.row _ e.symm).2; omega)
  have hv4 := hS'.bs.cell 0
  have hc0 := ho4.cell 0
  have hc1 := ho4.cell 1
  simp only [List.getElem?_cons_zero, List.getElem?_cons_succ] at hv4 hc0 hc1
  have hown := hS'.own
  have hbn := hS'.base_
  obtain ⟨i0, hi0, hz0, hz1, hz2⟩ := info_parts Tryd.infoSpan
  have HS' := Lib.hid hS'
  have HF := Lib.hid hF
  have HM := Lib.hid hM
  clear hS' hF hM ho4 hcall IH hgi hge
  go_wp2_with (at_builtin; refine wpList_append_own_at _ rfl (.tmp 27) (.tmp 29) 72 rfl base 75 i0 (.agg #[.int .i64 0, .int .i64 0]) 2 16 Tryd.underlying72 hi0 hz0 hz1 hz2 rfl (by decide) v' (n + (sibs m t i).length) _ rfl (hown.alloc _) ⟨w4.heap.size, 0, none⟩ 1 1 [.int .i64 (f : Int), .int .i64 (m : Int)] rfl rfl ?c1 ?c2 ?c3 ?c4 ?c5 ?_)
  case c1 =>
    intro j u hu
    rw [add_at, boxed]; simpa using hu
  case c2 => intro u hu; simp at hu; rcases hu with rfl | rfl <;> rfl
  case c3 => have := Hn.out; unfold maxLen; omega
  case c4 => have := Hn.out; omega
  case c5 => simp; omega
  intro v'' w5 hown5 hg5 _ hat5
  have hfin := Lib.hid (sib_end (p := (f, m)) HB3.out HS'.out HF.out HM.out hown5 hg5 hat5)
  have hb5 : HB w5 gb 72 [v'] := (HS'.out.bs.alloc _).grown hg5 (fun e => by have := (HS'.out.row gb e.symm).1; omega)
  have hcb := hb5.cell 0
  have hfb := hb5.frozen 0
  simp only [List.getElem?_cons_zero] at hcb
  obtain ⟨A5, c5, rfl, -⟩ := own_slice hown5
  clear hown5 hg5 hat5 hb5 hown hv4 hc0 hc1
  go_wp2
  go_end0
  exact hfin.out
theorem sib_rec (base gi ge gb i : Nat) (v : Value) (n : Nat) (xs : List Value) : ∀ (d f t : Nat), t - f = d → f ≤ i → i < t → t < 9223372036854775808 → n + (sibs f t i).length ≤ 1099511627776 → ∀ w : World, SibW w base gi ge gb i v n xs →
    Calls Tryd.prog 57 #[.agg #[.int .i64 (f : Int), .int .i64 (t : Int)], .pointer (some ⟨gi, 0, none⟩), .pointer (some ⟨ge, 0, none⟩), .pointer (some ⟨gb, 0, none⟩)] w (SibPost w base gi ge gb i v n xs (sibs f t i)) := by
  intro d
  induction d using Nat.strongRecOn with
  | ind d ih =>
    intro f t hd hf hi ht hn w hW
    rcases Nat.lt_or_ge d 2 with h2 | h2
    · exact sib_rec1 f t (by omega) w base gi ge gb i v n xs hW
    · obtain ⟨k1, k2, -⟩ := half_spec (t - f) (by omega) (by omega)
      rcases Nat.lt_or_ge i (f + half (t - f)) with hlt | hge
      · have hl := sibs_left f t i (by omega) (by omega) hlt
        have hn' : n + (sibs f (f + half (t - f)) i).length ≤ 1099511627776 := by rw [hl, List.length_append] at hn; omega
        exact sib_left f t _ (by omega) ht rfl i hlt base gi ge gb n v xs hn w hW (ih (f + half (t - f) - f) (by omega) f (f + half (t - f)) rfl hf hlt (by omega) hn')
      · have hl := sibs_right f t i (by omega) (by omega) hge
        have hn' : n + (sibs (f + half (t - f)) t i).length ≤ 1099511627776 := by rw [hl, List.length_append] at hn; omega
        exact sib_right f t _ (by omega) ht rfl i hge base gi ge gb n v xs hn w hW (ih (t - (f + half (t - f))) (by omega) (f + half (t - f)) t rfl hge hi ht hn')
end Go.Proofs.YthmkdlnocdbhjaaDoor
namespace Go.Proofs.YthmkdlnocdbhjaaDoor
open Go.RowKit

set_option maxRecDepth 20000 in
set_option maxHeartbeats 3200000 in
theorem siblings_any (n i : Nat) (hi : i < n) (hn : n < 9223372036854775808) (w : World) :
    Calls Tryd.prog 37 #[.int .i64 (n : Int), .int .i64 (i : Int)] w fun e w' => ∃ v', e = .returned v' ∧ w'.ownsRow w.heap.size 75 2 v' (sibs 0 n i).length (spanCells (sibs 0 n i)) ∧ Below w.heap.size w w' := by
  have hmf : ∀ (fn : Fn) (first cap : Array Value) (w : World), (Instr.makeFunc fn first cap).run Tryd.prog w = .ok (.func fn first cap) w := fun _ _ _ _ => rfl
  have hfew := sibs_few i 63 0 n (by omega) (by omega)
  obtain ⟨W1, hW1⟩ : ∃ W1 : World, W1 = w.alloc (.cells #[.int .i64 (i : Int)] 3) := ⟨_, rfl⟩
  obtain ⟨W2, hW2⟩ : ∃ W2 : World, W2 = W1.alloc (.cells #[.slice none 0 0] 72) := ⟨_, rfl⟩
  obtain ⟨W3, hW3⟩ : ∃ W3 : World, W3 = W2.alloc (.cells #[.func (.func 57) #[] #[.pointer (some ⟨w.heap.size, 0, none⟩), .pointer (some ⟨w.heap.size + 2, 0, none⟩), .pointer (some ⟨w.heap.size + 1, 0, none⟩)]] 114) := ⟨_, rfl⟩
  have z1 : W1.heap.size = w.heap.size + 1 := by rw [hW1]; simp
  have z2 : W2.heap.size = w.heap.size + 2 := by rw [hW2]; simp; omega
  have z3 : W3.heap.size = w.heap.size + 3 := by rw [hW3]; simp; omega
  have B1 : Below w.heap.size w W1 := by rw [hW1]; exact below_alloc1 _ _
  have B2 : Below w.heap.size w W2 := by rw [hW2]; exact B1.alloc B1.size _
  have B3 : Below w.heap.size w W3 := by rw [hW3]; exact B2.alloc B2.size _
  have i1 : HB W1 w.heap.size 3 [.int .i64 (i : Int)] := by rw [hW1]; exact HB.new w _ _
  have i3 : HB W3 w.heap.size 3 [.int .i64 (i : Int)] := by rw [hW3]; refine HB.alloc ?_ _; rw [hW2]; exact i1.alloc _
  have b2 : HB W2 (w.heap.size + 1) 72 [.slice none 0 0] := by rw [hW2, ← z1]; exact HB.new W1 _ _
  have b3 : HB W3 (w.heap.size + 1) 72 [.slice none 0 0] := by rw [hW3]; exact b2.alloc _
  have e3 : HB W3 (w.heap.size + 2) 114 [.func (.func 57) #[] #[.pointer (some ⟨w.heap.size, 0, none⟩), .pointer (some ⟨w.heap.size + 2, 0, none⟩), .pointer (some ⟨w.heap.size + 1, 0, none⟩)]] := by
    have h := HB.new W2 114 [.func (.func 57) #[] #[.pointer (some ⟨w.heap.size, 0, none⟩), .pointer (some ⟨w.heap.size + 2, 0, none⟩), .pointer (some ⟨w.heap.size + 1, 0, none⟩)]]
    rw [z2] at h
    rw [hW3]; exact h
  have hS : SibW W3 (w.heap.size + 3) w.heap.size (w.heap.size + 2) (w.heap.size + 1) i (.slice none 0 0) 0 [] := ⟨i3, e3, b3, World.ownsRow_nil _ _ _ _, by omega, by omega, by omega, by omega⟩
  have hrec := sib_rec (w.heap.size + 3) w.heap.size (w.heap.size + 2) (w.heap.size + 1) i (.slice none 0 0) 0 [] n 0 n (by omega) (by omega) hi hn (by omega) W3 hS
  have B3' := B3
  rw [hW3, hW2, hW1] at hrec B3
  have hrec := Lib.hid hrec
  have HB3 := Lib.hid B3
  have hn0 : 0 ≤ (n : Int) := by omega
  clear hS e3 b3 b2 i3 i1 B1 B2 B3 B3' z1 z2 z3 hW3 hW2 hW1 hfew
  go_enter Tryd.func37, Tryd.ntmps37
  go_wp2_with fail
  refine hrec.out.mono ?_
  rintro e w4 ⟨rfl, v', hS', hF, -⟩
  have hv := hS'.bs.cell 0
  simp only [List.getElem?_cons_zero] at hv
  have hown := own_wide hS'.own (show w.heap.size ≤ w.heap.size + 3 by omega)
  have hB4 : Below w.heap.size w w4 := HB3.out.trans ⟨hF.os, hF.tape, hF.output, hF.size, fun k hk => hF.block k (Nat.lt_of_lt_of_le hk HB3.out.size) (by omega) (by simp [Value.ownBlock])⟩
  rw [Nat.zero_add, List.nil_append] at hown
  obtain ⟨A5, c5, rfl, -⟩ := own_slice hown
  have HO := Lib.hid hown
  have HB4 := Lib.hid hB4
  clear hS' hF hown hB4 hrec
  go_wp2
  go_ret
  exact ⟨_, rfl, HO.out, HB4.out⟩
end Go.Proofs.YthmkdlnocdbhjaaDoor
