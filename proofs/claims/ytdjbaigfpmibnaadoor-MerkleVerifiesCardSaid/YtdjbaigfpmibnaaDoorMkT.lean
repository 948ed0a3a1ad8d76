/- merkle.siblings' closure: more elements. -/
import Derived.Test.YtdjbaigfpmibnaaDoorMkS
namespace Go.Proofs.YtdjbaigfpmibnaaDoor
open Go.RowKit

theorem Tryd.infoSpan : (Tryd.prog.info? 72).map (fun i => (i.zero, i.size, i.bytes)) = some (some (.agg #[.int .i64 0, .int .i64 0]), 2, 16) := by kernel_rfl
/-- Behind the append and the store. -/
theorem sib_end {w W3 w4 w5 : World} {base gi ge gb i n : Nat} {v v' v'' : Value} {xs : List Value} {l : List (Nat × Nat)} {p : Nat × Nat} (hB3 : Below w.heap.size w W3) (hS : SibW w4 base gi ge gb i v' (n + l.length) (xs ++ spanCells l)) (hF : Frame W3 w4 gb v.ownBlock) (hM : Moved W3 v.ownBlock v'.ownBlock)
    {o : Obj} (ho : w5.ownsRow base 72 2 v'' (n + l.length + 1) (xs ++ (spanCells l ++ spanV p))) (hg : (w4.alloc o).grownBy w5 v'.ownBlock) (hat : v''.ownBlock = v'.ownBlock ∨ v''.ownBlock = some (w4.heap.size + 1)) :
    SibPost w base gi ge gb i v n xs (l ++ [p]) (.returned (.tuple #[])) (w5.setCell ⟨gb, 0, none⟩ v'') := by
  have hb4 : Below w4.heap.size w4 (w4.alloc o) := below_alloc1 _ _
  have hS1 := hS.below hb4
  have hgb := hS.bs.lt
  have hrow := hS1.row
  have hne : ∀ g, g < base → some g ≠ v'.ownBlock := fun g hg e => by have := (hrow g e.symm).1; omega
  have i5 := hS1.i.grown hg (hne _ hS.gi_.1)
  have e5 := hS1.en.grown hg (hne _ hS.ge_.1)
  have b5 := hS1.bs.grown hg (hne _ hS.gb_)
  have hz4 : (w4.alloc o).heap.size = w4.heap.size + 1 := by simp
  have hz5 := hg.size
  have hm5 : Moved W3 v.ownBlock v''.ownBlock := by
    rcases hat with e | e
    · rw [e]; exact hM
    · exact .inr ⟨_, e, by have := hF.size; omega⟩
  have hmw : ∀ r, Moved W3 v.ownBlock r → Moved w v.ownBlock r := fun r h => by
    rcases h with h | ⟨g, e, h⟩
    · exact .inl h
    · exact .inr ⟨g, e, by have := hB3.size; omega⟩
  have hown : (w5.setCell ⟨gb, 0, none⟩ v'').ownsRow base 72 2 v'' (n + (l ++ [p]).length) (xs ++ spanCells (l ++ [p])) := by
    have e1 : n + (l ++ [p]).length = n + l.length + 1 := by simp; omega
    have e2 : xs ++ spanCells (l ++ [p]) = xs ++ (spanCells l ++ spanV p) := by rw [spanCells_append]; simp [spanCells]
    rw [e1, e2]
    refine ho.kept (grownBy_setCell_ w5 gb 0 v'') ?_
    rcases hv : v''.ownBlock with _ | g
    · exact .inl rfl
    · refine .inr fun e => ?_
      injection e with e
      have := (ho.lt g hv).1
      have := hS.gb_
      omega
  have hbase : base ≤ (w5.setCell ⟨gb, 0, none⟩ v'').heap.size := by
    have h1 := hS.base_
    have h2 : (w5.setCell ⟨gb, 0, none⟩ v'').heap.size = w5.heap.size := by simp [World.setCell]
    omega
  refine ⟨rfl, v'', ⟨i5.far hS.gi_.2 _, e5.far hS.ge_.2 _, by simpa using b5.set_ 0 v'', hown, hS.gi_, hS.ge_, hS.gb_, hbase⟩, ?_, hmw _ hm5⟩
  have f1 : Frame w W3 gb v.ownBlock := Frame.of_below hB3
  have f2 : Frame w w4 gb v.ownBlock := f1.trans (.inl rfl) hF
  have f3 : Frame w (w4.alloc o) gb v.ownBlock := f2.trans (hmw _ hM) (Frame.of_below (r := v'.ownBlock) hb4)
  have f4 : Frame w w5 gb v.ownBlock := f3.trans (hmw _ hM) (Frame.of_grown hg)
  exact f4.trans (.inl rfl) (Frame.of_set v'')

set_option maxRecDepth 20000 in
set_option maxHeartbeats 3200000 in
theorem sib_left (f t m : Nat) (h : f + 2 ≤ t) (ht : t < 9223372036854775808) (hm : m = f + half (t - f)) (i : Nat) (hi : i < m) (base gi ge gb n : Nat) (v : Value) (xs : List Value) (hn : n + (sibs f t i).length ≤ 1099511627776) (w : World) (hW : SibW w base gi ge gb i v n xs)
    (ih : ∀ W : World, SibW W base gi ge gb i v n xs → Calls Tryd.prog 69 #[.agg #[.int .i64 (f : Int), .int .i64 (m : Int)], .pointer (some ⟨gi, 0, none⟩), .pointer (some ⟨ge, 0, none⟩), .pointer (some ⟨gb, 0, none⟩)] W (SibPost W base gi ge gb i v n xs (sibs f m i))) :
    Calls Tryd.prog 69 #[.agg #[.int .i64 (f : Int), .int .i64 (t : Int)], .pointer (some ⟨gi, 0, none⟩), .pointer (some ⟨ge, 0, none⟩), .pointer (some ⟨gb, 0, none⟩)] w (SibPost w base gi ge gb i v n xs (sibs f t i)) := by
  have hs := sibs_left f t i h (by omega) (by rw [← hm]; exact hi)
  rw [← hm] at hs
  rw [hs] at hn ⊢
  rw [List.length_append, List.length_singleton] at hn
  have IH := Lib.hid ih
  have hhv := Lib.hid (fun W : World => halves_any f t W h ht)
  rw [← hm] at hhv
  have b1 : 2 ≤ (t : Int) - f := by omega
  have b2 : (t : Int) ≤ 9223372036854775807 := by omega
  have b3 : 0 ≤ (f : Int) := by omega
  have b4 : (i : Int) < (m : Int) := by omega
  clear ih h ht hi hs hm
  have hb1 := below_alloc1 w (.cells #[.int .i64 (f : Int), .int .i64 (t : Int)] 72)
  go_enter Tryd.func69, Tryd.ntmps69
  go_wp2_with fail
  refine (hhv.out _).mono ?_
  rintro e w2 ⟨rfl, hB2⟩
  have hb2 := hb1.trans (hB2.mono hb1.size)
  clear hb1 hB2 hhv
  obtain ⟨W3, hW3⟩ : ∃ W3 : World, W3 = (w2.alloc (.cells #[.int .i64 (f : Int), .int .i64 (m : Int)] 72)).alloc (.cells #[.int .i64 (m : Int), .int .i64 (t : Int)] 72) := ⟨_, rfl⟩
  have hB3 : Below w.heap.size w W3 := by rw [hW3]; exact (hb2.alloc hb2.size _).alloc (by have := hb2.size; simp; omega) _
  have hW' := hW.below hB3
  have hgi := hW'.i.cell 0
  have hge := hW'.en.cell 0
  have hz : w.heap.size ≤ w2.heap.size := hb2.size
  have ho3 : HB W3 (w2.heap.size + 1) 72 [.int .i64 (m : Int), .int .i64 (t : Int)] := by
    have e : (w2.alloc (.cells #[.int .i64 (f : Int), .int .i64 (m : Int)] 72)).heap.size = w2.heap.size + 1 := by simp
    rw [hW3, ← e]; exact HB.new _ _ _
  have hcall := Lib.hid (IH.out W3 hW')
  rw [hW3] at hgi hge
  simp only [List.getElem?_cons_zero] at hgi hge
  have HW := Lib.hid hW
  have HW' := Lib.hid hW'
  have HB3 := Lib.hid hB3
  have HO3 := Lib.hid ho3
  have H3 := Lib.hid hW3
  have Hn := Lib.hid hn
  rw [hW3] at hcall
  clear hW hW' hB3 ho3 hb2 hn hW3
  go_wp2_with fail
  refine hcall.out.mono ?_
  rintro e w4 ⟨rfl, v', hS', hF, hM⟩
  rw [← H3.out] at hF hM
  have hgb := HW.out.gb_
  have hba := HW.out.base_
  have ho4 := hF.keep HO3.out (by omega) (fun e => by have := (HW.out.row _ e.symm).2; omega)
  have hv4 := hS'.bs.cell 0
  have hc0 := ho4.cell 0
  have hc1 := ho4.cell 1
  simp only [List.getElem?_cons_zero, List.getElem?_cons_succ] at hv4 hc0 hc1
  have hown := hS'.own
  have hbn := hS'.base_
  obtain ⟨i0, hi0, hz0, hz1, hz2⟩ := info_parts Tryd.infoSpan
  have HS' := Lib.hid hS'
  have HF := Lib.hid hF
  have HM := Lib.hid hM
  clear hS' hF hM ho4 hcall IH hgi hge
  go_wp2_with (at_builtin; refine wpList_append_own_at _ rfl (.tmp 27) (.tmp 29) 69 rfl base 72 i0 (.agg #[.int .i64 0, .int .i64 0]) 2 16 Tryd.underlying69 hi0 hz0 hz1 hz2 rfl (by decide) v' (n + (sibs f m i).length) _ rfl (hown.alloc _) ⟨w4.heap.size, 0, none⟩ 1 1 [.int .i64 (m : Int), .int .i64 (t : Int)] rfl rfl ?c1 ?c2 ?c3 ?c4 ?c5 ?_)
  case c1 =>
    intro j u hu
    rw [add_at, boxed]; simpa using hu
  case c2 => intro u hu; simp at hu; rcases hu with rfl | rfl <;> rfl
  case c3 => have := Hn.out; unfold maxLen; omega
  case c4 => have := Hn.out; omega
  case c5 => simp; omega
  intro v'' w5 hown5 hg5 _ hat5
  have hfin := Lib.hid (sib_end (p := (m, t)) HB3.out HS'.out HF.out HM.out hown5 hg5 hat5)
  have hb5 : HB w5 gb 69 [v'] := (HS'.out.bs.alloc _).grown hg5 (fun e => by have := (HS'.out.row gb e.symm).1; omega)
  have hcb := hb5.cell 0
  have hfb := hb5.frozen 0
  simp only [List.getElem?_cons_zero] at hcb
  obtain ⟨A5, c5, rfl, -⟩ := own_slice hown5
  clear hown5 hg5 hat5 hb5 hown hv4 hc0 hc1
  go_wp2
  go_end0
  exact hfin.out
set_option maxRecDepth 20000 in
set_option maxHeartbeats 3200000 in
theorem sib_right (f t m : Nat) (h : f + 2 ≤ t) (ht : t < 9223372036854775808) (hm : m = f + half (t - f)) (i : Nat) (hi : m ≤ i) (base gi ge gb n : Nat) (v : Value) (xs : List Value) (hn : n + (sibs f t i).length ≤ 1099511627776) (w : World) (hW : SibW w base gi ge gb i v n xs)
    (ih : ∀ W : World, SibW W base gi ge gb i v n xs → Calls Tryd.prog 69 #[.agg #[.int .i64 (m : Int), .int .i64 (t : Int)], .pointer (some ⟨gi, 0, none⟩), .pointer (some ⟨ge, 0, none⟩), .pointer (some ⟨gb, 0, none⟩)] W (SibPost W base gi ge gb i v n xs (sibs m t i))) :
    Calls Tryd.prog 69 #[.agg #[.int .i64 (f : Int), .int .i64 (t : Int)], .pointer (some ⟨gi, 0, none⟩), .pointer (some ⟨ge, 0, none⟩), .pointer (some ⟨gb, 0, none⟩)] w (SibPost w base gi ge gb i v n xs (sibs f t i)) := by
  have hs := sibs_right f t i h (by omega) (by rw [← hm]; exact hi)
  rw [← hm] at hs
  rw [hs] at hn ⊢
  rw [List.length_append, List.length_singleton] at hn
  have IH := Lib.hid ih
  have hhv := Lib.hid (fun W : World => halves_any f t W h ht)
  rw [← hm] at hhv
  have b1 : 2 ≤ (t : Int) - f := by omega
  have b2 : (t : Int) ≤ 9223372036854775807 := by omega
  have b3 : 0 ≤ (f : Int) := by omega
  have b4 : (m : Int) ≤ (i : Int) := by omega
  clear ih h ht hi hs hm
  have hb1 := below_alloc1 w (.cells #[.int .i64 (f : Int), .int .i64 (t : Int)] 72)
  go_enter Tryd.func69, Tryd.ntmps69
  go_wp2_with fail
  refine (hhv.out _).mono ?_
  rintro e w2 ⟨rfl, hB2⟩
  have hb2 := hb1.trans (hB2.mono hb1.size)
  clear hb1 hB2 hhv
  obtain ⟨W3, hW3⟩ : ∃ W3 : World, W3 = (w2.alloc (.cells #[.int .i64 (m : Int), .int .i64 (t : Int)] 72)).alloc (.cells #[.int .i64 (f : Int), .int .i64 (m : Int)] 72) := ⟨_, rfl⟩
  have hB3 : Below w.heap.size w W3 := by rw [hW3]; exact (hb2.alloc hb2.size _).alloc (by have := hb2.size; simp; omega) _
  have hW' := hW.below hB3
  have hB3p : Below w.heap.size w ((w2.alloc (.cells #[.int .i64 (f : Int), .int .i64 (m : Int)] 72)).alloc (.cells #[.int .i64 (m : Int), .int .i64 (t : Int)] 72)) := (hb2.alloc hb2.size _).alloc (by have := hb2.size; simp; omega) _
  have hgi := (hW.below hB3p).i.cell 0
  have hge := hW'.en.cell 0
  have hz : w.heap.size ≤ w2.heap.size := hb2.size
  have ho3 : HB W3 (w2.heap.size + 1) 72 [.int .i64 (f : Int), .int .i64 (m : Int)] := by
    have e : (w2.alloc (.cells #[.int .i64 (m : Int), .int .i64 (t : Int)] 72)).heap.size = w2.heap.size + 1 := by simp
    rw [hW3, ← e]; exact HB.new _ _ _
  have hcall := Lib.hid (IH.out W3 hW')
  rw [hW3] at hge
  simp only [List.getElem?_cons_zero] at hgi hge
  have HW := Lib.hid hW
  have HW' := Lib.hid hW'
  have HB3 := Lib.hid hB3
  have HO3 := Lib.hid ho3
  have H3 := Lib.hid hW3
  have Hn := Lib.hid hn
  rw [hW3] at hcall
  clear hW hW' hB3 hB3p ho3 hb2 hn hW3
  go_wp2_with fail
  refine hcall.out.mono ?_
  rintro e w4 ⟨rfl, v', hS', hF, hM⟩
  rw [← H3.out] at hF hM
  have hgb := HW.out.gb_
  have hba := HW.out.base_
  have ho4 := hF.keep HO3.out (by omega) (fun e => by have := (HW.out.row _ e.symm).2; omega)
  have hv4 := hS'.bs.cell 0
  have hc0 := ho4.cell 0
  have hc1 := ho4.cell 1
  simp only [List.getElem?_cons_zero, List.getElem?_cons_succ] at hv4 hc0 hc1
  have hown := hS'.own
  have hbn := hS'.base_
  obtain ⟨i0, hi0, hz0, hz1, hz2⟩ := info_parts Tryd.infoSpan
  have HS' := Lib.hid hS'
  have HF := Lib.hid hF
  have HM := Lib.hid hM
  clear hS' hF hM ho4 hcall IH hgi hge
  go_wp2_with (at_builtin; refine wpList_append_own_at _ rfl (.tmp 27) (.tmp 29) 69 rfl base 72 i0 (.agg #[.int .i64 0, .int .i64 0]) 2 16 Tryd.underlying69 hi0 hz0 hz1 hz2 rfl (by decide) v' (n + (sibs m t i).length) _ rfl (hown.alloc _) ⟨w4.heap.size, 0, none⟩ 1 1 [.int .i64 (f : Int), .int .i64 (m : Int)] rfl rfl ?c1 ?c2 ?c3 ?c4 ?c5 ?_)
  case c1 =>
    intro j u hu
    rw [add_at, boxed]; simpa using hu
  case c2 => intro u hu; simp at hu; rcases hu with rfl | rfl <;> rfl
  case c3 => have := Hn.out; unfold maxLen; omega
  case c4 => have := Hn.out; omega
  case c5 => simp; omega
  intro v'' w5 hown5 hg5 _ hat5
  have hfin := Lib.hid (sib_end (p := (f, m)) HB3.out HS'.out HF.out HM.out hown5 hg5 hat5)
  have hb5 : HB w5 gb 69 [v'] := (HS'.out.bs.alloc _).grown hg5 (fun e => by have := (HS'.out.row gb e.symm).1; omega)
  have hcb := hb5.cell 0
  have hfb := hb5.frozen 0
  simp only [List.getElem?_cons_zero] at hcb
  obtain ⟨A5, c5, rfl, -⟩ := own_slice hown5
  clear hown5 hg5 hat5 hb5 hown hv4 hc0 hc1
  go_wp2
  go_end0
  exact hfin.out
theorem sib_rec (base gi ge gb i : Nat) (v : Value) (n : Nat) (xs : List Value) : ∀ (d f t : Nat), t - f = d → f ≤ i → i < t → t < 9223372036854775808 → n + (sibs f t i).length ≤ 1099511627776 → ∀ w : World, SibW w base gi ge gb i v n xs →
    Calls Tryd.prog 69 #[.agg #[.int .i64 (f : Int), .int .i64 (t : Int)], .pointer (some ⟨gi, 0, none⟩), .pointer (some ⟨ge, 0, none⟩), .pointer (some ⟨gb, 0, none⟩)] w (SibPost w base gi ge gb i v n xs (sibs f t i)) := by
  intro d
  induction d using Nat.strongRecOn with
  | ind d ih =>
    intro f t hd hf hi ht hn w hW
    rcases Nat.lt_or_ge d 2 with h2 | h2
    · exact sib_rec1 f t (by omega) w base gi ge gb i v n xs hW
    · obtain ⟨k1, k2, -⟩ := half_spec (t - f) (by omega) (by omega)
      rcases Nat.lt_or_ge i (f + half (t - f)) with hlt | hge
      · have hl := sibs_left f t i (by omega) (by omega) hlt
        have hn' : n + (sibs f (f + half (t - f)) i).length ≤ 1099511627776 := by rw [hl, List.length_append] at hn; omega
        exact sib_left f t _ (by omega) ht rfl i hlt base gi ge gb n v xs hn w hW (ih (f + half (t - f) - f) (by omega) f (f + half (t - f)) rfl hf hlt (by omega) hn')
      · have hl := sibs_right f t i (by omega) (by omega) hge
        have hn' : n + (sibs (f + half (t - f)) t i).length ≤ 1099511627776 := by rw [hl, List.length_append] at hn; omega
        exact sib_right f t _ (by omega) ht rfl i hge base gi ge gb n v xs hn w hW (ih (t - (f + half (t - f))) (by omega) (f + half (t - f)) t rfl hge hi ht hn')
end Go.Proofs.YtdjbaigfpmibnaaDoor
