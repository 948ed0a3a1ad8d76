/- codec.list at elements of one cell: the joined encoding of what the function value writes of each. -/
import Derived.Test.YtlkjahfkgfkilaaDoorNum
import Derived.Test.YtlkjahfkgfkilaaDoorShaJ
namespace Go.Proofs.YtlkjahfkgfkilaaDoor
open Go.RowKit

theorem Tryd.infoSlice : (Tryd.prog.info? 28).map (fun i => (i.zero, i.size, i.bytes)) = some (some (.slice none 0 0), 1, 24) := by kernel_rfl
/-- A function value of one argument that writes each thing so. -/
def Writes (P : Program) (g : Nat) (R : Rel) : Prop := ∀ (W : World) (p : Nat → Prop) (v : Value) (b : List UInt8), R W p [v] b → (∀ k, p k → k < W.heap.size) → b.length ≤ 1099511627776 → Calls P g #[v] W (Wrote W b)
theorem Elems.one {R : Rel} {w : World} {p : Nat → Prop} {k : Nat} {xs : List Value} {ps : List (List UInt8)} (h : Elems 1 R w p xs ps) (hk : k < ps.length) : ∃ v, xs[k]? = some v ∧ R w p [v] (ps[k]'hk) := by
  have hl : k < xs.length := by have := h.1; omega
  refine ⟨xs[k], List.getElem?_eq_getElem hl, ?_⟩
  have h2 := h.2 k _ (List.getElem?_eq_getElem hk)
  have e : (xs.drop (k * 1)).take 1 = [xs[k]] := by
    rw [Nat.mul_one, List.drop_eq_getElem_cons hl]; rfl
  rw [e] at h2
  exact h2
theorem own_wide {w : World} {base base' : Nat} {e : TypeId} {size n : Nat} {v : Value} {xs : List Value} (h : w.ownsRow base e size v n xs) (hb : base' ≤ base) : w.ownsRow base' e size v n xs := by
  obtain ⟨h1, h2⟩ := h
  refine ⟨h1, h2.imp id ?_⟩
  rintro ⟨g, cap, cur, e1, e2, e3⟩
  exact ⟨g, cap, cur, e1, Nat.le_trans hb e2, e3⟩
theorem part_le {ps : List (List UInt8)} {k : Nat} (hk : k < ps.length) : (ps[k]'hk).length ≤ (joinF ps).length := by
  have h1 := sizeTo_step ps k hk
  have h2 := sizeTo_le ps (k + 1)
  omega

set_option maxRecDepth 20000 in
set_option maxHeartbeats 1600000 in
theorem list_int_any (R : Rel) (hR : Kept R) (g : Nat) (eg : ∀ args w, (callFunc g args).run Tryd.prog w = .ok (.enter g args) w) (hel : Writes Tryd.prog g R)
    (p : Nat → Prop) (A : Option Addr) (c : Nat) (xs : List Value) (ps : List (List UInt8)) (w : World) (hs : Lies w p 1 A ps.length xs) (hx : Elems 1 R w p xs ps) (hB : ∀ k, p k → k < w.heap.size) (hT : (joinF ps).length ≤ 1099511627776) :
    Calls Tryd.prog 25 #[.slice A ps.length c, .func (.func g) #[] #[]] w (Wrote w (joinF ps)) := by
  obtain ⟨i0, hi, hz0, hz1, hz2⟩ := info_parts Tryd.infoSlice
  have hn : ps.length ≤ 137438953472 := by have := partsOf_ge ps; rw [joinF_len] at hT; omega
  have hmk : ∀ W : World, (Instr.makeSlice 55 (.int .i64 0) (.int .i64 (ps.length : Int))).run Tryd.prog W = .ok (.slice (some ⟨W.heap.size, 0, none⟩) 0 ps.length) (W.alloc (.cells (madeCells #[.slice none 0 0] ps.length) 28)) := fun W => by
    have h := run_make_cap (P := Tryd.prog) W 55 28 i0 (.slice none 0 0) Tryd.underlying55 hi hz0 .i64 .i64 ps.length (by rw [hz2]; omega) (by omega)
    rw [hz1, Nat.mul_one] at h
    exact h
  have hel' := Lib.hid hel
  clear hel
  go_enter Tryd.func25, Tryd.ntmps25
  go_wp2
  go_loopw [5, 7, 13] (fun u _ i wr => ∃ (k : Nat) (vs : List Value), k ≤ ps.length ∧ i = .int .i64 (k : Int) ∧ wr.ownsRow w.heap.size 28 1 u k vs ∧ Lists wr wr.heap.size vs (ps.take k) ∧ Mine wr w.heap.size 5 vs ∧ Below w.heap.size w wr)
    (fun _ _ i _ => (ps.length - intOf i).toNat)
  case atStart => exact ⟨0, [], by omega, rfl, World.ownsRow_made w _ _ (Nat.le_refl _) (by unfold maxLen; omega) (by simp [madeCells]), Lists.nothing _ _, Mine.nothing _ _ _, (Below.refl _ _).alloc (Nat.le_refl _) _⟩
  case round =>
    obtain ⟨k, vs, hk, rfl, hown, hls, hmi, hBw⟩ := hrel
    rcases Nat.lt_or_ge k ps.length with hlt | hge
    · obtain ⟨ad, rfl, hab, hcell⟩ := (hs.sees hB).some_ (by omega)
      obtain ⟨v, hv, hRv⟩ := hx.one hlt
      have hS : Same w wr p := Same.of_below hBw hB
      have hc0 : wr.cell? (ad.add k) = some v := (hS _ (by rw [add_block]; exact hs.2.1 ad rfl)).trans (hcell k v hv)
      have hRv' := hR _ _ _ _ _ _ hRv hS (fun _ h => h)
      have hpl := part_le hlt
      have hcall := Lib.hid (hel'.out wr p v _ hRv' (fun k h => Nat.lt_of_lt_of_le (hB k h) hBw.size) (Nat.le_trans hpl hT))
      have hlt' : (k : Int) < (ps.length : Int) := by omega
      clear hv hRv hRv' hS hcell
      go_wp2_with fail
      refine hcall.out.mono ?_
      rintro e w1 ⟨v1, rfl, hown1, hB1⟩
      obtain ⟨A3, c3, rfl, hc3, hcm3, hmine3, hsee3⟩ := own_slice hown1
      have hown' := own_below hown hB1
      have hBw1 : Below w.heap.size w w1 := hBw.trans (hB1.mono hBw.size)
      have hls3 : Lists w1 w1.heap.size (vs ++ [.slice A3 (ps[k]'hlt).length c3]) (ps.take (k + 1)) := by
        rw [take_step ps k hlt]
        exact ((hls.below hB1).wide hB1.size).snoc hc3 hcm3 hsee3
      have hmi3 : Mine w1 w.heap.size 5 (vs ++ [.slice A3 (ps[k]'hlt).length c3]) := (hmi.below hB1).snoc fun ad e => ⟨Nat.le_trans hBw.size (hmine3 ad e).1, (hmine3 ad e).2⟩
      have hb1 := hBw1.size
      clear hown1 hB1 hmine3 hsee3 hown hls hmi hBw hcall hc0
      go_wp2_with (at_builtin; refine wpList_append_own_at _ rfl (.tmp 17) (.tmp 21) 55 rfl w.heap.size 28 i0 (.slice none 0 0) 1 24 Tryd.underlying55 hi hz0 hz1 hz2 rfl (by decide) u5 k vs rfl (hown'.alloc _) ⟨w1.heap.size, 0, none⟩ 1 1 [Value.slice A3 (ps[k]'hlt).length c3] rfl rfl (cell_one_new _ _ _) ?c2 ?c3 ?c4 ?c5 ?_)
      case c2 => intro u hu; simp at hu; subst hu; rfl
      case c3 => unfold maxLen; omega
      case c4 => omega
      case c5 => simp; omega
      intro v4 w4 hown4 hg4 _ hat4
      have hG : w1.grownBy w4 u5.ownBlock := (World.grownBy_alloc w1 _ _).trans hg4
      have hr4 : ∀ g, u5.ownBlock = some g → w.heap.size ≤ g := fun g hg => (hown'.lt g hg).1
      have hls4 := (hls3.grown hmi3 hG (own_type hown') (by decide)).wide hG.size
      have hmi4 := hmi3.grown hG (own_type hown') (by decide)
      have hB4 := hBw1.grown hG hBw1.size hr4
      clear hls3 hmi3 hG hg4 hat4 hBw1 hown' hr4
      go_wp2
      go_roundw
      case rel => exact ⟨k + 1, _, by omega, by go_num, hown4, hls4, hmi4, hB4⟩
      case measure => simp [intOf]; omega
    · obtain rfl : k = ps.length := by omega
      obtain ⟨A3, c3, rfl, hc3, hcm3, hmine3, hsee3⟩ := own_slice hown
      have hge' : ¬ (ps.length : Int) < (ps.length : Int) := by omega
      have hj := Lib.hid (join_any wr.heap.size A3 c3 vs ps wr hsee3 (by rw [List.take_length] at hls; exact hls) (Nat.le_refl _) (by omega))
      clear hls hmi hown hmine3 hsee3
      go_wp2_with fail
      refine hj.out.mono ?_
      rintro e w2 ⟨v2, rfl, hown2, hB2⟩
      go_wp2
      go_ret
      exact ⟨_, rfl, own_wide hown2 hBw.size, hBw.trans (hB2.mono hBw.size)⟩

set_option maxRecDepth 20000 in
set_option maxHeartbeats 1600000 in
theorem list_ints_any (R : Rel) (hR : Kept R) (g : Nat) (eg : ∀ args w, (callFunc g args).run Tryd.prog w = .ok (.enter g args) w) (hel : Writes Tryd.prog g R)
    (p : Nat → Prop) (A : Option Addr) (c : Nat) (xs : List Value) (ps : List (List UInt8)) (w : World) (hs : Lies w p 1 A ps.length xs) (hx : Elems 1 R w p xs ps) (hB : ∀ k, p k → k < w.heap.size) (hT : (joinF ps).length ≤ 1099511627776) :
    Calls Tryd.prog 15 #[.slice A ps.length c, .func (.func g) #[] #[]] w (Wrote w (joinF ps)) := by
  obtain ⟨i0, hi, hz0, hz1, hz2⟩ := info_parts Tryd.infoSlice
  have hn : ps.length ≤ 137438953472 := by have := partsOf_ge ps; rw [joinF_len] at hT; omega
  have hmk : ∀ W : World, (Instr.makeSlice 55 (.int .i64 0) (.int .i64 (ps.length : Int))).run Tryd.prog W = .ok (.slice (some ⟨W.heap.size, 0, none⟩) 0 ps.length) (W.alloc (.cells (madeCells #[.slice none 0 0] ps.length) 28)) := fun W => by
    have h := run_make_cap (P := Tryd.prog) W 55 28 i0 (.slice none 0 0) Tryd.underlying55 hi hz0 .i64 .i64 ps.length (by rw [hz2]; omega) (by omega)
    rw [hz1, Nat.mul_one] at h
    exact h
  have hel' := Lib.hid hel
  clear hel
  go_enter Tryd.func15, Tryd.ntmps15
  go_wp2
  go_loopw [5, 7, 13] (fun u _ i wr => ∃ (k : Nat) (vs : List Value), k ≤ ps.length ∧ i = .int .i64 (k : Int) ∧ wr.ownsRow w.heap.size 28 1 u k vs ∧ Lists wr wr.heap.size vs (ps.take k) ∧ Mine wr w.heap.size 5 vs ∧ Below w.heap.size w wr)
    (fun _ _ i _ => (ps.length - intOf i).toNat)
  case atStart => exact ⟨0, [], by omega, rfl, World.ownsRow_made w _ _ (Nat.le_refl _) (by unfold maxLen; omega) (by simp [madeCells]), Lists.nothing _ _, Mine.nothing _ _ _, (Below.refl _ _).alloc (Nat.le_refl _) _⟩
  case round =>
    obtain ⟨k, vs, hk, rfl, hown, hls, hmi, hBw⟩ := hrel
    rcases Nat.lt_or_ge k ps.length with hlt | hge
    · obtain ⟨ad, rfl, hab, hcell⟩ := (hs.sees hB).some_ (by omega)
      obtain ⟨v, hv, hRv⟩ := hx.one hlt
      have hS : Same w wr p := Same.of_below hBw hB
      have hc0 : wr.cell? (ad.add k) = some v := (hS _ (by rw [add_block]; exact hs.2.1 ad rfl)).trans (hcell k v hv)
      have hRv' := hR _ _ _ _ _ _ hRv hS (fun _ h => h)
      have hpl := part_le hlt
      have hcall := Lib.hid (hel'.out wr p v _ hRv' (fun k h => Nat.lt_of_lt_of_le (hB k h) hBw.size) (Nat.le_trans hpl hT))
      have hlt' : (k : Int) < (ps.length : Int) := by omega
      clear hv hRv hRv' hS hcell
      go_wp2_with fail
      refine hcall.out.mono ?_
      rintro e w1 ⟨v1, rfl, hown1, hB1⟩
      obtain ⟨A3, c3, rfl, hc3, hcm3, hmine3, hsee3⟩ := own_slice hown1
      have hown' := own_below hown hB1
      have hBw1 : Below w.heap.size w w1 := hBw.trans (hB1.mono hBw.size)
      have hls3 : Lists w1 w1.heap.size (vs ++ [.slice A3 (ps[k]'hlt).length c3]) (ps.take (k + 1)) := by
        rw [take_step ps k hlt]
        exact ((hls.below hB1).wide hB1.size).snoc hc3 hcm3 hsee3
      have hmi3 : Mine w1 w.heap.size 5 (vs ++ [.slice A3 (ps[k]'hlt).length c3]) := (hmi.below hB1).snoc fun ad e => ⟨Nat.le_trans hBw.size (hmine3 ad e).1, (hmine3 ad e).2⟩
      have hb1 := hBw1.size
      clear hown1 hB1 hmine3 hsee3 hown hls hmi hBw hcall hc0
      go_wp2_with (at_builtin; refine wpList_append_own_at _ rfl (.tmp 17) (.tmp 21) 55 rfl w.heap.size 28 i0 (.slice none 0 0) 1 24 Tryd.underlying55 hi hz0 hz1 hz2 rfl (by decide) u5 k vs rfl (hown'.alloc _) ⟨w1.heap.size, 0, none⟩ 1 1 [Value.slice A3 (ps[k]'hlt).length c3] rfl rfl (cell_one_new _ _ _) ?c2 ?c3 ?c4 ?c5 ?_)
      case c2 => intro u hu; simp at hu; subst hu; rfl
      case c3 => unfold maxLen; omega
      case c4 => omega
      case c5 => simp; omega
      intro v4 w4 hown4 hg4 _ hat4
      have hG : w1.grownBy w4 u5.ownBlock := (World.grownBy_alloc w1 _ _).trans hg4
      have hr4 : ∀ g, u5.ownBlock = some g → w.heap.size ≤ g := fun g hg => (hown'.lt g hg).1
      have hls4 := (hls3.grown hmi3 hG (own_type hown') (by decide)).wide hG.size
      have hmi4 := hmi3.grown hG (own_type hown') (by decide)
      have hB4 := hBw1.grown hG hBw1.size hr4
      clear hls3 hmi3 hG hg4 hat4 hBw1 hown' hr4
      go_wp2
      go_roundw
      case rel => exact ⟨k + 1, _, by omega, by go_num, hown4, hls4, hmi4, hB4⟩
      case measure => simp [intOf]; omega
    · obtain rfl : k = ps.length := by omega
      obtain ⟨A3, c3, rfl, hc3, hcm3, hmine3, hsee3⟩ := own_slice hown
      have hge' : ¬ (ps.length : Int) < (ps.length : Int) := by omega
      have hj := Lib.hid (join_any wr.heap.size A3 c3 vs ps wr hsee3 (by rw [List.take_length] at hls; exact hls) (Nat.le_refl _) (by omega))
      clear hls hmi hown hmine3 hsee3
      go_wp2_with fail
      refine hj.out.mono ?_
      rintro e w2 ⟨v2, rfl, hown2, hB2⟩
      go_wp2
      go_ret
      exact ⟨_, rfl, own_wide hown2 hBw.size, hBw.trans (hB2.mono hBw.size)⟩
end Go.Proofs.YtlkjahfkgfkilaaDoor
