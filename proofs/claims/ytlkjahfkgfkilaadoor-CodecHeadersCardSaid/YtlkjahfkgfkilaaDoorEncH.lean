/- codec.Header and wapentakeref02.Header. -/
import Derived.Test.YtlkjahfkgfkilaaDoorEnc
namespace Go.Proofs.YtlkjahfkgfkilaaDoor
open Go.RowKit

def headerR : Rel := strR [numR .i64, numR .i64, numR .i64, numR .i64, digR, digR, digR, numR .i64]

set_option maxRecDepth 20000 in
set_option maxHeartbeats 4000000 in
theorem header_writes : WritesS Tryd.prog 6 headerR := by
  rintro w p cs b ⟨ps, h, rfl⟩ hB hb
  obtain ⟨_, _, b0, _, rfl, rfl, h0, _, _, b1, _, rfl, rfl, h1, _, _, b2, _, rfl, rfl, h2, _, _, b3, _, rfl, rfl, h3, _, _, b4, _, rfl, rfl, h4, _, _, b5, _, rfl, rfl, h5, _, _, b6, _, rfl, rfl, h6, _, _, b7, _, rfl, rfl, h7, rfl, rfl⟩ := h
  obtain ⟨n0, x0, rfl, rfl, hx0⟩ := numR_open (.inl rfl) h0
  obtain ⟨n1, x1, rfl, rfl, hx1⟩ := numR_open (.inl rfl) h1
  obtain ⟨n2, x2, rfl, rfl, hx2⟩ := numR_open (.inl rfl) h2
  obtain ⟨n3, x3, rfl, rfl, hx3⟩ := numR_open (.inl rfl) h3
  obtain ⟨hl4, rfl⟩ := h4
  obtain ⟨hl5, rfl⟩ := h5
  obtain ⟨hl6, rfl⟩ := h6
  obtain ⟨n7, x7, rfl, rfl, hx7⟩ := numR_open (.inl rfl) h7
  clear h0 h1 h2 h3 h7
  generalize hcs : ([Value.int IntKind.i64 x0] ++ ([Value.int IntKind.i64 x1] ++ ([Value.int IntKind.i64 x2] ++ ([Value.int IntKind.i64 x3] ++ (bys b4 ++ (bys b5 ++ (bys b6 ++ ([Value.int IntKind.i64 x7] ++ [])))))))) = cs
  have a0 := At.of hcs
  have a1 := a0.next 1 1 rfl rfl
  have a2 := a1.next 1 2 rfl rfl
  have a3 := a2.next 1 3 rfl rfl
  have a4 := a3.next 1 4 rfl rfl
  have a5 := a4.next 32 36 (by rw [bys_len, hl4]) rfl
  have a6 := a5.next 32 68 (by rw [bys_len, hl5]) rfl
  have a7 := a6.next 32 100 (by rw [bys_len, hl6]) rfl
  have hc0 := a0.one
  have hc1 := a1.one
  have hc2 := a2.one
  have hc3 := a3.one
  have hs4 := a4.bytes
  have hs5 := a5.bytes
  have hs6 := a6.bytes
  have hc7 := a7.one
  clear a0 a1 a2 a3 a4 a5 a6 a7
  have hS : ∀ a : World, Below (w.alloc (.cells cs.toArray 25)).heap.size (w.alloc (.cells cs.toArray 25)) a → Below (w.alloc (.cells cs.toArray 25)).heap.size (w.alloc (.cells cs.toArray 25)) a ∧ a.cell? ⟨w.heap.size, 0, none⟩ = some (.int .i64 x0) ∧ a.cell? ⟨w.heap.size, 1, none⟩ = some (.int .i64 x1) ∧ a.cell? ⟨w.heap.size, 2, none⟩ = some (.int .i64 x2) ∧ a.cell? ⟨w.heap.size, 3, none⟩ = some (.int .i64 x3) ∧ a.cell? ⟨w.heap.size, 100, none⟩ = some (.int .i64 x7) := fun a h =>
    ⟨h, (box_reads h 0).trans hc0, (box_reads h 1).trans hc1, (box_reads h 2).trans hc2, (box_reads h 3).trans hc3, (box_reads h 100).trans hc7⟩
  have hK0 := hS (w.alloc (.cells cs.toArray 25)).drew (Below.drew (Below.refl _ _))
  have hKL : ∀ a b : World, (Below (w.alloc (.cells cs.toArray 25)).heap.size (w.alloc (.cells cs.toArray 25)) a ∧ a.cell? ⟨w.heap.size, 0, none⟩ = some (.int .i64 x0) ∧ a.cell? ⟨w.heap.size, 1, none⟩ = some (.int .i64 x1) ∧ a.cell? ⟨w.heap.size, 2, none⟩ = some (.int .i64 x2) ∧ a.cell? ⟨w.heap.size, 3, none⟩ = some (.int .i64 x3) ∧ a.cell? ⟨w.heap.size, 100, none⟩ = some (.int .i64 x7)) → Below a.heap.size a b → Below (w.alloc (.cells cs.toArray 25)).heap.size (w.alloc (.cells cs.toArray 25)) b ∧ b.cell? ⟨w.heap.size, 0, none⟩ = some (.int .i64 x0) ∧ b.cell? ⟨w.heap.size, 1, none⟩ = some (.int .i64 x1) ∧ b.cell? ⟨w.heap.size, 2, none⟩ = some (.int .i64 x2) ∧ b.cell? ⟨w.heap.size, 3, none⟩ = some (.int .i64 x3) ∧ b.cell? ⟨w.heap.size, 100, none⟩ = some (.int .i64 x7) := fun a b h hb => hS b (h.1.trans (hb.mono h.1.size))
  have hKA : ∀ (a : World) (o : Obj), (Below (w.alloc (.cells cs.toArray 25)).heap.size (w.alloc (.cells cs.toArray 25)) a ∧ a.cell? ⟨w.heap.size, 0, none⟩ = some (.int .i64 x0) ∧ a.cell? ⟨w.heap.size, 1, none⟩ = some (.int .i64 x1) ∧ a.cell? ⟨w.heap.size, 2, none⟩ = some (.int .i64 x2) ∧ a.cell? ⟨w.heap.size, 3, none⟩ = some (.int .i64 x3) ∧ a.cell? ⟨w.heap.size, 100, none⟩ = some (.int .i64 x7)) → Below (w.alloc (.cells cs.toArray 25)).heap.size (w.alloc (.cells cs.toArray 25)) (a.alloc o) ∧ (a.alloc o).cell? ⟨w.heap.size, 0, none⟩ = some (.int .i64 x0) ∧ (a.alloc o).cell? ⟨w.heap.size, 1, none⟩ = some (.int .i64 x1) ∧ (a.alloc o).cell? ⟨w.heap.size, 2, none⟩ = some (.int .i64 x2) ∧ (a.alloc o).cell? ⟨w.heap.size, 3, none⟩ = some (.int .i64 x3) ∧ (a.alloc o).cell? ⟨w.heap.size, 100, none⟩ = some (.int .i64 x7) := fun a o h => hS _ (h.1.alloc h.1.size o)
  have hbs := build_8
  have acc := (Acc.start (w.alloc (.cells cs.toArray 25))).drew
  have hbx := fun (wk : World) (h : Below (w.alloc (.cells cs.toArray 25)).heap.size (w.alloc (.cells cs.toArray 25)) wk) => box_reads h
  have hst : Below w.heap.size w (w.alloc (.cells cs.toArray 25)) := (Below.refl _ _).alloc (Nat.le_refl _) _
  have Hb := Lib.hid hb
  clear hcs hb hB hc0 hc1 hc2 hc3 hc7
  go_enter Tryd.func6, Tryd.ntmps6
  go_wp2_with fail
  go_region_held3 (fun w' => Below (w.alloc (.cells cs.toArray 25)).heap.size (w.alloc (.cells cs.toArray 25)) w' ∧ w'.cell? ⟨w.heap.size, 0, none⟩ = some (.int .i64 x0) ∧ w'.cell? ⟨w.heap.size, 1, none⟩ = some (.int .i64 x1) ∧ w'.cell? ⟨w.heap.size, 2, none⟩ = some (.int .i64 x2) ∧ w'.cell? ⟨w.heap.size, 3, none⟩ = some (.int .i64 x3) ∧ w'.cell? ⟨w.heap.size, 100, none⟩ = some (.int .i64 x7))
    (first | exact hK0 | exact hKA _ _ (by assumption) | exact hKL _ _ (by assumption) hB)
    (first
      | (go_at_call 12; refine (number_int_any _ _ (by assumption) _).mono ?_; rintro e w' ⟨v', rfl, hown, hB⟩; obtain ⟨A', c', rfl, acc⟩ := own_slot acc hown hB; clear hown)
      | (go_at_call 13; refine (number_i64_any _ _ (by assumption) _).mono ?_; rintro e w' ⟨v', rfl, hown, hB⟩; obtain ⟨A', c', rfl, acc⟩ := own_slot acc hown hB; clear hown)
      | (go_at_call 11; refine (join_built _ _ [_, _, _, _, _, _, _, _] [b8 n0, b8 n1, b8 n2, b8 n3, b4, b5, b6, b8 n7] (Lists.cons (acc.lists.slot 0 rfl rfl) (Lists.cons (acc.lists.slot 1 rfl rfl) (Lists.cons (acc.lists.slot 2 rfl rfl) (Lists.cons (acc.lists.slot 3 rfl rfl) (Lists.cons (slot_boxed hl4 (by omega) (Nat.lt_of_lt_of_le (by simp) acc.below.size) (hbx _ acc.below) hs4) (Lists.cons (slot_boxed hl5 (by omega) (Nat.lt_of_lt_of_le (by simp) acc.below.size) (hbx _ acc.below) hs5) (Lists.cons (slot_boxed hl6 (by omega) (Nat.lt_of_lt_of_le (by simp) acc.below.size) (hbx _ acc.below) hs6) (Lists.cons (acc.lists.slot 4 rfl rfl) (Lists.nothing _ _))))))))) Hb.out).mono ?_; rintro e w' ⟨v', rfl, hown, hB⟩))
  go_wp2
  go_ret
  exact ⟨_, rfl, wrote_end hst acc hown hB⟩

set_option maxRecDepth 20000 in
set_option maxHeartbeats 4000000 in
theorem rheader_writes : WritesS Tryd.prog 9 headerR := by
  rintro w p cs b ⟨ps, h, rfl⟩ hB hb
  obtain ⟨_, _, b0, _, rfl, rfl, h0, _, _, b1, _, rfl, rfl, h1, _, _, b2, _, rfl, rfl, h2, _, _, b3, _, rfl, rfl, h3, _, _, b4, _, rfl, rfl, h4, _, _, b5, _, rfl, rfl, h5, _, _, b6, _, rfl, rfl, h6, _, _, b7, _, rfl, rfl, h7, rfl, rfl⟩ := h
  obtain ⟨n0, x0, rfl, rfl, hx0⟩ := numR_open (.inl rfl) h0
  obtain ⟨n1, x1, rfl, rfl, hx1⟩ := numR_open (.inl rfl) h1
  obtain ⟨n2, x2, rfl, rfl, hx2⟩ := numR_open (.inl rfl) h2
  obtain ⟨n3, x3, rfl, rfl, hx3⟩ := numR_open (.inl rfl) h3
  obtain ⟨hl4, rfl⟩ := h4
  obtain ⟨hl5, rfl⟩ := h5
  obtain ⟨hl6, rfl⟩ := h6
  obtain ⟨n7, x7, rfl, rfl, hx7⟩ := numR_open (.inl rfl) h7
  clear h0 h1 h2 h3 h7
  generalize hcs : ([Value.int IntKind.i64 x0] ++ ([Value.int IntKind.i64 x1] ++ ([Value.int IntKind.i64 x2] ++ ([Value.int IntKind.i64 x3] ++ (bys b4 ++ (bys b5 ++ (bys b6 ++ ([Value.int IntKind.i64 x7] ++ [])))))))) = cs
  have a0 := At.of hcs
  have a1 := a0.next 1 1 rfl rfl
  have a2 := a1.next 1 2 rfl rfl
  have a3 := a2.next 1 3 rfl rfl
  have a4 := a3.next 1 4 rfl rfl
  have a5 := a4.next 32 36 (by rw [bys_len, hl4]) rfl
  have a6 := a5.next 32 68 (by rw [bys_len, hl5]) rfl
  have a7 := a6.next 32 100 (by rw [bys_len, hl6]) rfl
  have hc0 := a0.one
  have hc1 := a1.one
  have hc2 := a2.one
  have hc3 := a3.one
  have hs4 := a4.bytes
  have hs5 := a5.bytes
  have hs6 := a6.bytes
  have hc7 := a7.one
  clear a0 a1 a2 a3 a4 a5 a6 a7
  have hS : ∀ a : World, Below (w.alloc (.cells cs.toArray 25)).heap.size (w.alloc (.cells cs.toArray 25)) a → Below (w.alloc (.cells cs.toArray 25)).heap.size (w.alloc (.cells cs.toArray 25)) a ∧ a.cell? ⟨w.heap.size, 0, none⟩ = some (.int .i64 x0) ∧ a.cell? ⟨w.heap.size, 1, none⟩ = some (.int .i64 x1) ∧ a.cell? ⟨w.heap.size, 2, none⟩ = some (.int .i64 x2) ∧ a.cell? ⟨w.heap.size, 3, none⟩ = some (.int .i64 x3) ∧ a.cell? ⟨w.heap.size, 100, none⟩ = some (.int .i64 x7) := fun a h =>
    ⟨h, (box_reads h 0).trans hc0, (box_reads h 1).trans hc1, (box_reads h 2).trans hc2, (box_reads h 3).trans hc3, (box_reads h 100).trans hc7⟩
  have hK0 := hS (w.alloc (.cells cs.toArray 25)).drew (Below.drew (Below.refl _ _))
  have hKL : ∀ a b : World, (Below (w.alloc (.cells cs.toArray 25)).heap.size (w.alloc (.cells cs.toArray 25)) a ∧ a.cell? ⟨w.heap.size, 0, none⟩ = some (.int .i64 x0) ∧ a.cell? ⟨w.heap.size, 1, none⟩ = some (.int .i64 x1) ∧ a.cell? ⟨w.heap.size, 2, none⟩ = some (.int .i64 x2) ∧ a.cell? ⟨w.heap.size, 3, none⟩ = some (.int .i64 x3) ∧ a.cell? ⟨w.heap.size, 100, none⟩ = some (.int .i64 x7)) → Below a.heap.size a b → Below (w.alloc (.cells cs.toArray 25)).heap.size (w.alloc (.cells cs.toArray 25)) b ∧ b.cell? ⟨w.heap.size, 0, none⟩ = some (.int .i64 x0) ∧ b.cell? ⟨w.heap.size, 1, none⟩ = some (.int .i64 x1) ∧ b.cell? ⟨w.heap.size, 2, none⟩ = some (.int .i64 x2) ∧ b.cell? ⟨w.heap.size, 3, none⟩ = some (.int .i64 x3) ∧ b.cell? ⟨w.heap.size, 100, none⟩ = some (.int .i64 x7) := fun a b h hb => hS b (h.1.trans (hb.mono h.1.size))
  have hKA : ∀ (a : World) (o : Obj), (Below (w.alloc (.cells cs.toArray 25)).heap.size (w.alloc (.cells cs.toArray 25)) a ∧ a.cell? ⟨w.heap.size, 0, none⟩ = some (.int .i64 x0) ∧ a.cell? ⟨w.heap.size, 1, none⟩ = some (.int .i64 x1) ∧ a.cell? ⟨w.heap.size, 2, none⟩ = some (.int .i64 x2) ∧ a.cell? ⟨w.heap.size, 3, none⟩ = some (.int .i64 x3) ∧ a.cell? ⟨w.heap.size, 100, none⟩ = some (.int .i64 x7)) → Below (w.alloc (.cells cs.toArray 25)).heap.size (w.alloc (.cells cs.toArray 25)) (a.alloc o) ∧ (a.alloc o).cell? ⟨w.heap.size, 0, none⟩ = some (.int .i64 x0) ∧ (a.alloc o).cell? ⟨w.heap.size, 1, none⟩ = some (.int .i64 x1) ∧ (a.alloc o).cell? ⟨w.heap.size, 2, none⟩ = some (.int .i64 x2) ∧ (a.alloc o).cell? ⟨w.heap.size, 3, none⟩ = some (.int .i64 x3) ∧ (a.alloc o).cell? ⟨w.heap.size, 100, none⟩ = some (.int .i64 x7) := fun a o h => hS _ (h.1.alloc h.1.size o)
  have hbs := build_8
  have acc := (Acc.start (w.alloc (.cells cs.toArray 25))).drew
  have hbx := fun (wk : World) (h : Below (w.alloc (.cells cs.toArray 25)).heap.size (w.alloc (.cells cs.toArray 25)) wk) => box_reads h
  have hst : Below w.heap.size w (w.alloc (.cells cs.toArray 25)) := (Below.refl _ _).alloc (Nat.le_refl _) _
  have Hb := Lib.hid hb
  clear hcs hb hB hc0 hc1 hc2 hc3 hc7
  go_enter Tryd.func9, Tryd.ntmps9
  go_wp2_with fail
  go_region_held3 (fun w' => Below (w.alloc (.cells cs.toArray 25)).heap.size (w.alloc (.cells cs.toArray 25)) w' ∧ w'.cell? ⟨w.heap.size, 0, none⟩ = some (.int .i64 x0) ∧ w'.cell? ⟨w.heap.size, 1, none⟩ = some (.int .i64 x1) ∧ w'.cell? ⟨w.heap.size, 2, none⟩ = some (.int .i64 x2) ∧ w'.cell? ⟨w.heap.size, 3, none⟩ = some (.int .i64 x3) ∧ w'.cell? ⟨w.heap.size, 100, none⟩ = some (.int .i64 x7))
    (first | exact hK0 | exact hKA _ _ (by assumption) | exact hKL _ _ (by assumption) hB)
    (first
      | (go_at_call 20; refine (rnum_wrap _ _ (by assumption) _).mono ?_; rintro e w' ⟨v', rfl, hown, hB⟩; obtain ⟨A', c', rfl, acc⟩ := own_slot acc hown hB; clear hown)
      | (go_at_call 19; refine (rjoin_built _ _ [_, _, _, _, _, _, _, _] [b8 n0, b8 n1, b8 n2, b8 n3, b4, b5, b6, b8 n7] (Lists.cons (acc.lists.slot 0 rfl rfl) (Lists.cons (acc.lists.slot 1 rfl rfl) (Lists.cons (acc.lists.slot 2 rfl rfl) (Lists.cons (acc.lists.slot 3 rfl rfl) (Lists.cons (slot_boxed hl4 (by omega) (Nat.lt_of_lt_of_le (by simp) acc.below.size) (hbx _ acc.below) hs4) (Lists.cons (slot_boxed hl5 (by omega) (Nat.lt_of_lt_of_le (by simp) acc.below.size) (hbx _ acc.below) hs5) (Lists.cons (slot_boxed hl6 (by omega) (Nat.lt_of_lt_of_le (by simp) acc.below.size) (hbx _ acc.below) hs6) (Lists.cons (acc.lists.slot 4 rfl rfl) (Lists.nothing _ _))))))))) Hb.out).mono ?_; rintro e w' ⟨v', rfl, hown, hB⟩))
  go_wp2
  go_ret
  exact ⟨_, rfl, wrote_end hst acc hown hB⟩
end Go.Proofs.YtlkjahfkgfkilaaDoor
