/- codec.Record. -/
import Derived.Test.YtlkjahfkgfkilaaDoorEnc
namespace Go.Proofs.YtlkjahfkgfkilaaDoor
open Go.RowKit

abbrev numsR : Rel := lstR 1 (numR .i64)
def recordR : Rel := strR [numR .i64, numsR, lstR 1 numsR]
theorem seats_writes (W : World) (p : Nat → Prop) (v : Value) (b : List UInt8) (h : lstR 1 numsR W p [v] b) (hB : ∀ k, p k → k < W.heap.size) (hb : b.length ≤ 1099511627776) :
    Calls Tryd.prog 15 #[v, .func (.func 14) #[] #[]] W (Wrote W b) := by
  obtain ⟨A, c, xs, ps, hv, h1, h2, h3, h4, rfl⟩ := h
  injection hv with hv
  subst hv
  have eg := Go.Proofs.enters_of Tryd.func14 (by kernel_rfl) rfl
  exact list_ints_any numsR (lstR_kept (numR_kept _)) 14 eg numbers_writes p A c xs ps W h3 h4 hB hb

set_option maxRecDepth 20000 in
set_option maxHeartbeats 4000000 in
theorem record_writes : WritesS Tryd.prog 7 recordR := by
  rintro w p cs b ⟨ps, h, rfl⟩ hB hb
  obtain ⟨_, _, b0, _, rfl, rfl, h0, c1, _, b1, _, rfl, rfl, h1, c2, _, b2, _, rfl, rfl, h2, rfl, rfl⟩ := h
  obtain ⟨n0, x0, rfl, rfl, hx0⟩ := numR_open (.inl rfl) h0
  obtain ⟨v1, e1⟩ : ∃ v, c1 = [v] := by obtain ⟨A, c, xs, ps, h1, _⟩ := h1; exact ⟨_, h1⟩
  subst e1
  obtain ⟨v2, e2⟩ : ∃ v, c2 = [v] := by obtain ⟨A, c, xs, ps, h1, _⟩ := h2; exact ⟨_, h1⟩
  subst e2
  clear h0
  generalize hcs : ([Value.int IntKind.i64 x0] ++ ([v1] ++ ([v2] ++ []))) = cs
  have a0 := At.of hcs
  have a1 := a0.next 1 1 rfl rfl
  have a2 := a1.next 1 2 rfl rfl
  have hc0 := a0.one
  have hc1 := a1.one
  have hc2 := a2.one
  clear a0 a1 a2
  have hS : ∀ a : World, Below (w.alloc (.cells cs.toArray 35)).heap.size (w.alloc (.cells cs.toArray 35)) a → Below (w.alloc (.cells cs.toArray 35)).heap.size (w.alloc (.cells cs.toArray 35)) a ∧ a.cell? ⟨w.heap.size, 0, none⟩ = some (.int .i64 x0) ∧ a.cell? ⟨w.heap.size, 1, none⟩ = some v1 ∧ a.cell? ⟨w.heap.size, 2, none⟩ = some v2 := fun a h =>
    ⟨h, (box_reads h 0).trans hc0, (box_reads h 1).trans hc1, (box_reads h 2).trans hc2⟩
  have hK0 := hS (w.alloc (.cells cs.toArray 35)).drew (Below.drew (Below.refl _ _))
  have hKL : ∀ a b : World, (Below (w.alloc (.cells cs.toArray 35)).heap.size (w.alloc (.cells cs.toArray 35)) a ∧ a.cell? ⟨w.heap.size, 0, none⟩ = some (.int .i64 x0) ∧ a.cell? ⟨w.heap.size, 1, none⟩ = some v1 ∧ a.cell? ⟨w.heap.size, 2, none⟩ = some v2) → Below a.heap.size a b → Below (w.alloc (.cells cs.toArray 35)).heap.size (w.alloc (.cells cs.toArray 35)) b ∧ b.cell? ⟨w.heap.size, 0, none⟩ = some (.int .i64 x0) ∧ b.cell? ⟨w.heap.size, 1, none⟩ = some v1 ∧ b.cell? ⟨w.heap.size, 2, none⟩ = some v2 := fun a b h hb => hS b (h.1.trans (hb.mono h.1.size))
  have hKA : ∀ (a : World) (o : Obj), (Below (w.alloc (.cells cs.toArray 35)).heap.size (w.alloc (.cells cs.toArray 35)) a ∧ a.cell? ⟨w.heap.size, 0, none⟩ = some (.int .i64 x0) ∧ a.cell? ⟨w.heap.size, 1, none⟩ = some v1 ∧ a.cell? ⟨w.heap.size, 2, none⟩ = some v2) → Below (w.alloc (.cells cs.toArray 35)).heap.size (w.alloc (.cells cs.toArray 35)) (a.alloc o) ∧ (a.alloc o).cell? ⟨w.heap.size, 0, none⟩ = some (.int .i64 x0) ∧ (a.alloc o).cell? ⟨w.heap.size, 1, none⟩ = some v1 ∧ (a.alloc o).cell? ⟨w.heap.size, 2, none⟩ = some v2 := fun a o h => hS _ (h.1.alloc h.1.size o)
  have hbs := build_3
  have acc := (Acc.start (w.alloc (.cells cs.toArray 35))).drew
  have hbx := fun (wk : World) (h : Below (w.alloc (.cells cs.toArray 35)).heap.size (w.alloc (.cells cs.toArray 35)) wk) => box_reads h
  have hst : Below w.heap.size w (w.alloc (.cells cs.toArray 35)) := (Below.refl _ _).alloc (Nat.le_refl _) _
  have Hb := Lib.hid hb
  have Hp1 : (b1).length ≤ 1099511627776 := Nat.le_trans (part_le (ps := [b8 n0, b1, b2]) (k := 1) (by simp)) hb
  have Hc1 : ∀ wk : World, Below (w.alloc (.cells cs.toArray 35)).heap.size (w.alloc (.cells cs.toArray 35)) wk → Calls Tryd.prog 14 #[v1] wk (Wrote wk b1) := fun wk h => numbers_writes wk p v1 b1 ((lstR_kept (numR_kept _)) _ _ _ _ _ _ h1 (Same.of_below (hst.trans (h.mono hst.size)) hB) (fun _ h => h)) (fun k hk => Nat.lt_of_lt_of_le (hB k hk) (hst.trans (h.mono hst.size)).size) Hp1
  have Hp2 : (b2).length ≤ 1099511627776 := Nat.le_trans (part_le (ps := [b8 n0, b1, b2]) (k := 2) (by simp)) hb
  have Hc2 : ∀ wk : World, Below (w.alloc (.cells cs.toArray 35)).heap.size (w.alloc (.cells cs.toArray 35)) wk → Calls Tryd.prog 15 #[v2, .func (.func 14) #[] #[]] wk (Wrote wk b2) := fun wk h => seats_writes wk p v2 b2 ((lstR_kept (lstR_kept (numR_kept _))) _ _ _ _ _ _ h2 (Same.of_below (hst.trans (h.mono hst.size)) hB) (fun _ h => h)) (fun k hk => Nat.lt_of_lt_of_le (hB k hk) (hst.trans (h.mono hst.size)).size) Hp2
  clear hcs hb hB hc0 hc1 hc2
  go_enter Tryd.func7, Tryd.ntmps7
  go_wp2_with fail
  go_region_held3 (fun w' => Below (w.alloc (.cells cs.toArray 35)).heap.size (w.alloc (.cells cs.toArray 35)) w' ∧ w'.cell? ⟨w.heap.size, 0, none⟩ = some (.int .i64 x0) ∧ w'.cell? ⟨w.heap.size, 1, none⟩ = some v1 ∧ w'.cell? ⟨w.heap.size, 2, none⟩ = some v2)
    (first | exact hK0 | exact hKA _ _ (by assumption) | exact hKL _ _ (by assumption) hB)
    (first
      | (go_at_call 12; refine (number_int_any _ _ (by assumption) _).mono ?_; rintro e w' ⟨v', rfl, hown, hB⟩; obtain ⟨A', c', rfl, acc⟩ := own_slot acc hown hB; clear hown)
      | (go_at_call 14; refine (Hc1 _ acc.below).mono ?_; rintro e w' ⟨v', rfl, hown, hB⟩; obtain ⟨A', c', rfl, acc⟩ := own_slot acc hown hB; clear hown)
      | (go_at_call 15; refine (Hc2 _ acc.below).mono ?_; rintro e w' ⟨v', rfl, hown, hB⟩; obtain ⟨A', c', rfl, acc⟩ := own_slot acc hown hB; clear hown)
      | (go_at_call 11; refine (join_built _ _ [_, _, _] [b8 n0, b1, b2] (Lists.cons (acc.lists.slot 0 rfl rfl) (Lists.cons (acc.lists.slot 1 rfl rfl) (Lists.cons (acc.lists.slot 2 rfl rfl) (Lists.nothing _ _)))) Hb.out).mono ?_; rintro e w' ⟨v', rfl, hown, hB⟩))
  go_wp2
  go_ret
  exact ⟨_, rfl, wrote_end hst acc hown hB⟩
end Go.Proofs.YtlkjahfkgfkilaaDoor
