/- merkle.siblings. -/
import Derived.Test.YtdjbaigfpmibnaaDoorMkT
namespace Go.Proofs.YtdjbaigfpmibnaaDoor
open Go.RowKit

set_option maxRecDepth 20000 in
set_option maxHeartbeats 3200000 in
theorem siblings_any (n i : Nat) (hi : i < n) (hn : n < 9223372036854775808) (w : World) :
    Calls Tryd.prog 40 #[.int .i64 (n : Int), .int .i64 (i : Int)] w fun e w' => ∃ v', e = .returned v' ∧ w'.ownsRow w.heap.size 72 2 v' (sibs 0 n i).length (spanCells (sibs 0 n i)) ∧ Below w.heap.size w w' := by
  have hmf : ∀ (fn : Fn) (first cap : Array Value) (w : World), (Instr.makeFunc fn first cap).run Tryd.prog w = .ok (.func fn first cap) w := fun _ _ _ _ => rfl
  have hfew := sibs_few i 63 0 n (by omega) (by omega)
  obtain ⟨W1, hW1⟩ : ∃ W1 : World, W1 = w.alloc (.cells #[.int .i64 (i : Int)] 3) := ⟨_, rfl⟩
  obtain ⟨W2, hW2⟩ : ∃ W2 : World, W2 = W1.alloc (.cells #[.slice none 0 0] 69) := ⟨_, rfl⟩
  obtain ⟨W3, hW3⟩ : ∃ W3 : World, W3 = W2.alloc (.cells #[.func (.func 69) #[] #[.pointer (some ⟨w.heap.size, 0, none⟩), .pointer (some ⟨w.heap.size + 2, 0, none⟩), .pointer (some ⟨w.heap.size + 1, 0, none⟩)]] 113) := ⟨_, rfl⟩
  have z1 : W1.heap.size = w.heap.size + 1 := by rw [hW1]; simp
  have z2 : W2.heap.size = w.heap.size + 2 := by rw [hW2]; simp; omega
  have z3 : W3.heap.size = w.heap.size + 3 := by rw [hW3]; simp; omega
  have B1 : Below w.heap.size w W1 := by rw [hW1]; exact below_alloc1 _ _
  have B2 : Below w.heap.size w W2 := by rw [hW2]; exact B1.alloc B1.size _
  have B3 : Below w.heap.size w W3 := by rw [hW3]; exact B2.alloc B2.size _
  have i1 : HB W1 w.heap.size 3 [.int .i64 (i : Int)] := by rw [hW1]; exact HB.new w _ _
  have i3 : HB W3 w.heap.size 3 [.int .i64 (i : Int)] := by rw [hW3]; refine HB.alloc ?_ _; rw [hW2]; exact i1.alloc _
  have b2 : HB W2 (w.heap.size + 1) 69 [.slice none 0 0] := by rw [hW2, ← z1]; exact HB.new W1 _ _
  have b3 : HB W3 (w.heap.size + 1) 69 [.slice none 0 0] := by rw [hW3]; exact b2.alloc _
  have e3 : HB W3 (w.heap.size + 2) 113 [.func (.func 69) #[] #[.pointer (some ⟨w.heap.size, 0, none⟩), .pointer (some ⟨w.heap.size + 2, 0, none⟩), .pointer (some ⟨w.heap.size + 1, 0, none⟩)]] := by
    have h := HB.new W2 113 [.func (.func 69) #[] #[.pointer (some ⟨w.heap.size, 0, none⟩), .pointer (some ⟨w.heap.size + 2, 0, none⟩), .pointer (some ⟨w.heap.size + 1, 0, none⟩)]]
    rw [z2] at h
    rw [hW3]; exact h
  have hS : SibW W3 (w.heap.size + 3) w.heap.size (w.heap.size + 2) (w.heap.size + 1) i (.slice none 0 0) 0 [] := ⟨i3, e3, b3, World.ownsRow_nil _ _ _ _, by omega, by omega, by omega, by omega⟩
  have hrec := sib_rec (w.heap.size + 3) w.heap.size (w.heap.size + 2) (w.heap.size + 1) i (.slice none 0 0) 0 [] n 0 n (by omega) (by omega) hi hn (by omega) W3 hS
  have B3' := B3
  rw [hW3, hW2, hW1] at hrec B3
  have hrec := Lib.hid hrec
  have HB3 := Lib.hid B3
  have hn0 : 0 ≤ (n : Int) := by omega
  clear hS e3 b3 b2 i3 i1 B1 B2 B3 B3' z1 z2 z3 hW3 hW2 hW1 hfew
  go_enter Tryd.func40, Tryd.ntmps40
  go_wp2_with fail
  refine hrec.out.mono ?_
  rintro e w4 ⟨rfl, v', hS', hF, -⟩
  have hv := hS'.bs.cell 0
  simp only [List.getElem?_cons_zero] at hv
  have hown := own_wide hS'.own (show w.heap.size ≤ w.heap.size + 3 by omega)
  have hB4 : Below w.heap.size w w4 := HB3.out.trans ⟨hF.os, hF.tape, hF.output, hF.size, fun k hk => hF.block k (Nat.lt_of_lt_of_le hk HB3.out.size) (by omega) (by simp [Value.ownBlock])⟩
  rw [Nat.zero_add, List.nil_append] at hown
  obtain ⟨A5, c5, rfl, -⟩ := own_slice hown
  have HO := Lib.hid hown
  have HB4 := Lib.hid hB4
  clear hS' hF hown hB4 hrec
  go_wp2
  go_ret
  exact ⟨_, rfl, HO.out, HB4.out⟩
end Go.Proofs.YtdjbaigfpmibnaaDoor
