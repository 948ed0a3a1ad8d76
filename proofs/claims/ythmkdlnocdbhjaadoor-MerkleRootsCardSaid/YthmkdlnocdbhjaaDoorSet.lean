/- A row stored cell by cell. -/
import Derived.Test.YthmkdlnocdbhjaaDoorBlk
import Derived.Deep.MidRow
namespace Go.Proofs.YthmkdlnocdbhjaaDoor
open Go.RowKit

theorem below_setCells {B b : Nat} (hb : B ≤ b) {a : World} : ∀ (l : List Value) (o : Nat) (w : World), Below B a w → Below B a (w.setCells b o l)
  | [], _, _, h => h
  | _ :: l, _, _, h => below_setCells hb l _ _ (h.setCell hb _)
theorem setCells_size {b : Nat} : ∀ (l : List Value) (o : Nat) (w : World), (w.setCells b o l).heap.size = w.heap.size
  | [], _, _ => rfl
  | v :: l, o, w => by rw [World.setCells, setCells_size l]; simp [World.setCell]
theorem alloc_setCells (w : World) (t : TypeId) : ∀ (l pre Z : List Value), Z.length = l.length → (w.alloc (.cells (pre ++ Z).toArray t)).setCells w.heap.size pre.length l = w.alloc (.cells (pre ++ l).toArray t)
  | [], pre, Z, h => by rw [List.eq_nil_of_length_eq_zero h]; rfl
  | v :: l, pre, [], h => by simp at h
  | v :: l, pre, z :: Z, h => by
    have e : (pre ++ z :: Z).toArray.setIfInBounds pre.length v = ((pre ++ [v]) ++ Z).toArray := by simp
    have h2 := alloc_setCells w t l (pre ++ [v]) Z (by simpa using h)
    rw [World.setCells, World.setCell_alloc_new, e]
    simp only [List.length_append, List.length_cons, List.length_nil, Nat.zero_add] at h2
    rw [h2]
    simp
theorem there_hb {w : World} {g n : Nat} {t : TypeId} {Z : List Value} (h : HB w g t Z) (hn : n ≤ Z.length) : w.there g 0 n := fun j hj => by
  refine ⟨?_, h.frozen _⟩
  rw [Nat.zero_add, h.cell]
  simp
  omega
theorem hb_setCells {g : Nat} {t : TypeId} : ∀ (l : List Value) (o : Nat) (w : World) (Z : List Value), HB w g t Z → o + l.length = Z.length → HB (w.setCells g o l) g t (Z.take o ++ l)
  | [], o, w, Z, h, hl => by rw [List.append_nil, List.take_of_length_le (by simp at hl; omega)]; exact h
  | v :: l, o, w, Z, h, hl => by
    have h2 := hb_setCells l (o + 1) _ _ (h.set_ o v) (by simp at hl ⊢; omega)
    have e : (Z.set o v).take (o + 1) ++ l = Z.take o ++ v :: l := by
      have ho : o < Z.length := by simp at hl; omega
      rw [List.set_eq_take_append_cons_drop, if_pos ho, List.take_append, List.take_of_length_le (by simp; omega)]
      simp [Nat.min_eq_left (Nat.le_of_lt ho)]
    rw [e] at h2
    exact h2
theorem there_new (w : World) (t : TypeId) (Z : List Value) (n : Nat) (hn : n ≤ Z.length) : (w.alloc (.cells Z.toArray t)).there w.heap.size 0 n := fun j hj => by
  have h : (w.alloc (.cells Z.toArray t)).heap[w.heap.size]? = some (.cells Z.toArray t) := heap_alloc_new w _
  refine ⟨?_, frozen_of_row _ _ _ _ _ h⟩
  rw [Nat.zero_add, cell_of_row _ _ j _ t (0, 0) h]
  simp
  omega
end Go.Proofs.YthmkdlnocdbhjaaDoor
