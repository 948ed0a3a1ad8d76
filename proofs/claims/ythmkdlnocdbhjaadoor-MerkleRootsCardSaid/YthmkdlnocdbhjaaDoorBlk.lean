/- A block that is known whole. -/
import Derived.Test.YthmkdlnocdbhjaaDoorShaJ
import Derived.Laws.Tables
namespace Go.Proofs.YthmkdlnocdbhjaaDoor
open Go.RowKit

def HB (w : World) (g : Nat) (t : TypeId) (cs : List Value) : Prop := w.heap[g]? = some (.cells cs.toArray t (0, 0))
section
variable {w w' : World} {g : Nat} {t : TypeId} {cs : List Value}
theorem HB.lt (h : HB w g t cs) : g < w.heap.size := lt_of_heap h
theorem HB.cell (h : HB w g t cs) (i : Nat) : w.cell? ⟨g, i, none⟩ = cs[i]? := by rw [cell_of_row w g i _ t (0, 0) h]; simp
theorem HB.frozen (h : HB w g t cs) (i : Nat) : w.frozen? ⟨g, i, none⟩ = false := frozen_of_row w g i _ t h
theorem HB.new (w : World) (t : TypeId) (cs : List Value) : HB (w.alloc (.cells cs.toArray t)) w.heap.size t cs := heap_alloc_new w _
theorem HB.drewN (h : HB w g t cs) (k : Nat) : HB (w.drewN k) g t cs := h
theorem HB.drew (h : HB w g t cs) : HB w.drew g t cs := h
theorem HB.alloc (h : HB w g t cs) (o : Obj) : HB (w.alloc o) g t cs := (heap_alloc_old w o h.lt).trans h
theorem HB.set_ (h : HB w g t cs) (i : Nat) (v : Value) : HB (w.setCell ⟨g, i, none⟩ v) g t (cs.set i v) := by
  unfold HB at h ⊢
  rw [heap_setCell_same w g i _ t v h]
  simp
theorem HB.far (h : HB w g t cs) {p : Addr} (hp : g ≠ p.block) (v : Value) : HB (w.setCell p v) g t cs := (heap_setCell_other w p g v hp).trans h
theorem HB.keep (h : HB w g t cs) (hw : w'.heap[g]? = w.heap[g]?) : HB w' g t cs := hw.trans h
theorem HB.below {B : Nat} (h : HB w g t cs) (hb : Below B w w') (hg : g < B) : HB w' g t cs := h.keep (hb.block g hg)
theorem HB.grown {r : Option Nat} (h : HB w g t cs) (hb : w.grownBy w' r) (hg : some g ≠ r) : HB w' g t cs := h.keep (hb.block g h.lt hg)
theorem HB.row (h : HB w g t cs) (cs' : Array Value) : HB (w.setRow g cs') g t cs'.toList := by
  unfold HB
  rw [setRow_heap w g _ cs' t (0, 0) h]
theorem HB.sees {o n : Nat} {xs : List Value} (h : HB w g t cs) (B : Nat) (hB : g < B) (hl : xs.length = n) (hx : ∀ j u, xs[j]? = some u → cs[o + j]? = some u) : Sees w B 1 (some ⟨g, o, none⟩) n xs := by
  refine ⟨by omega, .inr ⟨_, rfl, hB, fun j u hu => ?_⟩⟩
  have e : (⟨g, o, none⟩ : Addr).add j = ⟨g, o + j, none⟩ := by
    rcases Nat.eq_zero_or_pos j with h0 | h0
    · subst h0; rw [add_zero]; rfl
    · rw [add_pos _ _ h0]
  rw [e, h.cell]
  exact hx j u hu
end
theorem Below.setRow_ {B : Nat} {a w : World} (h : Below B a w) {g : Nat} (hg : B ≤ g) (cs : Array Value) : Below B a (w.setRow g cs) :=
  h.trans ⟨rfl, rfl, rfl, by simp, fun k hk => by simp only [World.setRow, Array.getElem?_modify]; rw [if_neg (by omega)]⟩
end Go.Proofs.YthmkdlnocdbhjaaDoor
