/- Variables that a drawn region allocates and stores into: whatever the order, each in a block of its own. -/
import Derived.Test.YtapbaonlboefeaaDoorKp
import Derived.Test.YtapbaonlboefeaaDoorIny
namespace Go.Proofs.YtapbaonlboefeaaDoor
open Go.RowKit

/-- A pointer to a variable. -/
abbrev ptrV (g : Nat) : Value := .pointer (some ⟨g, 0, none⟩)
/-- Block b is none of these variables'. -/
def ApartV (b : Nat) (Ns : List Value) : Prop := ∀ N ∈ Ns, ∀ g', N = ptrV g' → b ≠ g'
theorem ptrV_inj {g g' : Nat} (h : ptrV g = ptrV g') : g = g' := by
  simpa [ptrV] using h
/-- A variable's block was laid: what lies is apart from it. -/
theorem ApartV.up {b s : Nat} {Ns Ns' : List Value} (h : ApartV b Ns) (hb : b < s) (hN : ∀ N ∈ Ns', N ∈ Ns ∨ N = ptrV s) : ApartV b Ns' := fun N hm g' e => by
  rcases hN N hm with q | q
  · exact h N q g' e
  · rw [q] at e
    have := ptrV_inj e
    omega
/-- A variable of type t. -/
def VarN (G : Nat) (w : World) (v : Value) (t : TypeId) (P : List Value → Prop) (Ns : List Value) : Prop := ∃ g cs, v = ptrV g ∧ G ≤ g ∧ HB w g t cs ∧ P cs ∧ ApartV g Ns
/-- Bytes that a call made. -/
def SlotN (G : Nat) (w : World) (v : Value) (l : List UInt8) (Ns : List Value) : Prop := ∃ A c, v = .slice A l.length c ∧ l.length ≤ c ∧ c ≤ 9223372036854775807 ∧ Sees w w.heap.size 1 A l.length (bys l) ∧ ∀ ad : Addr, A = some ad → G ≤ ad.block ∧ (0 < l.length → ad.block < w.heap.size → ApartV ad.block Ns)
/-- A variable is laid. -/
def AlT (v : Value) (w w' : World) : Prop := v = ptrV w.heap.size ∧ ∃ o, w' = w.alloc o
/-- A variable is written. -/
def StT (G : Nat) (v : Value) (t : TypeId) (l : List Value) (w w' : World) : Prop := ∃ g cs, v = ptrV g ∧ G ≤ g ∧ HB w g t cs ∧ l.length = cs.length ∧ w' = w.setCells g 0 l
section
variable {G : Nat} {w w' : World} {v v' : Value} {t t' : TypeId} {P P' : List Value → Prop} {Ns Ns' : List Value} {l : List Value} {b : List UInt8}
theorem VarN.imp (h : VarN G w v t P Ns) (hP : ∀ cs, P cs → P' cs) : VarN G w v t P' Ns := by
  obtain ⟨g, cs, h1, h2, h3, h4, h5⟩ := h
  exact ⟨g, cs, h1, h2, h3, hP cs h4, h5⟩
theorem VarN.lt {g : Nat} (h : VarN G w (ptrV g) t P Ns) : g < w.heap.size := by
  obtain ⟨g', cs, h1, -, h3, -⟩ := h
  rw [ptrV_inj h1]; exact h3.lt
theorem VarN.below (h : VarN G w v t P Ns) (hb : Below w.heap.size w w') : VarN G w' v t P Ns := by
  obtain ⟨g, cs, h1, h2, h3, h4, h5⟩ := h
  exact ⟨g, cs, h1, h2, h3.below hb h3.lt, h4, h5⟩
theorem VarN.alloc (h : VarN G w v t P Ns) (ha : AlT v' w w') (hN : ∀ N ∈ Ns', N ∈ Ns ∨ N = v') : VarN G w' v t P Ns' := by
  obtain ⟨g, cs, h1, h2, h3, h4, h5⟩ := h
  obtain ⟨rfl, o, rfl⟩ := ha
  exact ⟨g, cs, h1, h2, h3.alloc o, h4, h5.up h3.lt hN⟩
/-- Another one is written. -/
theorem VarN.other (h : VarN G w v t P Ns) (hs : StT G v' t' l w w') (hv : v' ∈ Ns) : VarN G w' v t P Ns := by
  obtain ⟨g, cs, h1, h2, h3, h4, h5⟩ := h
  obtain ⟨g', cs', k1, -, -, -, rfl⟩ := hs
  exact ⟨g, cs, h1, h2, HB.keep h3 (heap_setCells_other (h5 v' hv g' k1) l 0 w), h4, h5⟩
/-- It is written itself. -/
theorem VarN.self (h : VarN G w v t P Ns) (hs : StT G v t' l w w') (hP : P' l) : VarN G w' v t P' Ns := by
  obtain ⟨g, cs, h1, h2, h3, h4, h5⟩ := h
  obtain ⟨g', cs', k1, -, k3, k4, rfl⟩ := hs
  obtain rfl := ptrV_inj (h1.symm.trans k1)
  have hcs : cs' = cs := by
    have q := (show w.heap[g]? = _ from k3).symm.trans (show w.heap[g]? = _ from h3)
    injection q with q
    injection q with q1 _ _
    simpa using q1
  subst hcs
  exact ⟨g, l, h1, h2, hb_setAll h3 l k4, hP, h5⟩
theorem VarN.new (hG : G ≤ w.heap.size) (cs : List Value) (hP : P cs) (hN : ∀ N ∈ Ns, N = undef ∨ ∃ g t Q M, N = ptrV g ∧ VarN G w (ptrV g) t Q M) : VarN G (w.alloc (.cells cs.toArray t)) (ptrV w.heap.size) t P Ns :=
  ⟨_, cs, rfl, hG, HB.new w t cs, hP, fun N hm g' e => by
    rcases hN N hm with q | ⟨g, t, Q, M, q1, q2⟩
    · rw [q] at e; simp [undef, ptrV] at e
    · rw [q1] at e
      have := ptrV_inj e
      have := q2.lt
      omega⟩
theorem vu_of (h : v = undef ∨ VarN G w v t P Ns) : v = undef ∨ ∃ g t Q M, v = ptrV g ∧ VarN G w (ptrV g) t Q M := by
  rcases h with q | q
  · exact .inl q
  · have q' := q
    obtain ⟨g, cs, e, -⟩ := q'
    subst e
    exact .inr ⟨g, _, _, _, rfl, q⟩
theorem SlotN.slot (h : SlotN G w v b Ns) : Slot w w.heap.size v b := by
  obtain ⟨A, c, h1, h2, h3, h4, -⟩ := h
  exact ⟨A, c, h1, h2, h3, h4⟩
theorem SlotN.below (h : SlotN G w v b Ns) (hb : Below w.heap.size w w') : SlotN G w' v b Ns := by
  obtain ⟨A, c, h1, h2, h3, h4, h5⟩ := h
  refine ⟨A, c, h1, h2, h3, (h4.below hb).wide hb.size, fun ad e => ⟨(h5 ad e).1, fun hp _ => (h5 ad e).2 hp ?_⟩⟩
  obtain ⟨ad', e', hb', -⟩ := h4.some_ hp
  rw [e] at e'; cases e'; exact hb'
theorem SlotN.alloc (h : SlotN G w v b Ns) (ha : AlT v' w w') (hN : ∀ N ∈ Ns', N ∈ Ns ∨ N = v') : SlotN G w' v b Ns' := by
  obtain ⟨A, c, h1, h2, h3, h4, h5⟩ := h
  obtain ⟨rfl, o, rfl⟩ := ha
  refine ⟨A, c, h1, h2, h3, (h4.alloc (Nat.le_refl _) o).wide (by simp), fun ad e => ⟨(h5 ad e).1, fun hp _ => ?_⟩⟩
  obtain ⟨ad', e', hb', -⟩ := h4.some_ hp
  rw [e] at e'; cases e'
  exact ((h5 ad e).2 hp hb').up hb' hN
theorem SlotN.other (h : SlotN G w v b Ns) (hs : StT G v' t' l w w') (hv : v' ∈ Ns) : SlotN G w' v b Ns := by
  obtain ⟨A, c, h1, h2, h3, h4, h5⟩ := h
  obtain ⟨g', cs', k1, -, k3, -, rfl⟩ := hs
  have hsz : (w.setCells g' 0 l).heap.size = w.heap.size := setCells_size l 0 w
  refine ⟨A, c, h1, h2, h3, ?_, fun ad e => ⟨(h5 ad e).1, fun hp hl => (h5 ad e).2 hp (by rw [hsz] at hl; exact hl)⟩⟩
  obtain ⟨q1, q2⟩ := h4
  refine ⟨q1, ?_⟩
  rcases Nat.eq_zero_or_pos b.length with h0 | hp
  · exact .inl h0
  · rcases q2 with q2 | ⟨ad, rfl, q3, q4⟩
    · exact .inl q2
    · refine .inr ⟨ad, rfl, by rw [hsz]; exact q3, fun j u hu => ?_⟩
      rw [← q4 j u hu]
      refine World.cell?_of_block ?_
      rw [add_block]
      exact heap_setCells_other ((h5 ad rfl).2 hp q3 v' hv g' k1) l 0 w
theorem SlotN.wrote (h : SlotK (· < w.heap.size) w' v b) (hG : G ≤ w.heap.size) (hN : ∀ N ∈ Ns, N = undef ∨ ∃ g t Q M, N = ptrV g ∧ VarN G w (ptrV g) t Q M) : SlotN G w' v b Ns := by
  obtain ⟨A, c, h1, h2, h3, h4, h5⟩ := h
  refine ⟨A, c, h1, h2, h3, h4, fun ad e => ⟨by have := h5 ad e; omega, fun _ _ N hm g' e' => ?_⟩⟩
  have hge := h5 ad e
  rcases hN N hm with q | ⟨g, t, Q, M, q1, q2⟩
  · rw [q] at e'; simp [undef, ptrV] at e'
  · rw [q1] at e'
    have := ptrV_inj e'
    have := q2.lt
    omega
theorem StT.low (h : StT G v t l w w') : Below G w w' := by
  obtain ⟨g, cs, -, h2, -, -, rfl⟩ := h
  exact (Keep.setCells (S := fun _ => True) (B := G) trivial h2 l 0 w).low
theorem AlT.low (h : AlT v w w') (hG : G ≤ w.heap.size) : Below G w w' := by
  obtain ⟨-, o, rfl⟩ := h
  exact (below_alloc1 w o).mono hG
end
end Go.Proofs.YtapbaonlboefeaaDoor
