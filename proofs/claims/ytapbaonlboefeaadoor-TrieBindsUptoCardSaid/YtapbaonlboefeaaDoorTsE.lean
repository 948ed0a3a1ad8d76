/- trie: where preimages stands between two rounds. -/
import Derived.Test.YtapbaonlboefeaaDoorTsC
namespace Go.Proofs.YtapbaonlboefeaaDoor
open Go.RowKit

def stepP (key T : List UInt8) (st : List UInt8 × List (List UInt8)) (x : Nat) : List UInt8 × List (List UInt8) :=
  (brT (kbit key x) (shaF st.1) (sibAt T x), st.2.set x (brT (kbit key x) (shaF st.1) (sibAt T x)))
def foldP (key T : List UInt8) (E : List Ent) (D : Nat) (pre : List (Fin D)) : List UInt8 × List (List UInt8) :=
  pre.foldl (fun st x => stepP key T st x.val) (endF E, (List.replicate (D + 1) []).set D (endF E))
theorem foldP_snoc (key T : List UInt8) (E : List Ent) (D : Nat) (pre : List (Fin D)) (x : Fin D) : foldP key T E D (pre ++ [x]) = stepP key T (foldP key T E D pre) x.val := by simp [foldP]
theorem foldP_len (key T : List UInt8) (E : List Ent) (D : Nat) (pre : List (Fin D)) : (foldP key T E D pre).2.length = D + 1 := by
  unfold foldP
  generalize hs : (endF E, (List.replicate (D + 1) []).set D (endF E)) = s
  have h0 : s.2.length = D + 1 := by rw [← hs]; simp
  clear hs
  induction pre generalizing s with
  | nil => exact h0
  | cons x r ih => exact ih _ (by simp [stepP, h0])
theorem brT_len {n : Nat} {a b : List UInt8} (ha : a.length = 32) (hb : b.length = 32) : (brT n a b).length = 102 := by
  unfold brT
  split
  · exact tBranch_len _ _ hb ha
  · exact tBranch_len _ _ ha hb
theorem foldP_short (key T : List UInt8) (E : List Ent) (D : Nat) (hT : T.length = D * 32) (he : (endF E).length ≤ 1152921504606846974) (pre : List (Fin D)) : (foldP key T E D pre).1.length ≤ 1152921504606846974 := by
  rcases List.eq_nil_or_concat pre with rfl | ⟨r, x, rfl⟩
  · exact he
  · rw [List.concat_eq_append, foldP_snoc]
    show (brT _ _ _).length ≤ _
    rw [brT_len (shaF_len _) (sibAt_len (by have := x.isLt; omega))]
    omega
/-- Between two rounds: the variables, the preimage that came last, the row. -/
structure PreI (w : World) (key : List UInt8) (D g5 g6 gp : Nat) (st : List UInt8 × List (List UInt8)) (W : World) : Prop where
  bits : HB W g5 95 (bys key)
  var : HB W (gp + 1) 69 [.slice (some ⟨gp, 0, none⟩) (D + 1) (D + 1)]
  inn : ∃ A c, HB W g6 31 [.slice A st.1.length c] ∧ Slot W W.heap.size (.slice A st.1.length c) st.1
  row : ∃ vs, HB W gp 31 vs ∧ vs.length = D + 1 ∧ Lists W W.heap.size vs st.2
  low : Below w.heap.size w W
section
variable {w : World} {key : List UInt8} {D g5 g6 gp : Nat} {st : List UInt8 × List (List UInt8)} {W W' : World} {row : Option Nat}
theorem hb_kept {g : Nat} {t : TypeId} {cs : List Value} (h : HB W g t cs) (hg : W.grownBy W' row) (hr : ∀ r, row = some r → ∃ o : Obj, W.heap[r]? = some o ∧ o.isCells = false) : HB W' g t cs := h.grown hg (fun e => by
  obtain ⟨o, h1, h2⟩ := hr g e.symm
  rw [show W.heap[g]? = _ from h] at h1
  cases h1
  cases h2)
theorem Sees.kept {B n size : Nat} {A : Option Addr} {xs : List Value} (h : Sees W B size A n xs) (hg : W.grownBy W' row) (hr : ∀ r, row = some r → ∃ o : Obj, W.heap[r]? = some o ∧ o.isCells = false) : Sees W' B size A n xs := by
  refine ⟨h.1, h.2.imp id ?_⟩
  rintro ⟨ad, e, hb, hx⟩
  exact ⟨ad, e, hb, fun j u hu => cell_kept (hx j u hu) hg hr⟩
theorem PreI.kept (h : PreI w key D g5 g6 gp st W) (hg : W.grownBy W' row) (hr : ∀ r, row = some r → w.heap.size ≤ r ∧ ∃ o : Obj, W.heap[r]? = some o ∧ o.isCells = false) : PreI w key D g5 g6 gp st W' := by
  have hr' := fun r e => (hr r e).2
  obtain ⟨A, c, h1, A', c', h2, h3, h4, h5⟩ := h.inn
  obtain ⟨vs, k1, k2, k3⟩ := h.row
  refine ⟨hb_kept h.bits hg hr', hb_kept h.var hg hr', ⟨A, c, hb_kept h1 hg hr', A', c', h2, h3, h4, (h5.kept hg hr').wide hg.size⟩, ⟨vs, hb_kept k1 hg hr', k2, k3.1, fun i l hl => ?_⟩, h.low.grown hg h.low.size (fun g e => (hr g e).1)⟩
  obtain ⟨A, c, q1, q2, q3, q4⟩ := k3.2 i l hl
  exact ⟨A, c, q1, q2, q3, (q4.kept hg hr').wide hg.size⟩
theorem lists_nils (W : World) (B n : Nat) : Lists W B (List.replicate n (.slice none 0 0)) (List.replicate n []) := by
  refine ⟨by simp, fun i l hl => ?_⟩
  obtain ⟨h1, h2⟩ := List.getElem?_eq_some_iff.1 hl
  simp at h1 h2
  subst h2
  exact ⟨none, 0, by simp [h1], Nat.le_refl _, by decide, Sees.nothing _ _ _ _⟩
theorem Lists.set_ {B : Nat} {vs : List Value} {ls : List (List UInt8)} (h : Lists W B vs ls) (i : Nat) {A : Option Addr} {c : Nat} {l : List UInt8} (hs : Slot W B (.slice A l.length c) l) : Lists W B (vs.set i (.slice A l.length c)) (ls.set i l) := by
  obtain ⟨A', c', h1, h2, h3, h4⟩ := hs
  cases h1
  refine ⟨by simp [h.1], fun j x hx => ?_⟩
  by_cases e : i = j
  · subst e
    obtain ⟨q1, q2⟩ := List.getElem?_eq_some_iff.1 hx
    simp at q1 q2
    subst q2
    exact ⟨A, c, by simp [h.1, q1], h2, h3, h4⟩
  · rw [List.getElem?_set_ne e] at hx ⊢
    exact h.2 j x hx
theorem Slot.grown {B : Nat} {v : Value} {l : List UInt8} (h : Slot W B v l) (hg : W.grownBy W' row) (hB : B ≤ W.heap.size) (hr : ∀ g, row = some g → B ≤ g) : Slot W' B v l := by
  obtain ⟨A, c, h1, h2, h3, h4⟩ := h
  exact ⟨A, c, h1, h2, h3, h4.grown hg hB hr⟩
/-- A cell that is no number is written: bytes lie. -/
theorem Sees.store {B n : Nat} {A : Option Addr} {l : List UInt8} (h : Sees W B 1 A n (bys l)) {p : Addr} {u : Value} (hp : W.cell? p = some u) (hu : ∀ k z, u ≠ .int k z) (v : Value) : Sees (W.setCell p v) B 1 A n (bys l) := by
  refine ⟨h.1, h.2.imp id ?_⟩
  rintro ⟨ad, e, hb, hx⟩
  refine ⟨ad, e, hb, fun j x hj => ?_⟩
  rw [← hx j x hj]
  refine World.cell?_setCell_other W p _ v (fun e2 => ?_)
  have q := hx j x hj
  rw [bys_get] at hj
  obtain ⟨b, -, rfl⟩ := Option.map_eq_some_iff.1 hj
  first
    | (rw [e2, hp] at q; injection q with q; exact hu _ _ q)
    | (rw [← e2, hp] at q; injection q with q; exact hu _ _ q)
theorem Slot.store {B : Nat} {x : Value} {l : List UInt8} (h : Slot W B x l) {p : Addr} {u : Value} (hp : W.cell? p = some u) (hu : ∀ k z, u ≠ .int k z) (v : Value) : Slot (W.setCell p v) B x l := by
  obtain ⟨A, c, h1, h2, h3, h4⟩ := h
  exact ⟨A, c, h1, h2, h3, h4.store hp hu v⟩
theorem Lists.store {B : Nat} {vs : List Value} {ls : List (List UInt8)} (h : Lists W B vs ls) {p : Addr} {u : Value} (hp : W.cell? p = some u) (hu : ∀ k z, u ≠ .int k z) (v : Value) : Lists (W.setCell p v) B vs ls := ⟨h.1, fun i l hl => by
  obtain ⟨A, c, h1, h2, h3, h4⟩ := h.2 i l hl
  exact ⟨A, c, h1, h2, h3, h4.store hp hu v⟩⟩
theorem keeps_of_below {B : Nat} (hb : Below W.heap.size W W') : KeepsFrom B W W' := ⟨hb.size, fun k _o _ hk _ho => (hb.block k (Array.getElem?_eq_some_iff.1 hk).1).trans hk⟩
theorem PreI.below (h : PreI w key D g5 g6 gp st W) (hb : Below W.heap.size W W') : PreI w key D g5 g6 gp st W' := by
  obtain ⟨A, c, h1, A', c', h2, h3, h4, h5⟩ := h.inn
  obtain ⟨vs, k1, k2, k3⟩ := h.row
  exact ⟨h.bits.below hb h.bits.lt, h.var.below hb h.var.lt, ⟨A, c, h1.below hb h1.lt, A', c', h2, h3, h4, (h5.below hb).wide hb.size⟩, ⟨vs, k1.below hb k1.lt, k2, (k3.below hb).wide hb.size⟩, h.low.trans (hb.mono h.low.size)⟩
end
end Go.Proofs.YtapbaonlboefeaaDoor
