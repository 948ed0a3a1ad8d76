/- Memory in a region that draws its order: what keeps, whatever comes up. -/
import Derived.Test.YtapbaonlboefeaaDoorLt
import Derived.Test.YtapbaonlboefeaaDoorInv
import Derived.Test.YtapbaonlboefeaaDoorSet
namespace Go.Proofs.YtapbaonlboefeaaDoor
open Go.RowKit

/-- Below B all is as it was; blocks of cells keep their cells, but for those of S. -/
structure Keep (B : Nat) (S : Nat → Prop) (w w' : World) : Prop where
  low : Below B w w'
  blk : ∀ b C t z, w.heap[b]? = some (.cells C t z) → ∃ C' z', w'.heap[b]? = some (.cells C' t z') ∧ C'.size = C.size ∧ (¬ S b → C' = C) ∧ (S b → z' = z)
theorem Keep.refl (B : Nat) (S : Nat → Prop) (w : World) : Keep B S w w := ⟨Below.refl _ _, fun _ C _ z h => ⟨C, z, h, rfl, fun _ => rfl, fun _ => rfl⟩⟩
section
variable {B : Nat} {S : Nat → Prop} {w w' w'' : World}
theorem Keep.trans (h : Keep B S w w') (k : Keep B S w' w'') : Keep B S w w'' := ⟨h.low.trans k.low, fun b C t z hb => by
  obtain ⟨C1, z1, h1, h2, h3, h4⟩ := h.blk b C t z hb
  obtain ⟨C2, z2, k1, k2, k3, k4⟩ := k.blk b C1 t z1 h1
  exact ⟨C2, z2, k1, k2.trans h2, fun hs => (k3 hs).trans (h3 hs), fun hs => (k4 hs).trans (h4 hs)⟩⟩
theorem Keep.size (h : Keep B S w w') : w.heap.size ≤ w'.heap.size := h.low.size
theorem Keep.of_below (h : Below w.heap.size w w') (hB : B ≤ w.heap.size) : Keep B S w w' :=
  ⟨h.mono hB, fun b C _ z hb => ⟨C, z, (h.block b (lt_of_heap hb)).trans hb, rfl, fun _ => rfl, fun _ => rfl⟩⟩
theorem Keep.alloc (hB : B ≤ w.heap.size) (o : Obj) : Keep B S w (w.alloc o) := .of_below (below_alloc1 w o) hB
theorem Keep.drew (hB : B ≤ w.heap.size) : Keep B S w w.drew := .of_below (Below.drew (Below.refl _ _)) hB
theorem below_freeze {a : Addr} (hB : B ≤ a.block) (n : Nat) : Below B w (w.freeze a n) := by
  unfold World.freeze
  split
  · exact Below.refl _ _
  · refine ⟨rfl, rfl, rfl, by simp, fun k hk => ?_⟩
    have hne : a.block ≠ k := by omega
    simp only [Array.getElem?_modify, if_neg hne]
theorem Keep.freeze {a : Addr} (hB : B ≤ a.block) (hS : ¬ S a.block) (n : Nat) : Keep B S w (w.freeze a n) := ⟨below_freeze hB n, fun b C _ z hb => by
  unfold World.freeze
  split
  · exact ⟨C, z, hb, rfl, fun _ => rfl, fun _ => rfl⟩
  · simp only [Array.getElem?_modify]
    split
    · rename_i e
      rw [hb]
      obtain ⟨lo, hi⟩ := z
      exact ⟨C, _, rfl, rfl, fun _ => rfl, fun hs => absurd (e ▸ hs) hS⟩
    · exact ⟨C, z, hb, rfl, fun _ => rfl, fun _ => rfl⟩⟩
theorem Keep.setCell {p : Addr} (hS : S p.block) (hB : B ≤ p.block) (v : Value) : Keep B S w (w.setCell p v) := ⟨(Below.refl B w).setCell hB v, fun b C _ z hb => by
  unfold World.setCell
  simp only [Array.getElem?_modify]
  split
  · rename_i e
    rw [hb]
    refine ⟨_, _, rfl, ?_, fun hn => absurd (e ▸ hS) hn, fun _ => rfl⟩
    split <;> simp
  · exact ⟨C, z, hb, rfl, fun _ => rfl, fun _ => rfl⟩⟩
theorem Keep.setCells {g : Nat} (hS : S g) (hB : B ≤ g) : ∀ (l : List Value) (o : Nat) (w : World), Keep B S w (w.setCells g o l)
  | [], _, w => Keep.refl _ _ w
  | v :: l, o, _ => (Keep.setCell (p := ⟨g, o, none⟩) hS hB v).trans (Keep.setCells hS hB l (o + 1) _)
/-- A row that is written, of as many cells. -/
theorem Keep.setRow {g : Nat} {t : TypeId} {cs : List Value} (hS : S g) (hB : B ≤ g) (h : HB w g t cs) (cs' : Array Value) (hl : cs'.size = cs.length) : Keep B S w (w.setRow g cs') := ⟨Below.setRow_ (Below.refl _ _) hB cs', fun b C u z hb => by
  by_cases e : g = b
  · subst e
    rw [show w.heap[g]? = _ from h] at hb
    cases hb
    have h2 := h.row cs'
    exact ⟨cs'.toList.toArray, (0, 0), h2, by simp [hl], fun hn => absurd hS hn, fun _ => rfl⟩
  · refine ⟨C, z, ?_, rfl, fun _ => rfl, fun _ => rfl⟩
    rw [← hb]
    unfold World.setRow
    simp only [Array.getElem?_modify, if_neg e]⟩
/-- A block that may be written: its row, still unmarked. -/
theorem Keep.hb {g : Nat} {t : TypeId} {cs : List Value} (h : Keep B S w w') (hS : S g) (hb : HB w g t cs) : ∃ cs', HB w' g t cs' ∧ cs'.length = cs.length := by
  obtain ⟨C', z', h1, h2, -, h4⟩ := h.blk _ _ _ _ hb
  refine ⟨C'.toList, ?_, by simpa using h2⟩
  rw [h4 hS] at h1
  exact h1
theorem Keep.cell (h : Keep B S w w') {a : Addr} {v : Value} (hS : ¬ S a.block) (hc : w.cell? a = some v) : w'.cell? a = some v := by
  unfold World.cell? at hc ⊢
  split at hc
  · rename_i c t z hb
    obtain ⟨C', z', h1, -, h3, -⟩ := h.blk _ _ _ _ hb
    rw [h1, h3 hS]
    exact hc
  · cases hc
end
/-- Bytes in a slice that lies in none of the blocks of S. -/
def SlotK (S : Nat → Prop) (w : World) (v : Value) (l : List UInt8) : Prop :=
  ∃ A c, v = .slice A l.length c ∧ l.length ≤ c ∧ c ≤ 9223372036854775807 ∧ Sees w w.heap.size 1 A l.length (bys l) ∧ ∀ ad : Addr, A = some ad → ¬ S ad.block
/-- A row of cells, whatever its marks. -/
def RowK (w : World) (b : Nat) (t : TypeId) (cs : List Value) : Prop := ∃ z, w.heap[b]? = some (.cells cs.toArray t z)
section
variable {B : Nat} {S : Nat → Prop} {w w' w'' : World} {v : Value} {l : List UInt8} {b : Nat} {t : TypeId} {cs : List Value}
theorem Sees.keep {size n : Nat} {A : Option Addr} {xs : List Value} (h : Sees w w.heap.size size A n xs) (hk : Keep B S w w') (hA : ∀ ad : Addr, A = some ad → ¬ S ad.block) : Sees w' w'.heap.size size A n xs := by
  obtain ⟨h1, h2⟩ := h
  refine ⟨h1, ?_⟩
  rcases h2 with rfl | ⟨ad, rfl, hb, hx⟩
  · exact .inl rfl
  · exact .inr ⟨ad, rfl, Nat.lt_of_lt_of_le hb hk.size, fun j u hu => hk.cell (by rw [add_block]; exact hA ad rfl) (hx j u hu)⟩
theorem SlotK.keep (h : SlotK S w v l) (hk : Keep B S w w') : SlotK S w' v l := by
  obtain ⟨A, c, h1, h2, h3, h4, h5⟩ := h
  exact ⟨A, c, h1, h2, h3, h4.keep hk h5, h5⟩
theorem SlotK.slot (h : SlotK S w v l) : Slot w w.heap.size v l := by
  obtain ⟨A, c, h1, h2, h3, h4, _⟩ := h
  exact ⟨A, c, h1, h2, h3, h4⟩
/-- What a call wrote. -/
theorem SlotK.wrote (ho : w'.ownsRow w.heap.size 5 1 v l.length (bys l)) (hS : ∀ b, S b → b < w.heap.size) : SlotK S w' v l := by
  obtain ⟨A, c, rfl, h2, h3, h4, h5⟩ := own_slice ho
  exact ⟨A, c, rfl, h2, h3, h5, fun ad e hs => by have := (h4 ad e).1; have := hS _ hs; omega⟩
theorem RowK.new (w : World) (t : TypeId) (cs : List Value) (z : Nat × Nat) : RowK (w.alloc (.cells cs.toArray t z)) w.heap.size t cs := ⟨z, heap_alloc_new w _⟩
theorem RowK.lt (h : RowK w b t cs) : b < w.heap.size := by obtain ⟨z, h⟩ := h; exact lt_of_heap h
theorem RowK.keep (h : RowK w b t cs) (hk : Keep B S w w') (hS : ¬ S b) : RowK w' b t cs := by
  obtain ⟨z, h⟩ := h
  obtain ⟨C', z', h1, -, h3, -⟩ := hk.blk _ _ _ _ h
  rw [h3 hS] at h1
  exact ⟨z', h1⟩
theorem RowK.sees (h : RowK w b t cs) {n : Nat} (hn : cs.length = n) : Sees w w.heap.size 1 (some ⟨b, 0, none⟩) n cs := by
  obtain ⟨z, h⟩ := h
  refine ⟨by omega, .inr ⟨_, rfl, lt_of_heap h, fun j u hu => ?_⟩⟩
  rw [add_at]
  simp [World.cell?, h, hu]
theorem RowK.slot (h : RowK w b t (bys l)) (hS : ¬ S b) (hl : l.length ≤ 9223372036854775807) {n : Nat} (hn : l.length = n) : SlotK S w (.slice (some ⟨b, 0, none⟩) n n) l := by
  subst hn
  exact ⟨some ⟨b, 0, none⟩, l.length, rfl, Nat.le_refl _, hl, h.sees (bys_len l), fun ad e => by cases e; exact hS⟩
theorem RowK.freeze (h : RowK w b t cs) (a : Addr) (n : Nat) : RowK (w.freeze a n) b t cs := by
  obtain ⟨z, h⟩ := h
  unfold World.freeze
  split
  · exact ⟨z, h⟩
  · unfold RowK
    simp only [Array.getElem?_modify]
    split
    · rw [h]; obtain ⟨lo, hi⟩ := z; exact ⟨_, rfl⟩
    · exact ⟨z, h⟩
/-- '[]byte("..")': the literal's row is marked. -/
theorem RowK.conv (h : RowK w b 5 cs) (n c : Nat) : (convert 31 31 (.slice (some ⟨b, 0, none⟩) n c)).run Tryd.prog w = .ok (.slice (some ⟨b, 0, none⟩) n c) (w.freeze ⟨b, cs.length, none⟩ 1) := by
  obtain ⟨z, h⟩ := h
  have hsh : w.shape? b = some (5, cs.length) := by
    unfold World.shape?
    rw [h]
    simp
  simp [convert, run_underlying Tryd.underlying31, run_underlying Tryd.underlying5, markStringish, hsh]
/-- A comparison by its own run. -/
theorem wp_cmp {P : Program} {o : Oper} {a : Act} {w : World} {K : Act → World → Prop} {Q : Exit → Act → World → Prop} (op : BinOp) (ty ty' : TypeId) (x y : Operand) (ho : o.op = .binOp op ty x y ty') (vx vy r : Value) (hx : a.eval x = vx) (hy : a.eval y = vy)
    (hg : (eqGuard op ty x y vx vy).run P w = .ok () w) (hr : (binOp op ty vx vy).run P w = .ok r w) (h : K (a.put o.dst r) w) : o.wp P a w K Q := by
  unfold Oper.wp execOp
  simp only [ho, hx, hy, Sem.run_bind, hg, hr, Result.andThen_ok, Sem.run_pure]
  exact h
theorem wpList_cmp {P : Program} {ops : Array Oper} {rest : List Oper} {o : Oper} {a : Act} {w : World} {Q : Exit → Act → World → Prop} (hgd : o.guard = none) (op : BinOp) (ty ty' : TypeId) (x y : Operand) (ho : o.op = .binOp op ty x y ty') (vx vy r : Value) (hx : a.eval x = vx) (hy : a.eval y = vy)
    (hg : (eqGuard op ty x y vx vy).run P w = .ok () w) (hr : (binOp op ty vx vy).run P w = .ok r w) (h : wpList P ops Q rest (a.put o.dst r) w) : wpList P ops Q (o :: rest) a w :=
  wpList_plain hgd fun _ hK => wp_cmp op ty ty' x y ho vx vy r hx hy hg hr (hK _ _ h)
end
end Go.Proofs.YtapbaonlboefeaaDoor
