/- A block that is known whole. | Writing into a block that is known whole: copy. | A row stored cell by cell. -/
import Derived.Test.YtapbaonlboefeaaDoorShaJ
import Derived.Laws.Tables
import Derived.Laws.CopyOwn
import Derived.Lib.SliceRun
import Derived.Deep.MidRow
namespace Go.Proofs.YtapbaonlboefeaaDoor
open Go.RowKit

def HB (w : World) (g : Nat) (t : TypeId) (cs : List Value) : Prop := w.heap[g]? = some (.cells cs.toArray t (0, 0))
section
variable {w w' : World} {g : Nat} {t : TypeId} {cs : List Value}
theorem HB.lt (h : HB w g t cs) : g < w.heap.size := lt_of_heap h
theorem HB.cell (h : HB w g t cs) (i : Nat) : w.cell? ⟨g, i, none⟩ = cs[i]? := by rw [cell_of_row w g i _ t (0, 0) h]; simp
theorem HB.frozen (h : HB w g t cs) (i : Nat) : w.frozen? ⟨g, i, none⟩ = false := frozen_of_row w g i _ t h
theorem HB.new (w : World) (t : TypeId) (cs : List Value) : HB (w.alloc (.cells cs.toArray t)) w.heap.size t cs := heap_alloc_new w _
theorem HB.drewN (h : HB w g t cs) (k : Nat) : HB (w.drewN k) g t cs := h
theorem HB.drew (h : HB w g t cs) : HB w.drew g t cs := h
theorem HB.alloc (h : HB w g t cs) (o : Obj) : HB (w.alloc o) g t cs := (heap_alloc_old w o h.lt).trans h
theorem HB.set_ (h : HB w g t cs) (i : Nat) (v : Value) : HB (w.setCell ⟨g, i, none⟩ v) g t (cs.set i v) := by
  unfold HB at h ⊢
  rw [heap_setCell_same w g i _ t v h]
  simp
theorem HB.far (h : HB w g t cs) {p : Addr} (hp : g ≠ p.block) (v : Value) : HB (w.setCell p v) g t cs := (heap_setCell_other w p g v hp).trans h
theorem HB.keep (h : HB w g t cs) (hw : w'.heap[g]? = w.heap[g]?) : HB w' g t cs := hw.trans h
theorem HB.below {B : Nat} (h : HB w g t cs) (hb : Below B w w') (hg : g < B) : HB w' g t cs := h.keep (hb.block g hg)
theorem HB.grown {r : Option Nat} (h : HB w g t cs) (hb : w.grownBy w' r) (hg : some g ≠ r) : HB w' g t cs := h.keep (hb.block g h.lt hg)
theorem HB.row (h : HB w g t cs) (cs' : Array Value) : HB (w.setRow g cs') g t cs'.toList := by
  unfold HB
  rw [setRow_heap w g _ cs' t (0, 0) h]
theorem HB.sees {o n : Nat} {xs : List Value} (h : HB w g t cs) (B : Nat) (hB : g < B) (hl : xs.length = n) (hx : ∀ j u, xs[j]? = some u → cs[o + j]? = some u) : Sees w B 1 (some ⟨g, o, none⟩) n xs := by
  refine ⟨by omega, .inr ⟨_, rfl, hB, fun j u hu => ?_⟩⟩
  have e : (⟨g, o, none⟩ : Addr).add j = ⟨g, o + j, none⟩ := by
    rcases Nat.eq_zero_or_pos j with h0 | h0
    · subst h0; rw [add_zero]; rfl
    · rw [add_pos _ _ h0]
  rw [e, h.cell]
  exact hx j u hu
end
theorem Below.setRow_ {B : Nat} {a w : World} (h : Below B a w) {g : Nat} (hg : B ≤ g) (cs : Array Value) : Below B a (w.setRow g cs) :=
  h.trans ⟨rfl, rfl, rfl, by simp, fun k hk => by simp only [World.setRow, Array.getElem?_modify]; rw [if_neg (by omega)]⟩
end Go.Proofs.YtapbaonlboefeaaDoor
namespace Go.Proofs.YtapbaonlboefeaaDoor
open Go.RowKit

theorem grownBy_setRow (w : World) (g : Nat) (cs : Array Value) : w.grownBy (w.setRow g cs) (some g) :=
  ⟨rfl, rfl, rfl, by simp, fun k _ hne => by
    simp only [World.setRow, Array.getElem?_modify]
    rw [if_neg (fun e => hne (by rw [e]))]⟩
theorem grownBy_setCell_ (w : World) (g i : Nat) (v : Value) : w.grownBy (w.setCell ⟨g, i, none⟩ v) (some g) :=
  ⟨rfl, rfl, rfl, by simp [World.setCell], fun _ _ hne => heap_setCell_other _ _ _ _ (fun e => hne (by rw [e]))⟩
theorem splice_nil {α : Type} (L : List α) (o : Nat) : splice L o [] = L := by simp [splice]
theorem splice_one {α : Type} (L : List α) (o : Nat) (x : α) (h : o < L.length) : splice L o [x] = L.set o x := by
  rw [List.set_eq_take_append_cons_drop, if_pos h]; simp [splice]
theorem splice_cons {α : Type} (L : List α) (o : Nat) (x : α) (r : List α) (h : o + (x :: r).length ≤ L.length) : splice (L.set o x) (o + 1) r = splice L o (x :: r) := by
  simp only [List.length_cons] at h
  unfold splice
  have e1 : (L.set o x).take (o + 1) = L.take o ++ [x] := by
    rw [List.set_eq_take_append_cons_drop, if_pos (by omega), List.take_append, List.length_take, Nat.min_eq_left (by omega), List.take_of_length_le (by rw [List.length_take]; omega), show o + 1 - o = 1 from by omega]
    rfl
  have e2 : (L.set o x).drop (o + 1 + r.length) = L.drop (o + (x :: r).length) := by
    rw [List.drop_set_of_lt (by omega)]; simp only [List.length_cons]; congr 1; omega
  rw [e1, e2]; simp
theorem HB.setCells {g : Nat} {t : TypeId} : ∀ (vs : List Value) (o : Nat) (w : World) (cs : List Value), HB w g t cs → o + vs.length ≤ cs.length → HB (w.setCells g o vs) g t (splice cs o vs) ∧ w.grownBy (w.setCells g o vs) (some g)
  | [], o, w, cs, h, _ => ⟨by rw [splice_nil]; exact h, World.grownBy.refl w _⟩
  | v :: r, o, w, cs, h, hl => by
    have hl' : o + 1 + r.length ≤ (cs.set o v).length := by simp only [List.length_cons, List.length_set] at hl ⊢; omega
    obtain ⟨h1, h2⟩ := HB.setCells r (o + 1) (w.setCell ⟨g, o, none⟩ v) (cs.set o v) (h.set_ o v) hl'
    rw [splice_cons cs o v r hl] at h1
    exact ⟨h1, (grownBy_setCell_ w g o v).trans h2⟩

section
variable {P : Program} {w : World}
theorem wpList_copy_hb {ops : Array Oper} {rest : List Oper} {o : Oper} {a : Act} {Q : Exit → Act → World → Prop} (hgd : o.guard = none) (d s : Operand) (dT sT : TypeId)
    (ho : o.op = .call { callee := .builtin .copy, args := #[d, s], argTypes := #[dT, sT] }) (elem : TypeId) (hu : P.underlying dT = some (.slice elem)) (hsz : (P.info? elem).map (·.size) = some 1)
    (g off dLen dCap : Nat) (sp : Option Addr) (sLen sCap : Nat) (hd : a.eval d = .slice (some ⟨g, off, none⟩) dLen dCap) (hs : a.eval s = .slice sp sLen sCap)
    (cur : List Value) (t : TypeId) (hg : HB w g t cur) (B : Nat) (n : Nat) (cs : List Value) (hn : n = Nat.min sLen dLen) (hse : Sees w B 1 sp n cs)
    (hfit : off + n ≤ cur.length) (h1 : ∀ v ∈ cs, v.oneCell' = true)
    (h : ∀ w', HB w' g t (splice cur off cs) → w.grownBy w' (some g) → wpList P ops Q rest (a.put o.dst (goInt n)) w') :
    wpList P ops Q (o :: rest) a w := by
  have hlen : cs.length = n := by have := hse.len; omega
  rcases hse.2 with h0 | ⟨ad, rfl, _, hsrc⟩
  · subst h0
    obtain rfl : cs = [] := List.eq_nil_of_length_eq_zero hlen
    exact wpList_copy_nothing hgd d s dT sT ho elem hu hsz _ sp dLen dCap sLen sCap hd hs hn.symm (h w (by rw [splice_nil]; exact hg) (World.grownBy.refl w _))
  · refine wpList_copy_own hgd d s dT sT ho elem hu hsz g off dLen dCap ad sLen sCap hd hs cur.toArray t hg cs (by rw [hlen, hn]) hsrc (by simp; omega) h1 ?_
    rw [hlen]
    exact h _ (by simpa [splice, hlen] using hg.row (cur.take off ++ (cs ++ cur.drop (off + n))).toArray) (grownBy_setRow _ _ _)
end
end Go.Proofs.YtapbaonlboefeaaDoor
namespace Go.Proofs.YtapbaonlboefeaaDoor
open Go.RowKit

theorem below_setCells {B b : Nat} (hb : B ≤ b) {a : World} : ∀ (l : List Value) (o : Nat) (w : World), Below B a w → Below B a (w.setCells b o l)
  | [], _, _, h => h
  | _ :: l, _, _, h => below_setCells hb l _ _ (h.setCell hb _)
theorem setCells_size {b : Nat} : ∀ (l : List Value) (o : Nat) (w : World), (w.setCells b o l).heap.size = w.heap.size
  | [], _, _ => rfl
  | v :: l, o, w => by rw [World.setCells, setCells_size l]; simp [World.setCell]
theorem alloc_setCells (w : World) (t : TypeId) : ∀ (l pre Z : List Value), Z.length = l.length → (w.alloc (.cells (pre ++ Z).toArray t)).setCells w.heap.size pre.length l = w.alloc (.cells (pre ++ l).toArray t)
  | [], pre, Z, h => by rw [List.eq_nil_of_length_eq_zero h]; rfl
  | v :: l, pre, [], h => by simp at h
  | v :: l, pre, z :: Z, h => by
    have e : (pre ++ z :: Z).toArray.setIfInBounds pre.length v = ((pre ++ [v]) ++ Z).toArray := by simp
    have h2 := alloc_setCells w t l (pre ++ [v]) Z (by simpa using h)
    rw [World.setCells, World.setCell_alloc_new, e]
    simp only [List.length_append, List.length_cons, List.length_nil, Nat.zero_add] at h2
    rw [h2]
    simp
theorem there_hb {w : World} {g n : Nat} {t : TypeId} {Z : List Value} (h : HB w g t Z) (hn : n ≤ Z.length) : w.there g 0 n := fun j hj => by
  refine ⟨?_, h.frozen _⟩
  rw [Nat.zero_add, h.cell]
  simp
  omega
theorem hb_setCells {g : Nat} {t : TypeId} : ∀ (l : List Value) (o : Nat) (w : World) (Z : List Value), HB w g t Z → o + l.length = Z.length → HB (w.setCells g o l) g t (Z.take o ++ l)
  | [], o, w, Z, h, hl => by rw [List.append_nil, List.take_of_length_le (by simp at hl; omega)]; exact h
  | v :: l, o, w, Z, h, hl => by
    have h2 := hb_setCells l (o + 1) _ _ (h.set_ o v) (by simp at hl ⊢; omega)
    have e : (Z.set o v).take (o + 1) ++ l = Z.take o ++ v :: l := by
      have ho : o < Z.length := by simp at hl; omega
      rw [List.set_eq_take_append_cons_drop, if_pos ho, List.take_append, List.take_of_length_le (by simp; omega)]
      simp [Nat.min_eq_left (Nat.le_of_lt ho)]
    rw [e] at h2
    exact h2
theorem there_new (w : World) (t : TypeId) (Z : List Value) (n : Nat) (hn : n ≤ Z.length) : (w.alloc (.cells Z.toArray t)).there w.heap.size 0 n := fun j hj => by
  have h : (w.alloc (.cells Z.toArray t)).heap[w.heap.size]? = some (.cells Z.toArray t) := heap_alloc_new w _
  refine ⟨?_, frozen_of_row _ _ _ _ _ h⟩
  rw [Nat.zero_add, cell_of_row _ _ j _ t (0, 0) h]
  simp
  omega
theorem hb_setAll {w : World} {g : Nat} {t : TypeId} {Z : List Value} (h : HB w g t Z) (l : List Value) (hl : l.length = Z.length) : HB (w.setCells g 0 l) g t l := by
  have h2 := hb_setCells l 0 w Z h (by omega)
  simpa using h2
theorem heap_setCells_other {g b : Nat} (hb : b ≠ g) : ∀ (l : List Value) (o : Nat) (w : World), (w.setCells g o l).heap[b]? = w.heap[b]?
  | [], _, _ => rfl
  | v :: l, o, w => (heap_setCells_other hb l (o + 1) _).trans (heap_setCell_other w _ _ v hb)
theorem hb_ne {w : World} {g g' : Nat} {t t' : TypeId} {cs cs' : List Value} (h : HB w g t cs) (h' : HB w g' t' cs') (hne : t ≠ t') : g ≠ g' := by
  rintro rfl
  have e : some (Obj.cells cs.toArray t (0, 0)) = some (Obj.cells cs'.toArray t' (0, 0)) := h.symm.trans h'
  injection e with e
  injection e with _ e
  exact hne e
end Go.Proofs.YtapbaonlboefeaaDoor
