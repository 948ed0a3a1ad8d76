/- Decoding: what a decoder is called with and gives; the reader of a struct's parts. -/
import Derived.Test.YtlkjahfkgfkilaaDoorEnc
import Derived.Test.YtlkjahfkgfkilaaDoorShaS
import Derived.Test.YtlkjahfkgfkilaaDoorCopy
import Derived.Deep.MidRow
import Derived.Laws.Alloc2
import Derived.BigQuiet
import Derived.Deep.QuietTactic
namespace Go.Proofs.YtlkjahfkgfkilaaDoor
open Go.RowKit

/-- The argument of a decoder: these bytes. -/
structure Arg (W : World) (p : Nat → Prop) (A : Option Addr) (c : Nat) (b : List UInt8) : Prop where
  lies : Lies W p 1 A b.length (bys b)
  cap : b.length ≤ c
  max : c ≤ 9223372036854775807
  len : b.length ≤ 1099511627776
  old : ∀ k, p k → k < W.heap.size
theorem Arg.later {W W' : World} {p : Nat → Prop} {A : Option Addr} {c : Nat} {b : List UInt8} (h : Arg W p A c b) (hb : Below W.heap.size W W') : Arg W' p A c b :=
  ⟨h.lies.kept (Same.of_below hb h.old) (fun _ h => h), h.cap, h.max, h.len, fun k hk => Nat.lt_of_lt_of_le (h.old k hk) hb.size⟩
theorem Arg.sees {W : World} {p : Nat → Prop} {A : Option Addr} {c : Nat} {b : List UInt8} (h : Arg W p A c b) : Sees W W.heap.size 1 A b.length (bys b) := h.lies.sees h.old
/-- Blocks of p, and blocks that are new since W. -/
def Since (W : World) (p : Nat → Prop) (w' : World) (k : Nat) : Prop := (p k ∨ W.heap.size ≤ k) ∧ k < w'.heap.size
def Read1 (W : World) (p : Nat → Prop) (R : Rel) (b : List UInt8) (e : Ending) (w' : World) : Prop := ∃ v, e = .returned (.tuple #[v, .nilIface]) ∧ R w' (Since W p w') [v] b ∧ Below W.heap.size W w'
def ReadS (W : World) (p : Nat → Prop) (R : Rel) (b : List UInt8) (e : Ending) (w' : World) : Prop := ∃ cs, e = .returned (.tuple #[.agg cs.toArray, .nilIface]) ∧ R w' (Since W p w') cs b ∧ Below W.heap.size W w'
/-- Function g, with what it has captured, decodes what has that form. -/
def Reads1 (P : Program) (w0 : World) (g : Nat) (lb : Array Value) (R : Rel) (F : Form) : Prop := ∀ W, Below w0.heap.size w0 W → ∀ p A c b, Arg W p A c b → F b → Calls P g (#[.slice A b.length c] ++ lb) W (Read1 W p R b)
def ReadsS (P : Program) (w0 : World) (g : Nat) (lb : Array Value) (R : Rel) (F : Form) : Prop := ∀ W, Below w0.heap.size w0 W → ∀ p A c b, Arg W p A c b → F b → Calls P g (#[.slice A b.length c] ++ lb) W (ReadS W p R b)

/-- The reader in block G, k parts read, no failure. -/
structure Rdr (w0 w : World) (G : Nat) (ps : List (List UInt8)) (k : Nat) : Prop where
  below : Below w0.heap.size w0 w
  lo : w0.heap.size ≤ G
  row : ∃ A c vs, w.heap[G]? = some (.cells #[.slice A ps.length c, .int .i64 (k : Int), .nilIface] 103) ∧ ps.length ≤ c ∧ c ≤ 9223372036854775807 ∧ Sees w G 1 A ps.length vs ∧ Lists w G vs ps ∧
    (∀ A n c, Value.slice A n c ∈ vs → ∀ ad, A = some ad → w0.heap.size ≤ ad.block ∧ ad.block < G)
  small : ∀ q ∈ ps, q.length ≤ 1099511627776
/-- Blocks that are new since w0, but G. -/
def Within (w0 : World) (G : Nat) (w' : World) (k : Nat) : Prop := w0.heap.size ≤ k ∧ k ≠ G ∧ k < w'.heap.size
/-- But block G all that lay lies. -/
def Turn (w w' : World) (G : Nat) : Prop := w.heap.size ≤ w'.heap.size ∧ ∀ a : Addr, a.block < w.heap.size → a.block ≠ G → w'.cell? a = w.cell? a
theorem Turn.same {w0 w w' : World} {G : Nat} (h : Turn w w' G) : Same w w' (Within w0 G w) := fun a ⟨_, h2, h3⟩ => h.2 a h3 h2
theorem Within.more {w0 w w' : World} {G : Nat} (h : w.heap.size ≤ w'.heap.size) : ∀ k, Within w0 G w k → Within w0 G w' k := fun _ ⟨a, b, c⟩ => ⟨a, b, by omega⟩
/-- Cells of a row. -/
theorem row_cell {w : World} {G : Nat} {cs : Array Value} {t : TypeId} {z : Nat × Nat} (h : w.heap[G]? = some (.cells cs t z)) (j : Nat) (v : Value) (hv : cs[j]? = some v) : w.cell? ⟨G, j, none⟩ = some v := by
  simp [World.cell?, h, hv]
theorem Rdr.lt {w0 w : World} {G k : Nat} {ps : List (List UInt8)} (h : Rdr w0 w G ps k) : G < w.heap.size := by
  obtain ⟨_, _, _, h1, _⟩ := h.row
  exact lt_of_heap h1
/-- Part k, as a decoder's argument. -/
theorem Rdr.part {w0 w : World} {G k j : Nat} {ps : List (List UInt8)} (h : Rdr w0 w G ps k) (hj : j < ps.length) :
    ∃ ad c A' c', w.cell? ⟨G, 0, none⟩ = some (.slice (some ad) ps.length c) ∧ ps.length ≤ c ∧ w.cell? ⟨G, 1, none⟩ = some (.int .i64 (k : Int)) ∧ w.cell? ⟨G, 2, none⟩ = some .nilIface ∧ w.frozen? ⟨G, 1, none⟩ = false ∧ ad.block < G ∧
      w.cell? (ad.add j) = some (.slice A' (ps[j]'hj).length c') ∧ Arg w (fun i => w0.heap.size ≤ i ∧ i < G) A' c' (ps[j]'hj) := by
  have hlt := h.lt
  obtain ⟨A, c, vs, h1, h2, h3, h4, h5, h6⟩ := h.row
  obtain ⟨ad, rfl, hb, hx⟩ := h4.some_ (by omega)
  obtain ⟨A', c', k1, k2, k3, k4⟩ := h5.at_ hj
  refine ⟨ad, c, A', c', row_cell h1 0 _ rfl, h2, row_cell h1 1 _ rfl, row_cell h1 2 _ rfl, by simp [World.frozen?, h1], hb, hx j _ k1, ?_⟩
  refine ⟨⟨k4.1, fun a e => h6 _ _ _ (List.mem_of_getElem? k1) a e, k4.2.imp id ?_⟩, k2, k3, h.small _ (List.getElem_mem hj), fun i hi => by omega⟩
  rintro ⟨a, e, _, hc⟩
  exact ⟨a, e, hc⟩
/-- Behind a decoder's call and the count. -/
theorem Rdr.step {w0 w w1 : World} {G k : Nat} {ps : List (List UInt8)} (h : Rdr w0 w G ps k) (hB : Below w.heap.size w w1) : Rdr w0 (w1.setCell ⟨G, 1, none⟩ (.int .i64 ((k + 1 : Nat) : Int))) G ps (k + 1) ∧ Turn w (w1.setCell ⟨G, 1, none⟩ (.int .i64 ((k + 1 : Nat) : Int))) G := by
  have hlt := h.lt
  have hlo := h.lo
  obtain ⟨A, c, vs, h1, h2, h3, h4, h5, h6⟩ := h.row
  have hG : w1.heap[G]? = some (.cells #[.slice A ps.length c, .int .i64 (k : Int), .nilIface] 103) := by rw [hB.block G hlt]; exact h1
  have hG' : (w1.setCell ⟨G, 1, none⟩ (.int .i64 ((k + 1 : Nat) : Int))).heap[G]? = some (.cells #[.slice A ps.length c, .int .i64 ((k + 1 : Nat) : Int), .nilIface] 103) := by
    simp [World.setCell, Array.getElem?_modify, hG]
  have hsees : ∀ A n xs, Sees w G 1 A n xs → Sees (w1.setCell ⟨G, 1, none⟩ (.int .i64 ((k + 1 : Nat) : Int))) G 1 A n xs := fun A n xs hs => (hs.below (hB.mono (Nat.le_of_lt hlt))).setCell (Nat.le_refl _) _
  refine ⟨⟨(h.below.trans (hB.mono h.below.size)).setCell h.lo _, h.lo, ⟨A, c, vs, hG', h2, h3, hsees _ _ _ h4, h5.imp hsees, h6⟩, h.small⟩, by have := hB.size; simpa [World.setCell] using this, fun a ha hne => ?_⟩
  rw [World.cell?_setCell_other _ _ _ _ (fun e => hne (by rw [← e])), hB.cell ha]
/-- What was read stays behind the count. -/
theorem next_kept {R : Rel} (hR : Kept R) {w0 w W w1 : World} {G k : Nat} {ps : List (List UInt8)} (h : Rdr w0 w G ps k) (hlt : G < w.heap.size) (hs : W.heap.size = w.heap.size) {cs : List Value} {b : List UInt8} {v : Value} (hv : R w1 (Since W (fun i => w0.heap.size ≤ i ∧ i < G) w1) cs b) :
    R (w1.setCell ⟨G, 1, none⟩ v) (Within w0 G (w1.setCell ⟨G, 1, none⟩ v)) cs b := by
  have hlo := h.lo
  have hsz := h.below.size
  refine hR _ _ _ _ _ _ hv (fun a ha => ?_) (fun i hi => ?_)
  · rw [World.cell?_setCell_other _ _ _ _ (fun e => ?_)]
    subst e
    rcases ha.1 with h1 | h1
    · exact absurd h1.2 (Nat.lt_irrefl _)
    · have : W.heap.size ≤ G := h1
      omega
  · have hl : (w1.setCell ⟨G, 1, none⟩ v).heap.size = w1.heap.size := by simp [World.setCell]
    rcases hi.1 with h1 | h1
    · exact ⟨h1.1, by have := h1.2; omega, by rw [hl]; exact hi.2⟩
    · exact ⟨by omega, by omega, by rw [hl]; exact hi.2⟩
theorem next_kept2 {R : Rel} (hR : Kept R) {w0 w1 : World} {G : Nat} {cs : List Value} {b : List UInt8} {v : Value} (hv : R w1 (Within w0 G w1) cs b) :
    R (w1.setCell ⟨G, 1, none⟩ v) (Within w0 G (w1.setCell ⟨G, 1, none⟩ v)) cs b :=
  hR _ _ _ _ _ _ hv (fun a ha => World.cell?_setCell_other _ _ _ _ (fun e => by subst e; exact ha.2.1 rfl)) (fun i hi => ⟨hi.1, hi.2.1, by simp [World.setCell]; exact hi.2.2⟩)
theorem below_setCells {B b : Nat} (hb : B ≤ b) {a : World} : ∀ (l : List Value) (o : Nat) (w : World), Below B a w → Below B a (w.setCells b o l)
  | [], _, _, h => h
  | _ :: l, _, _, h => below_setCells hb l _ _ (h.setCell hb _)
theorem setCells_size {b : Nat} : ∀ (l : List Value) (o : Nat) (w : World), (w.setCells b o l).heap.size = w.heap.size
  | [], _, _ => rfl
  | v :: l, o, w => by rw [World.setCells, setCells_size l]; simp [World.setCell]
theorem alloc_setCells (w : World) (t : TypeId) : ∀ (l pre Z : List Value), Z.length = l.length → (w.alloc (.cells (pre ++ Z).toArray t)).setCells w.heap.size pre.length l = w.alloc (.cells (pre ++ l).toArray t)
  | [], pre, Z, h => by rw [List.eq_nil_of_length_eq_zero h]; rfl
  | v :: l, pre, [], h => by simp at h
  | v :: l, pre, z :: Z, h => by
    have e : (pre ++ z :: Z).toArray.setIfInBounds pre.length v = ((pre ++ [v]) ++ Z).toArray := by simp
    have h2 := alloc_setCells w t l (pre ++ [v]) Z (by simpa using h)
    rw [World.setCells, World.setCell_alloc_new, e]
    simp only [List.length_append, List.length_cons, List.length_nil, Nat.zero_add] at h2
    rw [h2]
    simp
theorem there_hb {w : World} {g n : Nat} {t : TypeId} {Z : List Value} (h : HB w g t Z) (hn : n ≤ Z.length) : w.there g 0 n := fun j hj => by
  refine ⟨?_, h.frozen _⟩
  rw [Nat.zero_add, h.cell]
  simp
  omega
theorem hb_setCells {g : Nat} {t : TypeId} : ∀ (l : List Value) (o : Nat) (w : World) (Z : List Value), HB w g t Z → o + l.length = Z.length → HB (w.setCells g o l) g t (Z.take o ++ l)
  | [], o, w, Z, h, hl => by rw [List.append_nil, List.take_of_length_le (by simp at hl; omega)]; exact h
  | v :: l, o, w, Z, h, hl => by
    have h2 := hb_setCells l (o + 1) _ _ (h.set_ o v) (by simp at hl ⊢; omega)
    have e : (Z.set o v).take (o + 1) ++ l = Z.take o ++ v :: l := by
      have ho : o < Z.length := by simp at hl; omega
      rw [List.set_eq_take_append_cons_drop, if_pos ho, List.take_append, List.take_of_length_le (by simp; omega)]
      simp [Nat.min_eq_left (Nat.le_of_lt ho)]
    rw [e] at h2
    exact h2
/-- Behind the store of what was read. -/
structure Fin (T : TypeId) (Z : List Value) (R : Rel) (w0 w : World) (G : Nat) (b : List UInt8) (X : Nat) (cs : List Value) (V : World) : Prop where
  below : Below w.heap.size w V
  res : HB V w.heap.size T Z
  row : HB V X T cs
  rel : R V (fun i => Within w0 G V i ∧ i ≠ w.heap.size) cs b
  far : w.heap.size + 2 ≤ X
theorem fin_of {T : TypeId} {Z : List Value} {R : Rel} (hR : Kept R) {w0 w : World} {G X : Nat} {b : List UInt8} {cs : List Value} {V : World} {q : Nat → Prop} (h1 : Below w.heap.size w V) (h2 : HB V w.heap.size T Z) (h3 : w.heap.size + 2 ≤ X) (h4 : HB V X T Z) (h5 : Z.length = cs.length) (h6 : R V q cs b) (h7 : ∀ i, q i → (Within w0 G V i ∧ i ≠ w.heap.size) ∧ i ≠ X) :
    Fin T Z R w0 w G b X cs (V.setCells X 0 cs) := by
  have hsz : (V.setCells X 0 cs).heap.size = V.heap.size := setCells_size cs 0 V
  refine ⟨below_setCells (by omega) cs 0 _ h1, h2.below (below_setCells (B := w.heap.size + 1) (by omega) cs 0 _ (Below.refl _ _)) (by omega), ?_, hR _ _ _ _ _ _ h6 (fun a ha => ?_) (fun i hi => ?_), h3⟩
  · have h := hb_setCells cs 0 V Z h4 (by omega)
    simpa using h
  · exact World.cell?_setCells_out X cs 0 V a (fun e _ => absurd e (h7 _ ha).2)
  · obtain ⟨⟨a, b, c⟩, d⟩ := (h7 i hi).1
    exact ⟨⟨a, b, by rw [hsz]; exact c⟩, d⟩
theorem fin_rel {R : Rel} (hR : Kept R) {w0 w V : World} {G : Nat} {b : List UInt8} {cs : List Value} {v : Value} {l : Array Value} (h : R V (fun i => Within w0 G V i ∧ i ≠ w.heap.size) cs b) :
    R ((V.setCell ⟨G, 1, none⟩ v).setRow w.heap.size l) (Within w0 G ((V.setCell ⟨G, 1, none⟩ v).setRow w.heap.size l)) cs b := by
  refine hR _ _ _ _ _ _ h (fun a ha => ?_) (fun i hi => ⟨hi.1.1, hi.1.2.1, by simp [World.setCell, World.setRow]; exact hi.1.2.2⟩)
  have h1 : ((V.setCell ⟨G, 1, none⟩ v).setRow w.heap.size l).heap[a.block]? = (V.setCell ⟨G, 1, none⟩ v).heap[a.block]? := by
    simp only [World.setRow, Array.getElem?_modify]
    rw [if_neg (fun e => ha.2 e.symm)]
  rw [World.cell?_of_block h1, World.cell?_setCell_other _ _ _ _ (fun e => by subst e; exact ha.1.2.1 rfl)]
theorem Rdr.later {w0 w w' : World} {G k : Nat} {ps : List (List UInt8)} (h : Rdr w0 w G ps k) (hb : Below (G + 1) w w') : Rdr w0 w' G ps k := by
  obtain ⟨A, c, vs, h1, h2, h3, h4, h5, h6⟩ := h.row
  have hb' : Below G w w' := hb.mono (Nat.le_succ _)
  exact ⟨h.below.trans (hb.mono (by have := h.lo; omega)), h.lo, ⟨A, c, vs, (hb.block G (Nat.lt_succ_self _)).trans h1, h2, h3, h4.below hb', h5.imp fun _ _ _ hs => hs.below hb', h6⟩, h.small⟩
theorem Turn.later {w w1 w2 : World} {G : Nat} (h : Turn w w1 G) (hb : Below w.heap.size w1 w2) : Turn w w2 G := ⟨Nat.le_trans h.1 hb.size, fun a ha hne => (hb.cell ha).trans (h.2 a ha hne)⟩
theorem there_new (w : World) (t : TypeId) (Z : List Value) (n : Nat) (hn : n ≤ Z.length) : (w.alloc (.cells Z.toArray t)).there w.heap.size 0 n := fun j hj => by
  have h : (w.alloc (.cells Z.toArray t)).heap[w.heap.size]? = some (.cells Z.toArray t) := heap_alloc_new w _
  refine ⟨?_, frozen_of_row _ _ _ _ _ h⟩
  rw [Nat.zero_add, cell_of_row _ _ j _ t (0, 0) h]
  simp
  omega
end Go.Proofs.YtlkjahfkgfkilaaDoor
