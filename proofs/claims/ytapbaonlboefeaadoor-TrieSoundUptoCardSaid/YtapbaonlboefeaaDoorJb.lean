/- Joining what has been gathered: slices of bytes, one behind the other; a literal of slices, joined; boxed rows. -/
import Derived.Test.YtapbaonlboefeaaDoorShaJ
import Derived.Deep.RegionHeld3
import Derived.Great.BuildSlice
import Derived.Shelf.Abstract
namespace Go.Proofs.YtapbaonlboefeaaDoor
open Go.RowKit

/-- Called so it hands back a new slice of such bytes, and all that lay before lies. -/
def Wrote (w : World) (b : List UInt8) (e : Ending) (w' : World) : Prop := ∃ v', e = .returned v' ∧ w'.ownsRow w.heap.size 5 1 v' b.length (bys b) ∧ Below w.heap.size w w'
theorem Tryd.infoSlice : (Tryd.prog.info? 31).map (fun i => (i.zero, i.size, i.bytes)) = some (some (.slice none 0 0), 1, 24) := by kernel_rfl
theorem own_wide {w : World} {base base' : Nat} {e : TypeId} {size n : Nat} {v : Value} {xs : List Value} (h : w.ownsRow base e size v n xs) (hb : base' ≤ base) : w.ownsRow base' e size v n xs := by
  obtain ⟨h1, h2⟩ := h
  refine ⟨h1, h2.imp id ?_⟩
  rintro ⟨g, cap, cur, e1, e2, e3⟩
  exact ⟨g, cap, cur, e1, Nat.le_trans hb e2, e3⟩
theorem part_le {ps : List (List UInt8)} {k : Nat} (hk : k < ps.length) : (ps[k]'hk).length ≤ (joinF ps).length := by
  have h1 := sizeTo_step ps k hk
  have h2 := sizeTo_le ps (k + 1)
  omega
/-- A slice value that holds these bytes. -/
def Slot (w : World) (B : Nat) (v : Value) (l : List UInt8) : Prop := ∃ (A : Option Addr) (c : Nat), v = Value.slice A l.length c ∧ l.length ≤ c ∧ c ≤ 9223372036854775807 ∧ Sees w B 1 A l.length (bys l)
theorem Lists.slot {w : World} {B : Nat} {vs : List Value} {ls : List (List UInt8)} (h : Lists w B vs ls) (i : Nat) {v : Value} {l : List UInt8} (hv : vs[i]? = some v) (hl : ls[i]? = some l) : Slot w B v l := by
  obtain ⟨A, c, h1, h2, h3, h4⟩ := h.2 i l hl
  rw [hv] at h1
  injection h1 with h1
  exact ⟨A, c, h1, h2, h3, h4⟩
theorem Lists.cons {w : World} {B : Nat} {vs : List Value} {ls : List (List UInt8)} {v : Value} {l : List UInt8} (hs : Slot w B v l) (h : Lists w B vs ls) : Lists w B (v :: vs) (l :: ls) := by
  refine ⟨by simp [h.1], fun i x hx => ?_⟩
  cases i with
  | zero =>
    simp at hx
    subst hx
    obtain ⟨A, c, h1, h2, h3, h4⟩ := hs
    exact ⟨A, c, by simp [h1], h2, h3, h4⟩
  | succ i =>
    simp at hx
    obtain ⟨A, c, h1, h2⟩ := h.2 i x hx
    exact ⟨A, c, by simpa using h1, h2⟩
/-- What has been written since w0, one behind the other. -/
structure Acc (w0 w : World) (vs : List Value) (ls : List (List UInt8)) : Prop where
  below : Below w0.heap.size w0 w
  lists : Lists w w.heap.size vs ls
theorem Acc.start (w0 : World) : Acc w0 w0 [] [] := ⟨Below.refl _ _, Lists.nothing _ _⟩
theorem Acc.drew {w0 w : World} {vs : List Value} {ls : List (List UInt8)} (h : Acc w0 w vs ls) : Acc w0 w.drew vs ls := ⟨h.below.drew, h.lists.below (Below.drew (Below.refl _ _))⟩
theorem own_slot {w0 w w1 : World} {vs : List Value} {ls : List (List UInt8)} {b : List UInt8} {v : Value} (h : Acc w0 w vs ls) (ho : w1.ownsRow w.heap.size 5 1 v b.length (bys b)) (hB : Below w.heap.size w w1) :
    ∃ A c, v = .slice A b.length c ∧ Acc w0 w1 (vs ++ [.slice A b.length c]) (ls ++ [b]) := by
  obtain ⟨A, c, rfl, hc, hm, _, hs⟩ := own_slice ho
  exact ⟨A, c, rfl, h.below.trans (hB.mono h.below.size), ((h.lists.below hB).wide hB.size).snoc hc hm hs⟩
theorem Acc.step {w0 w w1 : World} {vs : List Value} {ls : List (List UInt8)} {b : List UInt8} {v : Value} (h : Acc w0 w vs ls) (ho : w1.ownsRow w.heap.size 5 1 v b.length (bys b)) (hB : Below w.heap.size w w1) : Acc w0 w1 (vs ++ [v]) (ls ++ [b]) := by
  obtain ⟨A, c, rfl, hc, hm, _, hs⟩ := own_slice ho
  exact ⟨h.below.trans (hB.mono h.below.size), ((h.lists.below hB).wide hB.size).snoc hc hm hs⟩
/-- What lay when it began lies; an allocation more. -/
theorem Acc.alloc {w0 w : World} {vs : List Value} {ls : List (List UInt8)} (h : Acc w0 w vs ls) (o : Obj) : Acc w0 (w.alloc o) vs ls :=
  ⟨h.below.alloc h.below.size _, (h.lists.below ((Below.refl _ _).alloc (Nat.le_refl _) o)).wide (by simp)⟩
theorem boxed (w : World) (cs : Array Value) (t : TypeId) (j : Nat) : (w.alloc (.cells cs t)).cell? ⟨w.heap.size, j, none⟩ = cs[j]? := by
  rw [World.cell?_alloc_at _ _ _ _ (by simp)]
/-- Part of a boxed row, as a slice. -/
theorem slot_boxed {w : World} {g k B n : Nat} {l : List UInt8} {cs : List Value} (hn : l.length = n) (hl : n ≤ 9223372036854775807) (hg : g < B) (hw : ∀ j, w.cell? ⟨g, j, none⟩ = cs[j]?) (hseg : ∀ j, j < l.length → cs[k + j]? = (bys l)[j]?) : Slot w B (.slice (some ⟨g, k, none⟩) n n) l := by
  subst hn
  refine ⟨_, _, rfl, Nat.le_refl _, hl, by rw [bys_len]; omega, .inr ⟨_, rfl, hg, fun j u hu => ?_⟩⟩
  have hj : j < l.length := by
    rcases Nat.lt_or_ge j l.length with h | h
    · exact h
    · rw [List.getElem?_eq_none (by rw [bys_len]; exact h)] at hu; cases hu
  have e : (⟨g, k, none⟩ : Addr).add j = ⟨g, k + j, none⟩ := by unfold Addr.add; split <;> simp_all
  rw [e, hw, hseg j hj, hu]
/-- A literal of slices, joined. -/
theorem join_built (wk : World) (t : TypeId) (vs : List Value) (ls : List (List UInt8)) (h : Lists wk wk.heap.size vs ls) (hT : (joinF ls).length ≤ 140737488355328) :
    Calls Tryd.prog 43 #[.slice (some ⟨wk.heap.size, 0, none⟩) ls.length ls.length] (wk.alloc (.cells vs.toArray t)) (Wrote (wk.alloc (.cells vs.toArray t)) (joinF ls)) := by
  have hs : Sees (wk.alloc (.cells vs.toArray t)) (wk.heap.size + 1) 1 (some ⟨wk.heap.size, 0, none⟩) ls.length vs := by
    refine ⟨by rw [h.1, Nat.mul_one], .inr ⟨_, rfl, Nat.lt_succ_self _, fun j u hu => ?_⟩⟩
    rw [add_at, boxed]
    simpa using hu
  have hb : Below wk.heap.size wk (wk.alloc (.cells vs.toArray t)) := (Below.refl _ _).alloc (Nat.le_refl _) _
  exact join_any (wk.heap.size + 1) _ _ _ ls _ hs ((h.below hb).wide (by omega)) (by simp) (by omega)
/-- The encoder's end. -/
theorem wrote_end {w W0 wk w2 : World} {vs : List Value} {ls : List (List UInt8)} {b : List UInt8} {o : Obj} {v : Value} (h0 : Below w.heap.size w W0) (h : Acc W0 wk vs ls) (ho : w2.ownsRow (wk.alloc o).heap.size 5 1 v b.length (bys b)) (hB : Below (wk.alloc o).heap.size (wk.alloc o) w2) :
    w2.ownsRow w.heap.size 5 1 v b.length (bys b) ∧ Below w.heap.size w w2 := by
  have h1 := h.alloc o
  have h2 : Below w.heap.size w (wk.alloc o) := h0.trans (h1.below.mono h0.size)
  exact ⟨own_wide ho h2.size, h2.trans (hB.mono h2.size)⟩
theorem box_reads {w wk : World} {cs : List Value} {t : TypeId} (h : Below (w.alloc (.cells cs.toArray t)).heap.size (w.alloc (.cells cs.toArray t)) wk) (j : Nat) : wk.cell? ⟨w.heap.size, j, none⟩ = cs[j]? := by
  rw [h.cell (p := ⟨w.heap.size, j, none⟩) (by simp), boxed]
  simp
/-- From place k on the cells are these. -/
def At (cs : List Value) (k : Nat) (rest : List Value) : Prop := cs.drop k = rest
theorem At.of {l cs : List Value} (h : l = cs) : At cs 0 l := h.symm
theorem At.next {cs : List Value} {k : Nat} {l rest : List Value} (h : At cs k (l ++ rest)) (m k' : Nat) (hm : l.length = m) (hk : k' = k + m) : At cs k' rest := by
  subst hk
  unfold At at *
  rw [← List.drop_drop, h, ← hm, List.drop_left]
theorem At.seg {cs : List Value} {k : Nat} {l rest : List Value} (h : At cs k (l ++ rest)) (j : Nat) (hj : j < l.length) : cs[k + j]? = l[j]? := by
  have e : (cs.drop k)[j]? = cs[k + j]? := List.getElem?_drop
  rw [← e, h, List.getElem?_append_left hj]
theorem At.bytes {cs : List Value} {k : Nat} {b : List UInt8} {rest : List Value} (h : At cs k (bys b ++ rest)) (j : Nat) (hj : j < b.length) : cs[k + j]? = (bys b)[j]? := h.seg j (by rw [bys_len]; exact hj)
theorem At.one {cs : List Value} {k : Nat} {v : Value} {rest : List Value} (h : At cs k ([v] ++ rest)) : cs[k]? = some v := h.seg 0 (by simp)
set_option maxRecDepth 20000 in
theorem build_3 (W : World) (A0 : Option Addr) (n0 c0 : Nat) (A1 : Option Addr) (n1 c1 : Nat) (A2 : Option Addr) (n2 c2 : Nat) : (Instr.buildSlice 69 3 #[(0, Value.slice A0 n0 c0), (1, Value.slice A1 n1 c1), (2, Value.slice A2 n2 c2)]).run Tryd.prog W = .ok (.slice (some ⟨W.heap.size, 0, none⟩) 3 3) (W.alloc (.cells #[Value.slice A0 n0 c0, Value.slice A1 n1 c1, Value.slice A2 n2 c2] 31)) := by
  obtain ⟨i0, hi, hz0, hz1, hz2⟩ := info_parts Tryd.infoSlice
  exact run_buildSlice (P := Tryd.prog) W 69 31 3 _ _ i0 (.slice none 0 0) Tryd.underlying69 hi hz0 (by rw [hz1]; decide) (by rw [hz1]; decide) (by rw [hz1]; exact Great.fill_flat [Value.slice A0 n0 c0, Value.slice A1 n1 c1, Value.slice A2 n2 c2] _ (by simp [Value.cells]) (by simp))

set_option maxRecDepth 20000 in
theorem build_8 (W : World) (A0 : Option Addr) (n0 c0 : Nat) (A1 : Option Addr) (n1 c1 : Nat) (A2 : Option Addr) (n2 c2 : Nat) (A3 : Option Addr) (n3 c3 : Nat) (A4 : Option Addr) (n4 c4 : Nat) (A5 : Option Addr) (n5 c5 : Nat) (A6 : Option Addr) (n6 c6 : Nat) (A7 : Option Addr) (n7 c7 : Nat) : (Instr.buildSlice 69 8 #[(0, Value.slice A0 n0 c0), (1, Value.slice A1 n1 c1), (2, Value.slice A2 n2 c2), (3, Value.slice A3 n3 c3), (4, Value.slice A4 n4 c4), (5, Value.slice A5 n5 c5), (6, Value.slice A6 n6 c6), (7, Value.slice A7 n7 c7)]).run Tryd.prog W = .ok (.slice (some ⟨W.heap.size, 0, none⟩) 8 8) (W.alloc (.cells #[Value.slice A0 n0 c0, Value.slice A1 n1 c1, Value.slice A2 n2 c2, Value.slice A3 n3 c3, Value.slice A4 n4 c4, Value.slice A5 n5 c5, Value.slice A6 n6 c6, Value.slice A7 n7 c7] 31)) := by
  obtain ⟨i0, hi, hz0, hz1, hz2⟩ := info_parts Tryd.infoSlice
  exact run_buildSlice (P := Tryd.prog) W 69 31 8 _ _ i0 (.slice none 0 0) Tryd.underlying69 hi hz0 (by rw [hz1]; decide) (by rw [hz1]; decide) (by rw [hz1]; exact Great.fill_flat [Value.slice A0 n0 c0, Value.slice A1 n1 c1, Value.slice A2 n2 c2, Value.slice A3 n3 c3, Value.slice A4 n4 c4, Value.slice A5 n5 c5, Value.slice A6 n6 c6, Value.slice A7 n7 c7] _ (by simp [Value.cells]) (by simp))
end Go.Proofs.YtapbaonlboefeaaDoor
