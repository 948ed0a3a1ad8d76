/- Literals of bytes and of slices, boxed rows as slices, joined. -/
import Derived.Test.YtapbaonlboefeaaDoorJb
import Derived.Test.YtapbaonlboefeaaDoorSet
import Derived.Lib.SlBytesConst
import Derived.Deep.RegionWith
namespace Go.Proofs.YtapbaonlboefeaaDoor
open Go.RowKit

def tagLeaf : List UInt8 := [108, 101, 97, 102]
def tagNode : List UInt8 := [110, 111, 100, 101]
def tagList : List UInt8 := [108, 105, 115, 116]
def tagNone : List UInt8 := [110, 111, 110, 101]
def leafB (e : List UInt8) : List UInt8 := joinF [tagLeaf, e]
def nodeB (a b : List UInt8) : List UInt8 := joinF [tagNode, a, b]
def rootB (n : Nat) (d : List UInt8) : List UInt8 := joinF [tagList, b8 n, d]
def noneB : List UInt8 := joinF [tagNone]
theorem leafB_len (e : List UInt8) : (leafB e).length = 28 + e.length := by simp [leafB, joinF_len, partsOf, part_len, tagLeaf]; omega
theorem nodeB_len (a b : List UInt8) : (nodeB a b).length = 36 + a.length + b.length := by simp [nodeB, joinF_len, partsOf, part_len, tagNode]; omega
theorem rootB_len (n : Nat) (d : List UInt8) : (rootB n d).length = 44 + d.length := by simp [rootB, joinF_len, partsOf, part_len, tagList, b8_len]; omega

set_option maxRecDepth 20000 in
/-- A literal of four bytes. -/
theorem build_b4 (W : World) (a b c d : Int) : (Instr.buildSlice 31 4 #[(0, .int .u8 a), (1, .int .u8 b), (2, .int .u8 c), (3, .int .u8 d)]).run Tryd.prog W = .ok (.slice (some ⟨W.heap.size, 0, none⟩) 4 4) (W.alloc (.cells #[.int .u8 a, .int .u8 b, .int .u8 c, .int .u8 d] 5)) := by
  obtain ⟨i0, hi, hz0, hz1, hz2⟩ := info_parts Tryd.infoByte
  exact run_buildSlice (P := Tryd.prog) W 31 5 4 _ _ i0 (.int .u8 0) Tryd.underlying31 hi hz0 (by rw [hz1]; decide) (by rw [hz1]; decide) (by rw [hz1]; exact Great.fill_flat [.int .u8 a, .int .u8 b, .int .u8 c, .int .u8 d] _ (by simp [Value.cells]) (by simp))
set_option maxRecDepth 20000 in
theorem build_2 (W : World) (A0 : Option Addr) (n0 c0 : Nat) (A1 : Option Addr) (n1 c1 : Nat) : (Instr.buildSlice 69 2 #[(0, Value.slice A0 n0 c0), (1, Value.slice A1 n1 c1)]).run Tryd.prog W = .ok (.slice (some ⟨W.heap.size, 0, none⟩) 2 2) (W.alloc (.cells #[Value.slice A0 n0 c0, Value.slice A1 n1 c1] 31)) := by
  obtain ⟨i0, hi, hz0, hz1, hz2⟩ := info_parts Tryd.infoSlice
  exact run_buildSlice (P := Tryd.prog) W 69 31 2 _ _ i0 (.slice none 0 0) Tryd.underlying69 hi hz0 (by rw [hz1]; decide) (by rw [hz1]; decide) (by rw [hz1]; exact Great.fill_flat [Value.slice A0 n0 c0, Value.slice A1 n1 c1] _ (by simp [Value.cells]) (by simp))
set_option maxRecDepth 20000 in
theorem build_1 (W : World) (A0 : Option Addr) (n0 c0 : Nat) : (Instr.buildSlice 69 1 #[(0, Value.slice A0 n0 c0)]).run Tryd.prog W = .ok (.slice (some ⟨W.heap.size, 0, none⟩) 1 1) (W.alloc (.cells #[Value.slice A0 n0 c0] 31)) := by
  obtain ⟨i0, hi, hz0, hz1, hz2⟩ := info_parts Tryd.infoSlice
  exact run_buildSlice (P := Tryd.prog) W 69 31 1 _ _ i0 (.slice none 0 0) Tryd.underlying69 hi hz0 (by rw [hz1]; decide) (by rw [hz1]; decide) (by rw [hz1]; exact Great.fill_flat [Value.slice A0 n0 c0] _ (by simp [Value.cells]) (by simp))
/-- A literal of four bytes just made, marked. -/
theorem slot_lit (w : World) (t : TypeId) (z : Nat × Nat) (a b c d : UInt8) : Slot (w.alloc (.cells #[by_ a, by_ b, by_ c, by_ d] t z)) (w.heap.size + 1) (.slice (some ⟨w.heap.size, 0, none⟩) 4 4) [a, b, c, d] := by
  refine slot_boxed (cs := [by_ a, by_ b, by_ c, by_ d]) rfl (by omega) (Nat.lt_succ_self _) (fun j => ?_) (fun j hj => ?_)
  · rw [cell_of_row _ w.heap.size j _ t z (heap_alloc_new w _)]; simp
  · simp [bys]
theorem Slot.below {w w' : World} {B : Nat} {v : Value} {l : List UInt8} (h : Slot w B v l) (hb : Below B w w') : Slot w' B v l := by
  obtain ⟨A, c, h1, h2, h3, h4⟩ := h
  exact ⟨A, c, h1, h2, h3, h4.below hb⟩
theorem Slot.wide {w : World} {B B' : Nat} {v : Value} {l : List UInt8} (h : Slot w B v l) (hb : B ≤ B') : Slot w B' v l := by
  obtain ⟨A, c, h1, h2, h3, h4⟩ := h
  exact ⟨A, c, h1, h2, h3, h4.wide hb⟩
theorem below_alloc1 (w : World) (o : Obj) : Below w.heap.size w (w.alloc o) := (Below.refl _ _).alloc (Nat.le_refl _) _

theorem join_lit (wk : World) (t : TypeId) (vs : List Value) (ls : List (List UInt8)) (G n : Nat) (hG : wk.heap.size = G) (hn : ls.length = n) (h : Lists wk wk.heap.size vs ls) (hT : (joinF ls).length ≤ 140737488355328) :
    Calls Tryd.prog 43 #[.slice (some ⟨G, 0, none⟩) n n] (wk.alloc (.cells vs.toArray t)) (Wrote (wk.alloc (.cells vs.toArray t)) (joinF ls)) := by
  subst hG; subst hn; exact join_built wk t vs ls h hT

/-- '[]byte("..")' where the order was drawn. -/
theorem conv_lit (w : World) (C : Array Value) (n c G : Nat) (hG : w.heap.size = G) : (convert 31 31 (.slice (some ⟨G, 0, none⟩) n c)).run Tryd.prog (w.alloc (.cells C 5)).drew = .ok (.slice (some ⟨G, 0, none⟩) n c) (w.alloc (.cells C 5 (C.size, C.size + 1))).drew := by
  subst hG
  exact Lib.run_convert_bytes_const (P := Tryd.prog) w.drew 31 5 C n c Tryd.underlying31 Tryd.underlying5
theorem drew_size (w : World) : w.drew.heap.size = w.heap.size := rfl
/-- A boxed array of bytes, as a slice of all of it. -/
theorem slot_box (w : World) (l : List UInt8) (n : Nat) (hn : l.length = n) (h : n ≤ 9223372036854775807) (t : TypeId) : Slot (w.alloc (.cells (bys l).toArray t)) (w.heap.size + 1) (.slice (some ⟨w.heap.size, 0, none⟩) n n) l :=
  slot_boxed (cs := bys l) hn h (Nat.lt_succ_self _) (fun j => by rw [boxed]; simp) (fun j _ => by rw [Nat.zero_add])
theorem Slot.alloc {w : World} {B : Nat} {v : Value} {l : List UInt8} (h : Slot w B v l) (hB : B ≤ w.heap.size) (o : Obj) : Slot (w.alloc o) B v l := h.below ((Below.refl _ _).alloc hB o)

/-- The literal of slices joined, where the order was drawn. -/
theorem join_drew (wk : World) (t : TypeId) (vs : List Value) (ls : List (List UInt8)) (G n : Nat) (hG : wk.heap.size = G) (hn : ls.length = n) (h : Lists wk wk.heap.size vs ls) (hT : (joinF ls).length ≤ 140737488355328) :
    Calls Tryd.prog 43 #[.slice (some ⟨G, 0, none⟩) n n] (wk.alloc (.cells vs.toArray t)).drew (Wrote (wk.alloc (.cells vs.toArray t)).drew (joinF ls)) :=
  join_lit wk.drew t vs ls G n hG hn (h.below (Below.drew (Below.refl _ _))) hT

end Go.Proofs.YtapbaonlboefeaaDoor
