/- merkle's preimages: leafPreimage, nodePreimage, rootPreimage; merkle.number. -/
import Derived.Test.YthmkdlnocdbhjaaDoorJb
import Derived.Test.YthmkdlnocdbhjaaDoorCopy
import Derived.Lib.SlBytesConst
import Derived.Deep.RegionWith
namespace Go.Proofs.YthmkdlnocdbhjaaDoor
open Go.RowKit

def tagLeaf : List UInt8 := [108, 101, 97, 102]
def tagNode : List UInt8 := [110, 111, 100, 101]
def tagList : List UInt8 := [108, 105, 115, 116]
def tagNone : List UInt8 := [110, 111, 110, 101]
def leafB (e : List UInt8) : List UInt8 := joinF [tagLeaf, e]
def nodeB (a b : List UInt8) : List UInt8 := joinF [tagNode, a, b]
def rootB (n : Nat) (d : List UInt8) : List UInt8 := joinF [tagList, b8 n, d]
def noneB : List UInt8 := joinF [tagNone]
theorem leafB_len (e : List UInt8) : (leafB e).length = 28 + e.length := by simp [leafB, joinF_len, partsOf, part_len, tagLeaf]; omega
theorem nodeB_len (a b : List UInt8) : (nodeB a b).length = 36 + a.length + b.length := by simp [nodeB, joinF_len, partsOf, part_len, tagNode]; omega
theorem rootB_len (n : Nat) (d : List UInt8) : (rootB n d).length = 44 + d.length := by simp [rootB, joinF_len, partsOf, part_len, tagList, b8_len]; omega

set_option maxRecDepth 20000 in
/-- A literal of four bytes. -/
theorem build_b4 (W : World) (a b c d : Int) : (Instr.buildSlice 33 4 #[(0, .int .u8 a), (1, .int .u8 b), (2, .int .u8 c), (3, .int .u8 d)]).run Tryd.prog W = .ok (.slice (some ⟨W.heap.size, 0, none⟩) 4 4) (W.alloc (.cells #[.int .u8 a, .int .u8 b, .int .u8 c, .int .u8 d] 5)) := by
  obtain ⟨i0, hi, hz0, hz1, hz2⟩ := info_parts Tryd.infoByte
  exact run_buildSlice (P := Tryd.prog) W 33 5 4 _ _ i0 (.int .u8 0) Tryd.underlying33 hi hz0 (by rw [hz1]; decide) (by rw [hz1]; decide) (by rw [hz1]; exact Great.fill_flat [.int .u8 a, .int .u8 b, .int .u8 c, .int .u8 d] _ (by simp [Value.cells]) (by simp))
set_option maxRecDepth 20000 in
theorem build_2 (W : World) (A0 : Option Addr) (n0 c0 : Nat) (A1 : Option Addr) (n1 c1 : Nat) : (Instr.buildSlice 22 2 #[(0, Value.slice A0 n0 c0), (1, Value.slice A1 n1 c1)]).run Tryd.prog W = .ok (.slice (some ⟨W.heap.size, 0, none⟩) 2 2) (W.alloc (.cells #[Value.slice A0 n0 c0, Value.slice A1 n1 c1] 33)) := by
  obtain ⟨i0, hi, hz0, hz1, hz2⟩ := info_parts Tryd.infoSlice
  exact run_buildSlice (P := Tryd.prog) W 22 33 2 _ _ i0 (.slice none 0 0) Tryd.underlying22 hi hz0 (by rw [hz1]; decide) (by rw [hz1]; decide) (by rw [hz1]; exact Great.fill_flat [Value.slice A0 n0 c0, Value.slice A1 n1 c1] _ (by simp [Value.cells]) (by simp))
set_option maxRecDepth 20000 in
theorem build_1 (W : World) (A0 : Option Addr) (n0 c0 : Nat) : (Instr.buildSlice 22 1 #[(0, Value.slice A0 n0 c0)]).run Tryd.prog W = .ok (.slice (some ⟨W.heap.size, 0, none⟩) 1 1) (W.alloc (.cells #[Value.slice A0 n0 c0] 33)) := by
  obtain ⟨i0, hi, hz0, hz1, hz2⟩ := info_parts Tryd.infoSlice
  exact run_buildSlice (P := Tryd.prog) W 22 33 1 _ _ i0 (.slice none 0 0) Tryd.underlying22 hi hz0 (by rw [hz1]; decide) (by rw [hz1]; decide) (by rw [hz1]; exact Great.fill_flat [Value.slice A0 n0 c0] _ (by simp [Value.cells]) (by simp))
/-- A literal of four bytes just made, marked. -/
theorem slot_lit (w : World) (t : TypeId) (z : Nat × Nat) (a b c d : UInt8) : Slot (w.alloc (.cells #[by_ a, by_ b, by_ c, by_ d] t z)) (w.heap.size + 1) (.slice (some ⟨w.heap.size, 0, none⟩) 4 4) [a, b, c, d] := by
  refine slot_boxed (cs := [by_ a, by_ b, by_ c, by_ d]) rfl (by omega) (Nat.lt_succ_self _) (fun j => ?_) (fun j hj => ?_)
  · rw [cell_of_row _ w.heap.size j _ t z (heap_alloc_new w _)]; simp
  · simp [bys]
theorem Slot.below {w w' : World} {B : Nat} {v : Value} {l : List UInt8} (h : Slot w B v l) (hb : Below B w w') : Slot w' B v l := by
  obtain ⟨A, c, h1, h2, h3, h4⟩ := h
  exact ⟨A, c, h1, h2, h3, h4.below hb⟩
theorem Slot.wide {w : World} {B B' : Nat} {v : Value} {l : List UInt8} (h : Slot w B v l) (hb : B ≤ B') : Slot w B' v l := by
  obtain ⟨A, c, h1, h2, h3, h4⟩ := h
  exact ⟨A, c, h1, h2, h3, h4.wide hb⟩
theorem below_alloc1 (w : World) (o : Obj) : Below w.heap.size w (w.alloc o) := (Below.refl _ _).alloc (Nat.le_refl _) _

theorem join_lit (wk : World) (t : TypeId) (vs : List Value) (ls : List (List UInt8)) (G n : Nat) (hG : wk.heap.size = G) (hn : ls.length = n) (h : Lists wk wk.heap.size vs ls) (hT : (joinF ls).length ≤ 140737488355328) :
    Calls Tryd.prog 56 #[.slice (some ⟨G, 0, none⟩) n n] (wk.alloc (.cells vs.toArray t)) (Wrote (wk.alloc (.cells vs.toArray t)) (joinF ls)) := by
  subst hG; subst hn; exact join_built wk t vs ls h hT

set_option maxRecDepth 20000 in
set_option maxHeartbeats 1600000 in
theorem leaf_any (B : Nat) (A : Option Addr) (c : Nat) (e : List UInt8) (w : World) (hs : Sees w B 1 A e.length (bys e)) (hB : B ≤ w.heap.size) (hc : e.length ≤ c) (hcm : c ≤ 9223372036854775807) (he : e.length ≤ 140737488351232) :
    Calls Tryd.prog 60 #[.slice A e.length c] w (Wrote w (leafB e)) := by
  have hb4 := build_b4
  have kc := fun (w : World) (C : Array Value) (n c : Nat) => Lib.run_convert_bytes_const (P := Tryd.prog) w 33 5 C n c Tryd.underlying33 Tryd.underlying5
  have hb2 := build_2
  have hb1 := below_alloc1 w (.cells #[.int .u8 108, .int .u8 101, .int .u8 97, .int .u8 102] 5 (4, 5))
  have hl : Lists (w.alloc (.cells #[.int .u8 108, .int .u8 101, .int .u8 97, .int .u8 102] 5 (4, 5))) (w.alloc (.cells #[.int .u8 108, .int .u8 101, .int .u8 97, .int .u8 102] 5 (4, 5))).heap.size [.slice (some ⟨w.heap.size, 0, none⟩) 4 4, .slice A e.length c] [tagLeaf, e] :=
    Lists.cons ((slot_lit w _ _ 108 101 97 102).wide (by simp)) (Lists.cons (Slot.wide (B := w.heap.size) (Slot.below ⟨A, c, rfl, hc, hcm, hs.wide hB⟩ hb1) (by simp)) (Lists.nothing _ _))
  have hj := Lib.hid (join_lit _ 33 _ _ (w.heap.size + 1) 2 (by simp) rfl hl (by have := leafB_len e; unfold leafB at this; omega))
  have hst : Below w.heap.size w ((w.alloc (.cells #[.int .u8 108, .int .u8 101, .int .u8 97, .int .u8 102] 5 (4, 5))).alloc (.cells #[.slice (some ⟨w.heap.size, 0, none⟩) 4 4, .slice A e.length c] 33)) := hb1.alloc hb1.size _
  have hsz := hst.size
  clear hl hs
  go_enter Tryd.func60, Tryd.ntmps60
  go_wp2_with fail
  refine hj.out.mono ?_
  rintro e2 w2 ⟨v2, rfl, ho, hB2⟩
  go_wp2
  go_ret
  exact ⟨_, rfl, own_wide ho hsz, hst.trans (hB2.mono hsz)⟩
end Go.Proofs.YthmkdlnocdbhjaaDoor
