/- merkle's preimages: leafPreimage, nodePreimage, rootPreimage; merkle.number. | merkle.nodePreimage. | merkle.number. -/
import Derived.Test.YthmkdlnocdbhjaaDoorJb
import Derived.Test.YthmkdlnocdbhjaaDoorCopy
import Derived.Lib.SlBytesConst
import Derived.Deep.RegionWith
namespace Go.Proofs.YthmkdlnocdbhjaaDoor
open Go.RowKit

def tagLeaf : List UInt8 := [108, 101, 97, 102]
def tagNode : List UInt8 := [110, 111, 100, 101]
def tagList : List UInt8 := [108, 105, 115, 116]
def tagNone : List UInt8 := [110, 111, 110, 101]
def leafB (e : List UInt8) : List UInt8 := joinF [tagLeaf, e]
def nodeB (a b : List UInt8) : List UInt8 := joinF [tagNode, a, b]
def rootB (n : Nat) (d : List UInt8) : List UInt8 := joinF [tagList, b8 n, d]
def noneB : List UInt8 := joinF [tagNone]
theorem leafB_len (e : List UInt8) : (leafB e).length = 28 + e.length := by simp [leafB, joinF_len, partsOf, part_len, tagLeaf]; omega
theorem nodeB_len (a b : List UInt8) : (nodeB a b).length = 36 + a.length + b.length := by simp [nodeB, joinF_len, partsOf, part_len, tagNode]; omega
theorem rootB_len (n : Nat) (d : List UInt8) : (rootB n d).length = 44 + d.length := by simp [rootB, joinF_len, partsOf, part_len, tagList, b8_len]; omega

set_option maxRecDepth 20000 in
/-- A literal of four bytes. -/
theorem build_b4 (W : World) (a b c d : Int) : (Instr.buildSlice 33 4 #[(0, .int .u8 a), (1, .int .u8 b), (2, .int .u8 c), (3, .int .u8 d)]).run Tryd.prog W = .ok (.slice (some ⟨W.heap.size, 0, none⟩) 4 4) (W.alloc (.cells #[.int .u8 a, .int .u8 b, .int .u8 c, .int .u8 d] 5)) := by
  obtain ⟨i0, hi, hz0, hz1, hz2⟩ := info_parts Tryd.infoByte
  exact run_buildSlice (P := Tryd.prog) W 33 5 4 _ _ i0 (.int .u8 0) Tryd.underlying33 hi hz0 (by rw [hz1]; decide) (by rw [hz1]; decide) (by rw [hz1]; exact Great.fill_flat [.int .u8 a, .int .u8 b, .int .u8 c, .int .u8 d] _ (by simp [Value.cells]) (by simp))
set_option maxRecDepth 20000 in
theorem build_2 (W : World) (A0 : Option Addr) (n0 c0 : Nat) (A1 : Option Addr) (n1 c1 : Nat) : (Instr.buildSlice 22 2 #[(0, Value.slice A0 n0 c0), (1, Value.slice A1 n1 c1)]).run Tryd.prog W = .ok (.slice (some ⟨W.heap.size, 0, none⟩) 2 2) (W.alloc (.cells #[Value.slice A0 n0 c0, Value.slice A1 n1 c1] 33)) := by
  obtain ⟨i0, hi, hz0, hz1, hz2⟩ := info_parts Tryd.infoSlice
  exact run_buildSlice (P := Tryd.prog) W 22 33 2 _ _ i0 (.slice none 0 0) Tryd.underlying22 hi hz0 (by rw [hz1]; decide) (by rw [hz1]; decide) (by rw [hz1]; exact Great.fill_flat [Value.slice A0 n0 c0, Value.slice A1 n1 c1] _ (by simp [Value.cells]) (by simp))
set_option maxRecDepth 20000 in
theorem build_1 (W : World) (A0 : Option Addr) (n0 c0 : Nat) : (Instr.buildSlice 22 1 #[(0, Value.slice A0 n0 c0)]).run Tryd.prog W = .ok (.slice (some ⟨W.heap.size, 0, none⟩) 1 1) (W.alloc (.cells #[Value.slice A0 n0 c0] 33)) := by
  obtain ⟨i0, hi, hz0, hz1, hz2⟩ := info_parts Tryd.infoSlice
  exact run_buildSlice (P := Tryd.prog) W 22 33 1 _ _ i0 (.slice none 0 0) Tryd.underlying22 hi hz0 (by rw [hz1]; decide) (by rw [hz1]; decide) (by rw [hz1]; exact Great.fill_flat [Value.slice A0 n0 c0] _ (by simp [Value.cells]) (by simp))
/-- A literal of four bytes just made, marked. -/
theorem slot_lit (w : World) (t : TypeId) (z : Nat × Nat) (a b c d : UInt8) : Slot (w.alloc (.cells #[by_ a, by_ b, by_ c, by_ d] t z)) (w.heap.size + 1) (.slice (some ⟨w.heap.size, 0, none⟩) 4 4) [a, b, c, d] := by
  refine slot_boxed (cs := [by_ a, by_ b, by_ c, by_ d]) rfl (by omega) (Nat.lt_succ_self _) (fun j => ?_) (fun j hj => ?_)
  · rw [cell_of_row _ w.heap.size j _ t z (heap_alloc_new w _)]; simp
  · simp [bys]
theorem Slot.below {w w' : World} {B : Nat} {v : Value} {l : List UInt8} (h : Slot w B v l) (hb : Below B w w') : Slot w' B v l := by
  obtain ⟨A, c, h1, h2, h3, h4⟩ := h
  exact ⟨A, c, h1, h2, h3, h4.below hb⟩
theorem Slot.wide {w : World} {B B' : Nat} {v : Value} {l : List UInt8} (h : Slot w B v l) (hb : B ≤ B') : Slot w B' v l := by
  obtain ⟨A, c, h1, h2, h3, h4⟩ := h
  exact ⟨A, c, h1, h2, h3, h4.wide hb⟩
theorem below_alloc1 (w : World) (o : Obj) : Below w.heap.size w (w.alloc o) := (Below.refl _ _).alloc (Nat.le_refl _) _

theorem join_lit (wk : World) (t : TypeId) (vs : List Value) (ls : List (List UInt8)) (G n : Nat) (hG : wk.heap.size = G) (hn : ls.length = n) (h : Lists wk wk.heap.size vs ls) (hT : (joinF ls).length ≤ 140737488355328) :
    Calls Tryd.prog 56 #[.slice (some ⟨G, 0, none⟩) n n] (wk.alloc (.cells vs.toArray t)) (Wrote (wk.alloc (.cells vs.toArray t)) (joinF ls)) := by
  subst hG; subst hn; exact join_built wk t vs ls h hT

set_option maxRecDepth 20000 in
set_option maxHeartbeats 1600000 in
theorem leaf_any (B : Nat) (A : Option Addr) (c : Nat) (e : List UInt8) (w : World) (hs : Sees w B 1 A e.length (bys e)) (hB : B ≤ w.heap.size) (hc : e.length ≤ c) (hcm : c ≤ 9223372036854775807) (he : e.length ≤ 140737488351232) :
    Calls Tryd.prog 60 #[.slice A e.length c] w (Wrote w (leafB e)) := by
  have hb4 := build_b4
  have kc := fun (w : World) (C : Array Value) (n c : Nat) => Lib.run_convert_bytes_const (P := Tryd.prog) w 33 5 C n c Tryd.underlying33 Tryd.underlying5
  have hb2 := build_2
  have hb1 := below_alloc1 w (.cells #[.int .u8 108, .int .u8 101, .int .u8 97, .int .u8 102] 5 (4, 5))
  have hl : Lists (w.alloc (.cells #[.int .u8 108, .int .u8 101, .int .u8 97, .int .u8 102] 5 (4, 5))) (w.alloc (.cells #[.int .u8 108, .int .u8 101, .int .u8 97, .int .u8 102] 5 (4, 5))).heap.size [.slice (some ⟨w.heap.size, 0, none⟩) 4 4, .slice A e.length c] [tagLeaf, e] :=
    Lists.cons ((slot_lit w _ _ 108 101 97 102).wide (by simp)) (Lists.cons (Slot.wide (B := w.heap.size) (Slot.below ⟨A, c, rfl, hc, hcm, hs.wide hB⟩ hb1) (by simp)) (Lists.nothing _ _))
  have hj := Lib.hid (join_lit _ 33 _ _ (w.heap.size + 1) 2 (by simp) rfl hl (by have := leafB_len e; unfold leafB at this; omega))
  have hst : Below w.heap.size w ((w.alloc (.cells #[.int .u8 108, .int .u8 101, .int .u8 97, .int .u8 102] 5 (4, 5))).alloc (.cells #[.slice (some ⟨w.heap.size, 0, none⟩) 4 4, .slice A e.length c] 33)) := hb1.alloc hb1.size _
  have hsz := hst.size
  clear hl hs
  go_enter Tryd.func60, Tryd.ntmps60
  go_wp2_with fail
  refine hj.out.mono ?_
  rintro e2 w2 ⟨v2, rfl, ho, hB2⟩
  go_wp2
  go_ret
  exact ⟨_, rfl, own_wide ho hsz, hst.trans (hB2.mono hsz)⟩
end Go.Proofs.YthmkdlnocdbhjaaDoor
namespace Go.Proofs.YthmkdlnocdbhjaaDoor
open Go.RowKit

/-- '[]byte("..")' where the order was drawn. -/
theorem conv_lit (w : World) (C : Array Value) (n c G : Nat) (hG : w.heap.size = G) : (convert 33 33 (.slice (some ⟨G, 0, none⟩) n c)).run Tryd.prog (w.alloc (.cells C 5)).drew = .ok (.slice (some ⟨G, 0, none⟩) n c) (w.alloc (.cells C 5 (C.size, C.size + 1))).drew := by
  subst hG
  exact Lib.run_convert_bytes_const (P := Tryd.prog) w.drew 33 5 C n c Tryd.underlying33 Tryd.underlying5
theorem drew_size (w : World) : w.drew.heap.size = w.heap.size := rfl
/-- A boxed array of bytes, as a slice of all of it. -/
theorem slot_box (w : World) (l : List UInt8) (n : Nat) (hn : l.length = n) (h : n ≤ 9223372036854775807) (t : TypeId) : Slot (w.alloc (.cells (bys l).toArray t)) (w.heap.size + 1) (.slice (some ⟨w.heap.size, 0, none⟩) n n) l :=
  slot_boxed (cs := bys l) hn h (Nat.lt_succ_self _) (fun j => by rw [boxed]; simp) (fun j _ => by rw [Nat.zero_add])
theorem Slot.alloc {w : World} {B : Nat} {v : Value} {l : List UInt8} (h : Slot w B v l) (hB : B ≤ w.heap.size) (o : Obj) : Slot (w.alloc o) B v l := h.below ((Below.refl _ _).alloc hB o)

/-- The literal of slices joined, where the order was drawn. -/
theorem join_drew (wk : World) (t : TypeId) (vs : List Value) (ls : List (List UInt8)) (G n : Nat) (hG : wk.heap.size = G) (hn : ls.length = n) (h : Lists wk wk.heap.size vs ls) (hT : (joinF ls).length ≤ 140737488355328) :
    Calls Tryd.prog 56 #[.slice (some ⟨G, 0, none⟩) n n] (wk.alloc (.cells vs.toArray t)).drew (Wrote (wk.alloc (.cells vs.toArray t)).drew (joinF ls)) :=
  join_lit wk.drew t vs ls G n hG hn (h.below (Below.drew (Below.refl _ _))) hT

set_option maxRecDepth 20000 in
set_option maxHeartbeats 1600000 in
theorem node_any (a b : List UInt8) (w : World) (ha : a.length = 32) (hb : b.length = 32) :
    Calls Tryd.prog 61 #[.agg (bys a).toArray, .agg (bys b).toArray] w (Wrote w (nodeB a b)) := by
  have hb4 := build_b4
  have hb3 := build_3
  have kc := conv_lit
  have h1 := slot_box w a 32 ha (by omega) 28
  have s1 := below_alloc1 w (.cells (bys a).toArray 28)
  generalize hw1 : w.alloc (.cells (bys a).toArray 28) = w1
  rw [hw1] at h1 s1
  have e1 : w1.heap.size = w.heap.size + 1 := by rw [← hw1]; simp
  have h2 := slot_box w1 b 32 hb (by omega) 28
  have s2 := below_alloc1 w1 (.cells (bys b).toArray 28)
  have h12 := h1.alloc (by omega) (.cells (bys b).toArray 28)
  generalize hw2 : w1.alloc (.cells (bys b).toArray 28) = w2
  rw [hw2] at h2 s2 h12
  have e2 : w2.heap.size = w.heap.size + 2 := by rw [← hw2]; simp; omega
  have h3 := slot_lit w2 5 (4, 5) 110 111 100 101
  have s3 := below_alloc1 w2 (.cells #[.int .u8 110, .int .u8 111, .int .u8 100, .int .u8 101] 5 (4, 5))
  have h23 := h2.alloc (by omega) (.cells #[.int .u8 110, .int .u8 111, .int .u8 100, .int .u8 101] 5 (4, 5))
  have h123 := h12.alloc (by omega) (.cells #[.int .u8 110, .int .u8 111, .int .u8 100, .int .u8 101] 5 (4, 5))
  rw [e1] at h2 h23
  rw [e2] at h3
  have hl : Lists (w2.alloc (.cells #[.int .u8 110, .int .u8 111, .int .u8 100, .int .u8 101] 5 (4, 5))) (w2.alloc (.cells #[.int .u8 110, .int .u8 111, .int .u8 100, .int .u8 101] 5 (4, 5))).heap.size [.slice (some ⟨w.heap.size + 2, 0, none⟩) 4 4, .slice (some ⟨w.heap.size, 0, none⟩) 32 32, .slice (some ⟨w.heap.size + 1, 0, none⟩) 32 32] [tagNode, a, b] :=
    Lists.cons (h3.wide (by simp; omega)) (Lists.cons (h123.wide (by simp; omega)) (Lists.cons (h23.wide (by simp; omega)) (Lists.nothing _ _)))
  have hj := Lib.hid (join_drew _ 33 _ _ (w.heap.size + 3) 3 (by simp; omega) rfl hl (by have := nodeB_len a b; unfold nodeB at this; omega))
  have hst : Below w.heap.size w ((w2.alloc (.cells #[.int .u8 110, .int .u8 111, .int .u8 100, .int .u8 101] 5 (4, 5))).alloc (.cells #[.slice (some ⟨w.heap.size + 2, 0, none⟩) 4 4, .slice (some ⟨w.heap.size, 0, none⟩) 32 32, .slice (some ⟨w.heap.size + 1, 0, none⟩) 32 32] 33)).drew := by
    have := (s1.trans ((s2.trans (s3.mono s2.size)).mono s1.size))
    exact (this.alloc this.size _).drew
  clear h1 s1 h2 s2 h3 s3 h12 h23 h123 e1 e2 hl ha hb
  subst hw2
  subst hw1
  have hsz := hst.size
  have HST := Lib.hid hst
  clear hst
  go_enter Tryd.func61, Tryd.ntmps61
  go_wp2_with fail
  go_region_with (go_at_call 56; refine hj.out.mono ?_; rintro e2 w3 ⟨v2, rfl, ho, hB2⟩)
  all_goals (go_wp2; go_ret; exact ⟨_, rfl, own_wide ho hsz, HST.out.trans (hB2.mono hsz)⟩)
end Go.Proofs.YthmkdlnocdbhjaaDoor
namespace Go.Proofs.YthmkdlnocdbhjaaDoor
open Go.RowKit

theorem run_make_n {P : Program} (w : World) (t e : TypeId) (i : TypeInfo) (z : Value) (ht : P.underlying t = some (.slice e)) (hi : P.info? e = some i) (hz : i.zero = some z)
    (c : Nat) (hbytes : i.bytes * c ≤ 281474976710656) (h63 : c ≤ 9223372036854775807) :
    (Instr.makeSlice t (.int .i64 (c : Int)) (.int .i64 (c : Int))).run P w = .ok (.slice (some ⟨w.heap.size, 0, none⟩) c c) (w.alloc (.cells (madeCells z.cells (c * i.size)) e)) := by
  have hb : (i.bytes : Int) * (c : Int) ≤ 281474976710656 := by
    have h : ((i.bytes * c : Nat) : Int) ≤ 281474976710656 := by omega
    rwa [Int.natCast_mul] at h
  have hr := run_make (P := P) w t e i z ht hi hz .i64 .i64 c c (by omega) (by omega) hb (by omega)
  simp only [Int.toNat_natCast] at hr
  exact hr
/-- The first k of eight bytes are written. -/
def numTo (n k : Nat) : List UInt8 := top8 n k ++ List.replicate (8 - k) 0
theorem numTo_len (n k : Nat) (h : k ≤ 8) : (numTo n k).length = 8 := by simp [numTo, top8_len]; omega
theorem numTo_all (n : Nat) : numTo n 8 = b8 n := by simp [numTo]
theorem numTo_step (n k : Nat) (h : k < 8) : (bys (numTo n k)).set k (.int .u8 ((n : Int) / 2 ^ (8 * (7 - k)) % 256)) = bys (numTo n (k + 1)) := by
  have e : 8 - k = (8 - (k + 1)) + 1 := by omega
  rw [show 8 * (7 - k) = 56 - 8 * k from by omega, byte_of]
  unfold numTo
  rw [top8_snoc, e, List.replicate_succ, List.append_assoc]
  unfold bys
  rw [List.map_append, List.map_append, List.set_append_right _ _ (by simp [top8_len])]
  simp [top8_len]
theorem made_hb (w : World) : HB (w.alloc (.cells (madeCells #[.int .u8 0] 8) 5)) w.heap.size 5 (bys (numTo 0 0)) := by
  have e : madeCells #[.int .u8 0] 8 = (bys (numTo 0 0)).toArray := by
    apply Array.toList_inj.1
    simp [madeCells, bys, numTo, top8]
    rfl
  rw [e]; exact HB.new _ _ _

set_option maxRecDepth 20000 in
set_option maxHeartbeats 1600000 in
theorem mnumber_any (n : Nat) (hn : n < 9223372036854775808) (w : World) :
    Calls Tryd.prog 65 #[.int .i64 (n : Int)] w (Wrote w (b8 n)) := by
  obtain ⟨i0, hi, hz0, hz1, hz2⟩ := info_parts Tryd.infoByte
  have hmk8 : ∀ W : World, (Instr.makeSlice 33 (.int .i64 8) (.int .i64 8)).run Tryd.prog W = .ok (.slice (some ⟨W.heap.size, 0, none⟩) 8 8) (W.alloc (.cells (madeCells #[.int .u8 0] 8) 5)) := fun W => by
    have h := run_make_n (P := Tryd.prog) W 33 5 i0 (.int .u8 0) Tryd.underlying33 hi hz0 8 (by rw [hz2]; omega) (by omega)
    rw [hz1] at h
    exact h
  clear hi hz0 hz1 hz2
  have hm : HB (w.alloc (.cells (madeCells #[.int .u8 0] 8) 5)) w.heap.size 5 (bys (numTo n 0)) := made_hb w
  have hB := below_alloc1 w (.cells (madeCells #[.int .u8 0] 8) 5)
  go_enter Tryd.func65, Tryd.ntmps65
  go_wp2
  go_loopw [4, 8] (fun _ i wr => ∃ k : Nat, k ≤ 8 ∧ i = .int .i64 (k : Int) ∧ HB wr w.heap.size 5 (bys (numTo n k)) ∧ Below w.heap.size w wr) (fun _ i _ => 8 - (intOf i).toNat)
  case atStart => exact ⟨0, by omega, rfl, hm, hB⟩
  case round =>
    obtain ⟨k, hk, rfl, hb, hBw⟩ := hrel
    rcases Nat.lt_or_ge k 8 with hlt | hge
    · have hl := numTo_len n k hk
      have hcell : ∃ v, wr.cell? ⟨w.heap.size, k, none⟩ = some v := by
        rw [hb.cell, bys_get, List.getElem?_eq_getElem (by omega)]; exact ⟨_, rfl⟩
      obtain ⟨v0, hv0⟩ := hcell
      have hf := hb.frozen k
      have h2 := hb.set_ k (.int .u8 ((n : Int) / 2 ^ (8 * (7 - k)) % 256))
      rw [numTo_step n k hlt] at h2
      have hB2 := hBw.setCell (p := ⟨w.heap.size, k, none⟩) (by simp) (.int .u8 ((n : Int) / 2 ^ (8 * (7 - k)) % 256))
      have hk8 : (k : Int) < 8 := by omega
      have H2 := Lib.hid h2
      have HB2 := Lib.hid hB2
      clear h2 hB2 hl hb hBw hm hB
      go_wp2
      go_roundw
      case rel => exact ⟨k + 1, by omega, by go_num, H2.out, HB2.out⟩
      case measure => simp [intOf]; omega
    · obtain rfl : k = 8 := by omega
      rw [numTo_all] at hb
      go_wp2
      go_ret
      refine ⟨.slice (some ⟨w.heap.size, 0, none⟩) 8 8, rfl, ⟨by rw [bys_len, b8_len], .inr ⟨w.heap.size, 8, _, by rw [b8_len], Nat.le_refl _, hb, Nat.le_of_eq (b8_len n), by decide, by rw [List.size_toArray, bys_len, b8_len], ?_⟩⟩, hBw⟩
      exact List.take_of_length_le (by rw [bys_len, b8_len]; decide)
end Go.Proofs.YthmkdlnocdbhjaaDoor
