/- ReadRecord where there is a failure. -/
import Derived.Test.YtlkjahfkgfkilaaDoorFDeg
import Derived.Test.YtlkjahfkgfkilaaDoorRead
namespace Go.Proofs.YtlkjahfkgfkilaaDoor
open Go.RowKit

theorem zrec_one : ∀ v ∈ zrec, v.oneCell' = true := by intro v hv; simp [zrec] at hv; rcases hv with rfl | rfl <;> rfl
/-- What package errors and package codec's sentinels are laid as. -/
structure Lay (w : World) (al af : Addr) (tl tf : ByteArray) : Prop where
  long : w.cell? ⟨0, 0, none⟩ = some (errV al)
  few : w.cell? ⟨4, 0, none⟩ = some (errV af)
  tlong : w.cell? al = some (.string tl)
  tfew : w.cell? af = some (.string tf)
  slong : tl.size ≤ 1000
  sfew : tf.size ≤ 1000
  rowl : ∃ ca ta, w.heap[al.block]? = some (.cells ca ta (0, 0))
  rowf : ∃ ca ta, w.heap[af.block]? = some (.cells ca ta (0, 0))
  apart : af ≠ al
  et : w.cell? ⟨1, 0, none⟩ = some (.iface 114 (.agg #[.pointer (some ⟨10, 48, none⟩)]))
theorem Lay.later {w w' : World} {al af : Addr} {tl tf : ByteArray} (h : Lay w al af tl tf) (hb : Below w.heap.size w w') : Lay w' al af tl tf := by
  obtain ⟨ca, ta, hl⟩ := h.rowl
  obtain ⟨cf, tf', hf⟩ := h.rowf
  exact ⟨(hb.cell (World.block_lt_of_cell? w _ h.long)).trans h.long, (hb.cell (World.block_lt_of_cell? w _ h.few)).trans h.few, (hb.cell (World.block_lt_of_cell? w _ h.tlong)).trans h.tlong, (hb.cell (World.block_lt_of_cell? w _ h.tfew)).trans h.tfew, h.slong, h.sfew,
    ⟨ca, ta, (hb.block _ (lt_of_heap hl)).trans hl⟩, ⟨cf, tf', (hb.block _ (lt_of_heap hf)).trans hf⟩, h.apart, (hb.cell (World.block_lt_of_cell? w _ h.et)).trans h.et⟩

set_option maxRecDepth 20000 in
set_option maxHeartbeats 4000000 in
theorem readRecord_long (w : World) (al af : Addr) (tl tf : ByteArray) (hL : Lay w al af tl tf) (A : Option Addr) (n c : Nat) (hn : 262144 < n) :
    Calls Tryd.prog 8 #[.slice A n c] w fun e w' => e = .returned (.tuple #[.agg zrec.toArray, .int .i64 4]) ∧ Below w.heap.size w w' := by
  have hz : ∀ W : World, (zeroValue 35).run Tryd.prog W = .ok (.agg zrec.toArray) W := Tryd.zeroRecord
  obtain ⟨W1, hW1⟩ : ∃ W1 : World, W1 = w.alloc (.cells zrec.toArray 35) := ⟨_, rfl⟩
  have hB1 : Below w.heap.size w W1 := by rw [hW1]; exact (Below.refl _ _).alloc (Nat.le_refl _) _
  have hr1 : HB W1 w.heap.size 35 zrec := by rw [hW1]; exact HB.new w _ _
  have hs1 : W1.heap.size = w.heap.size + 1 := by rw [hW1]; simp
  have hL1 := hL.later hB1
  have hdec := decode_record_long ⟨#[114, 101, 99, 111, 114, 100]⟩ tl (.func (.func 18) #[] #[]) al A n c W1 hn hL1.long hL1.tlong (by decide) hL1.slong
  have hcls : ∀ (V : World) (g : Nat), Lay V al af tl tf → Failed V g al → Calls Tryd.prog 16 #[.agg zrec.toArray, failV ⟨g, 0, none⟩] V fun e w' => e = .returned (.tuple #[.agg zrec.toArray, .int .i64 4]) ∧ Below V.heap.size V w' := fun V g h hf => by
    exact classify_record_long al V h.long g hf zrec rfl zrec_one
  obtain ⟨cs, hcs⟩ : ∃ cs : List Value, cs = zrec := ⟨_, rfl⟩
  rw [← hcs] at hz hW1 hr1 hdec hcls ⊢
  have hcl : cs.length = 3 := by rw [hcs]; rfl
  have hone : ∀ v ∈ cs, v.oneCell' = true := by rw [hcs]; exact zrec_one
  have HI : (Tryd.prog.info? 35).map (·.size) = some cs.toArray.size := by rw [List.size_toArray, hcl]; kernel_rfl
  have HI := Lib.hid HI
  have HA := Lib.hid (all_oneCell_toArray hone)
  have Hs1 := Lib.hid hs1
  have Hcls := Lib.hid hcls
  have Hdec := Lib.hid hdec
  clear hcs hcl hone hs1 hL hcls hdec hn
  go_enter Tryd.func8, Tryd.ntmps8
  go_wp2_with fail
  rw [← hW1]
  clear hW1
  refine Hdec.out.mono ?_
  rintro e w2 ⟨g, rfl, hf, hB2⟩
  have hL2 := hL1.later hB2
  go_wp2_with fail
  refine (Hcls.out w2 g hL2 hf).mono ?_
  rintro e w3 ⟨rfl, hB3⟩
  have hs1 := Hs1.out
  have hs2 := hB2.size
  have hr3 : HB w3 w.heap.size 35 cs := (hr1.below hB2 (HB.lt hr1)).below hB3 (by omega)
  have hBw : Below w.heap.size w w3 := hB1.trans ((hB2.mono hB1.size).trans (hB3.mono (by omega)))
  clear hr1 hs1 hs2 hL1 hL2 hf hB1 hB2 hB3
  go_wp2_with (refine wpList_store_row rfl 35 _ _ rfl w.heap.size cs.toArray rfl rfl 35 cs.toArray hr3 HI.out (Eq.refl _) HA.out ?_)
  refine bodyPost_ret (results_row_tmp rfl _ _ w.heap.size 35 cs.toArray (0, 0) _ rfl (hr3.row _) Tryd.underlying35 rfl HI.out) rfl ?_
  exact ⟨rfl, Below.setRow_ hBw (Nat.le_refl _) _⟩

set_option maxRecDepth 20000 in
set_option maxHeartbeats 4000000 in
theorem readRecord_few (w : World) (al af : Addr) (tl tf : ByteArray) (hL : Lay w al af tl tf) (p : Nat → Prop) (A : Option Addr) (c : Nat) (b : List UInt8) (ha : Arg w p A c b) (hsp : splitF b = some []) (hmax : b.length ≤ 262144) :
    Calls Tryd.prog 8 #[.slice A b.length c] w fun e w' => e = .returned (.tuple #[.agg zrec.toArray, .int .i64 5]) ∧ Below w.heap.size w w' := by
  have hz : ∀ W : World, (zeroValue 35).run Tryd.prog W = .ok (.agg zrec.toArray) W := Tryd.zeroRecord
  obtain ⟨W1, hW1⟩ : ∃ W1 : World, W1 = w.alloc (.cells zrec.toArray 35) := ⟨_, rfl⟩
  have hB1 : Below w.heap.size w W1 := by rw [hW1]; exact (Below.refl _ _).alloc (Nat.le_refl _) _
  have hr1 : HB W1 w.heap.size 35 zrec := by rw [hW1]; exact HB.new w _ _
  have hs1 : W1.heap.size = w.heap.size + 1 := by rw [hW1]; simp
  have hL1 := hL.later hB1
  have hdec := decode_record_few ⟨#[114, 101, 99, 111, 114, 100]⟩ tf af p A c b W1 (ha.later hB1) hsp hmax hL1.few hL1.tfew (by decide) hL1.sfew
  have hcls : ∀ (V : World) (g : Nat), Lay V al af tl tf → Failed V g af → Calls Tryd.prog 16 #[.agg zrec.toArray, failV ⟨g, 0, none⟩] V fun e w' => e = .returned (.tuple #[.agg zrec.toArray, .int .i64 5]) ∧ Below V.heap.size V w' := fun V g h hf => by
    obtain ⟨ca, ta, hl⟩ := h.rowl
    obtain ⟨cd, td, hd⟩ := h.rowf
    exact classify_record_form al V h.long g af cd ca td ta hf h.apart hl hd h.et zrec rfl zrec_one
  obtain ⟨cs, hcs⟩ : ∃ cs : List Value, cs = zrec := ⟨_, rfl⟩
  rw [← hcs] at hz hW1 hr1 hdec hcls ⊢
  have hcl : cs.length = 3 := by rw [hcs]; rfl
  have hone : ∀ v ∈ cs, v.oneCell' = true := by rw [hcs]; exact zrec_one
  have HI : (Tryd.prog.info? 35).map (·.size) = some cs.toArray.size := by rw [List.size_toArray, hcl]; kernel_rfl
  have HI := Lib.hid HI
  have HA := Lib.hid (all_oneCell_toArray hone)
  have Hs1 := Lib.hid hs1
  have Hcls := Lib.hid hcls
  have Hdec := Lib.hid hdec
  clear hcs hcl hone hs1 hL hcls hdec ha hsp hmax
  go_enter Tryd.func8, Tryd.ntmps8
  go_wp2_with fail
  rw [← hW1]
  clear hW1
  refine Hdec.out.mono ?_
  rintro e w2 ⟨g, rfl, hf, hB2⟩
  have hL2 := hL1.later hB2
  go_wp2_with fail
  refine (Hcls.out w2 g hL2 hf).mono ?_
  rintro e w3 ⟨rfl, hB3⟩
  have hs1 := Hs1.out
  have hs2 := hB2.size
  have hr3 : HB w3 w.heap.size 35 cs := (hr1.below hB2 (HB.lt hr1)).below hB3 (by omega)
  have hBw : Below w.heap.size w w3 := hB1.trans ((hB2.mono hB1.size).trans (hB3.mono (by omega)))
  clear hr1 hs1 hs2 hL1 hL2 hf hB1 hB2 hB3
  go_wp2_with (refine wpList_store_row rfl 35 _ _ rfl w.heap.size cs.toArray rfl rfl 35 cs.toArray hr3 HI.out (Eq.refl _) HA.out ?_)
  refine bodyPost_ret (results_row_tmp rfl _ _ w.heap.size 35 cs.toArray (0, 0) _ rfl (hr3.row _) Tryd.underlying35 rfl HI.out) rfl ?_
  exact ⟨rfl, Below.setRow_ hBw (Nat.le_refl _) _⟩
end Go.Proofs.YtlkjahfkgfkilaaDoor
