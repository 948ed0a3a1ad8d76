/- Decoding where fields are missing: recordOf. -/
import Derived.Test.YtlkjahfkgfkilaaDoorFewD
namespace Go.Proofs.YtlkjahfkgfkilaaDoor
open Go.RowKit

set_option maxRecDepth 20000 in
set_option maxHeartbeats 8000000 in
theorem recordOf_few (a : Addr) (w : World) (p : Nat → Prop) (A : Option Addr) (c : Nat) (b : List UInt8) (ha : Arg w p A c b) (hsp : splitF b = some []) (hg : w.cell? ⟨4, 0, none⟩ = some (errV a)) :
    Calls Tryd.prog 18 #[.slice A b.length c] w fun e w' => e = .returned (.tuple #[.agg zrec.toArray, errV a]) ∧ Below w.heap.size w w' := by
  have hz := Tryd.zeroRecord
  have hgl := World.block_lt_of_cell? w _ hg
  obtain ⟨W1, hW1⟩ : ∃ W1 : World, W1 = w.alloc (.cells zrec.toArray 35) := ⟨_, rfl⟩
  have hB1 : Below w.heap.size w W1 := by rw [hW1]; exact (Below.refl _ _).alloc (Nat.le_refl _) _
  have hr1 : HB W1 w.heap.size 35 zrec := by rw [hW1]; exact HB.new w _ _
  have hop := open_any W1 p A c b _ (ha.later hB1) hsp
  have Hop := Lib.hid hop
  clear hop ha hsp
  go_enter Tryd.func18, Tryd.ntmps18
  go_wp2_with fail
  rw [← hW1]
  clear hW1
  refine Hop.out.mono ?_
  rintro e w2 ⟨G, rfl, r0⟩
  have hg2 := ((hB1.trans (r0.below.mono hB1.size)).cell (p := ⟨4, 0, none⟩) hgl).trans hg
  go_wp2_with fail
  refine (next_int_few _ a W1 w2 G r0 hg2).mono ?_
  rintro e w3 ⟨rfl, f3⟩
  go_wp2_with fail
  refine (next_ints_fail _ a W1 w3 G f3).mono ?_
  rintro e w4 ⟨rfl, f4⟩
  go_wp2_with fail
  refine (listOf_ints_any _ rfl w4).mono ?_
  rintro e w5 ⟨rfl, hw5⟩
  have f5 : Few W1 w5 G a := f4.later (by rw [hw5]; exact (Below.refl _ _).alloc (Nat.le_refl _) _)
  clear hw5
  go_wp2_with fail
  refine (next_intss_fail _ a W1 w5 G f5).mono ?_
  rintro e w6 ⟨rfl, f6⟩
  obtain ⟨cs, hcs⟩ : ∃ cs : List Value, cs = zrec := ⟨_, rfl⟩
  have hbd : Tryd.prog.built 35 [(0, .int .i64 0), (1, .slice none 0 0), (2, .slice none 0 0)] = some cs.toArray := by rw [hcs]; exact built_record 0 none none 0 0 0 0
  have hcl : cs.length = 3 := by rw [hcs]; rfl
  have hone : ∀ v ∈ cs, v.oneCell' = true := by intro v hv; rw [hcs] at hv; simp [zrec] at hv; rcases hv with rfl | rfl <;> rfl
  have Hbd := Lib.hid hbd
  have Hcs := Lib.hid hcs
  clear hbd hcs
  go_wp2_with (refine wpList_buildTo rfl 35 _ rfl _ rfl cs.toArray (by (simp only [List.map_toArray, List.map_cons, List.map_nil]; exact Hbd.out)) ?_)
  refine (done_record_few a W1 w6 G cs f6 hcl hone).mono ?_
  rintro e w11 ⟨rfl, hB11⟩
  have hBk := f6.1
  have hr11 : HB w11 w.heap.size 35 zrec := (hr1.below hBk (HB.lt hr1)).below hB11 (Nat.lt_of_lt_of_le (HB.lt hr1) hBk.size)
  have hBw : Below w.heap.size w w11 := hB1.trans ((hBk.mono hB1.size).trans (hB11.mono (Nat.le_trans hB1.size hBk.size)))
  have HI : (Tryd.prog.info? 35).map (·.size) = some cs.toArray.size := by rw [List.size_toArray, hcl]; kernel_rfl
  have HS : zrec.toArray.size = cs.toArray.size := by rw [List.size_toArray, List.size_toArray, hcl]; rfl
  have HA := all_oneCell_toArray hone
  have HI := Lib.hid HI
  have HS := Lib.hid HS
  have HA := Lib.hid HA
  clear hone hcl
  go_wp2_with (refine wpList_store_row rfl 35 _ _ rfl w.heap.size cs.toArray rfl rfl 35 _ hr11 HI.out HS.out HA.out ?_)
  refine bodyPost_ret (results_row_tmp rfl _ _ w.heap.size 35 cs.toArray (0, 0) _ rfl (hr11.row _) Tryd.underlying35 rfl HI.out) rfl ?_
  exact ⟨by rw [Hcs.out]; rfl, Below.setRow_ hBw (Nat.le_refl _) _⟩
end Go.Proofs.YtlkjahfkgfkilaaDoor
