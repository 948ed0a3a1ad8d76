/- Decoding: classify and decode, where all is well. -/
import Derived.Test.YtlkjahfkgfkilaaDoorOfH
import Derived.Test.YtlkjahfkgfkilaaDoorOfQ
import Derived.LaidEql
import Derived.Stop.Asserts
namespace Go.Proofs.YtlkjahfkgfkilaaDoor
open Go.RowKit

/-- A sentinel's value. -/
abbrev errV (a : Addr) : Value := .iface 148 (.pointer (some a))
set_option maxRecDepth 20000 in
theorem is_nil (a : Addr) (w : World) : Calls Tryd.prog 26 #[.nilIface, errV a] w fun e w' => e = .returned (.bool false) ∧ w' = w := by
  have he := fun W : World => run_eql_iface_nil_left (P := Tryd.prog) W 148 (.pointer (some a)) Tryd.underlying48
  go_enter Tryd.func26, Tryd.ntmps26
  go_wp2
  go_ret
  exact ⟨rfl, rfl⟩
set_option maxRecDepth 20000 in
theorem as_nil (t : Value) (w : World) : Calls Tryd.prog 27 #[.nilIface, t] w fun e w' => e = .returned (.bool false) ∧ w' = w := by
  go_enter Tryd.func27, Tryd.ntmps27
  go_wp2
  go_ret
  exact ⟨rfl, rfl⟩

set_option maxRecDepth 20000 in
set_option maxHeartbeats 4000000 in
theorem classify_header_ok (a : Addr) (w : World) (hg : w.cell? ⟨0, 0, none⟩ = some (errV a)) (cs : List Value) (hcl : cs.length = 101) (hone : ∀ v ∈ cs, v.oneCell' = true) :
    Calls Tryd.prog 21 #[.agg cs.toArray, .nilIface] w fun e w' => e = .returned (.tuple #[.agg cs.toArray, .int .i64 0]) ∧ Below w.heap.size w w' := by
  have hz := Tryd.zeroHeader
  have HI : (Tryd.prog.info? 25).map (·.size) = some cs.toArray.size := by rw [List.size_toArray, hcl]; kernel_rfl
  have HS : zhead.toArray.size = cs.toArray.size := by rw [List.size_toArray, List.size_toArray, hcl]; simp [zhead, zb]
  have HA := Lib.hid (all_oneCell_toArray hone)
  have HI := Lib.hid HI
  have HS := Lib.hid HS
  have hlt : 0 < w.heap.size := World.block_lt_of_cell? w _ hg
  obtain ⟨W2, hW2⟩ : ∃ W2 : World, W2 = ((w.alloc (.cells cs.toArray 25)).alloc (.cells zhead.toArray 25)).alloc (.cells #[.pointer none] 62) := ⟨_, rfl⟩
  have hB2 : Below w.heap.size w W2 := by rw [hW2]; exact (((Below.refl _ _).alloc (Nat.le_refl _) _).alloc (by simp) _).alloc (by simp; omega) _
  have hx2 : HB W2 w.heap.size 25 cs := by rw [hW2]; exact ((HB.new w _ _).alloc _).alloc _
  have hr2 : HB W2 (w.heap.size + 1) 25 zhead := by
    rw [hW2]
    have hh := HB.new (w.alloc (.cells cs.toArray 25)) 25 zhead
    have hh2 := hh.alloc (.cells #[.pointer none] 62)
    simpa only [World.size_alloc] using hh2
  have hg2 : W2.cell? ⟨0, 0, none⟩ = some (errV a) := (hB2.cell hlt).trans hg
  clear hone hg hcl hlt
  go_enter Tryd.func21, Tryd.ntmps21
  have hg3 := hg2
  rw [hW2] at hg3
  go_wp2_with fail
  rw [← hW2]
  clear hg3 hW2
  refine (is_nil a W2).mono ?_
  rintro e w' ⟨rfl, rfl⟩
  go_wp2_with fail
  refine (as_nil _ w').mono ?_
  rintro e w'' ⟨rfl, rfl⟩
  go_wp2_with (first
    | (refine wpList_load_row rfl 25 _ rfl w.heap.size rfl 25 cs.toArray (0, 0) _ hx2 Tryd.underlying25 rfl HI.out ?_)
    | (refine wpList_store_row rfl 25 _ _ rfl (w.heap.size + 1) cs.toArray rfl rfl 25 _ hr2 HI.out HS.out HA.out ?_))
  refine bodyPost_ret (results_row_tmp rfl _ _ (w.heap.size + 1) 25 cs.toArray (0, 0) _ rfl (hr2.row _) Tryd.underlying25 rfl HI.out) rfl ?_
  exact ⟨rfl, Below.setRow_ hB2 (by omega) _⟩

set_option maxRecDepth 20000 in
set_option maxHeartbeats 4000000 in
theorem classify_record_ok (a : Addr) (w : World) (hg : w.cell? ⟨0, 0, none⟩ = some (errV a)) (cs : List Value) (hcl : cs.length = 3) (hone : ∀ v ∈ cs, v.oneCell' = true) :
    Calls Tryd.prog 16 #[.agg cs.toArray, .nilIface] w fun e w' => e = .returned (.tuple #[.agg cs.toArray, .int .i64 0]) ∧ Below w.heap.size w w' := by
  have hz := Tryd.zeroRecord
  have HI : (Tryd.prog.info? 35).map (·.size) = some cs.toArray.size := by rw [List.size_toArray, hcl]; kernel_rfl
  have HS : zrec.toArray.size = cs.toArray.size := by rw [List.size_toArray, List.size_toArray, hcl]; rfl
  have HA := Lib.hid (all_oneCell_toArray hone)
  have HI := Lib.hid HI
  have HS := Lib.hid HS
  have hlt : 0 < w.heap.size := World.block_lt_of_cell? w _ hg
  obtain ⟨W2, hW2⟩ : ∃ W2 : World, W2 = ((w.alloc (.cells cs.toArray 35)).alloc (.cells zrec.toArray 35)).alloc (.cells #[.pointer none] 62) := ⟨_, rfl⟩
  have hB2 : Below w.heap.size w W2 := by rw [hW2]; exact (((Below.refl _ _).alloc (Nat.le_refl _) _).alloc (by simp) _).alloc (by simp; omega) _
  have hx2 : HB W2 w.heap.size 35 cs := by rw [hW2]; exact ((HB.new w _ _).alloc _).alloc _
  have hr2 : HB W2 (w.heap.size + 1) 35 zrec := by
    rw [hW2]
    have hh := HB.new (w.alloc (.cells cs.toArray 35)) 35 zrec
    have hh2 := hh.alloc (.cells #[.pointer none] 62)
    simpa only [World.size_alloc] using hh2
  have hg2 : W2.cell? ⟨0, 0, none⟩ = some (errV a) := (hB2.cell hlt).trans hg
  clear hone hg hcl hlt
  go_enter Tryd.func16, Tryd.ntmps16
  have hg3 := hg2
  rw [hW2] at hg3
  go_wp2_with fail
  rw [← hW2]
  clear hg3 hW2
  refine (is_nil a W2).mono ?_
  rintro e w' ⟨rfl, rfl⟩
  go_wp2_with fail
  refine (as_nil _ w').mono ?_
  rintro e w'' ⟨rfl, rfl⟩
  go_wp2_with (first
    | (refine wpList_load_row rfl 35 _ rfl w.heap.size rfl 35 cs.toArray (0, 0) _ hx2 Tryd.underlying35 rfl HI.out ?_)
    | (refine wpList_store_row rfl 35 _ _ rfl (w.heap.size + 1) cs.toArray rfl rfl 35 _ hr2 HI.out HS.out HA.out ?_))
  refine bodyPost_ret (results_row_tmp rfl _ _ (w.heap.size + 1) 35 cs.toArray (0, 0) _ rfl (hr2.row _) Tryd.underlying35 rfl HI.out) rfl ?_
  exact ⟨rfl, Below.setRow_ hB2 (by omega) _⟩
end Go.Proofs.YtlkjahfkgfkilaaDoor
