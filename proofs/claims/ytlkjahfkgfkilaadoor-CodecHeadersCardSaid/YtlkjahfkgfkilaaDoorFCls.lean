/- Decoding: classify and decode at a record where there is a failure. -/
import Derived.Test.YtlkjahfkgfkilaaDoorErrI
import Derived.Test.YtlkjahfkgfkilaaDoorErrA
import Derived.Test.YtlkjahfkgfkilaaDoorFewR
namespace Go.Proofs.YtlkjahfkgfkilaaDoor
open Go.RowKit

/-- A failure that wraps the sentinel at a lies in block g. -/
def Failed (w : World) (g : Nat) (a : Addr) : Prop := w.cell? ⟨g, 1, none⟩ = some (errV a)

set_option maxRecDepth 20000 in
set_option maxHeartbeats 4000000 in
theorem classify_record_long (a : Addr) (w : World) (hg : w.cell? ⟨0, 0, none⟩ = some (errV a)) (g : Nat) (hf : Failed w g a) (cs : List Value) (hcl : cs.length = 3) (hone : ∀ v ∈ cs, v.oneCell' = true) :
    Calls Tryd.prog 16 #[.agg cs.toArray, failV ⟨g, 0, none⟩] w fun e w' => e = .returned (.tuple #[.agg cs.toArray, .int .i64 4]) ∧ Below w.heap.size w w' := by
  have hz := Tryd.zeroRecord
  have HI : (Tryd.prog.info? 35).map (·.size) = some cs.toArray.size := by rw [List.size_toArray, hcl]; kernel_rfl
  have HS : zrec.toArray.size = cs.toArray.size := by rw [List.size_toArray, List.size_toArray, hcl]; rfl
  have HA := Lib.hid (all_oneCell_toArray hone)
  have HI := Lib.hid HI
  have HS := Lib.hid HS
  have hlt : 0 < w.heap.size := World.block_lt_of_cell? w _ hg
  unfold Failed at hf
  obtain ⟨W2, hW2⟩ : ∃ W2 : World, W2 = ((w.alloc (.cells cs.toArray 35)).alloc (.cells zrec.toArray 35)).alloc (.cells #[.pointer none] 62) := ⟨_, rfl⟩
  have hB2 : Below w.heap.size w W2 := by rw [hW2]; exact (((Below.refl _ _).alloc (Nat.le_refl _) _).alloc (by simp) _).alloc (by simp; omega) _
  have hx2 : HB W2 w.heap.size 35 cs := by rw [hW2]; exact ((HB.new w _ _).alloc _).alloc _
  have hr2 : HB W2 (w.heap.size + 1) 35 zrec := by
    rw [hW2]
    have hh := HB.new (w.alloc (.cells cs.toArray 35)) 35 zrec
    have hh2 := hh.alloc (.cells #[.pointer none] 62)
    simpa only [World.size_alloc] using hh2
  have hg2 : W2.cell? ⟨0, 0, none⟩ = some (errV a) := (hB2.cell hlt).trans hg
  clear hone hg hcl hlt
  go_enter Tryd.func16, Tryd.ntmps16
  have hg3 := hg2
  rw [hW2] at hg3
  go_wp2_with fail
  rw [← hW2]
  clear hg3 hW2
  have hf2 : W2.cell? ⟨g, 0 + 1, none⟩ = some (errV a) := (hB2.cell (World.block_lt_of_cell? w _ hf)).trans hf
  refine (is_wrap_same g 0 a W2 hf2).mono ?_
  rintro e w' ⟨rfl, rfl⟩
  clear hf2
  go_wp2_with (first
    | (refine wpList_load_row rfl 35 _ rfl w.heap.size rfl 35 cs.toArray (0, 0) _ hx2 Tryd.underlying35 rfl HI.out ?_)
    | (refine wpList_store_row rfl 35 _ _ rfl (w.heap.size + 1) cs.toArray rfl rfl 35 _ hr2 HI.out HS.out HA.out ?_))
  refine bodyPost_ret (results_row_tmp rfl _ _ (w.heap.size + 1) 35 cs.toArray (0, 0) _ rfl (hr2.row _) Tryd.underlying35 rfl HI.out) rfl ?_
  exact ⟨rfl, Below.setRow_ hB2 (by omega) _⟩
end Go.Proofs.YtlkjahfkgfkilaaDoor
