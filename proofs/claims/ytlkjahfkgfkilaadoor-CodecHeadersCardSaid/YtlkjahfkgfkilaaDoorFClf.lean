/- Decoding: classify at a record where there is a failure that is not of length. -/
import Derived.Test.YtlkjahfkgfkilaaDoorFCls
namespace Go.Proofs.YtlkjahfkgfkilaaDoor
open Go.RowKit

set_option maxRecDepth 20000 in
set_option maxHeartbeats 4000000 in
theorem classify_record_form (a : Addr) (w : World) (hg : w.cell? ⟨0, 0, none⟩ = some (errV a)) (g : Nat) (d : Addr) (cd ca : Array Value) (td ta : TypeId) (hf : Failed w g d) (hne : d ≠ a) (ha : w.heap[a.block]? = some (.cells ca ta (0, 0))) (hd : w.heap[d.block]? = some (.cells cd td (0, 0))) (ht : w.cell? ⟨1, 0, none⟩ = some (.iface 114 (.agg #[.pointer (some ⟨10, 48, none⟩)]))) (cs : List Value) (hcl : cs.length = 3) (hone : ∀ v ∈ cs, v.oneCell' = true) :
    Calls Tryd.prog 16 #[.agg cs.toArray, failV ⟨g, 0, none⟩] w fun e w' => e = .returned (.tuple #[.agg cs.toArray, .int .i64 5]) ∧ Below w.heap.size w w' := by
  have hz := Tryd.zeroRecord
  have HI : (Tryd.prog.info? 35).map (·.size) = some cs.toArray.size := by rw [List.size_toArray, hcl]; kernel_rfl
  have HS : zrec.toArray.size = cs.toArray.size := by rw [List.size_toArray, List.size_toArray, hcl]; rfl
  have HA := Lib.hid (all_oneCell_toArray hone)
  have HI := Lib.hid HI
  have HS := Lib.hid HS
  have hlt : 0 < w.heap.size := World.block_lt_of_cell? w _ hg
  unfold Failed at hf
  obtain ⟨W2, hW2⟩ : ∃ W2 : World, W2 = ((w.alloc (.cells cs.toArray 35)).alloc (.cells zrec.toArray 35)).alloc (.cells #[.pointer none] 62) := ⟨_, rfl⟩
  have hB2 : Below w.heap.size w W2 := by rw [hW2]; exact (((Below.refl _ _).alloc (Nat.le_refl _) _).alloc (by simp) _).alloc (by simp; omega) _
  have hx2 : HB W2 w.heap.size 35 cs := by rw [hW2]; exact ((HB.new w _ _).alloc _).alloc _
  have hr2 : HB W2 (w.heap.size + 1) 35 zrec := by
    rw [hW2]
    have hh := HB.new (w.alloc (.cells cs.toArray 35)) 35 zrec
    have hh2 := hh.alloc (.cells #[.pointer none] 62)
    simpa only [World.size_alloc] using hh2
  have hn2 : W2.cell? ⟨w.heap.size + 1 + 1, 0, none⟩ = some (.pointer none) := by
    rw [hW2]
    have hh := boxed ((w.alloc (.cells cs.toArray 35)).alloc (.cells zrec.toArray 35)) #[.pointer none] 62 0
    simp only [World.size_alloc] at hh
    exact hh
  have hn3 : W2.frozen? ⟨w.heap.size + 1 + 1, 0, none⟩ = false := by
    rw [hW2]
    have hh := World.frozen?_alloc_new ((w.alloc (.cells cs.toArray 35)).alloc (.cells zrec.toArray 35)) #[.pointer none] 62 0
    simp only [World.size_alloc] at hh
    exact hh
  have hsz : W2.heap.size = w.heap.size + 3 := by rw [hW2]; simp
  have Hsz := Lib.hid hsz
  clear hsz
  have hg2 : W2.cell? ⟨0, 0, none⟩ = some (errV a) := (hB2.cell hlt).trans hg
  clear hone hg hcl hlt
  go_enter Tryd.func16, Tryd.ntmps16
  have hg3 := hg2
  rw [hW2] at hg3
  go_wp2_with fail
  rw [← hW2]
  clear hg3 hW2
  have hf2 : W2.cell? ⟨g, 0 + 1, none⟩ = some (errV d) := (hB2.cell (World.block_lt_of_cell? w _ hf)).trans hf
  have ha2 := (hB2.block a.block (lt_of_heap ha)).trans ha
  have hd2 := (hB2.block d.block (lt_of_heap hd)).trans hd
  have ht2 := (hB2.cell (p := ⟨1, 0, none⟩) (World.block_lt_of_cell? w _ ht)).trans ht
  refine (is_wrap_other g 0 a d cd ca td ta W2 hf2 hne hd2 ha2).mono ?_
  rintro e w' ⟨rfl, rfl⟩
  clear hf2 ha2 hd2
  go_wp2_with fail
  refine (as_hit ⟨g, 0, none⟩ ⟨w.heap.size + 1 + 1, 0, none⟩ (.pointer none) w' ht2 hn2 hn3).mono ?_
  rintro e w3 ⟨rfl, hw3⟩
  have hs' : w'.heap.size = w.heap.size + 3 := Hsz.out
  have hB3 : Below (w.heap.size + 2) w' w3 := by
    rw [hw3]
    exact (((((Below.refl _ _).alloc (by omega) _).alloc (by simp; omega) _).alloc (by simp; omega) _).alloc (by simp; omega) _).setCell (by simp) _
  have hx3 : HB w3 w.heap.size 35 cs := hx2.below hB3 (by omega)
  have hr3 : HB w3 (w.heap.size + 1) 35 zrec := hr2.below hB3 (by omega)
  have hBw3 : Below w.heap.size w w3 := hB2.trans (hB3.mono (by omega))
  clear hw3 hs' hB3 hn2 hn3 ht2
  go_wp2_with (first
    | (refine wpList_load_row rfl 35 _ rfl w.heap.size rfl 35 cs.toArray (0, 0) _ hx3 Tryd.underlying35 rfl HI.out ?_)
    | (refine wpList_store_row rfl 35 _ _ rfl (w.heap.size + 1) cs.toArray rfl rfl 35 _ hr3 HI.out HS.out HA.out ?_))
  refine bodyPost_ret (results_row_tmp rfl _ _ (w.heap.size + 1) 35 cs.toArray (0, 0) _ rfl (hr3.row _) Tryd.underlying35 rfl HI.out) rfl ?_
  exact ⟨rfl, Below.setRow_ hBw3 (by omega) _⟩
end Go.Proofs.YtlkjahfkgfkilaaDoor
