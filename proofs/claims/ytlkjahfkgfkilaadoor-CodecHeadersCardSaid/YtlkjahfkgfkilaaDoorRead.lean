/- ReadHeader, ReadRecord, where all is well. -/
import Derived.Test.YtlkjahfkgfkilaaDoorCls
import Derived.Test.YtlkjahfkgfkilaaDoorDec
namespace Go.Proofs.YtlkjahfkgfkilaaDoor
open Go.RowKit

theorem headerR_len : ∀ w p cs b, headerR w p cs b → cs.length = 101 ∧ ∀ v ∈ cs, v.oneCell' = true := by
  rintro w p cs b ⟨ps, h, rfl⟩
  obtain ⟨_, _, b0, _, rfl, rfl, h0, _, _, b1, _, rfl, rfl, h1, _, _, b2, _, rfl, rfl, h2, _, _, b3, _, rfl, rfl, h3, _, _, b4, _, rfl, rfl, h4, _, _, b5, _, rfl, rfl, h5, _, _, b6, _, rfl, rfl, h6, _, _, b7, _, rfl, rfl, h7, rfl, rfl⟩ := h
  obtain ⟨n0, x0, rfl, rfl, -⟩ := numR_open (.inl rfl) h0
  obtain ⟨n1, x1, rfl, rfl, -⟩ := numR_open (.inl rfl) h1
  obtain ⟨n2, x2, rfl, rfl, -⟩ := numR_open (.inl rfl) h2
  obtain ⟨n3, x3, rfl, rfl, -⟩ := numR_open (.inl rfl) h3
  obtain ⟨hl4, rfl⟩ := h4
  obtain ⟨hl5, rfl⟩ := h5
  obtain ⟨hl6, rfl⟩ := h6
  obtain ⟨n7, x7, rfl, rfl, -⟩ := numR_open (.inl rfl) h7
  refine ⟨by simp [bys_len, hl4, hl5, hl6], fun v hv => ?_⟩
  simp only [List.mem_append, List.mem_singleton, List.not_mem_nil, or_false] at hv
  rcases hv with rfl | rfl | rfl | rfl | h | h | h | rfl
  · rfl
  · rfl
  · rfl
  · rfl
  · exact bys_one _ _ h
  · exact bys_one _ _ h
  · exact bys_one _ _ h
  · rfl
theorem recordR_len : ∀ w p cs b, recordR w p cs b → cs.length = 3 ∧ ∀ v ∈ cs, v.oneCell' = true := by
  rintro w p cs b ⟨ps, h, rfl⟩
  obtain ⟨_, _, b0, _, rfl, rfl, h0, _, _, b1, _, rfl, rfl, h1, _, _, b2, _, rfl, rfl, h2, rfl, rfl⟩ := h
  obtain ⟨n0, x0, rfl, rfl, -⟩ := numR_open (.inl rfl) h0
  obtain ⟨A1, c1, _, _, rfl, _⟩ := h1
  obtain ⟨A2, c2, _, _, rfl, _⟩ := h2
  refine ⟨rfl, fun v hv => ?_⟩
  simp only [List.mem_append, List.mem_singleton, List.not_mem_nil, or_false] at hv
  rcases hv with rfl | rfl | rfl <;> rfl

theorem read_end {R : Rel} (hR : Kept R) {w W1 w2 w3 : World} {p : Nat → Prop} {cs : List Value} {b : List UInt8} (l : Array Value) (hold : ∀ k, p k → k < w.heap.size) (hs1 : W1.heap.size = w.heap.size + 1) (h : R w2 (Since W1 p w2) cs b) (hB : Below w2.heap.size w2 w3) :
    R (w3.setRow w.heap.size l) (Since w p (w3.setRow w.heap.size l)) cs b := by
  have hne : ∀ t, Since W1 p w2 t → t ≠ w.heap.size := fun t ht => by
    rcases ht.1 with h1 | h1
    · have := hold t h1; omega
    · omega
  refine hR _ _ _ _ _ _ h (fun a ha => ?_) (fun i hi => ⟨hi.1.imp id (fun h => by omega), by have h1 := hi.2; have h2 := hB.size; simp [World.setRow]; omega⟩)
  have h1 : (w3.setRow w.heap.size l).heap[a.block]? = w3.heap[a.block]? := by
    simp only [World.setRow, Array.getElem?_modify]
    rw [if_neg (fun e => hne _ ha e.symm)]
  rw [World.cell?_of_block h1, hB.cell ha.2]

set_option maxRecDepth 20000 in
set_option maxHeartbeats 4000000 in
theorem readHeader_ok (a : Addr) (w : World) (hg : w.cell? ⟨0, 0, none⟩ = some (errV a)) (p : Nat → Prop) (A : Option Addr) (c : Nat) (b : List UInt8) (ha : Arg w p A c b) (hF : headerF b) (hmax : b.length ≤ 262144) :
    Calls Tryd.prog 10 #[.slice A b.length c] w fun e w' => ∃ cs, e = .returned (.tuple #[.agg cs.toArray, .int .i64 0]) ∧ headerR w' (Since w p w') cs b ∧ Below w.heap.size w w' := by
  have hz := Tryd.zeroHeader
  have hlt : 0 < w.heap.size := World.block_lt_of_cell? w _ hg
  have eg := Go.Proofs.enters_of Tryd.func23 (by kernel_rfl) rfl
  obtain ⟨W1, hW1⟩ : ∃ W1 : World, W1 = w.alloc (.cells zhead.toArray 25) := ⟨_, rfl⟩
  have hB1 : Below w.heap.size w W1 := by rw [hW1]; exact (Below.refl _ _).alloc (Nat.le_refl _) _
  have hr1 : HB W1 w.heap.size 25 zhead := by rw [hW1]; exact HB.new w _ _
  have hs1 : W1.heap.size = w.heap.size + 1 := by rw [hW1]; simp
  have hdec := Lib.hid (fun s => decode_header_ok s headerR headerR_kept headerR_len headerF 23 eg W1 (headerOf_any W1) p A c b (ha.later hB1) hF hmax)
  have hold := ha.old
  have Hs1 := Lib.hid hs1
  clear ha hF hs1
  go_enter Tryd.func10, Tryd.ntmps10
  go_wp2_with fail
  rw [← hW1]
  clear hW1
  refine (hdec.out _).mono ?_
  rintro e w2 ⟨cs, rfl, hv, hB2⟩
  obtain ⟨hcl, hone⟩ := headerR_len _ _ _ _ hv
  have hB12 : Below w.heap.size w w2 := hB1.trans (hB2.mono hB1.size)
  have hg2 := (hB12.cell (p := ⟨0, 0, none⟩) hlt).trans hg
  go_wp2_with fail
  refine (classify_header_ok a w2 hg2 cs hcl hone).mono ?_
  rintro e w3 ⟨rfl, hB3⟩
  have hs1 := Hs1.out
  have hs2 := hB2.size
  have HI : (Tryd.prog.info? 25).map (·.size) = some cs.toArray.size := by rw [List.size_toArray, hcl]; kernel_rfl
  have HS : zhead.toArray.size = cs.toArray.size := by rw [List.size_toArray, List.size_toArray, hcl]; simp [zhead, zb]
  have HA := Lib.hid (all_oneCell_toArray hone)
  have HI := Lib.hid HI
  have HS := Lib.hid HS
  have hr3 : HB w3 w.heap.size 25 zhead := (hr1.below hB2 (HB.lt hr1)).below hB3 (by omega)
  have hBw : Below w.heap.size w w3 := hB12.trans (hB3.mono hB12.size)
  have hE := fun l => read_end headerR_kept (p := p) l hold hs1 hv hB3
  clear hone hcl hv hr1 hs1 hs2 hg2 hg
  go_wp2_with (refine wpList_store_row rfl 25 _ _ rfl w.heap.size cs.toArray rfl rfl 25 _ hr3 HI.out HS.out HA.out ?_)
  refine bodyPost_ret (results_row_tmp rfl _ _ w.heap.size 25 cs.toArray (0, 0) _ rfl (hr3.row _) Tryd.underlying25 rfl HI.out) rfl ?_
  exact ⟨cs, rfl, hE _, Below.setRow_ hBw (Nat.le_refl _) _⟩

set_option maxRecDepth 20000 in
set_option maxHeartbeats 4000000 in
theorem readRecord_ok (a : Addr) (w : World) (hg : w.cell? ⟨0, 0, none⟩ = some (errV a)) (p : Nat → Prop) (A : Option Addr) (c : Nat) (b : List UInt8) (ha : Arg w p A c b) (hF : recordF b) (hmax : b.length ≤ 262144) :
    Calls Tryd.prog 8 #[.slice A b.length c] w fun e w' => ∃ cs, e = .returned (.tuple #[.agg cs.toArray, .int .i64 0]) ∧ recordR w' (Since w p w') cs b ∧ Below w.heap.size w w' := by
  have hz := Tryd.zeroRecord
  have hlt : 0 < w.heap.size := World.block_lt_of_cell? w _ hg
  have eg := Go.Proofs.enters_of Tryd.func18 (by kernel_rfl) rfl
  obtain ⟨W1, hW1⟩ : ∃ W1 : World, W1 = w.alloc (.cells zrec.toArray 35) := ⟨_, rfl⟩
  have hB1 : Below w.heap.size w W1 := by rw [hW1]; exact (Below.refl _ _).alloc (Nat.le_refl _) _
  have hr1 : HB W1 w.heap.size 35 zrec := by rw [hW1]; exact HB.new w _ _
  have hs1 : W1.heap.size = w.heap.size + 1 := by rw [hW1]; simp
  have hdec := Lib.hid (fun s => decode_record_ok s recordR recordR_kept recordR_len recordF 18 eg W1 (recordOf_any W1) p A c b (ha.later hB1) hF hmax)
  have hold := ha.old
  have Hs1 := Lib.hid hs1
  clear ha hF hs1
  go_enter Tryd.func8, Tryd.ntmps8
  go_wp2_with fail
  rw [← hW1]
  clear hW1
  refine (hdec.out _).mono ?_
  rintro e w2 ⟨cs, rfl, hv, hB2⟩
  obtain ⟨hcl, hone⟩ := recordR_len _ _ _ _ hv
  have hB12 : Below w.heap.size w w2 := hB1.trans (hB2.mono hB1.size)
  have hg2 := (hB12.cell (p := ⟨0, 0, none⟩) hlt).trans hg
  go_wp2_with fail
  refine (classify_record_ok a w2 hg2 cs hcl hone).mono ?_
  rintro e w3 ⟨rfl, hB3⟩
  have hs1 := Hs1.out
  have hs2 := hB2.size
  have HI : (Tryd.prog.info? 35).map (·.size) = some cs.toArray.size := by rw [List.size_toArray, hcl]; kernel_rfl
  have HS : zrec.toArray.size = cs.toArray.size := by rw [List.size_toArray, List.size_toArray, hcl]; rfl
  have HA := Lib.hid (all_oneCell_toArray hone)
  have HI := Lib.hid HI
  have HS := Lib.hid HS
  have hr3 : HB w3 w.heap.size 35 zrec := (hr1.below hB2 (HB.lt hr1)).below hB3 (by omega)
  have hBw : Below w.heap.size w w3 := hB12.trans (hB3.mono hB12.size)
  have hE := fun l => read_end recordR_kept (p := p) l hold hs1 hv hB3
  clear hone hcl hv hr1 hs1 hs2 hg2 hg
  go_wp2_with (refine wpList_store_row rfl 35 _ _ rfl w.heap.size cs.toArray rfl rfl 35 _ hr3 HI.out HS.out HA.out ?_)
  refine bodyPost_ret (results_row_tmp rfl _ _ w.heap.size 35 cs.toArray (0, 0) _ rfl (hr3.row _) Tryd.underlying35 rfl HI.out) rfl ?_
  exact ⟨cs, rfl, hE _, Below.setRow_ hBw (Nat.le_refl _) _⟩
end Go.Proofs.YtlkjahfkgfkilaaDoor
