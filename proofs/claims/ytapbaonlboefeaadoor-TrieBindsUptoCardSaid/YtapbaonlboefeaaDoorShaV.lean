/- (*sha.Hash).Sum, and sha.Sum: THE DIGEST IS shaF OF THE BYTES. -/
import Derived.Test.YtapbaonlboefeaaDoorShaZ
namespace Go.Proofs.YtapbaonlboefeaaDoor
open Go.RowKit

def digTo (S : St) (j : Nat) : List UInt8 := (digestOf S).take (4 * j) ++ zeros (32 - 4 * j)
theorem digTo_len (S : St) : ∀ j, j < 8 → (digTo S j).length = 32 := below8 rfl rfl rfl rfl rfl rfl rfl rfl
theorem digTo_step (S : St) : ∀ j, j < 8 → splice (bys (digTo S j)) (4 * j) (bys (bytesOf (S.get j))) = bys (digTo S (j + 1)) := below8 rfl rfl rfl rfl rfl rfl rfl rfl
theorem digTo_all (S : St) : digTo S 8 = digestOf S := rfl
theorem Tryd.arr32 : Tryd.prog.underlying 24 = some (.array (Tryd.prog.arrayLen 24) (Tryd.prog.elem 24)) := by kernel_rfl
theorem Tryd.len32 : Tryd.prog.arrayLen 24 = 32 := by kernel_rfl
theorem Tryd.elem32 (w : World) : (sizeOf (Tryd.prog.elem 24)).run Tryd.prog w = .ok 1 w := by kernel_rfl
theorem Tryd.infoD : (Tryd.prog.info? 24).map (·.size) = some 32 := by kernel_rfl
theorem Tryd.infoH : (Tryd.prog.info? 121).map (·.size) = some 73 := by kernel_rfl
/-- 'd[k:]' -/
theorem slice_d (g k : Nat) (hk : k < 32) (w : World) :
    (Instr.sliceAt 24 (.pointer (some ⟨g, 0, none⟩)) (some (.int .i64 (k : Int))) none none).run Tryd.prog w = .ok (.slice (some ⟨g, k, none⟩) (32 - k) (32 - k)) w := by
  rw [run_sliceAt_array_l w 24 _ Tryd.arr32 .i64 _ (by omega) (by rw [Tryd.len32]; omega), Tryd.elem32, Tryd.len32]
  simp only [Result.andThen_ok, slicedAt, Int.toNat_natCast, Nat.mul_one, add_off, Nat.zero_add]
  rw [if_neg (by omega)]
theorem bys_all (l : List UInt8) : ((bys l).toArray).all (·.oneCell') = true := by
  rw [Array.all_eq_true_iff_forall_mem]
  intro v hv
  exact bys_one l v (by simpa using hv)
theorem hash_all (S : St) (tail : List UInt8) (n : Nat) : ((hashCells S tail n).toArray).all (·.oneCell') = true := by
  rw [Array.all_eq_true_iff_forall_mem]
  intro v hv
  simp only [hashCells, List.mem_toArray, List.mem_append, List.mem_singleton] at hv
  rcases hv with h | h | h
  · simp only [us, List.mem_map] at h; obtain ⟨x, _, rfl⟩ := h; rfl
  · exact bys_one _ v h
  · subst h; rfl

set_option maxHeartbeats 3200000 in
set_option maxRecDepth 100000 in
theorem hsum_any (g : Nat) (m : List UInt8) (w : World) (hh : HashAt w g m) (hm : m.length ≤ 1152921504606846974) (hk : Consts w) :
    Calls Tryd.prog 57 #[.pointer (some ⟨g, 0, none⟩)] w fun e w' => e = .returned (.agg (bys (shaF m)).toArray) ∧ Below w.heap.size w w' := by
  obtain ⟨tail, ht, htl, hb⟩ := hh
  have hlt := hb.lt
  have hsz := hash_size (whole init0 m) tail m.length ht
  have H3 := Lib.hid (hash_all (whole init0 m) tail m.length)
  have hHA : ∀ (W : World) (G : Nat), HB W G 121 (hashCells (whole init0 m) tail m.length) → HashAt W G m := fun _ _ h => ⟨tail, ht, htl, h⟩
  have HHA := Lib.hid hHA
  clear hHA ht htl
  generalize hashCells (whole init0 m) tail m.length = cs at *
  have hasz : cs.toArray.size = 73 := by rw [List.size_toArray, hsz]
  have H1 := Lib.hid (show (Tryd.prog.info? 121).map (·.size) = some cs.toArray.size by rw [hasz]; exact Tryd.infoH)
  have Hasz := Lib.hid hasz
  clear hsz hasz
  have hb1 : ∀ o : Obj, HB (w.alloc o) g 121 cs := fun o => hb.alloc o
  have HB1 := Lib.hid hb1
  clear hb1 hb
  have h2w := hk.2.2
  have hzv := Tryd.zeroHash
  go_enter Tryd.func57, Tryd.ntmps57
  go_wp2_with (first
    | (refine wpList_load_row rfl 121 _ rfl g rfl 121 cs.toArray (0, 0) _ (HB1.out _) Tryd.underlying121 rfl H1.out ?_)
    | (refine wpList_store_row rfl 121 _ _ rfl (w.heap.size + 1) cs.toArray rfl rfl 121 _ (heap_alloc2_new w _ _) H1.out (by rw [Hasz.out]; rfl) H3.out ?_))
  generalize hw2 : World.setRow _ (w.heap.size + 1) cs.toArray = w2
  have hB2 : Below w.heap.size w w2 := by rw [← hw2]; exact Below.setRow_ (((Below.refl _ _).alloc (Nat.le_refl _) _).alloc (by simp) _) (by omega) _
  have hd0 : HB w2 w.heap.size 24 (bys (zeros 32)) := by
    rw [← hw2]
    exact HB.grown (heap_alloc2_old w _ _) (grownBy_setRow _ (w.heap.size + 1) _) (by simp)
  have hH2 : HashAt w2 (w.heap.size + 1) m := HHA.out _ _ (by rw [← hw2]; exact setRow_heap _ _ _ _ _ _ (heap_alloc2_new w _ _))
  have hk2 := hk.below hB2 h2w
  have hpad := Lib.hid (pad_any (w.heap.size + 1) m w2 hH2 hm hk2 (by omega))
  clear hw2 H1 H3 HHA HB1 Hasz hH2 hzv
  go_wp2_with fail
  refine hpad.out.mono ?_
  rintro e w3 ⟨rfl, ⟨rest, -, hb3⟩, hg3⟩
  have hd3 := hd0.grown hg3 (by simp)
  have hB3 : Below w.heap.size w w3 := hB2.grown hg3 hB2.size (fun g e => by injection e with e; omega)
  have hN3 := hB2.size
  have hlt3 : w.heap.size + 1 < w3.heap.size := hb3.lt
  have hsha : shaF m = digestOf (whole init0 (padF m)) := rfl
  have Hsha := Lib.hid hsha
  generalize whole init0 (padF m) = S at *
  clear hg3 hB2 hd0 hk2 hpad hsha
  have c0 : ∀ o : Obj, (w3.alloc o).cell? ⟨w.heap.size + 1, 0, none⟩ = some (.int .u32 (S.a.toNat : Int)) := fun o => (hb3.alloc o).cell 0
  have c1 : ∀ o : Obj, (w3.alloc o).cell? ⟨w.heap.size + 1, 1, none⟩ = some (.int .u32 (S.b.toNat : Int)) := fun o => (hb3.alloc o).cell 1
  have c2 : ∀ o : Obj, (w3.alloc o).cell? ⟨w.heap.size + 1, 2, none⟩ = some (.int .u32 (S.c.toNat : Int)) := fun o => (hb3.alloc o).cell 2
  have c3 : ∀ o : Obj, (w3.alloc o).cell? ⟨w.heap.size + 1, 3, none⟩ = some (.int .u32 (S.d.toNat : Int)) := fun o => (hb3.alloc o).cell 3
  have c4 : ∀ o : Obj, (w3.alloc o).cell? ⟨w.heap.size + 1, 4, none⟩ = some (.int .u32 (S.e.toNat : Int)) := fun o => (hb3.alloc o).cell 4
  have c5 : ∀ o : Obj, (w3.alloc o).cell? ⟨w.heap.size + 1, 5, none⟩ = some (.int .u32 (S.f.toNat : Int)) := fun o => (hb3.alloc o).cell 5
  have c6 : ∀ o : Obj, (w3.alloc o).cell? ⟨w.heap.size + 1, 6, none⟩ = some (.int .u32 (S.g.toNat : Int)) := fun o => (hb3.alloc o).cell 6
  have c7 : ∀ o : Obj, (w3.alloc o).cell? ⟨w.heap.size + 1, 7, none⟩ = some (.int .u32 (S.h.toNat : Int)) := fun o => (hb3.alloc o).cell 7
  have hd4 : ∀ o : Obj, HB (w3.alloc o) w.heap.size 24 (bys (zeros 32)) := fun o => hd3.alloc o
  have hB4 : ∀ o : Obj, Below w.heap.size w (w3.alloc o) := fun o => hB3.alloc hB3.size o
  have HD4 := Lib.hid hd4
  have HB4 := Lib.hid hB4
  have hN : w.heap.size < w3.heap.size := by omega
  clear hd4 hB4 hd3 hB3 hb3 hk
  go_wp2_with fail
  clear c0 c1 c2 c3 c4 c5 c6 c7
  go_loopw [13] (fun i wr => ∃ j : Nat, j ≤ 8 ∧ i = .int .i64 (j : Int) ∧ HB wr w3.heap.size 24 (bys (digTo S j)) ∧ HB wr w.heap.size 24 (bys (zeros 32)) ∧ Below w.heap.size w wr) (fun i _ => 8 - (intOf i).toNat)
  case atStart => exact ⟨0, by omega, rfl, heap_alloc_new w3 _, HD4.out _, HB4.out _⟩
  case round =>
    obtain ⟨j, hj, rfl, hbd, hb0, hBw⟩ := hrel
    generalize w3.heap.size = D at *
    rcases Nat.lt_or_ge j 8 with hlt8 | hge8
    · have hix := index_get S j hlt8
      have hj8 : (j : Int) < 8 := by omega
      have hsl : ∀ W : World, (Instr.sliceAt 24 (.pointer (some ⟨D, 0, none⟩)) (some (.int .i64 (4 * (j : Int)))) none none).run Tryd.prog W = .ok (.slice (some ⟨D, 4 * j, none⟩) (32 - 4 * j) (32 - 4 * j)) W := by
        intro W
        have e : (4 * (j : Int)) = ((4 * j : Nat) : Int) := by omega
        rw [e]; exact slice_d D (4 * j) (by omega) W
      have hst := Lib.hid (digTo_step S j hlt8)
      have hl := digTo_len S j hlt8
      go_wp2_with fail
      refine (putWord_any D (4 * j) _ _ _ _ (S.get j) wr hbd (by omega) (by rw [bys_len, hl]; omega)).mono ?_
      rintro e w5 ⟨rfl, hb5, hg5⟩
      rw [hst.out] at hb5
      have hb05 := hb0.grown hg5 (by intro e; injection e with e; omega)
      have hB5 : Below w.heap.size w w5 := hBw.grown hg5 hBw.size (fun g e => by injection e with e; omega)
      clear hb0 hBw hbd hg5
      go_wp2
      go_roundw
      case rel => exact ⟨j + 1, by omega, by go_num, hb5, hb05, hB5⟩
      case measure => simp [intOf]; omega
    · have hj8 : (8 : Int) ≤ j := by omega
      rw [show j = 8 from by omega, digTo_all, ← Hsha.out] at hbd
      have hsz : (bys (shaF m)).toArray.size = 32 := by rw [List.size_toArray, bys_len, shaF_len]
      have HI := Lib.hid (show (Tryd.prog.info? 24).map (·.size) = some (bys (shaF m)).toArray.size by rw [hsz]; exact Tryd.infoD)
      have HS := Lib.hid (show (bys (zeros 32)).toArray.size = (bys (shaF m)).toArray.size by rw [hsz, List.size_toArray, bys_len, zeros_len])
      have HA := Lib.hid (bys_all (shaF m))
      have hr := hb0.row (bys (shaF m)).toArray
      have hB5 := Below.setRow_ hBw (Nat.le_refl _) (bys (shaF m)).toArray
      clear hsz Hsha
      generalize hl : shaF m = l at *
      have hl := Lib.hid hl
      go_wp2_with (first
        | (refine wpList_load_row rfl 24 _ rfl D rfl 24 (bys l).toArray (0, 0) _ hbd Tryd.underlying24 rfl HI.out ?_)
        | (refine wpList_store_row rfl 24 _ _ rfl w.heap.size (bys l).toArray rfl rfl 24 _ hb0 HI.out HS.out HA.out ?_))
      refine bodyPost_ret (v := .agg (bys l).toArray) (results_cell_row rfl _ _ w.heap.size 24 (bys l).toArray (0, 0) _ rfl hr Tryd.underlying24 rfl HI.out) rfl ?_
      exact ⟨rfl, hB5⟩

set_option maxHeartbeats 1600000 in
set_option maxRecDepth 100000 in
theorem sum_any (B : Nat) (A : Option Addr) (c : Nat) (m : List UInt8) (w : World) (hs : Sees w B 1 A m.length (bys m)) (hB : B ≤ w.heap.size) (hc : m.length ≤ c) (hcm : c ≤ 9223372036854775807) (hm : m.length ≤ 1152921504606846974) (hk : Consts w) :
    Calls Tryd.prog 34 #[.slice A m.length c] w fun e w' => e = .returned (.agg (bys (shaF m)).toArray) ∧ Below w.heap.size w w' := by
  have h2w := hk.2.2
  go_enter Tryd.func34, Tryd.ntmps34
  go_wp2_with fail
  generalize hw1 : w.alloc _ = w1
  have hB1 : Below w.heap.size w w1 := by rw [← hw1]; exact (Below.refl _ _).alloc (Nat.le_refl _) _
  have hd1 : HB w1 w.heap.size 24 (bys (zeros 32)) := by rw [← hw1]; exact heap_alloc_new w _
  have hN := hd1.lt
  have hk1 := hk.below hB1 h2w
  clear hw1
  refine (new_any w1 hk1).mono ?_
  rintro e w2 ⟨rfl, hh2, hB2, hlt2⟩
  have hB2' := hB1.trans (hB2.mono hB1.size)
  have hs2 := hs.below (hB2'.mono hB)
  have hk2 := hk.below hB2' h2w
  have hd2 := hd1.below hB2 hN
  have hap : Apart w1.heap.size A m.length := Apart.of_lt hs (Nat.le_trans hB hB1.size)
  have hw := Lib.hid (write_any B w1.heap.size A c [] m w2 hh2 hs2 hap (Nat.le_trans hB hB2'.size) hc hcm (by simp; omega) hk2 (Nat.le_trans h2w hB1.size))
  have hNN := hB1.size
  clear hs hs2 hap hk1 hB2 hh2
  generalize w1.heap.size = G at *
  go_wp2_with fail
  refine hw.out.mono ?_
  rintro e w3 ⟨rfl, hh3, hg3⟩
  rw [List.nil_append] at hh3
  have hd3 := hd2.grown hg3 (by intro e; injection e with e; omega)
  have hB3 : Below w.heap.size w w3 := hB2'.grown hg3 hB2'.size (fun g e => by injection e with e; omega)
  have hk3 := hk2.apart hg3 (by omega)
  have hsm := Lib.hid (hsum_any G m w3 hh3 hm hk3)
  have hN3 := hB3.size
  clear hh3 hg3 hd2 hB2' hk2 hk3 hw hd1
  go_wp2_with fail
  refine hsm.out.mono ?_
  rintro e w4 ⟨rfl, hB4⟩
  have hd4 := hd3.below hB4 hd3.lt
  have hB5 := hB3.trans (hB4.mono hB3.size)
  have hsz : (bys (shaF m)).toArray.size = 32 := by rw [List.size_toArray, bys_len, shaF_len]
  have HI := Lib.hid (show (Tryd.prog.info? 24).map (·.size) = some (bys (shaF m)).toArray.size by rw [hsz]; exact Tryd.infoD)
  have HS := Lib.hid (show (bys (zeros 32)).toArray.size = (bys (shaF m)).toArray.size by rw [hsz, List.size_toArray, bys_len, zeros_len])
  have HA := Lib.hid (bys_all (shaF m))
  have hr := hd4.row (bys (shaF m)).toArray
  have hB6 := Below.setRow_ hB5 (Nat.le_refl _) (bys (shaF m)).toArray
  clear hsz hB5 hB4 hB3 hd3 hsm
  generalize hl : shaF m = l at *
  have hl := Lib.hid hl
  go_wp2_with (refine wpList_store_row rfl 24 _ _ rfl w.heap.size (bys l).toArray rfl rfl 24 _ hd4 HI.out HS.out HA.out ?_)
  refine bodyPost_ret (v := .agg (bys l).toArray) (results_cell_row rfl _ _ w.heap.size 24 (bys l).toArray (0, 0) _ rfl hr Tryd.underlying24 rfl HI.out) rfl ?_
  exact ⟨by rw [hl.out], hB6⟩
end Go.Proofs.YtapbaonlboefeaaDoor
