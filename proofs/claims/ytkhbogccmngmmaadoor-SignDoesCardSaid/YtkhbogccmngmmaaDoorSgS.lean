/- (*sign.Ring).Sign: words, and the two ways in which it says no. -/
import Derived.Test.YtkhbogccmngmmaaDoorSgC
import Derived.Test.YtkhbogccmngmmaaDoorSgN
import Derived.Test.YtkhbogccmngmmaaDoorBuild
import Derived.Test.YtkhbogccmngmmaaDoorSet
import Derived.Laws.ResultCell
import Derived.Deep.RegionHeld3
namespace Go.Proofs.YtkhbogccmngmmaaDoor
open Go.RowKit

theorem results_sig {P : Program} {fn : Func} {p u : Tmp} {ty : TypeId} (h : fn.results = #[.cell p ty, .tmp u]) (tmps : Array Value) (w : World) (g : Nat) (t : TypeId) (cs : List Value) (d : TypeDesc) (x : Value) (hp : tmps.getD p undef = .pointer (some ⟨g, 0, none⟩)) (hx : tmps.getD u undef = x) (hb : HB w g t cs)
    (hu : P.underlying ty = some d) (hd : d.isRow = true) (hi : (P.info? ty).map (·.size) = some cs.length) : (results fn tmps).run P w = .ok (.tuple #[.agg cs.toArray, x]) w := by
  rw [results_cell_tmp h, hp, hx]
  have hl := run_loadVar_mid (P := P) w g 0 ty cs d hb.range hu hd hi
  simp only [asAddr, Sem.run_pure, Result.andThen_ok, hl]
/-- A signature's cells. -/
def sigL (i : Int) (d : List UInt8) : List Value := .int .i64 i :: bys d
def sigZ : List Value := sigL 0 (zeros 32)
theorem sigL_len (i : Int) (d : List UInt8) (h : d.length = 32) : (sigL i d).length = 33 := by simp [sigL, bys_len, h]
theorem sigZ_len : sigZ.length = 33 := sigL_len _ _ (zeros_len 32)
theorem sigL_one (i : Int) (d : List UInt8) : Hid ((sigL i d).toArray.all (·.oneCell') = true) := Lib.hid (all_oneCell_toArray (by
  intro v hv
  rcases List.mem_cons.1 hv with rfl | hv
  · rfl
  · exact bys_one d v hv))
theorem Tryd.zeroSig (W : World) : (zeroValue 61).run Tryd.prog W = .ok (.agg sigZ.toArray) W := by kernel_rfl
theorem Tryd.sizeSig : (Tryd.prog.info? 61).map (·.size) = some 33 := by kernel_rfl
theorem Tryd.builtZ : Tryd.prog.built 61 [] = some sigZ.toArray := by kernel_rfl
theorem Tryd.builtSig : ∀ parts, Tryd.prog.built 61 parts = Instr.fill ([(0, 1), (1, 32)].toArray[·]?) sigZ.toArray parts := by intro parts; kernel_rfl
theorem built_sig (i : Int) (d : List UInt8) (h : d.length = 32) : Tryd.prog.built 61 [(0, .int .i64 i), (1, .agg (bys d).toArray)] = some (sigL i d).toArray := by
  rw [Tryd.builtSig]
  have h2 := fill_fields ([(0, 1), (1, 32)].toArray[·]?) [.int .i64 i, .agg (bys d).toArray] 0 0 sigZ.toArray ⟨rfl, by simp [Value.cells, bys_len, h], trivial⟩ (by simp [cellsAll, Value.cells, sigZ, sigL, bys_len, h, zeros_len])
  simpa [cellsAll, Value.cells, sigL] using h2
theorem sig_info {i : Int} {d : List UInt8} (h : d.length = 32) : Hid ((Tryd.prog.info? 61).map (·.size) = some (sigL i d).toArray.size) := Lib.hid (by rw [List.size_toArray, sigL_len _ _ h]; exact Tryd.sizeSig)
theorem sig_info_l {i : Int} {d : List UInt8} (h : d.length = 32) : Hid ((Tryd.prog.info? 61).map (·.size) = some (sigL i d).length) := Lib.hid (by rw [sigL_len _ _ h]; exact Tryd.sizeSig)
theorem sig_size {i : Int} {d : List UInt8} (h : d.length = 32) : Hid (sigZ.toArray.size = (sigL i d).toArray.size) := Lib.hid (by rw [List.size_toArray, List.size_toArray, sigL_len _ _ h, sigZ_len])
/-- It says no. -/
def NoR (w : World) (n : Int) (e : Ending) (w' : World) : Prop := e = .returned (.tuple #[.agg sigZ.toArray, .int .i64 n]) ∧ Below w.heap.size w w'

set_option maxRecDepth 20000 in
set_option maxHeartbeats 1600000 in
theorem sign_range {f : Foot} {nk : Nat} {bud : Int} {L : List Sg} {U : List (Int × Int)} (w : World) (h : RingW w f nk bud L U) (k : Int) (hk : k < 0 ∨ nk ≤ k) (i : Int) (tv : Value) :
    Calls Tryd.prog 27 #[.pointer (some ⟨f.r, 0, none⟩), .int .i64 k, .int .i64 i, tv] w (NoR w 2) := by
  have hz := Tryd.zeroSig
  have hh := Lib.hid (has_no _ (h.alloc (.cells sigZ.toArray 61)) k hk)
  have hd1 := HB.new w 61 sigZ
  have hB := below_alloc1 w (.cells sigZ.toArray 61)
  clear h hk
  go_enter Tryd.func27, Tryd.ntmps27
  go_wp2_with fail
  refine hh.out.mono ?_
  rintro e w' ⟨rfl, rfl⟩
  clear hh
  have HI := sig_info (i := 0) (zeros_len 32)
  have HL := sig_info_l (i := 0) (zeros_len 32)
  have HS := sig_size (i := 0) (zeros_len 32)
  have HA := sigL_one 0 (zeros 32)
  have hr := hd1.row sigZ.toArray
  have hB8 := Below.setRow_ hB (Nat.le_refl _) sigZ.toArray
  have HBZ := Lib.hid Tryd.builtZ
  clear hB
  go_wp2_with (first
    | (refine wpList_buildTo rfl 61 _ rfl _ rfl sigZ.toArray (by (simp only [List.map_toArray, List.map_nil]; exact HBZ.out)) ?_)
    | (refine wpList_store_row rfl 61 _ _ rfl w.heap.size sigZ.toArray rfl rfl 61 _ hd1 HI.out HS.out HA.out ?_))
  refine bodyPost_ret (results_sig rfl _ _ w.heap.size 61 sigZ _ (.int .i64 2) rfl rfl hr Tryd.underlying61 rfl HL.out) rfl ?_
  exact ⟨rfl, hB8⟩
set_option maxRecDepth 20000 in
set_option maxHeartbeats 1600000 in
theorem sign_budget {f : Foot} {nk : Nat} {bud : Int} {L : List Sg} {U : List (Int × Int)} (w : World) (h : RingW w f nk bud L U) (k : Nat) (hk : k < nk) (i : Int) (hi : i < 0 ∨ bud ≤ i) (tv : Value) :
    Calls Tryd.prog 27 #[.pointer (some ⟨f.r, 0, none⟩), .int .i64 (k : Int), .int .i64 i, tv] w (NoR w 17) := by
  have hz := Tryd.zeroSig
  have hh := Lib.hid (has_yes _ (h.alloc (.cells sigZ.toArray 61)) k hk)
  have hd1 := HB.new w 61 sigZ
  have hc0 := (h.alloc (.cells sigZ.toArray 61)).c0
  have hB := below_alloc1 w (.cells sigZ.toArray 61)
  have HI := sig_info (i := 0) (zeros_len 32)
  have HL := sig_info_l (i := 0) (zeros_len 32)
  have HS := sig_size (i := 0) (zeros_len 32)
  have HA := sigL_one 0 (zeros 32)
  have hr := hd1.row sigZ.toArray
  have hB8 := Below.setRow_ hB (Nat.le_refl _) sigZ.toArray
  have HBZ := Lib.hid Tryd.builtZ
  clear hB
  clear h hk
  by_cases h0 : i < 0
  · clear hi
    go_enter Tryd.func27, Tryd.ntmps27
    go_wp2_with fail
    refine hh.out.mono ?_
    rintro e w' ⟨rfl, rfl⟩
    clear hh
    go_wp2_with (first
      | (refine wpList_buildTo rfl 61 _ rfl _ rfl sigZ.toArray (by (simp only [List.map_toArray, List.map_nil]; exact HBZ.out)) ?_)
      | (refine wpList_store_row rfl 61 _ _ rfl w.heap.size sigZ.toArray rfl rfl 61 _ hd1 HI.out HS.out HA.out ?_))
    refine bodyPost_ret (results_sig rfl _ _ w.heap.size 61 sigZ _ (.int .i64 17) rfl rfl hr Tryd.underlying61 rfl HL.out) rfl ?_
    exact ⟨rfl, hB8⟩
  · have hb : bud ≤ i := by omega
    have h0' : 0 ≤ i := by omega
    clear hi h0
    go_enter Tryd.func27, Tryd.ntmps27
    go_wp2_with fail
    refine hh.out.mono ?_
    rintro e w' ⟨rfl, rfl⟩
    clear hh
    go_wp2_with (first
      | (refine wpList_buildTo rfl 61 _ rfl _ rfl sigZ.toArray (by (simp only [List.map_toArray, List.map_nil]; exact HBZ.out)) ?_)
      | (refine wpList_store_row rfl 61 _ _ rfl w.heap.size sigZ.toArray rfl rfl 61 _ hd1 HI.out HS.out HA.out ?_))
    refine bodyPost_ret (results_sig rfl _ _ w.heap.size 61 sigZ _ (.int .i64 17) rfl rfl hr Tryd.underlying61 rfl HL.out) rfl ?_
    exact ⟨rfl, hB8⟩
end Go.Proofs.YtkhbogccmngmmaaDoor
