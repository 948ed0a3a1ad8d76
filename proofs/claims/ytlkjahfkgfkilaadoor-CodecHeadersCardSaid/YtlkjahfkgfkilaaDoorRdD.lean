/- Decoding: digests. -/
import Derived.Test.YtlkjahfkgfkilaaDoorRd
import Derived.Test.YtlkjahfkgfkilaaDoorCopy
import Derived.Laws.ResultCell
import Derived.Laws.Rows
namespace Go.Proofs.YtlkjahfkgfkilaaDoor
open Go.RowKit

/-- So many zero bytes. -/
def zb (n : Nat) : List Value := List.replicate n (.int .u8 0)
theorem Tryd.zeroDigest (W : World) : (zeroValue 23).run Tryd.prog W = .ok (.agg (zb 32).toArray) W := by kernel_rfl

/-- Two results: a row's block, a slot. -/
theorem results_row_tmp {P : Program} {fn : Func} {p u : Tmp} {ty : TypeId} (h : fn.results = #[.cell p ty, .tmp u]) (tmps : Array Value) (w : World) (g : Nat) (t : TypeId) (cs : Array Value) (fr : Nat × Nat) (d : TypeDesc)
    (hp : tmps.getD p undef = .pointer (some ⟨g, 0, none⟩)) (hg : w.heap[g]? = some (.cells cs t fr))
    (hu : P.underlying ty = some d) (hd : (match d with | .struct _ | .array _ _ => true | _ => false) = true) (hi : (P.info? ty).map (·.size) = some cs.size) :
    (results fn tmps).run P w = .ok (.tuple #[.agg cs, tmps.getD u undef]) w := by
  rw [results_cell_tmp h tmps P w, hp]
  simp [asAddr, run_loadVar_row w g t ty cs fr d hg hu hd hi]
theorem splice_all {α : Type} (L xs : List α) (h : L.length = xs.length) : splice L 0 xs = xs := by simp [splice, ← h]

set_option maxRecDepth 20000 in
set_option maxHeartbeats 1600000 in
theorem digestOf_any (w0 : World) : ReadsS Tryd.prog w0 42 #[] digR digF := by
  intro w _ p A c b ha hF
  have hl : b.length = 32 := hF
  have hs := ha.sees
  have hc := ha.cap
  have hm := ha.max
  show Calls _ _ #[.slice A b.length c] _ _
  rw [hl] at hs hc ⊢
  have hL := Lib.hid hl
  clear ha hF hl
  have hz := Tryd.zeroDigest
  obtain ⟨i0, hi, hz0, hz1, hz2⟩ := info_parts Tryd.infoByte
  have hsz : (Tryd.prog.info? 5).map (·.size) = some 1 := by rw [hi]; simp [hz1]
  have HI : (Tryd.prog.info? 23).map (·.size) = some (bys b).toArray.size := by rw [List.size_toArray, bys_len, hL.out]; kernel_rfl
  have HS : (zb 32).toArray.size = (bys b).toArray.size := by rw [List.size_toArray, List.size_toArray, bys_len, hL.out]; rfl
  have HA : (bys b).toArray.all (·.oneCell') = true := by rw [Array.all_eq_true_iff_forall_mem]; intro v hv; exact bys_one b v (by simpa using hv)
  have HS := Lib.hid HS
  have HI := Lib.hid HI
  have HA := Lib.hid HA
  clear hz0 hz1 hz2
  go_enter Tryd.func42, Tryd.ntmps42
  have hcur : HB ((w.alloc (.cells (zb 32).toArray 23)).alloc (.cells (zb 32).toArray 23)) (w.heap.size + 1) 23 (zb 32) := by
    have h := HB.new (w.alloc (.cells (zb 32).toArray 23)) 23 (zb 32)
    simpa only [World.size_alloc] using h
  have hres : HB ((w.alloc (.cells (zb 32).toArray 23)).alloc (.cells (zb 32).toArray 23)) w.heap.size 23 (zb 32) := (HB.new w _ _).alloc _
  have hs' := (hs.alloc (Nat.le_refl _) (.cells (zb 32).toArray 23)).alloc (by simp) (.cells (zb 32).toArray 23)
  have hB2 : Below w.heap.size w ((w.alloc (.cells (zb 32).toArray 23)).alloc (.cells (zb 32).toArray 23)) := ((Below.refl _ _).alloc (Nat.le_refl _) _).alloc (by simp) _
  go_wp2_with (refine wpList_copy_hb rfl (.tmp 10) (.tmp 11) 28 28 rfl 5 Tryd.underlying28 hsz (w.heap.size + 1) 0 32 32 A 32 c rfl rfl (zb 32) 23 hcur w.heap.size 32 (bys b) rfl hs' (by simp [zb]) (bys_one b) ?_)
  intro w3 hb3 hg3
  rw [splice_all (zb 32) (bys b) (by rw [bys_len, hL.out]; simp [zb])] at hb3
  have hr3 : HB w3 w.heap.size 23 (zb 32) := hres.grown hg3 (by intro e; injection e; omega)
  have hB3 := hB2.grown hg3 (by simp; omega) (fun g e => by injection e; omega)
  have hz3 : w3.heap.size ≥ w.heap.size + 2 := by have := hg3.size; simpa using this
  clear hcur hres hs' hB2 hg3 hs
  go_wp2_with (first
    | (refine wpList_load_row rfl 23 _ rfl (w.heap.size + 1) rfl 23 (bys b).toArray (0, 0) _ hb3 Tryd.underlying23 rfl HI.out ?_)
    | (refine wpList_store_row rfl 23 _ _ rfl w.heap.size (bys b).toArray rfl rfl 23 _ hr3 HI.out HS.out HA.out ?_))

  refine bodyPost_ret (results_row_tmp rfl _ _ w.heap.size 23 (bys b).toArray (0, 0) _ rfl (hr3.row _) Tryd.underlying23 rfl HI.out) rfl ?_
  exact ⟨bys b, rfl, ⟨hL.out, rfl⟩, Below.setRow_ hB3 (Nat.le_refl _) _⟩
end Go.Proofs.YtlkjahfkgfkilaaDoor
