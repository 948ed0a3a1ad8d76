/- merkle.number. -/
import Derived.Test.YtdghklgfdhbkpaaDoorMkN
namespace Go.Proofs.YtdghklgfdhbkpaaDoor
open Go.RowKit

theorem run_make_n {P : Program} (w : World) (t e : TypeId) (i : TypeInfo) (z : Value) (ht : P.underlying t = some (.slice e)) (hi : P.info? e = some i) (hz : i.zero = some z)
    (c : Nat) (hbytes : i.bytes * c ≤ 281474976710656) (h63 : c ≤ 9223372036854775807) :
    (Instr.makeSlice t (.int .i64 (c : Int)) (.int .i64 (c : Int))).run P w = .ok (.slice (some ⟨w.heap.size, 0, none⟩) c c) (w.alloc (.cells (madeCells z.cells (c * i.size)) e)) := by
  have hb : (i.bytes : Int) * (c : Int) ≤ 281474976710656 := by
    have h : ((i.bytes * c : Nat) : Int) ≤ 281474976710656 := by omega
    rwa [Int.natCast_mul] at h
  have hr := run_make (P := P) w t e i z ht hi hz .i64 .i64 c c (by omega) (by omega) hb (by omega)
  simp only [Int.toNat_natCast] at hr
  exact hr
/-- The first k of eight bytes are written. -/
def numTo (n k : Nat) : List UInt8 := top8 n k ++ List.replicate (8 - k) 0
theorem numTo_len (n k : Nat) (h : k ≤ 8) : (numTo n k).length = 8 := by simp [numTo, top8_len]; omega
theorem numTo_all (n : Nat) : numTo n 8 = b8 n := by simp [numTo]
theorem numTo_step (n k : Nat) (h : k < 8) : (bys (numTo n k)).set k (.int .u8 ((n : Int) / 2 ^ (8 * (7 - k)) % 256)) = bys (numTo n (k + 1)) := by
  have e : 8 - k = (8 - (k + 1)) + 1 := by omega
  rw [show 8 * (7 - k) = 56 - 8 * k from by omega, byte_of]
  unfold numTo
  rw [top8_snoc, e, List.replicate_succ, List.append_assoc]
  unfold bys
  rw [List.map_append, List.map_append, List.set_append_right _ _ (by simp [top8_len])]
  simp [top8_len]
theorem made_hb (w : World) : HB (w.alloc (.cells (madeCells #[.int .u8 0] 8) 5)) w.heap.size 5 (bys (numTo 0 0)) := by
  have e : madeCells #[.int .u8 0] 8 = (bys (numTo 0 0)).toArray := by
    apply Array.toList_inj.1
    simp [madeCells, bys, numTo, top8]
    rfl
  rw [e]; exact HB.new _ _ _

set_option maxRecDepth 20000 in
set_option maxHeartbeats 1600000 in
theorem mnumber_any (n : Nat) (hn : n < 9223372036854775808) (w : World) :
    Calls Tryd.prog 46 #[.int .i64 (n : Int)] w (Wrote w (b8 n)) := by
  obtain ⟨i0, hi, hz0, hz1, hz2⟩ := info_parts Tryd.infoByte
  have hmk8 : ∀ W : World, (Instr.makeSlice 33 (.int .i64 8) (.int .i64 8)).run Tryd.prog W = .ok (.slice (some ⟨W.heap.size, 0, none⟩) 8 8) (W.alloc (.cells (madeCells #[.int .u8 0] 8) 5)) := fun W => by
    have h := run_make_n (P := Tryd.prog) W 33 5 i0 (.int .u8 0) Tryd.underlying33 hi hz0 8 (by rw [hz2]; omega) (by omega)
    rw [hz1] at h
    exact h
  clear hi hz0 hz1 hz2
  have hm : HB (w.alloc (.cells (madeCells #[.int .u8 0] 8) 5)) w.heap.size 5 (bys (numTo n 0)) := made_hb w
  have hB := below_alloc1 w (.cells (madeCells #[.int .u8 0] 8) 5)
  go_enter Tryd.func46, Tryd.ntmps46
  go_wp2
  go_loopw [4, 8] (fun _ i wr => ∃ k : Nat, k ≤ 8 ∧ i = .int .i64 (k : Int) ∧ HB wr w.heap.size 5 (bys (numTo n k)) ∧ Below w.heap.size w wr) (fun _ i _ => 8 - (intOf i).toNat)
  case atStart => exact ⟨0, by omega, rfl, hm, hB⟩
  case round =>
    obtain ⟨k, hk, rfl, hb, hBw⟩ := hrel
    rcases Nat.lt_or_ge k 8 with hlt | hge
    · have hl := numTo_len n k hk
      have hcell : ∃ v, wr.cell? ⟨w.heap.size, k, none⟩ = some v := by
        rw [hb.cell, bys_get, List.getElem?_eq_getElem (by omega)]; exact ⟨_, rfl⟩
      obtain ⟨v0, hv0⟩ := hcell
      have hf := hb.frozen k
      have h2 := hb.set_ k (.int .u8 ((n : Int) / 2 ^ (8 * (7 - k)) % 256))
      rw [numTo_step n k hlt] at h2
      have hB2 := hBw.setCell (p := ⟨w.heap.size, k, none⟩) (by simp) (.int .u8 ((n : Int) / 2 ^ (8 * (7 - k)) % 256))
      have hk8 : (k : Int) < 8 := by omega
      have H2 := Lib.hid h2
      have HB2 := Lib.hid hB2
      clear h2 hB2 hl hb hBw hm hB
      go_wp2
      go_roundw
      case rel => exact ⟨k + 1, by omega, by go_num, H2.out, HB2.out⟩
      case measure => simp [intOf]; omega
    · obtain rfl : k = 8 := by omega
      rw [numTo_all] at hb
      go_wp2
      go_ret
      refine ⟨.slice (some ⟨w.heap.size, 0, none⟩) 8 8, rfl, ⟨by rw [bys_len, b8_len], .inr ⟨w.heap.size, 8, _, by rw [b8_len], Nat.le_refl _, hb, Nat.le_of_eq (b8_len n), by decide, by rw [List.size_toArray, bys_len, b8_len], ?_⟩⟩, hBw⟩
      exact List.take_of_length_le (by rw [bys_len, b8_len]; decide)
end Go.Proofs.YtdghklgfdhbkpaaDoor
