/- wapentakeref03.List. -/
import Derived.Test.YthmkdlnocdbhjaaDoorRtE
namespace Go.Proofs.YthmkdlnocdbhjaaDoor
open Go.RowKit

set_option maxRecDepth 20000 in
set_option maxHeartbeats 3200000 in
theorem rroot_any (n : Nat) (hn : n < 9223372036854775808) (d : List UInt8) (w : World) (hd : d.length = 32) :
    Calls Tryd.prog 17 #[.int .i64 (n : Int), .agg (bys d).toArray] w (Wrote w (rootB n d)) := by
  have hb4 := build_b4
  have hb3 := build_3
  have kc := conv_lit
  have hT : (joinF [tagList, b8 n, d]).length ≤ 140737488353000 := by have := rootB_len n d; unfold rootB at this; omega
  have h0 := slot_box w d 32 hd (by omega) 28
  have s0 := below_alloc1 w (.cells (bys d).toArray 28)
  have z0 : (w.alloc (.cells (bys d).toArray 28)).heap.size = w.heap.size + 1 := by simp
  generalize hW0 : w.alloc (.cells (bys d).toArray 28) = W0 at h0 s0 z0
  have hcA := Lib.hid (rnum_any n (W0.alloc (.cells #[.int .u8 108, .int .u8 105, .int .u8 115, .int .u8 116] 5 (4, 5))).drew)
  have hcC := Lib.hid (rnum_any n (W0.alloc (.cells #[.int .u8 108, .int .u8 105, .int .u8 115, .int .u8 116] 5)).drew)
  have hcB := Lib.hid (rnum_any n W0.drew)
  have hA : ∀ w1 v1, (w1 : World).ownsRow (W0.alloc (.cells #[.int .u8 108, .int .u8 105, .int .u8 115, .int .u8 116] 5 (4, 5))).drew.heap.size 5 1 v1 (b8 n).length (bys (b8 n)) → Below (W0.alloc (.cells #[.int .u8 108, .int .u8 105, .int .u8 115, .int .u8 116] 5 (4, 5))).drew.heap.size (W0.alloc (.cells #[.int .u8 108, .int .u8 105, .int .u8 115, .int .u8 116] 5 (4, 5))).drew w1 →
      ∃ A c, v1 = .slice A (b8 n).length c ∧ Below w.heap.size w w1 ∧ Lists w1 w1.heap.size [.slice (some ⟨w.heap.size + 1, 0, none⟩) 4 4, .slice A (b8 n).length c, .slice (some ⟨w.heap.size, 0, none⟩) 32 32] [tagList, b8 n, d] := by
    intro w1 v1 ho hb
    obtain ⟨A, c, rfl, hs⟩ := slot_wrote ho
    have h1 := slot_lit W0 5 (4, 5) 108 105 115 116
    rw [z0] at h1
    have hb0 : Below W0.heap.size W0 (W0.alloc (.cells #[.int .u8 108, .int .u8 105, .int .u8 115, .int .u8 116] 5 (4, 5))).drew := (below_alloc1 _ _).drew
    have hz := hb.size
    have hz0 := hb0.size
    refine ⟨A, c, rfl, s0.trans ((hb0.trans (hb.mono hb0.size)).mono s0.size), lists3 (B0 := w.heap.size + 1 + 1) (B1 := w1.heap.size) (B2 := w.heap.size + 1) ?_ hs ?_ ?_ (Nat.le_refl _) (by omega)⟩
    · exact Slot.later (w := (W0.alloc (.cells #[.int .u8 108, .int .u8 105, .int .u8 115, .int .u8 116] 5 (4, 5))).drew) (h1.below (Below.drew (Below.refl _ _))) (by simp; omega) hb
    · exact Slot.later (w := (W0.alloc (.cells #[.int .u8 108, .int .u8 105, .int .u8 115, .int .u8 116] 5 (4, 5))).drew) (h0.later (by omega) hb0) (by simp; omega) hb
    · have : (W0.alloc (.cells #[.int .u8 108, .int .u8 105, .int .u8 115, .int .u8 116] 5 (4, 5))).drew.heap.size = w.heap.size + 1 + 1 := by simp; omega
      omega
  have hC : ∀ w1 v1, (w1 : World).ownsRow (W0.alloc (.cells #[.int .u8 108, .int .u8 105, .int .u8 115, .int .u8 116] 5)).drew.heap.size 5 1 v1 (b8 n).length (bys (b8 n)) → Below (W0.alloc (.cells #[.int .u8 108, .int .u8 105, .int .u8 115, .int .u8 116] 5)).drew.heap.size (W0.alloc (.cells #[.int .u8 108, .int .u8 105, .int .u8 115, .int .u8 116] 5)).drew w1 →
      ∃ A c, v1 = .slice A (b8 n).length c ∧ Below w.heap.size w (w1.freeze ⟨w.heap.size + 1, 4, none⟩ 1) ∧ w1.heap[w.heap.size + 1]? = some (.cells #[.int .u8 108, .int .u8 105, .int .u8 115, .int .u8 116] 5) ∧ Lists (w1.freeze ⟨w.heap.size + 1, 4, none⟩ 1) (w1.freeze ⟨w.heap.size + 1, 4, none⟩ 1).heap.size [.slice (some ⟨w.heap.size + 1, 0, none⟩) 4 4, .slice A (b8 n).length c, .slice (some ⟨w.heap.size, 0, none⟩) 32 32] [tagList, b8 n, d] := by
    intro w1 v1 ho hb
    obtain ⟨A, c, rfl, hs⟩ := slot_wrote ho
    have h1 := slot_lit W0 5 (0, 0) 108 105 115 116
    rw [z0] at h1
    have hb0 : Below W0.heap.size W0 (W0.alloc (.cells #[.int .u8 108, .int .u8 105, .int .u8 115, .int .u8 116] 5)).drew := (below_alloc1 _ _).drew
    have hz := hb.size
    have hz0 := hb0.size
    have hz1 : (W0.alloc (.cells #[.int .u8 108, .int .u8 105, .int .u8 115, .int .u8 116] 5)).drew.heap.size = w.heap.size + 1 + 1 := by simp; omega
    refine ⟨A, c, rfl, freeze_below (s0.trans ((hb0.trans (hb.mono hb0.size)).mono s0.size)) (by simp) 1, ?_, lists3 (B0 := w.heap.size + 1 + 1) (B1 := w1.heap.size) (B2 := w.heap.size + 1) ?_ (freeze_slot hs _ _) ?_ ?_ ?_ ?_⟩
    · rw [hb.block (w.heap.size + 1) (by omega), ← z0]; exact heap_alloc_new W0 _
    · exact freeze_slot (Slot.later (w := (W0.alloc (.cells #[.int .u8 108, .int .u8 105, .int .u8 115, .int .u8 116] 5)).drew) (h1.below (Below.drew (Below.refl _ _))) (by omega) hb) _ _
    · exact freeze_slot (Slot.later (w := (W0.alloc (.cells #[.int .u8 108, .int .u8 105, .int .u8 115, .int .u8 116] 5)).drew) (h0.later (by omega) hb0) (by omega) hb) _ _
    · rw [freeze_size]; omega
    · rw [freeze_size]; exact Nat.le_refl _
    · rw [freeze_size]; omega
  have hB : ∀ w1 v1, (w1 : World).ownsRow W0.drew.heap.size 5 1 v1 (b8 n).length (bys (b8 n)) → Below W0.drew.heap.size W0.drew w1 →
      ∃ A c, v1 = .slice A (b8 n).length c ∧ Below w.heap.size w (w1.alloc (.cells #[.int .u8 108, .int .u8 105, .int .u8 115, .int .u8 116] 5 (4, 5))) ∧ Lists (w1.alloc (.cells #[.int .u8 108, .int .u8 105, .int .u8 115, .int .u8 116] 5 (4, 5))) (w1.alloc (.cells #[.int .u8 108, .int .u8 105, .int .u8 115, .int .u8 116] 5 (4, 5))).heap.size [.slice (some ⟨w1.heap.size, 0, none⟩) 4 4, .slice A (b8 n).length c, .slice (some ⟨w.heap.size, 0, none⟩) 32 32] [tagList, b8 n, d] := by
    intro w1 v1 ho hb
    obtain ⟨A, c, rfl, hs⟩ := slot_wrote ho
    have h1 := slot_lit w1 5 (4, 5) 108 105 115 116
    have hb0 : Below W0.heap.size W0 W0.drew := (Below.refl _ _).drew
    have hz := hb.size
    have hzd : W0.drew.heap.size = W0.heap.size := rfl
    have hBw : Below w.heap.size w w1 := s0.trans ((hb0.trans (hb.mono hb0.size)).mono s0.size)
    refine ⟨A, c, rfl, hBw.alloc hBw.size _, lists3 (B0 := w1.heap.size + 1) (B1 := w1.heap.size) (B2 := w.heap.size + 1) h1 (hs.alloc (Nat.le_refl _) _) ?_ (by simp) (by simp) (by simp; omega)⟩
    exact (Slot.later (w := W0.drew) (h0.later (by omega) hb0) (by omega) hb).alloc (by omega) _
  have HA := Lib.hid hA
  have HB := Lib.hid hB
  have HC := Lib.hid hC
  have HT := Lib.hid hT
  clear hA hB hC hT h0 s0 z0 hd
  subst hW0
  have kb := conv_lit0
  have wn : IntKind.u64.wrap (n : Int) = (n : Int) := u64_wrap_id _ (by omega) (by omega)
  go_enter Tryd.func17, Tryd.ntmps17
  go_wp2_with fail
  go_region_with (first
    | (go_at_call 43; (with_reducible refine hcA.out.mono ?_); rintro e w1 ⟨v1, rfl, ho1, hB1⟩; obtain ⟨A1, c1, rfl, hst, hl⟩ := HA.out _ _ ho1 hB1; have hj := Lib.hid (rjoin_lit w1 33 _ _ w1.heap.size 3 rfl rfl hl HT.out); have HST := Lib.hid hst; clear ho1 hB1 hl hst)
    | (go_at_call 43; (with_reducible refine hcC.out.mono ?_); rintro e w1 ⟨v1, rfl, ho1, hB1⟩; obtain ⟨A1, c1, rfl, hst, hbk, hl⟩ := HC.out _ _ ho1 hB1; have hj := Lib.hid (rjoin_lit (w1.freeze ⟨w.heap.size + 1, 4, none⟩ 1) 33 _ _ _ 3 rfl rfl hl HT.out); have HST := Lib.hid hst; have hkc := conv_at w1 (w.heap.size + 1) _ 4 4 hbk; clear ho1 hB1 hl hst hbk)
    | (go_at_call 43; (with_reducible refine hcB.out.mono ?_); rintro e w1 ⟨v1, rfl, ho1, hB1⟩; obtain ⟨A1, c1, rfl, hst, hl⟩ := HB.out _ _ ho1 hB1; have hj := Lib.hid (rjoin_lit (w1.alloc (.cells #[.int .u8 108, .int .u8 105, .int .u8 115, .int .u8 116] 5 (4, 5))) 33 _ _ (w1.heap.size + 1) 3 (by simp) rfl hl HT.out); have HST := Lib.hid hst; clear ho1 hB1 hl hst)
    | (go_at_call 42; refine hj.out.mono ?_; rintro e2 w3 ⟨v2, rfl, ho, hB2⟩))
  all_goals (go_wp2; go_ret; exact ⟨_, rfl, own_wide ho (HST.out.alloc HST.out.size _).size, (HST.out.alloc HST.out.size _).trans (hB2.mono (HST.out.alloc HST.out.size _).size)⟩)
end Go.Proofs.YthmkdlnocdbhjaaDoor
