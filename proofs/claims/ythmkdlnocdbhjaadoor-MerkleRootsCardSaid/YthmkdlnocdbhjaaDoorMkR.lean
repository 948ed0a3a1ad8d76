/- merkle.rootPreimage. -/
import Derived.Test.YthmkdlnocdbhjaaDoorMkM
namespace Go.Proofs.YthmkdlnocdbhjaaDoor
open Go.RowKit

theorem freeze_cell (w : World) (a p : Addr) (n : Nat) : (w.freeze a n).cell? p = w.cell? p := by
  unfold World.freeze
  split
  · rfl
  · simp only [World.cell?, Array.getElem?_modify]
    by_cases h : a.block = p.block
    · rw [if_pos h]
      cases w.heap[p.block]? with
      | none => rfl
      | some o =>
        cases o <;> rfl
    · rw [if_neg h]
theorem freeze_size (w : World) (a : Addr) (n : Nat) : (w.freeze a n).heap.size = w.heap.size := by
  unfold World.freeze
  split
  · rfl
  · simp
theorem freeze_below {B : Nat} {a w : World} (h : Below B a w) {p : Addr} (hp : B ≤ p.block) (n : Nat) : Below B a (w.freeze p n) := by
  refine h.trans ?_
  unfold World.freeze
  split
  · exact Below.refl _ _
  · exact ⟨rfl, rfl, rfl, by simp, fun k hk => by simp only [Array.getElem?_modify]; rw [if_neg (by omega)]⟩
theorem freeze_sees {w : World} {B size n : Nat} {A : Option Addr} {xs : List Value} (h : Sees w B size A n xs) (a : Addr) (k : Nat) : Sees (w.freeze a k) B size A n xs := h.map fun _ _ => freeze_cell _ _ _ _
theorem freeze_slot {w : World} {B : Nat} {v : Value} {l : List UInt8} (h : Slot w B v l) (a : Addr) (k : Nat) : Slot (w.freeze a k) B v l := by
  obtain ⟨A, c, h1, h2, h3, h4⟩ := h
  exact ⟨A, c, h1, h2, h3, freeze_sees h4 a k⟩
/-- '[]byte("..")' where the literal lies in a block that is known. -/
theorem conv_at (W : World) (g : Nat) (C : Array Value) (n c : Nat) (h : W.heap[g]? = some (.cells C 5)) : (convert 33 33 (.slice (some ⟨g, 0, none⟩) n c)).run Tryd.prog W = .ok (.slice (some ⟨g, 0, none⟩) n c) (W.freeze ⟨g, C.size, none⟩ 1) := by
  have hsh : W.shape? g = some (5, C.size) := by unfold World.shape?; rw [h]
  simp [convert, run_underlying Tryd.underlying33, run_underlying Tryd.underlying5, markStringish, hsh]
theorem conv_lit0 (w : World) (C : Array Value) (n c : Nat) : (convert 33 33 (.slice (some ⟨w.heap.size, 0, none⟩) n c)).run Tryd.prog (w.alloc (.cells C 5)) = .ok (.slice (some ⟨w.heap.size, 0, none⟩) n c) (w.alloc (.cells C 5 (C.size, C.size + 1))) :=
  Lib.run_convert_bytes_const (P := Tryd.prog) w 33 5 C n c Tryd.underlying33 Tryd.underlying5
theorem lists3 {wk : World} {v0 v1 v2 : Value} {l0 l1 l2 : List UInt8} {B0 B1 B2 : Nat} (h0 : Slot wk B0 v0 l0) (h1 : Slot wk B1 v1 l1) (h2 : Slot wk B2 v2 l2) (k0 : B0 ≤ wk.heap.size) (k1 : B1 ≤ wk.heap.size) (k2 : B2 ≤ wk.heap.size) : Lists wk wk.heap.size [v0, v1, v2] [l0, l1, l2] :=
  Lists.cons (h0.wide k0) (Lists.cons (h1.wide k1) (Lists.cons (h2.wide k2) (Lists.nothing _ _)))
theorem Slot.later {w w' : World} {B : Nat} {v : Value} {l : List UInt8} (h : Slot w B v l) (hB : B ≤ w.heap.size) (hb : Below w.heap.size w w') : Slot w' B v l := h.below (hb.mono hB)
/-- What a call wrote. -/
theorem slot_wrote {w w' : World} {v : Value} {b : List UInt8} (ho : w'.ownsRow w.heap.size 5 1 v b.length (bys b)) : ∃ A c, v = .slice A b.length c ∧ Slot w' w'.heap.size v b := by
  obtain ⟨A, c, rfl, hc, hm, _, hs⟩ := own_slice ho
  exact ⟨A, c, rfl, A, c, rfl, hc, hm, hs⟩

set_option maxRecDepth 20000 in
set_option maxHeartbeats 3200000 in
theorem root_any (n : Nat) (hn : n < 9223372036854775808) (d : List UInt8) (w : World) (hd : d.length = 32) :
    Calls Tryd.prog 40 #[.int .i64 (n : Int), .agg (bys d).toArray] w (Wrote w (rootB n d)) := by
  have hb4 := build_b4
  have hb3 := build_3
  have kc := conv_lit
  have hT : (joinF [tagList, b8 n, d]).length ≤ 140737488355328 := by have := rootB_len n d; unfold rootB at this; omega
  have h0 := slot_box w d 32 hd (by omega) 28
  have s0 := below_alloc1 w (.cells (bys d).toArray 28)
  have z0 : (w.alloc (.cells (bys d).toArray 28)).heap.size = w.heap.size + 1 := by simp
  generalize hW0 : w.alloc (.cells (bys d).toArray 28) = W0 at h0 s0 z0
  have hcA := Lib.hid (mnumber_any n hn (W0.alloc (.cells #[.int .u8 108, .int .u8 105, .int .u8 115, .int .u8 116] 5 (4, 5))).drew)
  have hcC := Lib.hid (mnumber_any n hn (W0.alloc (.cells #[.int .u8 108, .int .u8 105, .int .u8 115, .int .u8 116] 5)).drew)
  have hcB := Lib.hid (mnumber_any n hn W0.drew)
  have hA : ∀ w1 v1, (w1 : World).ownsRow (W0.alloc (.cells #[.int .u8 108, .int .u8 105, .int .u8 115, .int .u8 116] 5 (4, 5))).drew.heap.size 5 1 v1 (b8 n).length (bys (b8 n)) → Below (W0.alloc (.cells #[.int .u8 108, .int .u8 105, .int .u8 115, .int .u8 116] 5 (4, 5))).drew.heap.size (W0.alloc (.cells #[.int .u8 108, .int .u8 105, .int .u8 115, .int .u8 116] 5 (4, 5))).drew w1 →
      ∃ A c, v1 = .slice A (b8 n).length c ∧ Below w.heap.size w w1 ∧ Lists w1 w1.heap.size [.slice (some ⟨w.heap.size + 1, 0, none⟩) 4 4, .slice A (b8 n).length c, .slice (some ⟨w.heap.size, 0, none⟩) 32 32] [tagList, b8 n, d] := by
    intro w1 v1 ho hb
    obtain ⟨A, c, rfl, hs⟩ := slot_wrote ho
    have h1 := slot_lit W0 5 (4, 5) 108 105 115 116
    rw [z0] at h1
    have hb0 : Below W0.heap.size W0 (W0.alloc (.cells #[.int .u8 108, .int .u8 105, .int .u8 115, .int .u8 116] 5 (4, 5))).drew := (below_alloc1 _ _).drew
    have hz := hb.size
    have hz0 := hb0.size
    refine ⟨A, c, rfl, s0.trans ((hb0.trans (hb.mono hb0.size)).mono s0.size), lists3 (B0 := w.heap.size + 1 + 1) (B1 := w1.heap.size) (B2 := w.heap.size + 1) ?_ hs ?_ ?_ (Nat.le_refl _) (by omega)⟩
    · exact Slot.later (w := (W0.alloc (.cells #[.int .u8 108, .int .u8 105, .int .u8 115, .int .u8 116] 5 (4, 5))).drew) (h1.below (Below.drew (Below.refl _ _))) (by simp; omega) hb
    · exact Slot.later (w := (W0.alloc (.cells #[.int .u8 108, .int .u8 105, .int .u8 115, .int .u8 116] 5 (4, 5))).drew) (h0.later (by omega) hb0) (by simp; omega) hb
    · have : (W0.alloc (.cells #[.int .u8 108, .int .u8 105, .int .u8 115, .int .u8 116] 5 (4, 5))).drew.heap.size = w.heap.size + 1 + 1 := by simp; omega
      omega
  have hC : ∀ w1 v1, (w1 : World).ownsRow (W0.alloc (.cells #[.int .u8 108, .int .u8 105, .int .u8 115, .int .u8 116] 5)).drew.heap.size 5 1 v1 (b8 n).length (bys (b8 n)) → Below (W0.alloc (.cells #[.int .u8 108, .int .u8 105, .int .u8 115, .int .u8 116] 5)).drew.heap.size (W0.alloc (.cells #[.int .u8 108, .int .u8 105, .int .u8 115, .int .u8 116] 5)).drew w1 →
      ∃ A c, v1 = .slice A (b8 n).length c ∧ Below w.heap.size w (w1.freeze ⟨w.heap.size + 1, 4, none⟩ 1) ∧ w1.heap[w.heap.size + 1]? = some (.cells #[.int .u8 108, .int .u8 105, .int .u8 115, .int .u8 116] 5) ∧ Lists (w1.freeze ⟨w.heap.size + 1, 4, none⟩ 1) (w1.freeze ⟨w.heap.size + 1, 4, none⟩ 1).heap.size [.slice (some ⟨w.heap.size + 1, 0, none⟩) 4 4, .slice A (b8 n).length c, .slice (some ⟨w.heap.size, 0, none⟩) 32 32] [tagList, b8 n, d] := by
    intro w1 v1 ho hb
    obtain ⟨A, c, rfl, hs⟩ := slot_wrote ho
    have h1 := slot_lit W0 5 (0, 0) 108 105 115 116
    rw [z0] at h1
    have hb0 : Below W0.heap.size W0 (W0.alloc (.cells #[.int .u8 108, .int .u8 105, .int .u8 115, .int .u8 116] 5)).drew := (below_alloc1 _ _).drew
    have hz := hb.size
    have hz0 := hb0.size
    have hz1 : (W0.alloc (.cells #[.int .u8 108, .int .u8 105, .int .u8 115, .int .u8 116] 5)).drew.heap.size = w.heap.size + 1 + 1 := by simp; omega
    refine ⟨A, c, rfl, freeze_below (s0.trans ((hb0.trans (hb.mono hb0.size)).mono s0.size)) (by simp) 1, ?_, lists3 (B0 := w.heap.size + 1 + 1) (B1 := w1.heap.size) (B2 := w.heap.size + 1) ?_ (freeze_slot hs _ _) ?_ ?_ ?_ ?_⟩
    · rw [hb.block (w.heap.size + 1) (by omega), ← z0]; exact heap_alloc_new W0 _
    · exact freeze_slot (Slot.later (w := (W0.alloc (.cells #[.int .u8 108, .int .u8 105, .int .u8 115, .int .u8 116] 5)).drew) (h1.below (Below.drew (Below.refl _ _))) (by omega) hb) _ _
    · exact freeze_slot (Slot.later (w := (W0.alloc (.cells #[.int .u8 108, .int .u8 105, .int .u8 115, .int .u8 116] 5)).drew) (h0.later (by omega) hb0) (by omega) hb) _ _
    · rw [freeze_size]; omega
    · rw [freeze_size]; exact Nat.le_refl _
    · rw [freeze_size]; omega
  have hB : ∀ w1 v1, (w1 : World).ownsRow W0.drew.heap.size 5 1 v1 (b8 n).length (bys (b8 n)) → Below W0.drew.heap.size W0.drew w1 →
      ∃ A c, v1 = .slice A (b8 n).length c ∧ Below w.heap.size w (w1.alloc (.cells #[.int .u8 108, .int .u8 105, .int .u8 115, .int .u8 116] 5 (4, 5))) ∧ Lists (w1.alloc (.cells #[.int .u8 108, .int .u8 105, .int .u8 115, .int .u8 116] 5 (4, 5))) (w1.alloc (.cells #[.int .u8 108, .int .u8 105, .int .u8 115, .int .u8 116] 5 (4, 5))).heap.size [.slice (some ⟨w1.heap.size, 0, none⟩) 4 4, .slice A (b8 n).length c, .slice (some ⟨w.heap.size, 0, none⟩) 32 32] [tagList, b8 n, d] := by
    intro w1 v1 ho hb
    obtain ⟨A, c, rfl, hs⟩ := slot_wrote ho
    have h1 := slot_lit w1 5 (4, 5) 108 105 115 116
    have hb0 : Below W0.heap.size W0 W0.drew := (Below.refl _ _).drew
    have hz := hb.size
    have hzd : W0.drew.heap.size = W0.heap.size := rfl
    have hBw : Below w.heap.size w w1 := s0.trans ((hb0.trans (hb.mono hb0.size)).mono s0.size)
    refine ⟨A, c, rfl, hBw.alloc hBw.size _, lists3 (B0 := w1.heap.size + 1) (B1 := w1.heap.size) (B2 := w.heap.size + 1) h1 (hs.alloc (Nat.le_refl _) _) ?_ (by simp) (by simp) (by simp; omega)⟩
    exact (Slot.later (w := W0.drew) (h0.later (by omega) hb0) (by omega) hb).alloc (by omega) _
  have HA := Lib.hid hA
  have HB := Lib.hid hB
  have HC := Lib.hid hC
  have HT := Lib.hid hT
  clear hA hB hC hT h0 s0 z0 hd
  subst hW0
  have kb := conv_lit0
  go_enter Tryd.func40, Tryd.ntmps40
  go_wp2_with fail
  go_region_with (first
    | (go_at_call 65; (with_reducible refine hcA.out.mono ?_); rintro e w1 ⟨v1, rfl, ho1, hB1⟩; obtain ⟨A1, c1, rfl, hst, hl⟩ := HA.out _ _ ho1 hB1; have hj := Lib.hid (join_lit w1 33 _ _ w1.heap.size 3 rfl rfl hl HT.out); have HST := Lib.hid hst; clear ho1 hB1 hl hst)
    | (go_at_call 65; (with_reducible refine hcC.out.mono ?_); rintro e w1 ⟨v1, rfl, ho1, hB1⟩; obtain ⟨A1, c1, rfl, hst, hbk, hl⟩ := HC.out _ _ ho1 hB1; have hj := Lib.hid (join_lit (w1.freeze ⟨w.heap.size + 1, 4, none⟩ 1) 33 _ _ _ 3 rfl rfl hl HT.out); have HST := Lib.hid hst; have hkc := conv_at w1 (w.heap.size + 1) _ 4 4 hbk; clear ho1 hB1 hl hst hbk)
    | (go_at_call 65; (with_reducible refine hcB.out.mono ?_); rintro e w1 ⟨v1, rfl, ho1, hB1⟩; obtain ⟨A1, c1, rfl, hst, hl⟩ := HB.out _ _ ho1 hB1; have hj := Lib.hid (join_lit (w1.alloc (.cells #[.int .u8 108, .int .u8 105, .int .u8 115, .int .u8 116] 5 (4, 5))) 33 _ _ (w1.heap.size + 1) 3 (by simp) rfl hl HT.out); have HST := Lib.hid hst; clear ho1 hB1 hl hst)
    | (go_at_call 56; refine hj.out.mono ?_; rintro e2 w3 ⟨v2, rfl, ho, hB2⟩))
  all_goals (go_wp2; go_ret; exact ⟨_, rfl, own_wide ho (HST.out.alloc HST.out.size _).size, (HST.out.alloc HST.out.size _).trans (hB2.mono (HST.out.alloc HST.out.size _).size)⟩)
end Go.Proofs.YthmkdlnocdbhjaaDoor
