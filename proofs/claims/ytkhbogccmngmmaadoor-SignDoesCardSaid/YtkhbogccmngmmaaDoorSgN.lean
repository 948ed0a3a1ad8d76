/- sign.number, sign.tagOf. -/
import Derived.Test.YtkhbogccmngmmaaDoorSgR
import Derived.Test.YtkhbogccmngmmaaDoorLt
import Derived.IntWalk
namespace Go.Proofs.YtkhbogccmngmmaaDoor
open Go.RowKit

theorem run_make_n8 {P : Program} (w : World) (t e : TypeId) (i : TypeInfo) (z : Value) (ht : P.underlying t = some (.slice e)) (hi : P.info? e = some i) (hz : i.zero = some z)
    (c : Nat) (hbytes : i.bytes * c ≤ 281474976710656) (h63 : c ≤ 9223372036854775807) :
    (Instr.makeSlice t (.int .i64 (c : Int)) (.int .i64 (c : Int))).run P w = .ok (.slice (some ⟨w.heap.size, 0, none⟩) c c) (w.alloc (.cells (madeCells z.cells (c * i.size)) e)) := by
  have hb : (i.bytes : Int) * (c : Int) ≤ 281474976710656 := by
    have h : ((i.bytes * c : Nat) : Int) ≤ 281474976710656 := by omega
    rwa [Int.natCast_mul] at h
  have hr := run_make (P := P) w t e i z ht hi hz .i64 .i64 c c (by omega) (by omega) hb (by omega)
  simp only [Int.toNat_natCast] at hr
  exact hr
/-- The last k of eight bytes are written. -/
def numEnd (n k : Nat) : List UInt8 := List.replicate (8 - k) 0 ++ (b8 n).drop (8 - k)
theorem numEnd_len (n k : Nat) (h : k ≤ 8) : (numEnd n k).length = 8 := by
  unfold numEnd
  rw [List.length_append, List.length_replicate, List.length_drop, b8_len]
  omega
theorem numEnd_all (n : Nat) : numEnd n 8 = b8 n := by simp [numEnd]
theorem b8_get (n j : Nat) (h : j < 8) : (b8 n)[j]? = some (UInt8.ofNat (n / 2 ^ (56 - 8 * j))) := by
  unfold b8 top8
  rw [List.getElem?_map, List.getElem?_range h, Option.map_some]
theorem numEnd_step (n k : Nat) (h : k < 8) : (bys (numEnd n k)).set (7 - k) (.int .u8 ((n : Int) / 2 ^ (8 * k) % 256)) = bys (numEnd n (k + 1)) := by
  have hb := byte_of n (7 - k)
  rw [show 56 - 8 * (7 - k) = 8 * k from by omega] at hb
  rw [hb]
  apply List.ext_getElem?
  intro j
  have hl := numEnd_len n k (by omega)
  have hl2 := numEnd_len n (k + 1) (by omega)
  rw [List.getElem?_set, bys_get, bys_get, bys_len, hl]
  rcases Nat.lt_or_ge j 8 with hj | hj
  · by_cases he : 7 - k = j
    · rw [if_pos he, if_pos (by omega)]
      unfold numEnd
      rw [List.getElem?_append_right (by simp; omega), List.getElem?_drop, b8_get _ _ (by simp; omega)]
      simp only [List.length_replicate, Option.map_some]
      rw [show 56 - 8 * (8 - (k + 1) + (j - (8 - (k + 1)))) = 8 * k from by omega]
    · rw [if_neg he]
      unfold numEnd
      by_cases hlt : j < 7 - k
      · rw [List.getElem?_append_left (by simp; omega), List.getElem?_append_left (by simp; omega)]
        rw [List.getElem?_replicate, List.getElem?_replicate, if_pos (by omega), if_pos (by omega)]
      · rw [List.getElem?_append_right (by simp; omega), List.getElem?_append_right (by simp; omega), List.getElem?_drop, List.getElem?_drop]
        simp only [List.length_replicate]
        rw [show 8 - k + (j - (8 - k)) = 8 - (k + 1) + (j - (8 - (k + 1))) from by omega]
  · rw [if_neg (by omega), List.getElem?_eq_none (by omega), List.getElem?_eq_none (by omega)]
theorem made_end (w : World) : HB (w.alloc (.cells (madeCells #[.int .u8 0] 8) 5)) w.heap.size 5 (bys (numEnd 0 0)) := by
  have e : madeCells #[.int .u8 0] 8 = (bys (numEnd 0 0)).toArray := by
    apply Array.toList_inj.1
    simp [madeCells, bys, numEnd]
    rfl
  rw [e]; exact HB.new _ _ _
theorem numEnd_zero (n : Nat) : numEnd n 0 = numEnd 0 0 := by unfold numEnd; rw [List.drop_eq_nil_of_le (by rw [b8_len]; omega), List.drop_eq_nil_of_le (by rw [b8_len]; omega)]

set_option maxRecDepth 20000 in
set_option maxHeartbeats 1600000 in
theorem snumber_any (n : Nat) (w : World) :
    Calls Tryd.prog 83 #[.int .i64 (n : Int)] w (Wrote w (b8 n)) := by
  obtain ⟨i0, hi, hz0, hz1, hz2⟩ := info_parts Tryd.infoByte
  have hmk8 : ∀ W : World, (Instr.makeSlice 31 (.int .i64 8) (.int .i64 8)).run Tryd.prog W = .ok (.slice (some ⟨W.heap.size, 0, none⟩) 8 8) (W.alloc (.cells (madeCells #[.int .u8 0] 8) 5)) := fun W => by
    have h := run_make_n8 (P := Tryd.prog) W 31 5 i0 (.int .u8 0) Tryd.underlying31 hi hz0 8 (by rw [hz2]; omega) (by omega)
    rw [hz1] at h
    exact h
  clear hi hz0 hz1 hz2
  have hm : HB (w.alloc (.cells (madeCells #[.int .u8 0] 8) 5)) w.heap.size 5 (bys (numEnd n 0)) := by rw [numEnd_zero]; exact made_end w
  have hB := below_alloc1 w (.cells (madeCells #[.int .u8 0] 8) 5)
  go_enter Tryd.func83, Tryd.ntmps83
  go_wp2
  go_loopw [8] (fun i wr => ∃ k : Nat, k ≤ 8 ∧ i = .int .i64 (k : Int) ∧ HB wr w.heap.size 5 (bys (numEnd n k)) ∧ Below w.heap.size w wr) (fun i _ => 8 - (intOf i).toNat)
  case atStart => exact ⟨0, by omega, rfl, hm, hB⟩
  case round =>
    obtain ⟨k, hk, rfl, hb, hBw⟩ := hrel
    rcases Nat.lt_or_ge k 8 with hlt | hge
    · have hl := numEnd_len n k hk
      have hcell : ∃ v, wr.cell? ⟨w.heap.size, 7 - k, none⟩ = some v := by
        rw [hb.cell, bys_get, List.getElem?_eq_getElem (by omega)]; exact ⟨_, rfl⟩
      obtain ⟨v0, hv0⟩ := hcell
      have hf := hb.frozen (7 - k)
      have h2 := hb.set_ (7 - k) (.int .u8 ((n : Int) / 2 ^ (8 * k) % 256))
      rw [numEnd_step n k hlt] at h2
      have hB2 := hBw.setCell (p := ⟨w.heap.size, 7 - k, none⟩) (by simp) (.int .u8 ((n : Int) / 2 ^ (8 * k) % 256))
      have hk8 : (k : Int) < 8 := by omega
      have H2 := Lib.hid h2
      have HB2 := Lib.hid hB2
      clear h2 hB2 hl hb hBw hm hB
      go_wp2
      go_roundw
      case rel => exact ⟨k + 1, by omega, by go_num, H2.out, HB2.out⟩
      case measure => simp [intOf]; omega
    · obtain rfl : k = 8 := by omega
      rw [numEnd_all] at hb
      go_wp2
      go_ret
      refine ⟨.slice (some ⟨w.heap.size, 0, none⟩) 8 8, rfl, ⟨by rw [bys_len, b8_len], .inr ⟨w.heap.size, 8, _, by rw [b8_len], Nat.le_refl _, hb, Nat.le_of_eq (b8_len n), by decide, by rw [List.size_toArray, bys_len, b8_len], ?_⟩⟩, hBw⟩
      exact List.take_of_length_le (by rw [bys_len, b8_len]; decide)

set_option maxRecDepth 20000 in
theorem build_4 (W : World) (A0 : Option Addr) (n0 c0 : Nat) (A1 : Option Addr) (n1 c1 : Nat) (A2 : Option Addr) (n2 c2 : Nat) (A3 : Option Addr) (n3 c3 : Nat) : (Instr.buildSlice 91 4 #[(0, Value.slice A0 n0 c0), (1, Value.slice A1 n1 c1), (2, Value.slice A2 n2 c2), (3, Value.slice A3 n3 c3)]).run Tryd.prog W = .ok (.slice (some ⟨W.heap.size, 0, none⟩) 4 4) (W.alloc (.cells #[Value.slice A0 n0 c0, Value.slice A1 n1 c1, Value.slice A2 n2 c2, Value.slice A3 n3 c3] 31)) := by
  obtain ⟨i0, hi, hz0, hz1, hz2⟩ := info_parts Tryd.infoSlice
  exact run_buildSlice (P := Tryd.prog) W 91 31 4 _ _ i0 (.slice none 0 0) Tryd.underlying91 hi hz0 (by rw [hz1]; decide) (by rw [hz1]; decide) (by rw [hz1]; exact Great.fill_flat [Value.slice A0 n0 c0, Value.slice A1 n1 c1, Value.slice A2 n2 c2, Value.slice A3 n3 c3] _ (by simp [Value.cells]) (by simp))
/-- A literal of slices: the digest. -/
theorem of_lit (wk : World) (t : TypeId) (vs : List Value) (ls : List (List UInt8)) (n : Nat) (hn : ls.length = n) (h : Lists wk wk.heap.size vs ls) (hT : (joinF ls).length ≤ 140737488355328) (hk : Consts (wk.alloc (.cells vs.toArray t))) :
    Calls Tryd.prog 38 #[.slice (some ⟨wk.heap.size, 0, none⟩) n n] (wk.alloc (.cells vs.toArray t)) (Digs (wk.alloc (.cells vs.toArray t)) (shaF (joinF ls))) := by
  subst hn
  have hs : Sees (wk.alloc (.cells vs.toArray t)) (wk.heap.size + 1) 1 (some ⟨wk.heap.size, 0, none⟩) ls.length vs := by
    refine ⟨by rw [h.1, Nat.mul_one], .inr ⟨_, rfl, Nat.lt_succ_self _, fun j u hu => ?_⟩⟩
    rw [add_at, boxed]
    simpa using hu
  exact of_any (wk.heap.size + 1) _ _ _ ls _ hs ((h.below (below_alloc1 wk _)).wide (by omega)) (by simp) hT hk
def tagSign : List UInt8 := [115, 105, 103, 110]
theorem tag_len (k i : Nat) (t : List UInt8) : (joinF [tagSign, b8 k, b8 i, t]).length = 60 + t.length := by simp [joinF_len, partsOf, part_len, b8_len, tagSign]; omega
theorem tagF_eq (k i : Nat) (t : List UInt8) : tagF (((k : Int), (i : Int)), t) = shaF (joinF [tagSign, b8 k, b8 i, t]) := rfl

set_option maxRecDepth 20000 in
set_option maxHeartbeats 1600000 in
theorem tag_any (k i : Nat) (B : Nat) (A : Option Addr) (c : Nat) (t : List UInt8) (w : World) (hs : Sees w B 1 A t.length (bys t)) (hB : B ≤ w.heap.size) (hc : t.length ≤ c) (hcm : c ≤ 9223372036854775807) (ht : t.length ≤ 140737488351232) (hk : Consts w) :
    Calls Tryd.prog 59 #[.int .i64 (k : Int), .int .i64 (i : Int), .slice A t.length c] w (Digs w (tagF (((k : Int), (i : Int)), t))) := by
  rw [tagF_eq]
  have hb4 := build_b4
  have hbs := build_4
  have hz := Tryd.zeroDig
  have kc := fun (w : World) (C : Array Value) (n c : Nat) => Lib.run_convert_bytes_const (P := Tryd.prog) w 31 5 C n c Tryd.underlying31 Tryd.underlying5
  have HK := Lib.hid hk
  have HT := Lib.hid (Slot.wide (B' := w.heap.size) ⟨A, c, rfl, hc, hcm, hs⟩ hB)
  have hd1 := HB.new w 24 zdig
  have hB1 := below_alloc1 w (.cells zdig.toArray 24)
  have e1 : (w.alloc (.cells zdig.toArray 24)).heap.size = w.heap.size + 1 := by simp
  have kc1 := kc (w.alloc (.cells zdig.toArray 24)) #[.int .u8 115, .int .u8 105, .int .u8 103, .int .u8 110] 4 4
  rw [e1] at kc1
  have hS2 : Slot ((w.alloc (.cells zdig.toArray 24)).alloc (.cells #[.int .u8 115, .int .u8 105, .int .u8 103, .int .u8 110] 5 (4, 5))) (w.heap.size + 1 + 1) (.slice (some ⟨w.heap.size + 1, 0, none⟩) 4 4) tagSign := by
    have h := slot_lit (w.alloc (.cells zdig.toArray 24)) 5 (4, 5) 115 105 103 110
    rw [e1] at h
    exact h
  have hB2 := below_alloc1 (w.alloc (.cells zdig.toArray 24)) (.cells #[.int .u8 115, .int .u8 105, .int .u8 103, .int .u8 110] 5 (4, 5))
  have HD := Lib.hid hd1
  have HB1 := Lib.hid hB1
  have HB2 := Lib.hid hB2
  have HS2 := Lib.hid hS2
  have HL := Lib.hid (tag_len k i t)
  have E1 := Lib.hid e1
  have HZ2 := Lib.hid (show ((w.alloc (.cells zdig.toArray 24)).alloc (.cells #[.int .u8 115, .int .u8 105, .int .u8 103, .int .u8 110] 5 (4, 5))).heap.size = w.heap.size + 2 by simp)
  have hh := Lib.hid hk.2.2
  clear hs hB hc hcm hk hd1 hB1 hB2 hS2 kc e1
  go_enter Tryd.func59, Tryd.ntmps59
  go_wp2_with fail
  refine (snumber_any k _).mono ?_
  rintro e w3 ⟨v3, rfl, h3, hB3⟩
  generalize hw2 : (w.alloc (.cells zdig.toArray 24)).alloc (.cells #[.int .u8 115, .int .u8 105, .int .u8 103, .int .u8 110] 5 (4, 5)) = w2 at *
  obtain ⟨A3, c3, rfl, acc3⟩ := own_slot (Acc.start w2) h3 hB3
  have ACC3 := Lib.hid acc3
  clear h3 hB3 acc3 kc1 hb4 
  go_wp2_with fail
  refine (snumber_any i _).mono ?_
  rintro e w4 ⟨v4, rfl, h4, hB4⟩
  obtain ⟨A4, c4, rfl, acc4⟩ := own_slot ACC3.out h4 hB4
  have hBa := HB1.out.trans (HB2.out.mono HB1.out.size)
  have hb24 := acc4.below
  have hB24 := hBa.trans (hb24.mono hBa.size)
  have hs24 := hb24.size
  have hz2 := HZ2.out
  have hlL : Lists w4 w4.heap.size [.slice (some ⟨w.heap.size + 1, 0, none⟩) 4 4, .slice A3 (b8 k).length c3, .slice A4 (b8 i).length c4, .slice A t.length c] [tagSign, b8 k, b8 i, t] :=
    Lists.cons ((HS2.out.below (hb24.mono (by omega))).wide (by omega))
      (Lists.cons (acc4.lists.slot 0 rfl rfl) (Lists.cons (acc4.lists.slot 1 rfl rfl) (Lists.cons ((HT.out.below hB24).wide hB24.size) (Lists.nothing _ _))))
  have hb1 := HB1.out.size
  have he1 := E1.out
  have hB14 : Below (w.heap.size + 1) (w.alloc (.cells zdig.toArray 24)) w4 := by
    rw [he1] at HB2
    have h2 := HB2.out
    exact h2.trans (hb24.mono (by omega))
  have hD4 := HD.out.below hB14 (by omega)
  have hk4 := HK.out.below hB24 hh.out
  have hof := Lib.hid (of_lit w4 31 _ _ 4 rfl hlL (by rw [HL.out]; omega) (hk4.below (below_alloc1 w4 _) (by have := hh.out; omega)))
  have hD5 := Lib.hid (hD4.alloc (.cells #[.slice (some ⟨w.heap.size + 1, 0, none⟩) 4 4, .slice A3 (b8 k).length c3, .slice A4 (b8 i).length c4, .slice A t.length c] 31))
  have hB5 := Lib.hid (hB24.alloc hB24.size (.cells #[.slice (some ⟨w.heap.size + 1, 0, none⟩) 4 4, .slice A3 (b8 k).length c3, .slice A4 (b8 i).length c4, .slice A t.length c] 31))
  clear hBa hb24 hB24 hs24 hz2 hlL hb1 he1 hB14 hD4 hk4 h4 hB4 acc4 hw2
  go_wp2_with fail
  refine hof.out.mono ?_
  rintro e w6 ⟨rfl, hB6⟩
  have hD6 := hD5.out.below hB6 hD5.out.lt
  have hB7 := hB5.out.trans (hB6.mono hB5.out.size)
  have HI := dig_info (shaF_len (joinF [tagSign, b8 k, b8 i, t]))
  have HS := dig_size (shaF_len (joinF [tagSign, b8 k, b8 i, t]))
  have HA := dig_one (shaF (joinF [tagSign, b8 k, b8 i, t]))
  have hr := hD6.row (bys (shaF (joinF [tagSign, b8 k, b8 i, t]))).toArray
  have hB8 := Below.setRow_ hB7 (Nat.le_refl _) (bys (shaF (joinF [tagSign, b8 k, b8 i, t]))).toArray
  clear hof hB6 hB7
  generalize shaF (joinF [tagSign, b8 k, b8 i, t]) = l at *
  go_wp2_with (refine wpList_store_row rfl 24 _ _ rfl w.heap.size (bys l).toArray rfl rfl 24 _ hD6 HI.out HS.out HA.out ?_)
  refine bodyPost_ret (v := .agg (bys l).toArray) (results_cell_row rfl _ _ w.heap.size 24 (bys l).toArray (0, 0) _ rfl hr Tryd.underlying24 rfl HI.out) rfl ?_
  exact ⟨rfl, hB8⟩
end Go.Proofs.YtkhbogccmngmmaaDoor
