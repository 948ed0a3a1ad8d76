/- The law's calls whose answers are fixed. -/
import Derived.Test.YtlkjahfkgfkilaaDoorFRead
namespace Go.Proofs.YtlkjahfkgfkilaaDoor
open Go.RowKit

/-- The zero record's bytes. -/
def zrecB : List UInt8 := joinF [b8 0, joinF [], joinF []]
theorem zrecB_len : zrecB.length = 56 := by decide
theorem zrecB_7 : zrecB[7]? = some 3 := by decide
theorem zrec_is (w : World) (p : Nat → Prop) : recordR w p zrec zrecB :=
  ⟨[b8 0, joinF [], joinF []], ⟨[.int .i64 0], [.slice none 0 0, .slice none 0 0], b8 0, _, rfl, rfl, ⟨0, by decide, rfl, rfl⟩, [.slice none 0 0], [.slice none 0 0], joinF [], _, rfl, rfl,
    ⟨none, 0, [], [], rfl, Nat.le_refl _, by decide, ⟨rfl, by (intro _ h; cases h), .inl rfl⟩, ⟨rfl, fun i q h => by simp at h⟩, rfl⟩, [.slice none 0 0], [], joinF [], [], rfl, rfl,
    ⟨none, 0, [], [], rfl, Nat.le_refl _, by decide, ⟨rfl, by (intro _ h; cases h), .inl rfl⟩, ⟨rfl, fun i q h => by simp at h⟩, rfl⟩, rfl, rfl⟩, rfl⟩
theorem zrec_form : recordF zrecB := ⟨[b8 0, joinF [], joinF []], split_join _ (by decide) (by decide), b8 0, _, rfl, b8_len 0, joinF [], _, rfl, ⟨[], split_join [] (by decide) (by decide), by intro q h; cases h⟩, joinF [], [], rfl, ⟨[], split_join [] (by decide) (by decide), by intro q h; cases h⟩, rfl⟩
/-- What has the zero record's bytes has the epoch 0. -/
theorem zrec_epoch {w : World} {p : Nat → Prop} {cs : List Value} (h : recordR w p cs zrecB) : ∃ A1 m1 c1 A2 m2 c2, cs = [.int .i64 0, .slice A1 m1 c1, .slice A2 m2 c2] := by
  obtain ⟨ps, h, hb⟩ := h
  obtain ⟨_, _, b0, _, rfl, rfl, h0, _, _, b1, _, rfl, rfl, h1, _, _, b2, _, rfl, rfl, h2, rfl, rfl⟩ := h
  obtain ⟨n, hn, rfl, rfl⟩ := h0
  obtain ⟨A1, c1, _, _, rfl, _⟩ := h1
  obtain ⟨A2, c2, _, _, rfl, _⟩ := h2
  have hl := congrArg List.length hb
  have hle : (joinF [b8 n, b1, b2]).length < 2 ^ 64 := by
    have h56 := zrecB_len
    unfold zrecB at h56 hl
    omega
  obtain ⟨k1, k2⟩ := parts_lt hle
  have he := joinF_inj (by decide) k1 (by decide) k2 hb
  injection he with e1 e2
  have hn0 : n = 0 := by
    have := congrArg un8 e1
    rw [un8_b8 n hn, un8_b8 0 (by decide)] at this
    exact this.symm
  subst hn0
  exact ⟨_, _, _, _, _, _, rfl⟩
theorem own_arg {w w1 : World} {v : Value} {b : List UInt8} (h : w1.ownsRow w.heap.size 5 1 v b.length (bys b)) (hl : b.length ≤ 1099511627776) : ∀ A c, v = .slice A b.length c → Arg w1 (fun k => w.heap.size ≤ k ∧ k < w1.heap.size) A c b := by
  obtain ⟨A1, c1, rfl, hc1, hcm1, hmi, hse⟩ := own_slice h
  intro A c e
  injection e with e1 _ e2
  subst e1
  subst e2
  refine ⟨⟨hse.1, fun ad e => ⟨(hmi ad e).1, by obtain ⟨_, _, h2⟩ := (hmi ad e).2; exact lt_of_heap h2⟩, hse.2.imp id ?_⟩, hc1, hcm1, hl, fun k hk => hk.2⟩
  rintro ⟨ad, e, _, hx⟩
  exact ⟨ad, e, hx⟩
theorem own_byte {w w1 : World} {v : Value} {b : List UInt8} {k : Nat} {x : UInt8} (h : w1.ownsRow w.heap.size 5 1 v b.length (bys b)) (hx : b[k]? = some x) : ∀ A n c, v = .slice A n c → ∃ ad, A = some ad ∧ ad.block < w1.heap.size ∧ w1.cell? (ad.add k) = some (.int .u8 (x.toNat : Int)) := by
  obtain ⟨A1, c1, rfl, hc1, hcm1, hmi, hse⟩ := own_slice h
  intro A n c e
  injection e with e1 _ _
  subst e1
  obtain ⟨hk, hx⟩ := List.getElem?_eq_some_iff.1 hx
  obtain ⟨ad, hlb, rfl, hb, hc⟩ := hse.byte hk
  exact ⟨ad, rfl, hb, by rw [hc, hx]⟩
/-- 'make([]byte, n)'. -/
theorem run_make_len {P : Program} (w : World) (t e : TypeId) (i : TypeInfo) (z : Value) (ht : P.underlying t = some (.slice e)) (hi : P.info? e = some i) (hz : i.zero = some z)
    (c : Nat) (hbytes : i.bytes * c ≤ 281474976710656) (h63 : c ≤ 9223372036854775807) :
    (Instr.makeSlice t (.int .i64 (c : Int)) (.int .i64 (c : Int))).run P w = .ok (.slice (some ⟨w.heap.size, 0, none⟩) c c) (w.alloc (.cells (madeCells z.cells (c * i.size)) e)) := by
  have hb : (i.bytes : Int) * (c : Int) ≤ 281474976710656 := by
    have h : ((i.bytes * c : Nat) : Int) ≤ 281474976710656 := by omega
    rwa [Int.natCast_mul] at h
  have hr := run_make (P := P) w t e i z ht hi hz .i64 .i64 c c (by omega) (by omega) hb (by omega)
  simp only [Int.toNat_natCast] at hr
  exact hr
theorem made_arg (w : World) (e : TypeId) : Arg (w.alloc (.cells (madeCells #[.int .u8 0] 8) e)) (fun k => k = w.heap.size) (some ⟨w.heap.size, 0, none⟩) 8 (List.replicate 8 0) := by
  refine ⟨⟨rfl, fun ad e => by injection e with e; subst e; rfl, .inr ⟨_, rfl, fun j u hu => ?_⟩⟩, Nat.le_refl _, by decide, by decide, fun k hk => by subst hk; simp⟩
  rw [add_at, boxed]
  have hm : (madeCells #[.int .u8 0] 8)[j]? = (bys (List.replicate 8 0))[j]? := by
    have e : (madeCells #[.int .u8 0] 8).toList = bys (List.replicate 8 0) := by simp [madeCells, bys]; rfl
    rw [← e]; simp
  rw [hm]; exact hu
theorem made_split : splitF (List.replicate 8 0) = some [] := by decide

set_option maxRecDepth 20000 in
set_option maxHeartbeats 4000000 in
theorem awake_any (w : World) (al af : Addr) (tl tf : ByteArray) (hL : Lay w al af tl tf) :
    Calls Tryd.prog 4 #[] w fun e w' => e = .returned (.bool true) ∧ Below w.heap.size w w' := by
  obtain ⟨i0, hi, hz0, hz1, hz2⟩ := info_parts Tryd.infoByte
  have hmk8 : ∀ W : World, (Instr.makeSlice 28 (.int .i64 8) (.int .i64 8)).run Tryd.prog W = .ok (.slice (some ⟨W.heap.size, 0, none⟩) 8 8) (W.alloc (.cells (madeCells #[.int .u8 0] 8) 5)) := fun W => by
    have h := run_make_len (P := Tryd.prog) W 28 5 i0 (.int .u8 0) Tryd.underlying28 hi hz0 8 (by rw [hz2]; omega) (by omega)
    rw [hz1] at h
    exact h
  have hmkL : ∀ W : World, (Instr.makeSlice 28 (.int .i64 262145) (.int .i64 262145)).run Tryd.prog W = .ok (.slice (some ⟨W.heap.size, 0, none⟩) 262145 262145) (W.alloc (.cells (madeCells #[.int .u8 0] 262145) 5)) := fun W => by
    have h := run_make_len (P := Tryd.prog) W 28 5 i0 (.int .u8 0) Tryd.underlying28 hi hz0 262145 (by rw [hz2]; omega) (by omega)
    rw [hz1, Nat.mul_one] at h
    exact h
  have hz : ∀ W : World, (zeroValue 35).run Tryd.prog W = .ok (.agg zrec.toArray) W := Tryd.zeroRecord
  go_enter Tryd.func4, Tryd.ntmps4
  go_wp2_with fail
  refine (record_writes w (fun _ => False) zrec zrecB (zrec_is _ _) (fun _ h => h.elim) (by rw [zrecB_len]; decide)).mono ?_
  rintro e w1 ⟨v1, rfl, hown1, hB1⟩
  have hL1 := hL.later hB1
  have hB1s := hB1.size
  have ha1 := own_arg hown1 (by rw [zrecB_len]; decide)
  have hb7 := own_byte hown1 (k := 7) (x := 3) zrecB_7
  obtain ⟨A1, c1, rfl, hc1, hcm1, -, -⟩ := own_slice hown1
  obtain ⟨ad1, rfl, had1, hb7⟩ := hb7 _ _ _ rfl
  have ha1 := ha1 _ _ rfl
  clear hown1
  have hrd := Lib.hid (readRecord_ok al w1 hL1.long _ _ c1 zrecB ha1 zrec_form (by rw [zrecB_len]; decide))
  rw [zrecB_len] at hrd hc1 ⊢
  clear ha1
  go_wp2_with fail
  refine hrd.out.mono ?_
  rintro e w2 ⟨cs, rfl, hv, hB2⟩
  obtain ⟨hcl, hone⟩ := recordR_len _ _ _ _ hv
  have hc0 : cs[0]? = some (.int .i64 0) := by obtain ⟨A8, n8, c8, A9, n9, c9, rfl⟩ := zrec_epoch hv; rfl
  have hL2 := hL1.later hB2
  clear hv hrd
  have HI : (Tryd.prog.info? 35).map (·.size) = some cs.toArray.size := by rw [List.size_toArray, hcl]; kernel_rfl
  have HS : zrec.toArray.size = cs.toArray.size := by rw [List.size_toArray, List.size_toArray, hcl]; rfl
  have HA := Lib.hid (all_oneCell_toArray hone)
  have HS := Lib.hid HS
  have HC0 := Lib.hid hc0
  clear hcl hone hc0
  have HI := Lib.hid HI
  have hz2 := HB.new w2 35 zrec
  go_wp2_with (refine wpList_store_row rfl 35 _ _ rfl w2.heap.size cs.toArray rfl rfl 35 zrec.toArray hz2 HI.out HS.out HA.out ?_)
  generalize hW3 : (w2.alloc (.cells zrec.toArray 35)).setRow w2.heap.size cs.toArray = W3
  have hB3 : Below w2.heap.size w2 W3 := by rw [← hW3]; exact Below.setRow_ ((Below.refl _ _).alloc (Nat.le_refl _) _) (Nat.le_refl _) _
  have hx3 : HB W3 w2.heap.size 35 cs := by rw [← hW3]; exact hz2.row _
  have hs3 : W3.heap.size = w2.heap.size + 1 := by rw [← hW3]; simp [World.setRow]
  clear hW3 hz2
  have hB4 : Below W3.heap.size W3 (W3.alloc (.cells (madeCells #[.int .u8 0] 8) 5)) := (Below.refl _ _).alloc (Nat.le_refl _) _
  have hL4 := (hL2.later hB3).later hB4
  have hcall := readRecord_few _ al af tl tf hL4 _ _ 8 _ (made_arg W3 _) made_split (by decide)
  rw [hs3, List.length_replicate] at hcall
  refine hcall.mono ?_
  rintro e w5 ⟨rfl, hB5⟩
  have hL5 := hL4.later hB5
  have hz5 := HB.new w5 35 zrec
  have HIz : (Tryd.prog.info? 35).map (·.size) = some zrec.toArray.size := by kernel_rfl
  have HIz := Lib.hid HIz
  have HAz := Lib.hid (all_oneCell_toArray zrec_one)
  clear hcall
  go_wp2_with (refine wpList_store_row rfl 35 _ _ rfl w5.heap.size zrec.toArray rfl rfl 35 zrec.toArray hz5 HIz.out (Eq.refl _) HAz.out ?_)
  generalize hW6 : (w5.alloc (.cells zrec.toArray 35)).setRow w5.heap.size zrec.toArray = W6
  have hB6 : Below w5.heap.size w5 W6 := by rw [← hW6]; exact Below.setRow_ ((Below.refl _ _).alloc (Nat.le_refl _) _) (Nat.le_refl _) _
  clear hW6 hz5
  have hB7 : Below W6.heap.size W6 (W6.alloc (.cells (madeCells #[.int .u8 0] 262145) 5)) := (Below.refl _ _).alloc (Nat.le_refl _) _
  have hL7 := (hL5.later hB6).later hB7
  refine (readRecord_long _ al af tl tf hL7 _ 262145 262145 (by decide)).mono ?_
  rintro e w8 ⟨rfl, hB8⟩
  have hz8 := HB.new w8 35 zrec
  have hx8 : Below W3.heap.size W3 w8 := hB4.trans ((hB5.mono hB4.size).trans ((hB6.mono (Nat.le_trans hB4.size hB5.size)).trans ((hB7.mono (Nat.le_trans (Nat.le_trans hB4.size hB5.size) hB6.size)).trans (hB8.mono (Nat.le_trans (Nat.le_trans (Nat.le_trans hB4.size hB5.size) hB6.size) hB7.size)))))
  have hB38 : Below w2.heap.size w2 w8 := hB3.trans (hx8.mono hB3.size)
  have hBall : Below w.heap.size w w8 := hB1.trans ((hB2.trans (hB38.mono hB2.size)).mono hB1s)
  clear hB4 hB5 hB6 hB7 hB8 hL hL1 hL2 hL4 hL5 hL7
  have hxx := HB.cell (hx3.below hx8 (HB.lt hx3)) 0
  rw [HC0.out] at hxx
  have hb7' := ((hB2.trans (hB38.mono hB2.size)).cell (p := ad1.add 7) (by rw [add_block]; exact had1)).trans hb7
  have hlt8 : w2.heap.size < w8.heap.size := Nat.lt_of_lt_of_le (HB.lt hx3) hx8.size
  have hy9 : ((w8.alloc (.cells zrec.toArray 35)).setRow w8.heap.size zrec.toArray).cell? ⟨w2.heap.size, 0, none⟩ = some (.int .i64 0) := by
    rw [(Below.setRow_ (B := w8.heap.size) ((Below.refl _ _).alloc (Nat.le_refl _) _) (Nat.le_refl _) _).cell (w := w8) (p := ⟨w2.heap.size, 0, none⟩) hlt8]; exact hxx
  have hy7 : ((w8.alloc (.cells zrec.toArray 35)).setRow w8.heap.size zrec.toArray).cell? (ad1.add 7) = some (.int .u8 3) := by
    rw [(Below.setRow_ (B := w8.heap.size) ((Below.refl _ _).alloc (Nat.le_refl _) _) (Nat.le_refl _) _).cell (w := w8) (p := ad1.add 7) (by rw [add_block]; exact Nat.lt_of_lt_of_le had1 (hB2.trans (hB38.mono hB2.size)).size)]; exact hb7'
  have hBend : Below w.heap.size w ((w8.alloc (.cells zrec.toArray 35)).setRow w8.heap.size zrec.toArray) := Below.setRow_ (hBall.alloc hBall.size _) hBall.size _
  rw [add_pos ad1 7 (by decide)] at hy7
  clear hxx hb7' hx3 hx8 hB38 hBall hB1 hB2 hB3 hb7 had1
  go_wp2_with (refine wpList_store_row rfl 35 _ _ rfl w8.heap.size zrec.toArray rfl rfl 35 zrec.toArray hz8 HIz.out (Eq.refl _) HAz.out ?_)
  go_ret
  exact ⟨rfl, hBend⟩
end Go.Proofs.YtlkjahfkgfkilaaDoor
