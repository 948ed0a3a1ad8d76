/- The document's own SHA-256: wapentakeref01.Sum is shaF. -/
import Derived.Test.YtapbaonlboefeaaDoorRsI
namespace Go.Proofs.YtapbaonlboefeaaDoor
open Go.RowKit

theorem Tryd.arrB32 : Tryd.prog.underlying 23 = some (.array (Tryd.prog.arrayLen 23) (Tryd.prog.elem 23)) := by kernel_rfl
theorem Tryd.make64 (W : World) : (Instr.makeSlice 82 (.int .i64 64) (.int .i64 64)).run Tryd.prog W = .ok (.slice (some ⟨W.heap.size, 0, none⟩) 64 64) (W.alloc (.cells (upTo 64 []).toArray 87)) := by
  obtain ⟨i0, hi, hz0, hz1, hz2⟩ := info_parts Tryd.infoU32
  have h := run_make (P := Tryd.prog) W 82 87 i0 (.int .u32 0) Tryd.underlying82 hi hz0 .i64 .i64 64 64 (by omega) (by omega) (by rw [hz2]; omega) (by omega)
  rw [hz1] at h
  have e : madeCells (Value.int .u32 0).cells ((64 : Int).toNat * 1) = (upTo 64 []).toArray := by kernel_rfl
  rw [e] at h
  exact h
theorem quiet_add {P : Program} {f : FuncId} {args : Array Value} {w : World} {a n : Nat} {v : Value}
    (h : Calls P f args (w.drewN (a + n)) fun e w' => e = .returned v ∧ ∃ m, w' = (w.drewN (a + n)).drewN m) :
    Calls P f args (w.drewN (a + n)) fun e w'' => e = .returned v ∧ ∃ m, w'' = w.drewN (a + m) :=
  h.mono fun _ _ ⟨he, m, hm⟩ => ⟨he, n + m, by rw [hm, World.drewN_drewN, Nat.add_assoc]⟩
theorem rrot2 (x : UInt32) (w : World) : Calls Tryd.prog 42 #[u32_ x, .int .i64 2] w fun e w' => e = .returned (u32_ (rotr x 2)) ∧ ∃ d, w' = w.drewN d := rrot_any x 2 w (by omega) (by omega)
theorem rrot6 (x : UInt32) (w : World) : Calls Tryd.prog 42 #[u32_ x, .int .i64 6] w fun e w' => e = .returned (u32_ (rotr x 6)) ∧ ∃ d, w' = w.drewN d := rrot_any x 6 w (by omega) (by omega)
theorem rrot7 (x : UInt32) (w : World) : Calls Tryd.prog 42 #[u32_ x, .int .i64 7] w fun e w' => e = .returned (u32_ (rotr x 7)) ∧ ∃ d, w' = w.drewN d := rrot_any x 7 w (by omega) (by omega)
theorem rrot11 (x : UInt32) (w : World) : Calls Tryd.prog 42 #[u32_ x, .int .i64 11] w fun e w' => e = .returned (u32_ (rotr x 11)) ∧ ∃ d, w' = w.drewN d := rrot_any x 11 w (by omega) (by omega)
theorem rrot13 (x : UInt32) (w : World) : Calls Tryd.prog 42 #[u32_ x, .int .i64 13] w fun e w' => e = .returned (u32_ (rotr x 13)) ∧ ∃ d, w' = w.drewN d := rrot_any x 13 w (by omega) (by omega)
theorem rrot17 (x : UInt32) (w : World) : Calls Tryd.prog 42 #[u32_ x, .int .i64 17] w fun e w' => e = .returned (u32_ (rotr x 17)) ∧ ∃ d, w' = w.drewN d := rrot_any x 17 w (by omega) (by omega)
theorem rrot18 (x : UInt32) (w : World) : Calls Tryd.prog 42 #[u32_ x, .int .i64 18] w fun e w' => e = .returned (u32_ (rotr x 18)) ∧ ∃ d, w' = w.drewN d := rrot_any x 18 w (by omega) (by omega)
theorem rrot19 (x : UInt32) (w : World) : Calls Tryd.prog 42 #[u32_ x, .int .i64 19] w fun e w' => e = .returned (u32_ (rotr x 19)) ∧ ∃ d, w' = w.drewN d := rrot_any x 19 w (by omega) (by omega)
theorem rrot22 (x : UInt32) (w : World) : Calls Tryd.prog 42 #[u32_ x, .int .i64 22] w fun e w' => e = .returned (u32_ (rotr x 22)) ∧ ∃ d, w' = w.drewN d := rrot_any x 22 w (by omega) (by omega)
theorem rrot25 (x : UInt32) (w : World) : Calls Tryd.prog 42 #[u32_ x, .int .i64 25] w fun e w' => e = .returned (u32_ (rotr x 25)) ∧ ∃ d, w' = w.drewN d := rrot_any x 25 w (by omega) (by omega)
/-- The rounds' invariant: the eight words in a row of their own. -/
def VAt (w9 : World) (gh : Nat) (ws : List UInt32) (S : St) (v i : Value) (wr : World) : Prop :=
  ∃ (t : Nat) (T : St) (g1 c1 : Nat) (r1 : List Value), t ≤ 64 ∧ T = St.run ws t S ∧ v = .slice (some ⟨g1, 0, none⟩) 8 c1 ∧ i = .int .i64 (t : Int) ∧ 8 ≤ c1 ∧ gh < g1 ∧ HB wr g1 87 (us T.list ++ r1) ∧ Below w9.heap.size w9 wr
section
attribute [local go_sem] u_add wb_wrap wl24 wl16 wl8 u_or u_xor u_and u_not' shr3 shr10
set_option maxRecDepth 100000 in
set_option maxHeartbeats 6400000 in
theorem rsum_any (B : Nat) (A : Option Addr) (c : Nat) (m : List UInt8) (w : World) (hs : Sees w B 1 A m.length (bys m)) (hB : B ≤ w.heap.size) (hm : m.length ≤ 140737488353000) :
    Calls Tryd.prog 22 #[.slice A m.length c] w fun e w' => e = .returned (.agg (bys (shaF m)).toArray) ∧ Below w.heap.size w w' := by
  obtain ⟨i0, hi, hz0, hz1, hz2⟩ := info_parts Tryd.infoByte
  go_enter Tryd.func22, Tryd.ntmps22
  go_wp2_with fail
  generalize hw1 : w.alloc _ = w1
  have hB1 : Below w.heap.size w w1 := by rw [← hw1]; exact (Below.refl _ _).alloc (Nat.le_refl _) _
  have hd1 : HB w1 w.heap.size 23 zdig := by rw [← hw1]; exact heap_alloc_new w _
  have hN := hd1.lt
  have hs1 := hs.below (hB1.mono hB)
  clear hw1 hs
  refine (numbers_any _).mono ?_
  rintro e w2 ⟨vh, vk, rfl, hh, hk, hf, hB2⟩
  have hd2 := hd1.below hB2 hN
  have hB12 := hB1.trans (hB2.mono hB1.size)
  have hs2 := hs1.below (hB2.mono (Nat.le_trans hB hB1.size))
  have hsz2 := hB2.size
  have hsz1 := hB1.size
  obtain ⟨gh, ch, rh, rfl, hgh, hch, hchm, hbh⟩ := own_hb hh (by decide)
  obtain ⟨gk, ck, rk, rfl, hgk, hck, hckm, hbk⟩ := own_hb hk (by decide)
  have hne : gh ≠ gk := fun e => hf gh rfl (by rw [e]; rfl)
  have hlh := hbh.lt
  have hlk := hbk.lt
  clear hh hk hf hd1 hs1 hB1 hB2
  have ho0 : (w2.alloc (Obj.cells #[] 5)).ownsRow w2.heap.size 5 1 (.slice (some ⟨w2.heap.size, 0, none⟩) 0 0) 0 [] := World.ownsRow_made _ _ _ (Nat.le_refl _) (by unfold maxLen; omega) (by simp)
  have hb0 : Below w2.heap.size w2 (w2.alloc (Obj.cells #[] 5)) := (Below.refl _ _).alloc (Nat.le_refl _) _
  have hs3 := hs2.below (hb0.mono (by omega))
  go_wp2_with (at_builtin; refine wpList_append_sees _ rfl (.tmp 26) (.tmp 27) 31 rfl w2.heap.size 5 i0 (.int .u8 0) 1 1 Tryd.underlying31 hi hz0 hz1 hz2 rfl (by decide) _ _ _ rfl ho0 B A m.length c _ rfl hs3 (bys_one _) ?c1 ?c2 ?c3 ?_)
  case c1 => unfold maxLen; omega
  case c2 => omega
  case c3 => simp
  intro v3 w3 hown3 hg3 hm3
  have hb3 : Below w2.heap.size w2 w3 := hb0.grown hg3 hb0.size (fun g hg => (ho0.lt g hg).1)
  have hsz3 := hb3.size
  clear ho0 hg3 hm3 hb0 hs3
  obtain ⟨A3, c3, rfl, -⟩ := own_slice hown3
  go_wp2_with (at_builtin; refine wpList_append_own_at _ rfl (.tmp 28) (.tmp 29) 31 rfl w2.heap.size 5 i0 (.int .u8 0) 1 1 Tryd.underlying31 hi hz0 hz1 hz2 rfl (by decide) _ _ _ rfl (hown3.alloc _) ⟨w3.heap.size, 0, none⟩ 1 1 [.int .u8 128] rfl rfl (cell_one_new _ _ _) ?c2 ?c3 ?c4 ?c5 ?_)
  case c2 => first | (intro u hu; simp at hu; subst hu; rfl) | rfl
  case c3 => unfold maxLen; omega
  case c4 => omega
  case c5 => simp; omega
  intro v4 w4 hown4 hg4 _ hat4
  have hb4 : Below w2.heap.size w2 w4 := hb3.grown ((World.grownBy_alloc w3 _ _).trans hg4) hsz3 (fun g hg => (hown3.lt g hg).1)
  have hown4' : w4.ownsRow w2.heap.size 5 1 v4 (m.length + 1 + 0) (bys (padTo m 0)) := by
    have e : bys (padTo m 0) = bys m ++ [.int .u8 128] := by simp [padTo, bys]
    rw [e]; exact hown4
  clear hown4 hg4 hat4 hown3 hb3 hs2
  have hb4s := hb4.size
  go_wp2
  go_loopw [5] (fun u wr => ∃ z : Nat, z ≤ padZeros m.length ∧ wr.ownsRow w2.heap.size 5 1 u (m.length + 1 + z) (bys (padTo m z)) ∧ Below w2.heap.size w2 wr) (fun u _ => m.length + 128 - lenV u)
  case atStart => exact ⟨0, by omega, hown4', hb4⟩
  case round =>
    obtain ⟨z, hz, hown, hbw⟩ := hrel
    have hpz := padZeros_le m.length
    obtain ⟨A5, c5, rfl, hc5, hcm5, -, hse5⟩ := own_slice hown
    clear hown4' hb4
    have hbs := hbw.size
    have hls : m.length + 1 + z ≤ 140737488353200 := by omega
    rcases Nat.lt_or_ge z (padZeros m.length) with hlt | hge
    · have hmod := padZeros_not m.length z hlt
      have hsucc : m.length + 1 + (z + 1) = m.length + 1 + z + 1 := rfl
      have hps := Lib.hid (padTo_succ m z)
      generalize hn : m.length + 1 + z = n at *
      have hmodI : (((n : Nat) : Int) % 64 != 56) = true := by simp only [bne_iff_ne, ne_eq]; omega
      have hmeas : n < m.length + 128 := by omega
      have HN := Lib.hid hsucc
      clear hse5 hmod hn hsucc
      go_wp2_with (at_builtin; refine wpList_append_own_at _ rfl (.tmp 35) (.tmp 36) 31 rfl w2.heap.size 5 i0 (.int .u8 0) 1 1 Tryd.underlying31 hi hz0 hz1 hz2 rfl (by decide) _ _ _ rfl (hown.alloc _) ⟨wr.heap.size, 0, none⟩ 1 1 [.int .u8 0] rfl rfl (cell_one_new _ _ _) ?c2 ?c3 ?c4 ?c5 ?_)
      case c2 => first | (intro u hu; simp at hu; subst hu; rfl) | rfl
      case c3 => unfold maxLen; omega
      case c4 => omega
      case c5 => simp; omega
      intro v5 w5 hown5 hg5 _ hat5
      have hb5 : Below w2.heap.size w2 w5 := hbw.grown ((World.grownBy_alloc wr _ _).trans hg5) hbs (fun g hg => (hown.lt g hg).1)
      have hO : w5.ownsRow w2.heap.size 5 1 v5 (m.length + 1 + (z + 1)) (bys (padTo m (z + 1))) := by
        rw [HN.out, hps.out, bys_append]; exact hown5
      obtain ⟨A6, c6, rfl, -⟩ := own_slice hO
      clear hown5 hg5 hat5 hown hbw
      go_wp2
      go_roundw
      case rel => exact ⟨z + 1, by omega, hO, hb5⟩
      case measure => have e := HN.out; show m.length + 128 - (m.length + 1 + (z + 1)) < m.length + 128 - n; omega
    · obtain rfl : z = padZeros m.length := by omega
      have hmod := padZeros_yes m.length
      have hpe := Lib.hid (padF_eq m)
      have hpl := Lib.hid (padF_len m)
      have h8 : 8 * m.length < 18446744073709551616 := by omega
      have hpl2 : (padF m).length ≤ 140737488353200 + 8 := by rw [hpl.out]; omega
      have hpe2 : Hid (m.length + 1 + padZeros m.length + 8 = (padF m).length) := Lib.hid (by rw [hpl.out]; omega)
      generalize hn : m.length + 1 + padZeros m.length = n at *
      have hmodI : (((n : Nat) : Int) % 64 != 56) = false := by simp only [bne_eq_false_iff_eq]; omega
      have hmI : (8 : Int) * m.length ≤ 18446744073709551615 := by omega
      clear hse5 hmod hn hge hz hpz
      have hrn := Lib.hid (rnumber_any (8 * m.length) wr)
      go_wp2_with fail
      rw [show (8 * (m.length : Int)) = ((8 * m.length : Nat) : Int) from by omega]
      refine hrn.out.mono ?_
      rintro e w6 ⟨v6, rfl, hown6, hB6⟩
      obtain ⟨A6, c6, rfl, hc6, hcm6, -, hse6⟩ := own_slice hown6
      have hownA := own_below hown hB6
      have hb6 : Below w2.heap.size w2 w6 := hbw.trans (hB6.mono hbs)
      have hs6 := hb6.size
      clear hrn hown hown6 hB6 hbw
      go_wp2_with (at_builtin; refine wpList_append_sees _ rfl (.tmp 38) (.tmp 43) 31 rfl w2.heap.size 5 i0 (.int .u8 0) 1 1 Tryd.underlying31 hi hz0 hz1 hz2 rfl (by decide) _ _ _ rfl hownA w6.heap.size A6 8 c6 _ rfl hse6 (bys_one _) ?c1 ?c2 hs6 ?_)
      case c1 => unfold maxLen; omega
      case c2 => omega
      intro v7 w7 hown7 hg7 _
      have hb7 : Below w2.heap.size w2 w7 := hb6.grown hg7 hs6 (fun g hg => (hownA.lt g hg).1)
      rw [← bys_append, ← hpe.out, hpe2.out] at hown7
      obtain ⟨ga, ca, ra, rfl, hga, hca, hcam, hba⟩ := own_hb hown7 (by rw [hpl.out]; omega)
      have hbh7 := hbh.below hb7 hlh
      have hbk7 := hbk.below hb7 hlk
      have hd7 := hd2.below hb7 (by omega)
      have hB7 : Below w.heap.size w w7 := hB12.trans (hb7.mono (by omega))
      have hla := hba.lt
      have hs7 := hb7.size
      have hPmod := padF_mod m
      have hPB : Hid (whole init0 (padF m) = absorb ((padF m).length / 64) init0 (padF m)) := Lib.hid rfl
      have hsha : Hid (shaF m = digestOf (whole init0 (padF m))) := Lib.hid rfl
      have nek : ga ≠ gk := by omega
      have neh : ga ≠ gh := by omega
      clear hse6 hownA hb6 hown7 hg7 hb7 hbh hbk hd2 hB12 hpe hpl hpe2 hmodI
      generalize hP : padF m = P at *
      clear hP
      generalize hJ : P.length / 64 = J at *
      clear hJ
      have HPm := Lib.hid hPmod
      clear hPmod
      go_wp2
      go_loopw [6] (fun a wr => ∃ (j : Nat) (S : St), j ≤ J ∧ a = .int .i64 ((64 * j : Nat) : Int) ∧ S = absorb j init0 P ∧ HB wr gh 87 (us S.list ++ rh) ∧ HB wr gk 87 (us kTab ++ rk) ∧ HB wr ga 5 (bys P ++ ra) ∧ HB wr w.heap.size 23 zdig ∧ Below w.heap.size w wr) (fun a _ => P.length - (intOf a).toNat)
      case atStart => exact ⟨0, init0, by omega, rfl, rfl, hbh7, hbk7, hba, hd7, hB7⟩
      case round =>
        obtain ⟨j, S, hj, rfl, hS, hbh, hbk, hba, hbd, hBw⟩ := hrel
        have HS := Lib.hid hS
        clear hS hbh7 hbk7 hd7 hB7
        have hlh := hbh.lt
        have hlk := hbk.lt
        have hla := hba.lt
        have hsw := hBw.size
        rcases Nat.lt_or_ge j J with hlt | hge
        · generalize hat : 64 * j = at_ at *
          have hatl : at_ + 64 ≤ P.length := by have := HPm.out; omega
          have hatI : (at_ : Int) < (P.length : Int) := by omega
          have HAt := Lib.hid hat
          clear hat
          have hmk := Tryd.make64
          go_wp2
          generalize hW3 : wr.alloc _ = W3
          have hg3 : HB W3 wr.heap.size 87 (upTo 64 []) := by rw [← hW3]; exact HB.new _ _ _
          have hB3 : Below wr.heap.size wr W3 := by rw [← hW3]; exact (Below.refl _ _).alloc (Nat.le_refl _) _
          have hBw3 := hBw.trans (hB3.mono hsw)
          have hsw3 := hB3.size
          have hbh3 := hbh.below hB3 hlh
          have hbk3 := hbk.below hB3 hlk
          have hba3 := hba.below hB3 hla
          have hbd3 := hbd.below hB3 (by omega)
          clear hW3 hmk hB3 hbh hbk hba hbd hBw
          generalize wr.heap.size = gw at *
          have hgw := hg3.lt
          obtain ⟨blk, hblk⟩ : ∃ blk, blk = (P.drop at_).take 64 := ⟨_, rfl⟩
          go_loopw [8] (fun t wr => ∃ k : Nat, k ≤ 64 ∧ t = .int .i64 (k : Int) ∧ HB wr gw 87 (upTo 64 (wTo blk k)) ∧ Below gw W3 wr) (fun t _ => 64 - (intOf t).toNat)
          case atStart => exact ⟨0, by omega, rfl, hg3, Below.refl _ _⟩
          case round =>
            obtain ⟨k, hk, rfl, hgk, hBk⟩ := hrel
            rcases Nat.lt_or_ge k 64 with hlt64 | hge64
            · rcases Nat.lt_or_ge k 16 with hlt16 | hge16
              · as_aux_lemma =>
                  have hloP : at_ + 4 * k + 4 ≤ P.length := by omega
                  have hbak := hba3.below hBk (by omega)
                  have get : ∀ q, q < 4 → wr.cell? ⟨ga, at_ + 4 * k + q, none⟩ = some (by_ (P.getD (at_ + 4 * k + q) 0)) := fun q hq => by
                    rw [hbak.cell, List.getElem?_append_left (by rw [bys_len]; omega), bys_get, List.getElem?_eq_getElem (by omega), List.getD_eq_getElem?_getD, List.getElem?_eq_getElem (by omega)]; rfl
                  have x0 : wr.cell? ⟨ga, at_ + 4 * k, none⟩ = some (by_ (P.getD (at_ + 4 * k) 0)) := get 0 (by omega)
                  have x1 := get 1 (by omega)
                  have x2 := get 2 (by omega)
                  have x3 := get 3 (by omega)
                  have hwd : Hid (wordAt blk (4 * k) = word4 (P.getD (at_ + 4 * k) 0) (P.getD (at_ + 4 * k + 1) 0) (P.getD (at_ + 4 * k + 2) 0) (P.getD (at_ + 4 * k + 3) 0)) := Lib.hid (by
                    have gb : ∀ q, q < 4 → blk.getD (4 * k + q) 0 = P.getD (at_ + 4 * k + q) 0 := fun q hq => by
                      rw [hblk, List.getD_eq_getElem?_getD, List.getD_eq_getElem?_getD, List.getElem?_take, if_pos (by omega), List.getElem?_drop, show at_ + (4 * k + q) = at_ + 4 * k + q from by omega]
                    rw [wordAt, gb 1 (by omega), gb 2 (by omega), gb 3 (by omega)]
                    have := gb 0 (by omega)
                    simp only [Nat.add_zero] at this
                    rw [this])
                  have hst := Lib.hid (upTo_set 64 (wTo blk k) (wordAt blk (4 * k)) (by rw [wTo_len]; omega))
                  have hsu := Lib.hid (wTo_first blk k hlt16)
                  have hln := wTo_len blk k
                  obtain ⟨v0, hv0⟩ : ∃ v, wr.cell? ⟨gw, k, none⟩ = some v := by
                    rw [hgk.cell]; exact upTo_in _ _ _ (by omega) (by omega)
                  have hfz := hgk.frozen k
                  have hkey : ∀ x : UInt32, x = wordAt blk (4 * k) → HB (wr.setCell ⟨gw, k, none⟩ (.int .u32 (x.toNat : Int))).drew gw 87 (upTo 64 (wTo blk (k + 1))) ∧ Below gw W3 (wr.setCell ⟨gw, k, none⟩ (.int .u32 (x.toNat : Int))).drew := by
                    rintro x rfl
                    refine ⟨HB.drew ?_, (hBk.setCell (by simp) _).drew⟩
                    have h := hgk.set_ k (.int .u32 ((wordAt blk (4 * k)).toNat : Int))
                    have e := hst.out
                    rw [hln] at e
                    rw [e, ← hsu.out] at h
                    exact h
                  have HKey := Lib.hid hkey
                  have hkI : (k : Int) < 16 := by omega
                  have hatB : (at_ : Int) ≤ 140737488353208 := by omega
                  have hBl : (at_ : Int) + 4 * k + 4 ≤ P.length := by omega
                  clear hkey hln hgk hBk hbak get hba3 hbh3 hbk3 hbd3 hg3 hblk
                  generalize P.getD (at_ + 4 * k) 0 = b0 at *
                  generalize P.getD (at_ + 4 * k + 1) 0 = b1 at *
                  generalize P.getD (at_ + 4 * k + 2) 0 = b2 at *
                  generalize P.getD (at_ + 4 * k + 3) 0 = b3 at *
                  go_wp2
                  go_still_tail 24, (by kernel_rfl)
                  change wpList _ _ _ _ _ wr.drew
                  have HK2 := Lib.hid (HKey.out _ hwd.out.symm)
                  clear x0 x1 x2 x3
                  go_wp2
                  go_roundw
                  case rel => exact ⟨k + 1, by omega, by go_num, HK2.out⟩
                  case measure => simp [intOf]; omega
              · as_aux_lemma =>
                  have hlen := wTo_len blk k
                  have hsu := wTo_more blk k hge16
                  have hst := upTo_set 64 (wTo blk k) (nextW (wTo blk k)) (by omega)
                  rw [← hsu, hlen] at hst
                  have HSt := Lib.hid hst
                  have hnx := Lib.hid (nextW_at _ k hlen)
                  clear hsu hst
                  generalize hws : wTo blk k = ws at *
                  have hws := Lib.hid hws
                  have c2 := (hgk.cell (k - 2)).trans (upTo_get 64 ws (k - 2) (by omega))
                  have c7 := (hgk.cell (k - 7)).trans (upTo_get 64 ws (k - 7) (by omega))
                  have c15 := (hgk.cell (k - 15)).trans (upTo_get 64 ws (k - 15) (by omega))
                  have c16 := (hgk.cell (k - 16)).trans (upTo_get 64 ws (k - 16) (by omega))
                  obtain ⟨v0, hv0⟩ : ∃ v, wr.cell? ⟨gw, k, none⟩ = some v := by
                    rw [hgk.cell]; exact upTo_in _ _ _ (by omega) (by omega)
                  have hfz := hgk.frozen k
                  have hkey : ∀ (d : Nat) (x : UInt32), x = nextW ws → HB ((wr.drewN d).setCell ⟨gw, k, none⟩ (.int .u32 (x.toNat : Int))).drew gw 87 (upTo 64 (wTo blk (k + 1))) ∧ Below gw W3 ((wr.drewN d).setCell ⟨gw, k, none⟩ (.int .u32 (x.toNat : Int))).drew := by
                    rintro d x rfl
                    refine ⟨HB.drew ?_, ((below_drewN_ hBk d).setCell (by simp) _).drew⟩
                    have h := (hgk.drewN d).set_ k (.int .u32 ((nextW ws).toNat : Int))
                    rw [HSt.out] at h
                    exact h
                  have HKey := Lib.hid hkey
                  have hkI : (16 : Int) ≤ k := by omega
                  clear hkey hgk hBk hba3 hbh3 hbk3 hbd3 hg3 hblk hlen
                  generalize ws.getD (k - 2) 0 = y2 at *
                  generalize ws.getD (k - 7) 0 = y7 at *
                  generalize ws.getD (k - 15) 0 = y15 at *
                  generalize ws.getD (k - 16) 0 = y16 at *
                  go_wp2
                  refine wp_region_quiet_lit (by kernel_rfl) (by kernel_rfl) ?_
                  iterate 5 (go_big_quiet_step (fail))
                  go_big_quiet_step ((go_at_call 42; exact Calls.quiet_of (rrot7 _ _)))
                  iterate 5 (go_big_quiet_step (fail))
                  go_big_quiet_step ((go_at_call 42; exact Calls.quiet_of (rrot18 _ _)))
                  repeat (go_big_quiet_step (fail))
                  refine wpQuiet_nil ?_
                  intro _ hw'
                  obtain ⟨nqa, hw''⟩ := hw'
                  subst hw''
                  obtain ⟨wq, hwq⟩ : ∃ wq, wq = wr.drewN nqa := ⟨_, rfl⟩
                  rw [← hwq]
                  have c2 : wq.cell? ⟨gw, k - 2, none⟩ = some (.int .u32 (y2.toNat : Int)) := by rw [hwq]; exact c2
                  have c7 : wq.cell? ⟨gw, k - 7, none⟩ = some (.int .u32 (y7.toNat : Int)) := by rw [hwq]; exact c7
                  have c16 : wq.cell? ⟨gw, k - 16, none⟩ = some (.int .u32 (y16.toNat : Int)) := by rw [hwq]; exact c16
                  have hv0 : wq.cell? ⟨gw, k, none⟩ = some v0 := by rw [hwq]; exact hv0
                  have hfz : wq.frozen? ⟨gw, k, none⟩ = false := by rw [hwq]; exact hfz
                  have Hwq := Lib.hid hwq
                  clear hwq
                  clear c15
                  go_wp2
                  refine wp_region_quiet_lit (by kernel_rfl) (by kernel_rfl) ?_
                  iterate 5 (go_big_quiet_step (fail))
                  go_big_quiet_step ((go_at_call 42; exact Calls.quiet_of (rrot17 _ _)))
                  iterate 5 (go_big_quiet_step (fail))
                  go_big_quiet_step ((go_at_call 42; exact Calls.quiet_of (rrot19 _ _)))
                  repeat (go_big_quiet_step (fail))
                  refine wpQuiet_nil ?_
                  intro _ hw'
                  obtain ⟨nqb, hw''⟩ := hw'
                  subst hw''
                  obtain ⟨wp, hwp⟩ : ∃ wp, wp = wq.drewN nqb := ⟨_, rfl⟩
                  rw [← hwp]
                  have c7 : wp.cell? ⟨gw, k - 7, none⟩ = some (.int .u32 (y7.toNat : Int)) := by rw [hwp]; exact c7
                  have c16 : wp.cell? ⟨gw, k - 16, none⟩ = some (.int .u32 (y16.toNat : Int)) := by rw [hwp]; exact c16
                  have hv0 : wp.cell? ⟨gw, k, none⟩ = some v0 := by rw [hwp]; exact hv0
                  have hfz : wp.frozen? ⟨gw, k, none⟩ = false := by rw [hwp]; exact hfz
                  have Hwp := Lib.hid hwp
                  clear hwp
                  have hwp2 : Hid (wp = wr.drewN (nqa + nqb)) := Lib.hid (by rw [Hwp.out, Hwq.out, World.drewN_drewN])
                  clear Hwp Hwq c2
                  go_wp2
                  have s7 : IntKind.i64.wrap ((k : Int) - 7) = (k : Int) - 7 := IntWalk.i64_in _ (by omega)
                  have z7 : (7 : Int) ≤ k := by omega
                  have l7 : (k : Int) - 7 < 64 := by omega
                  have n7 : ((k : Int) - 7).toNat = k - 7 := by omega
                  have s16 : IntKind.i64.wrap ((k : Int) - 16) = (k : Int) - 16 := IntWalk.i64_in _ (by omega)
                  have z16 : (16 : Int) ≤ k := by omega
                  have l16 : (k : Int) - 16 < 64 := by omega
                  have n16 : ((k : Int) - 16).toNat = k - 16 := by omega
                  go_still_tail 17, (by kernel_rfl)
                  change wpList _ _ _ _ _ wp.drew
                  have HK2 := Lib.hid (HKey.out (nqa + nqb) _ hnx.out.symm)
                  rw [← hwp2.out] at HK2
                  clear c7 c16
                  go_wp2
                  go_roundw
                  case rel => exact ⟨k + 1, by omega, by go_num, HK2.out⟩
                  case measure => simp [intOf]; omega
            · obtain rfl : k = 64 := by omega
              rw [wTo_all] at hgk
              have hws : HB wr gw 87 (us (scheduleF blk)) := by rw [← upTo_full 64 _ (scheduleF_len blk)]; exact hgk
              have hlW := hgw
              have hbh4 := hbh3.below hBk (by omega)
              have hbk4 := hbk3.below hBk (by omega)
              have hba4 := hba3.below hBk (by omega)
              have hbd4 := hbd3.below hBk (by omega)
              have hB4 := hBw3.trans (hBk.mono (by omega))
              have hs4 := hBk.size
              have hs4' := hws.lt
              have hwl := scheduleF_len blk
              have hcmp : Hid (compress S blk = S.plus (St.run (scheduleF blk) 64 S)) := Lib.hid rfl
              have hseh : Sees wr (gh + 1) 1 (some ⟨gh, 0, none⟩) 8 (us S.list) := hbh4.sees (gh + 1) (by omega) rfl (fun j u hu => by rw [Nat.zero_add]; exact (List.getElem?_append_left (by rcases Nat.lt_or_ge j (us S.list).length with h | h; exact h; rw [List.getElem?_eq_none h] at hu; cases hu)).trans hu)
              have Hblk := Lib.hid hblk
              have hBB := hBk.trans (Below.refl _ _)
              clear hgk hBk hbh3 hbk3 hba3 hbd3 hBw3 hg3 hblk hBB
              generalize scheduleF blk = ws at *
              have ho0 : (wr.alloc (Obj.cells #[] 87)).ownsRow wr.heap.size 87 1 (.slice (some ⟨wr.heap.size, 0, none⟩) 0 0) 0 [] := World.ownsRow_made _ _ _ (Nat.le_refl _) (by unfold maxLen; omega) (by simp)
              have hb0 : Below wr.heap.size wr (wr.alloc (Obj.cells #[] 87)) := (Below.refl _ _).alloc (Nat.le_refl _) _
              have hseh' := hseh.below (hb0.mono (by omega))
              obtain ⟨i4, hi4, hy0, hy1, hy2⟩ := info_parts Tryd.infoU32
              have h1us : ∀ u ∈ us S.list, u.oneCell' = true := by
                intro u hu
                simp only [us, List.mem_map] at hu
                obtain ⟨x, _, rfl⟩ := hu
                rfl
              have H1u := Lib.hid h1us
              clear h1us hseh
              go_wp2_with (at_builtin; refine wpList_append_sees _ rfl (.tmp 152) (.tmp 153) 82 rfl wr.heap.size 87 i4 (.int .u32 0) 1 4 Tryd.underlying82 hi4 hy0 hy1 hy2 rfl (by decide) _ _ _ rfl ho0 (gh + 1) (some ⟨gh, 0, none⟩) 8 ch _ rfl hseh' H1u.out ?c1 ?c2 ?c3 ?_)
              case c1 => unfold maxLen; omega
              case c2 => omega
              case c3 => simp
              intro v9 w9 hown9 hg9 _
              have hb9 : Below wr.heap.size wr w9 := hb0.grown hg9 hb0.size (fun g hg => (ho0.lt g hg).1)
              obtain ⟨gv, cv, rv, rfl, hgv, hcv, hcvm, hbv⟩ := own_hb hown9 (by decide)
              have hws9 := hws.below hb9 hs4'
              have hbh9 := hbh4.below hb9 (by omega)
              have hbk9 := hbk4.below hb9 (by omega)
              have hba9 := hba4.below hb9 (by omega)
              have hbd9 := hbd4.below hb9 (by omega)
              have hB9 := hB4.trans (hb9.mono (by omega))
              have hs9 := hb9.size
              clear hown9 hg9 hb9 ho0 hb0 hseh' hws hbh4 hbk4 hba4 hbd4 hB4
              have hghv : gh < gv := by omega
              have hlv := hbv.lt
              go_wp2
              go_loopw [12, 13] (fun v i wr => VAt w9 gh ws S v i wr) (fun _ i _ => 64 - (intOf i).toNat)
              case atStart => exact ⟨0, S, gv, cv, rv, by omega, rfl, rfl, rfl, hcv, hghv, hbv, Below.refl _ _⟩
              case round =>
                obtain ⟨t, T, g1, c1, r1, ht, hT, rfl, rfl, hc1, hg1, hb1, hBr⟩ := hrel
                have HT := Lib.hid hT
                clear hT hbv
                rcases Nat.lt_or_ge t 64 with htl | htg
                · have d0 := (hb1.cell 0).trans (st_get T r1 0 (by omega))
                  have d1 := (hb1.cell 1).trans (st_get T r1 1 (by omega))
                  have d2 := (hb1.cell 2).trans (st_get T r1 2 (by omega))
                  have d3 := (hb1.cell 3).trans (st_get T r1 3 (by omega))
                  have d4 := (hb1.cell 4).trans (st_get T r1 4 (by omega))
                  have d5 := (hb1.cell 5).trans (st_get T r1 5 (by omega))
                  have d6 := (hb1.cell 6).trans (st_get T r1 6 (by omega))
                  have d7 := (hb1.cell 7).trans (st_get T r1 7 (by omega))
                  simp only [St.get] at d0 d1 d2 d3 d4 d5 d6 d7
                  have hwr9 := hws9.below hBr (by omega)
                  have hkr9 := hbk9.below hBr (by omega)
                  have dk : wr.cell? ⟨gk, t, none⟩ = some (.int .u32 ((kTab.getD t 0).toNat : Int)) := (hkr9.cell t).trans ((List.getElem?_append_left (by rw [us_len]; exact htl)).trans (us_get kTab t htl))
                  have dw : wr.cell? ⟨gw, t, none⟩ = some (.int .u32 ((ws.getD t 0).toNat : Int)) := (hwr9.cell t).trans (us_get ws t (by rw [hwl]; exact htl))
                  have htI : (t : Int) < 64 := by omega
                  generalize hkt : kTab.getD t 0 = kt at *
                  generalize hwt : ws.getD t 0 = wt at *
                  have hrs := Lib.hid (show St.run ws (t + 1) S = T.step kt wt by rw [HT.out, ← hkt, ← hwt]; rfl)
                  have hsr := hBr.size
                  have HBr := Lib.hid hBr
                  clear hkt hwt hwr9 hkr9 hws9 hbk9 hbh9 hba9 hbd9 hB9 hb1 hBr
                  go_wp2
                  refine wp_region_quiet_lit (by kernel_rfl) (by kernel_rfl) ?_
                  iterate 3 (go_big_quiet_step (fail))
                  go_big_quiet_step ((go_at_call 42; exact Calls.quiet_of (rrot6 _ _)))
                  iterate 3 (go_big_quiet_step (fail))
                  go_big_quiet_step ((go_at_call 42; exact Calls.quiet_of (rrot11 _ _)))
                  iterate 4 (go_big_quiet_step (fail))
                  go_big_quiet_step ((go_at_call 42; exact Calls.quiet_of (rrot25 _ _)))
                  repeat (go_big_quiet_step (fail))
                  refine wpQuiet_nil ?_
                  intro _ hw'
                  obtain ⟨nqa, hw''⟩ := hw'
                  subst hw''
                  obtain ⟨w1q, hw1q⟩ : ∃ w1q, w1q = wr.drewN nqa := ⟨_, rfl⟩
                  rw [← hw1q]
                  have d0 : w1q.cell? ⟨g1, 0, none⟩ = some (.int .u32 (T.a.toNat : Int)) := by rw [hw1q]; exact d0
                  have d1 : w1q.cell? ⟨g1, 1, none⟩ = some (.int .u32 (T.b.toNat : Int)) := by rw [hw1q]; exact d1
                  have d2 : w1q.cell? ⟨g1, 2, none⟩ = some (.int .u32 (T.c.toNat : Int)) := by rw [hw1q]; exact d2
                  have d3 : w1q.cell? ⟨g1, 3, none⟩ = some (.int .u32 (T.d.toNat : Int)) := by rw [hw1q]; exact d3
                  have d4 : w1q.cell? ⟨g1, 4, none⟩ = some (.int .u32 (T.e.toNat : Int)) := by rw [hw1q]; exact d4
                  have d5 : w1q.cell? ⟨g1, 5, none⟩ = some (.int .u32 (T.f.toNat : Int)) := by rw [hw1q]; exact d5
                  have d6 : w1q.cell? ⟨g1, 6, none⟩ = some (.int .u32 (T.g.toNat : Int)) := by rw [hw1q]; exact d6
                  have d7 : w1q.cell? ⟨g1, 7, none⟩ = some (.int .u32 (T.h.toNat : Int)) := by rw [hw1q]; exact d7
                  have dk : w1q.cell? ⟨gk, t, none⟩ = some (.int .u32 (kt.toNat : Int)) := by rw [hw1q]; exact dk
                  have dw : w1q.cell? ⟨gw, t, none⟩ = some (.int .u32 (wt.toNat : Int)) := by rw [hw1q]; exact dw
                  have Hw1q := Lib.hid hw1q
                  clear hw1q
                  go_wp2
                  refine wp_region_quiet_lit (by kernel_rfl) (by kernel_rfl) ?_
                  repeat (go_big_quiet_step (fail))
                  refine wpQuiet_nil ?_
                  intro _ hw'
                  obtain ⟨nqb, hw''⟩ := hw'
                  subst hw''
                  obtain ⟨w2q, hw2q⟩ : ∃ w2q, w2q = w1q.drewN nqb := ⟨_, rfl⟩
                  rw [← hw2q]
                  have d0 : w2q.cell? ⟨g1, 0, none⟩ = some (.int .u32 (T.a.toNat : Int)) := by rw [hw2q]; exact d0
                  have d1 : w2q.cell? ⟨g1, 1, none⟩ = some (.int .u32 (T.b.toNat : Int)) := by rw [hw2q]; exact d1
                  have d2 : w2q.cell? ⟨g1, 2, none⟩ = some (.int .u32 (T.c.toNat : Int)) := by rw [hw2q]; exact d2
                  have d3 : w2q.cell? ⟨g1, 3, none⟩ = some (.int .u32 (T.d.toNat : Int)) := by rw [hw2q]; exact d3
                  have d4 : w2q.cell? ⟨g1, 4, none⟩ = some (.int .u32 (T.e.toNat : Int)) := by rw [hw2q]; exact d4
                  have d5 : w2q.cell? ⟨g1, 5, none⟩ = some (.int .u32 (T.f.toNat : Int)) := by rw [hw2q]; exact d5
                  have d6 : w2q.cell? ⟨g1, 6, none⟩ = some (.int .u32 (T.g.toNat : Int)) := by rw [hw2q]; exact d6
                  have d7 : w2q.cell? ⟨g1, 7, none⟩ = some (.int .u32 (T.h.toNat : Int)) := by rw [hw2q]; exact d7
                  have dk : w2q.cell? ⟨gk, t, none⟩ = some (.int .u32 (kt.toNat : Int)) := by rw [hw2q]; exact dk
                  have dw : w2q.cell? ⟨gw, t, none⟩ = some (.int .u32 (wt.toNat : Int)) := by rw [hw2q]; exact dw
                  have Hw2q := Lib.hid hw2q
                  clear hw2q
                  go_wp2
                  refine wp_region_quiet_lit (by kernel_rfl) (by kernel_rfl) ?_
                  repeat (go_big_quiet_step (fail))
                  refine wpQuiet_nil ?_
                  intro _ hw'
                  obtain ⟨nqc, hw''⟩ := hw'
                  subst hw''
                  obtain ⟨w3q, hw3q⟩ : ∃ w3q, w3q = w2q.drewN nqc := ⟨_, rfl⟩
                  rw [← hw3q]
                  have d0 : w3q.cell? ⟨g1, 0, none⟩ = some (.int .u32 (T.a.toNat : Int)) := by rw [hw3q]; exact d0
                  have d1 : w3q.cell? ⟨g1, 1, none⟩ = some (.int .u32 (T.b.toNat : Int)) := by rw [hw3q]; exact d1
                  have d2 : w3q.cell? ⟨g1, 2, none⟩ = some (.int .u32 (T.c.toNat : Int)) := by rw [hw3q]; exact d2
                  have d3 : w3q.cell? ⟨g1, 3, none⟩ = some (.int .u32 (T.d.toNat : Int)) := by rw [hw3q]; exact d3
                  have d4 : w3q.cell? ⟨g1, 4, none⟩ = some (.int .u32 (T.e.toNat : Int)) := by rw [hw3q]; exact d4
                  have d5 : w3q.cell? ⟨g1, 5, none⟩ = some (.int .u32 (T.f.toNat : Int)) := by rw [hw3q]; exact d5
                  have d6 : w3q.cell? ⟨g1, 6, none⟩ = some (.int .u32 (T.g.toNat : Int)) := by rw [hw3q]; exact d6
                  have d7 : w3q.cell? ⟨g1, 7, none⟩ = some (.int .u32 (T.h.toNat : Int)) := by rw [hw3q]; exact d7
                  have dk : w3q.cell? ⟨gk, t, none⟩ = some (.int .u32 (kt.toNat : Int)) := by rw [hw3q]; exact dk
                  have dw : w3q.cell? ⟨gw, t, none⟩ = some (.int .u32 (wt.toNat : Int)) := by rw [hw3q]; exact dw
                  have Hw3q := Lib.hid hw3q
                  clear hw3q
                  go_wp2
                  refine wp_region_quiet_lit (by kernel_rfl) (by kernel_rfl) ?_
                  iterate 3 (go_big_quiet_step (fail))
                  go_big_quiet_step ((go_at_call 42; exact Calls.quiet_of (rrot2 _ _)))
                  iterate 3 (go_big_quiet_step (fail))
                  go_big_quiet_step ((go_at_call 42; exact Calls.quiet_of (rrot13 _ _)))
                  iterate 4 (go_big_quiet_step (fail))
                  go_big_quiet_step ((go_at_call 42; exact Calls.quiet_of (rrot22 _ _)))
                  repeat (go_big_quiet_step (fail))
                  refine wpQuiet_nil ?_
                  intro _ hw'
                  obtain ⟨nqd, hw''⟩ := hw'
                  subst hw''
                  obtain ⟨w4q, hw4q⟩ : ∃ w4q, w4q = w3q.drewN nqd := ⟨_, rfl⟩
                  rw [← hw4q]
                  have d0 : w4q.cell? ⟨g1, 0, none⟩ = some (.int .u32 (T.a.toNat : Int)) := by rw [hw4q]; exact d0
                  have d1 : w4q.cell? ⟨g1, 1, none⟩ = some (.int .u32 (T.b.toNat : Int)) := by rw [hw4q]; exact d1
                  have d2 : w4q.cell? ⟨g1, 2, none⟩ = some (.int .u32 (T.c.toNat : Int)) := by rw [hw4q]; exact d2
                  have d3 : w4q.cell? ⟨g1, 3, none⟩ = some (.int .u32 (T.d.toNat : Int)) := by rw [hw4q]; exact d3
                  have d4 : w4q.cell? ⟨g1, 4, none⟩ = some (.int .u32 (T.e.toNat : Int)) := by rw [hw4q]; exact d4
                  have d5 : w4q.cell? ⟨g1, 5, none⟩ = some (.int .u32 (T.f.toNat : Int)) := by rw [hw4q]; exact d5
                  have d6 : w4q.cell? ⟨g1, 6, none⟩ = some (.int .u32 (T.g.toNat : Int)) := by rw [hw4q]; exact d6
                  have d7 : w4q.cell? ⟨g1, 7, none⟩ = some (.int .u32 (T.h.toNat : Int)) := by rw [hw4q]; exact d7
                  have dk : w4q.cell? ⟨gk, t, none⟩ = some (.int .u32 (kt.toNat : Int)) := by rw [hw4q]; exact dk
                  have dw : w4q.cell? ⟨gw, t, none⟩ = some (.int .u32 (wt.toNat : Int)) := by rw [hw4q]; exact dw
                  have Hw4q := Lib.hid hw4q
                  clear hw4q
                  go_wp2
                  refine wp_region_quiet_lit (by kernel_rfl) (by kernel_rfl) ?_
                  repeat (go_big_quiet_step (fail))
                  refine wpQuiet_nil ?_
                  intro _ hw'
                  obtain ⟨nqe, hw''⟩ := hw'
                  subst hw''
                  obtain ⟨w5q, hw5q⟩ : ∃ w5q, w5q = w4q.drewN nqe := ⟨_, rfl⟩
                  rw [← hw5q]
                  have d0 : w5q.cell? ⟨g1, 0, none⟩ = some (.int .u32 (T.a.toNat : Int)) := by rw [hw5q]; exact d0
                  have d1 : w5q.cell? ⟨g1, 1, none⟩ = some (.int .u32 (T.b.toNat : Int)) := by rw [hw5q]; exact d1
                  have d2 : w5q.cell? ⟨g1, 2, none⟩ = some (.int .u32 (T.c.toNat : Int)) := by rw [hw5q]; exact d2
                  have d3 : w5q.cell? ⟨g1, 3, none⟩ = some (.int .u32 (T.d.toNat : Int)) := by rw [hw5q]; exact d3
                  have d4 : w5q.cell? ⟨g1, 4, none⟩ = some (.int .u32 (T.e.toNat : Int)) := by rw [hw5q]; exact d4
                  have d5 : w5q.cell? ⟨g1, 5, none⟩ = some (.int .u32 (T.f.toNat : Int)) := by rw [hw5q]; exact d5
                  have d6 : w5q.cell? ⟨g1, 6, none⟩ = some (.int .u32 (T.g.toNat : Int)) := by rw [hw5q]; exact d6
                  have d7 : w5q.cell? ⟨g1, 7, none⟩ = some (.int .u32 (T.h.toNat : Int)) := by rw [hw5q]; exact d7
                  have dk : w5q.cell? ⟨gk, t, none⟩ = some (.int .u32 (kt.toNat : Int)) := by rw [hw5q]; exact dk
                  have dw : w5q.cell? ⟨gw, t, none⟩ = some (.int .u32 (wt.toNat : Int)) := by rw [hw5q]; exact dw
                  have Hw5q := Lib.hid hw5q
                  clear hw5q
                  go_wp2
                  have HB5 : Hid (Below w9.heap.size w9 w5q) := Lib.hid (by rw [Hw5q.out, Hw4q.out, Hw3q.out, Hw2q.out, Hw1q.out]; exact below_drewN_ (below_drewN_ (below_drewN_ (below_drewN_ (below_drewN_ HBr.out _) _) _) _) _)
                  have hs5 : w9.heap.size ≤ w5q.heap.size := HB5.out.size
                  clear dk dw Hw1q Hw2q Hw3q Hw4q Hw5q HBr
                  refine roundTail_any _ _ _ _ _ _ _ _ _ _ _ _ _ _ _ _ _ _ _ _ _ _ _ _ _ _ _ _ _ _ _ _ _ _ _ _ _ _ _ _ _ _ _ _ _ _ _ _ _ _ _ _ _ _ _ _ _ _ _ _ _ _ _ _ _ _ _ _ _ _ _ _ _ _ _ _ _ _ _ _ _ _ _ _ _ _ _ _ _ _ _ _ _ _ _ _ _ _ _ _ _ _ _ _ _ _ _ _ _ _ _ _ _ _ _ _ _ _ _ _ _ _ _ _ _ _ _ _ _ _ _ _ _ _ _ _ _ _ _ _ _ _ _ _ _ _ _ _ _ _ _ _ _ _ _ _ _ _ _ _ _ _ _ _ _ _ _ _ _ _ _ _ _ _ _ _ _ _ _ _ _ _ _ _ _ _ _ _ _ _ _ _ _ _ _ _ _ _ _ _ _ _ _ _ _ _ _ _ _ _ _ _ _ _ _ _ _ _ _ _ _ _ _ _ _ _ _ _ _ _ _ _ _ _ _ _ _ _ _ _ _ _ _ _ _ _ _ _ _ _ _ _ _ _ _ _ _ _ _ _ _ _ _ _ _ _ _ _ _ _ _ _ _ _ _ _ _ _ _ _ _ _ _ _ _ _ _ _ _ _ _ _ _ _ _ _ _ _ _ _ _ _ g1 c1 _ _ T w5q d0 d1 d2 d3 d4 d5 d6 _ ?_
                  intros
                  clear d0 d1 d2 d3 d4 d5 d6 d7
                  go_wp2
                  go_roundw
                  case rel =>
                    refine ⟨t + 1, T.step kt wt, w5q.heap.size, 8, [], by omega, hrs.out.symm, rfl, by go_num, Nat.le_refl _, by omega, ?_, ?_⟩
                    · rw [List.append_nil]
                      exact HB.drew (HB.new w5q 87 (us (T.step kt wt).list))
                    · exact (HB5.out.alloc hs5 _).drew
                  case measure => simp [intOf]; omega
                · as_aux_lemma =>
                    have ht64 : t = 64 := by omega
                    have HT := Lib.hid (show T = St.run ws 64 S by rw [HT.out, ht64])
                    have htI : (64 : Int) ≤ t := by omega
                    clear ht64
                    have hbhA := hbh9.below hBr (by omega)
                    have hbkA := hbk9.below hBr (by omega)
                    have hbaA := hba9.below hBr (by omega)
                    have hbdA := hbd9.below hBr (by omega)
                    have hBA := hB9.trans (hBr.mono (by omega))
                    have hsA := hBr.size
                    have hcm2 : Hid (compress S blk = S.plus T) := Lib.hid (by rw [hcmp.out, ← HT.out])
                    have hne1 : g1 ≠ gh := by omega
                    have hbh0 : HB wr gh 87 (us (plusTo S T 0) ++ rh) := hbhA
                    clear hbh9 hbk9 hba9 hbd9 hB9 hBr hws9 hcmp hbhA
                    go_wp2
                    obtain ⟨wE, hwE⟩ : ∃ wE : World, wE = wr := ⟨_, rfl⟩
                    have hG0 : wE.grownBy wr (some gh) := by rw [hwE]; exact World.grownBy.refl _ _
                    rw [← hwE] at hb1 hbkA hbaA hbdA hBA
                    have HwE := Lib.hid hwE
                    clear hwE
                    go_loopw [19] (fun i wr => ∃ q : Nat, q ≤ 8 ∧ i = .int .i64 (q : Int) ∧ HB wr gh 87 (us (plusTo S T q) ++ rh) ∧ wE.grownBy wr (some gh)) (fun i _ => 8 - (intOf i).toNat)
                    case atStart => exact ⟨0, by omega, rfl, hbh0, hG0⟩
                    case round =>
                      obtain ⟨q, hq, rfl, hgq, hGq⟩ := hrel
                      clear hbh0 hG0
                      have hb1q := hb1.grown hGq (by intro e; injection e with e; exact hne1 e)
                      rcases Nat.lt_or_ge q 8 with hql | hqg
                      · as_aux_lemma =>
                          have hset := Lib.hid (plus_set S T rh q hql)
                          have cq := (hgq.cell q).trans (plus_get S T rh q hql)
                          have cv := (hb1q.cell q).trans (st_get T r1 q hql)
                          have hfz := hgq.frozen q
                          have hqI : (q : Int) < 8 := by omega
                          have hg' := hgq.set_ q (.int .u32 ((wa (S.get q) (T.get q)).toNat : Int))
                          rw [hset.out] at hg'
                          have hG' : wE.grownBy (wr.setCell ⟨gh, q, none⟩ (.int .u32 ((wa (S.get q) (T.get q)).toNat : Int))).drew (some gh) :=
                            hGq.trans ⟨rfl, rfl, rfl, by simp [World.setCell], fun i _ hne => heap_setCell_other _ _ _ _ (fun e => hne (by rw [e]))⟩
                          have HG1 := Lib.hid hg'
                          have HG2 := Lib.hid hG'
                          clear hg' hG' hgq hGq hb1q hb1 hbkA hbaA hbdA hBA
                          go_wp2
                          go_still_tail 9, (by kernel_rfl)
                          change wpList _ _ _ _ _ wr.drew
                          go_wp2
                          go_roundw
                          case rel => exact ⟨q + 1, by omega, by go_num, HG1.out.drew, HG2.out⟩
                          case measure => simp [intOf]; omega
                      · obtain rfl : q = 8 := by omega
                        have hbhF : HB wr gh 87 (us (compress S blk).list ++ rh) := by rw [hcm2.out]; exact hgq
                        have hbkF := hbkA.grown hGq (by intro e; injection e with e; omega)
                        have hbaF := hbaA.grown hGq (by intro e; injection e with e; omega)
                        have hbdF := hbdA.grown hGq (by intro e; injection e with e; omega)
                        have hBF : Below w.heap.size w wr := hBA.grown hGq hBA.size (fun g e => by injection e with e; omega)
                        have hSn : Hid (compress S blk = absorb (j + 1) init0 P) := Lib.hid (by rw [absorb_succ, ← HS.out, Hblk.out, HAt.out])
                        have hat2 : Hid ((at_ : Int) + 64 = ((64 * (j + 1) : Nat) : Int)) := Lib.hid (by have := HAt.out; omega)
                        have hat3 : (at_ : Int) ≤ 140737488353208 := by omega
                        clear hgq hGq hb1q hb1 hbkA hbaA hbdA hBA
                        go_wp2
                        go_roundw
                        case rel => exact ⟨j + 1, compress S blk, by omega, by rw [hat2.out], hSn.out, hbhF, hbkF, hbaF, hbdF, hBF⟩
                        case measure => simp [intOf]; omega
        · as_aux_lemma =>
            obtain rfl : j = J := by omega
            have hsha2 : Hid (shaF m = digestOf S) := Lib.hid (by rw [hsha.out, hPB.out, HS.out])
            have hatN : ¬ ((64 * j : Nat) : Int) < (P.length : Int) := by have := HPm.out; omega
            have hbz : ∀ W, (Instr.build 23 #[]).run Tryd.prog W = .ok (.agg zdig.toArray) W := fun W => by kernel_rfl
            have hzv : ∀ W, (zeroValue 23).run Tryd.prog W = .ok (.agg zdig.toArray) W := fun W => by kernel_rfl
            have HZI := Lib.hid (show (Tryd.prog.info? 23).map (·.size) = some zdig.toArray.size by kernel_rfl)
            have HZA := Lib.hid (show zdig.toArray.all (·.oneCell') = true from bys_all _)
            have HZS := Lib.hid (show zdig.toArray.size = zdig.toArray.size from rfl)
            have hnew := HB.new wr 23 zdig
            clear hba hbk
            go_wp2_with (refine wpList_store_row rfl 23 _ _ rfl wr.heap.size zdig.toArray rfl rfl 23 _ hnew HZI.out HZS.out HZA.out ?_)
            generalize hW6 : World.setRow _ wr.heap.size zdig.toArray = W6
            have hg6 : HB W6 wr.heap.size 23 zdig := by rw [← hW6]; simpa using hnew.row zdig.toArray
            have hB6 : Below wr.heap.size wr W6 := by rw [← hW6]; exact Below.setRow_ ((Below.refl _ _).alloc (Nat.le_refl _) _) (Nat.le_refl _) _
            have hbh6 := hbh.below hB6 hlh
            have hbd6 := hbd.below hB6 (by omega)
            have hBw6 := hBw.trans (hB6.mono hsw)
            have hsw6 := hB6.size
            clear hW6 hB6 hnew hbh hbd hBw hbz hzv HZI HZA HZS
            generalize wr.heap.size = g6 at *
            go_loopw [21] (fun i wr => ∃ q : Nat, q ≤ 32 ∧ i = .int .i64 (q : Int) ∧ HB wr g6 23 (outTo (digestOf S) q) ∧ Below g6 W6 wr) (fun i _ => 32 - (intOf i).toNat)
            case atStart => exact ⟨0, by omega, rfl, hg6, Below.refl _ _⟩
            case round =>
              obtain ⟨q, hq, rfl, hgq, hBq⟩ := hrel
              clear hg6
              rcases Nat.lt_or_ge q 32 with hql | hqg
              · obtain ⟨a, b, hab, hb4, ha8⟩ : ∃ a b, q = 4 * a + b ∧ b < 4 ∧ a < 8 := ⟨q / 4, q % 4, by omega, by omega, by omega⟩
                have hob := outByte S q hql
                have ea : q / 4 = a := by omega
                have eb : q % 4 = b := by omega
                rw [ea, eb] at hob
                have cx := ((hbh6.below hBq (by omega)).cell a).trans (st_get S rh a ha8)
                generalize S.get a = x at *
                have e1 : (q : Int) / 4 = (a : Int) := by omega
                have e2 : (q : Int) % 4 = (b : Int) := by omega
                obtain ⟨v0, hv0⟩ : ∃ v, wr.cell? ⟨g6, q, none⟩ = some v := by
                  rw [hgq.cell]; exact ⟨_, List.getElem?_eq_getElem (by rw [outTo_len _ rfl _ hq]; exact hql)⟩
                have hfz := hgq.frozen q
                have hst := outTo_set (digestOf S) rfl q hql
                have hg' := hgq.set_ q (by_ ((digestOf S).getD q 0))
                rw [hst, ← hob] at hg'
                have hB' : Below g6 W6 (wr.setCell ⟨g6, q, none⟩ (.int .u8 ((x.toNat : Int) / 2 ^ (24 - 8 * b) % 256))) := hBq.setCell (by simp) _
                have HG' := Lib.hid hg'
                have HB' := Lib.hid hB'
                have hqI : (q : Int) < 32 := by omega
                have haI : (a : Int) < 8 := by omega
                have hbI : 8 * (b : Int) ≤ 24 := by omega
                have hb0 : 0 ≤ (b : Int) := by omega
                clear hg' hB' hst hob ea eb hab hgq hBq hbh6 hbd6 hBw6
                go_wp2
                go_roundw
                case rel => exact ⟨q + 1, by omega, by go_num, HG'.out, HB'.out⟩
                case measure => simp [intOf]; omega
              · obtain rfl : q = 32 := by omega
                have hgD : HB wr g6 23 (bys (shaF m)) := by rw [hsha2.out, ← outTo_all (digestOf S) rfl]; exact hgq
                have hbdD := hbd6.below hBq (by omega)
                have hBD := hBw6.trans (hBq.mono (by omega))
                have hsz : (bys (shaF m)).toArray.size = 32 := by rw [List.size_toArray, bys_len, shaF_len]
                have HI := Lib.hid (show (Tryd.prog.info? 23).map (·.size) = some (bys (shaF m)).toArray.size by rw [hsz]; kernel_rfl)
                have HSz := Lib.hid (show zdig.toArray.size = (bys (shaF m)).toArray.size by rw [hsz, List.size_toArray, zdig_len])
                have HA := Lib.hid (bys_all (shaF m))
                have hr := hbdD.row (bys (shaF m)).toArray
                have hB5 := Below.setRow_ hBD (Nat.le_refl _) (bys (shaF m)).toArray
                clear hsz hsha2 hgq hBq hbh6 hbd6 hBw6 hsha
                generalize hl : shaF m = l at *
                have Hl := Lib.hid hl
                clear hl
                go_wp2_with (first
                  | (refine wpList_load_row rfl 23 _ rfl g6 rfl 23 (bys l).toArray (0, 0) _ hgD Tryd.underlying23 rfl HI.out ?_)
                  | (refine wpList_store_row rfl 23 _ _ rfl w.heap.size (bys l).toArray rfl rfl 23 _ hbdD HI.out HSz.out HA.out ?_))
                refine bodyPost_ret (v := .agg (bys l).toArray) (results_cell_row rfl _ _ w.heap.size 23 (bys l).toArray (0, 0) _ rfl hr Tryd.underlying23 rfl HI.out) rfl ?_
                exact ⟨by rw [Hl.out], hB5⟩
end
end Go.Proofs.YtapbaonlboefeaaDoor
