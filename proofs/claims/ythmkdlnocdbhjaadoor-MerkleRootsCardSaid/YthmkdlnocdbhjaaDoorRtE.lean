/- wapentakeref03.Leaf, Node, Half; wapentakeref02.Num. -/
import Derived.Test.YthmkdlnocdbhjaaDoorMkH
import Derived.Test.YthmkdlnocdbhjaaDoorRef1
namespace Go.Proofs.YthmkdlnocdbhjaaDoor
open Go.RowKit

set_option maxRecDepth 20000 in
set_option maxHeartbeats 1600000 in
theorem rjoinB_any (B : Nat) (A : Option Addr) (c : Nat) (vs : List Value) (ls : List (List UInt8)) (w : World) (hs : Sees w B 1 A ls.length vs) (hl : Lists w B vs ls) (hB : B ≤ w.heap.size) (hT : (joinF ls).length ≤ 140737488353000) :
    Calls Tryd.prog 42 #[.slice A ls.length c] w fun e w' => ∃ v', e = .returned v' ∧ w'.ownsRow w.heap.size 5 1 v' (joinF ls).length (bys (joinF ls)) ∧ Below w.heap.size w w' := by
  obtain ⟨i0, hi, hz0, hz1, hz2⟩ := info_parts Tryd.infoByte
  have hn : ls.length ≤ 140737488353000 := by have := partsOf_ge ls; rw [joinF_len] at hT; omega
  have hTs : sizeTo ls ls.length ≤ 140737488353000 := by rw [sizeTo_all]; exact hT
  go_enter Tryd.func42, Tryd.ntmps42
  go_wp2_with fail
  refine (rnumber_any ls.length _).mono ?_
  rintro e w1 ⟨v1, rfl, hown1, hB1⟩
  have hO1 : w1.ownsRow w.heap.size 5 1 v1 (sizeTo ls 0) (bys (joinTo ls 0)) := by simpa [sizeTo, joinTo, partsOf] using hown1
  clear hown1
  go_wp2_with fail
  go_loopw [3, 4] (fun u i wr => ∃ k : Nat, k ≤ ls.length ∧ i = .int .i64 (k : Int) ∧ wr.ownsRow w.heap.size 5 1 u (sizeTo ls k) (bys (joinTo ls k)) ∧ Below w.heap.size w wr) (fun _ i _ => ls.length - (intOf i).toNat)
  case atStart => exact ⟨0, by omega, rfl, hO1, hB1⟩
  case round =>
    obtain ⟨k, hk, rfl, hO, hBw⟩ := hrel
    rcases Nat.lt_or_ge k ls.length with hlt | hge
    · obtain ⟨ad, u, hA, hb, hx, hc⟩ := hs.at_ hlt
      obtain ⟨A1, c1, h1, h2, h3, h4⟩ := hl.at_ hlt
      rw [h1] at hx
      injection hx with hx
      subst hx
      subst hA
      have hbb : (ad.add k).block < w.heap.size := by rw [add_block]; omega
      have hcr := (hBw.cell hbb).trans hc
      have hst := Lib.hid (sizeTo_step ls k hlt)
      have hjt := Lib.hid (joinTo_step ls k hlt)
      have hle := sizeTo_le ls (k + 1)
      rw [hst.out] at hle
      have hH := Lib.hid hs
      have hL := Lib.hid hl
      clear hs hl h1 hc
      go_wp2_with fail
      refine (rnumber_any _ _).mono ?_
      rintro e w2 ⟨v2, rfl, hown2, hB2⟩
      obtain ⟨A2, c2, rfl, hc2, hcm2, -, hse2⟩ := own_slice hown2
      have hBw2 : Below w.heap.size w w2 := hBw.trans (hB2.mono hBw.size)
      have hO2 := own_below hO hB2
      have hcr2 := (hBw2.cell hbb).trans ((hBw.cell hbb).symm.trans hcr)
      clear hown2
      go_wp2_with (at_builtin; refine wpList_append_sees _ rfl (.tmp 15) (.tmp 22) 33 rfl w.heap.size 5 i0 (.int .u8 0) 1 1 Tryd.underlying33 hi hz0 hz1 hz2 rfl (by decide) u3 _ _ rfl hO2 w2.heap.size A2 8 c2 _ rfl hse2 (bys_one _) ?c1 ?c2 hBw2.size ?_)
      case c1 => unfold maxLen; omega
      case c2 => omega
      intro v3 w3 hown3 hg3 hm3
      have hB3 : Below w.heap.size w w3 := hBw2.grown hg3 hBw2.size (fun g hg => (hO2.lt g hg).1)
      have hcr3 := (hB3.cell hbb).trans ((hBw.cell hbb).symm.trans hcr)
      have h43 := h4.below (hB3.mono hB)
      clear hcr2 hO hO2 hg3 hm3 hse2 hcr
      go_wp2_with (at_builtin; refine wpList_append_sees _ rfl (.tmp 24) (.tmp 28) 33 rfl w.heap.size 5 i0 (.int .u8 0) 1 1 Tryd.underlying33 hi hz0 hz1 hz2 rfl (by decide) v3 _ _ rfl hown3 B A1 _ c1 _ rfl h43 (bys_one _) ?c1 ?c2 hB3.size ?_)
      case c1 => unfold maxLen; omega
      case c2 => omega
      intro v4 w4 hown4 hg4 hm4
      have hB4 : Below w.heap.size w w4 := hB3.grown hg4 hB3.size (fun g hg => (hown3.lt g hg).1)
      have hO4 : w4.ownsRow w.heap.size 5 1 v4 (sizeTo ls (k + 1)) (bys (joinTo ls (k + 1))) := by
        rw [hst.out, hjt.out, bys_append, bys_append, ← Nat.add_assoc, List.append_assoc]; simpa only [List.append_assoc] using hown4
      have hs := hH.out
      have hl := hL.out
      clear hown3 hown4 hg4 hm4 hBw hBw2 hB3 h43 h4 hcr3
      go_wp2
      go_roundw
      case rel => exact ⟨k + 1, by omega, by go_num, hO4, hB4⟩
      case measure => simp [intOf]; omega
    · obtain rfl : k = ls.length := by omega
      go_wp2
      go_ret
      exact ⟨_, rfl, by rw [← sizeTo_all, ← joinTo_all]; exact hO, hBw⟩
theorem rjoin_built (wk : World) (t : TypeId) (vs : List Value) (ls : List (List UInt8)) (h : Lists wk wk.heap.size vs ls) (hT : (joinF ls).length ≤ 140737488353000) :
    Calls Tryd.prog 42 #[.slice (some ⟨wk.heap.size, 0, none⟩) ls.length ls.length] (wk.alloc (.cells vs.toArray t)) (Wrote (wk.alloc (.cells vs.toArray t)) (joinF ls)) := by
  have hs : Sees (wk.alloc (.cells vs.toArray t)) (wk.heap.size + 1) 1 (some ⟨wk.heap.size, 0, none⟩) ls.length vs := by
    refine ⟨by rw [h.1, Nat.mul_one], .inr ⟨_, rfl, Nat.lt_succ_self _, fun j u hu => ?_⟩⟩
    rw [add_at, boxed]
    simpa using hu
  have hb : Below wk.heap.size wk (wk.alloc (.cells vs.toArray t)) := (Below.refl _ _).alloc (Nat.le_refl _) _
  exact rjoinB_any (wk.heap.size + 1) _ _ _ ls _ hs ((h.below hb).wide (by omega)) (by simp) (by omega)
theorem rjoin_lit (wk : World) (t : TypeId) (vs : List Value) (ls : List (List UInt8)) (G n : Nat) (hG : wk.heap.size = G) (hn : ls.length = n) (h : Lists wk wk.heap.size vs ls) (hT : (joinF ls).length ≤ 140737488353000) :
    Calls Tryd.prog 42 #[.slice (some ⟨G, 0, none⟩) n n] (wk.alloc (.cells vs.toArray t)) (Wrote (wk.alloc (.cells vs.toArray t)) (joinF ls)) := by
  subst hG; subst hn; exact rjoin_built wk t vs ls h hT

set_option maxRecDepth 20000 in
set_option maxHeartbeats 1600000 in
theorem rleaf_any (B : Nat) (A : Option Addr) (c : Nat) (e : List UInt8) (w : World) (hs : Sees w B 1 A e.length (bys e)) (hB : B ≤ w.heap.size) (hc : e.length ≤ c) (hcm : c ≤ 9223372036854775807) (he : e.length ≤ 140737488351232) :
    Calls Tryd.prog 44 #[.slice A e.length c] w (Wrote w (leafB e)) := by
  have hb4 := build_b4
  have kc := fun (w : World) (C : Array Value) (n c : Nat) => Lib.run_convert_bytes_const (P := Tryd.prog) w 33 5 C n c Tryd.underlying33 Tryd.underlying5
  have hb2 := build_2
  have hb1 := below_alloc1 w (.cells #[.int .u8 108, .int .u8 101, .int .u8 97, .int .u8 102] 5 (4, 5))
  have hl : Lists (w.alloc (.cells #[.int .u8 108, .int .u8 101, .int .u8 97, .int .u8 102] 5 (4, 5))) (w.alloc (.cells #[.int .u8 108, .int .u8 101, .int .u8 97, .int .u8 102] 5 (4, 5))).heap.size [.slice (some ⟨w.heap.size, 0, none⟩) 4 4, .slice A e.length c] [tagLeaf, e] :=
    Lists.cons ((slot_lit w _ _ 108 101 97 102).wide (by simp)) (Lists.cons (Slot.wide (B := w.heap.size) (Slot.below ⟨A, c, rfl, hc, hcm, hs.wide hB⟩ hb1) (by simp)) (Lists.nothing _ _))
  have hj := Lib.hid (rjoin_lit _ 33 _ _ (w.heap.size + 1) 2 (by simp) rfl hl (by have := leafB_len e; unfold leafB at this; omega))
  have hst : Below w.heap.size w ((w.alloc (.cells #[.int .u8 108, .int .u8 101, .int .u8 97, .int .u8 102] 5 (4, 5))).alloc (.cells #[.slice (some ⟨w.heap.size, 0, none⟩) 4 4, .slice A e.length c] 33)) := hb1.alloc hb1.size _
  have hsz := hst.size
  clear hl hs
  go_enter Tryd.func44, Tryd.ntmps44
  go_wp2_with fail
  refine hj.out.mono ?_
  rintro e2 w2 ⟨v2, rfl, ho, hB2⟩
  go_wp2
  go_ret
  exact ⟨_, rfl, own_wide ho hsz, hst.trans (hB2.mono hsz)⟩
/-- The literal of slices joined, where the order was drawn. -/
theorem rjoin_drew (wk : World) (t : TypeId) (vs : List Value) (ls : List (List UInt8)) (G n : Nat) (hG : wk.heap.size = G) (hn : ls.length = n) (h : Lists wk wk.heap.size vs ls) (hT : (joinF ls).length ≤ 140737488353000) :
    Calls Tryd.prog 42 #[.slice (some ⟨G, 0, none⟩) n n] (wk.alloc (.cells vs.toArray t)).drew (Wrote (wk.alloc (.cells vs.toArray t)).drew (joinF ls)) :=
  rjoin_lit wk.drew t vs ls G n hG hn (h.below (Below.drew (Below.refl _ _))) hT

set_option maxRecDepth 20000 in
set_option maxHeartbeats 1600000 in
theorem rnode_any (a b : List UInt8) (w : World) (ha : a.length = 32) (hb : b.length = 32) :
    Calls Tryd.prog 45 #[.agg (bys a).toArray, .agg (bys b).toArray] w (Wrote w (nodeB a b)) := by
  have hb4 := build_b4
  have hb3 := build_3
  have kc := conv_lit
  have h1 := slot_box w a 32 ha (by omega) 28
  have s1 := below_alloc1 w (.cells (bys a).toArray 28)
  generalize hw1 : w.alloc (.cells (bys a).toArray 28) = w1
  rw [hw1] at h1 s1
  have e1 : w1.heap.size = w.heap.size + 1 := by rw [← hw1]; simp
  have h2 := slot_box w1 b 32 hb (by omega) 28
  have s2 := below_alloc1 w1 (.cells (bys b).toArray 28)
  have h12 := h1.alloc (by omega) (.cells (bys b).toArray 28)
  generalize hw2 : w1.alloc (.cells (bys b).toArray 28) = w2
  rw [hw2] at h2 s2 h12
  have e2 : w2.heap.size = w.heap.size + 2 := by rw [← hw2]; simp; omega
  have h3 := slot_lit w2 5 (4, 5) 110 111 100 101
  have s3 := below_alloc1 w2 (.cells #[.int .u8 110, .int .u8 111, .int .u8 100, .int .u8 101] 5 (4, 5))
  have h23 := h2.alloc (by omega) (.cells #[.int .u8 110, .int .u8 111, .int .u8 100, .int .u8 101] 5 (4, 5))
  have h123 := h12.alloc (by omega) (.cells #[.int .u8 110, .int .u8 111, .int .u8 100, .int .u8 101] 5 (4, 5))
  rw [e1] at h2 h23
  rw [e2] at h3
  have hl : Lists (w2.alloc (.cells #[.int .u8 110, .int .u8 111, .int .u8 100, .int .u8 101] 5 (4, 5))) (w2.alloc (.cells #[.int .u8 110, .int .u8 111, .int .u8 100, .int .u8 101] 5 (4, 5))).heap.size [.slice (some ⟨w.heap.size + 2, 0, none⟩) 4 4, .slice (some ⟨w.heap.size, 0, none⟩) 32 32, .slice (some ⟨w.heap.size + 1, 0, none⟩) 32 32] [tagNode, a, b] :=
    Lists.cons (h3.wide (by simp; omega)) (Lists.cons (h123.wide (by simp; omega)) (Lists.cons (h23.wide (by simp; omega)) (Lists.nothing _ _)))
  have hj := Lib.hid (rjoin_drew _ 33 _ _ (w.heap.size + 3) 3 (by simp; omega) rfl hl (by have := nodeB_len a b; unfold nodeB at this; omega))
  have hst : Below w.heap.size w ((w2.alloc (.cells #[.int .u8 110, .int .u8 111, .int .u8 100, .int .u8 101] 5 (4, 5))).alloc (.cells #[.slice (some ⟨w.heap.size + 2, 0, none⟩) 4 4, .slice (some ⟨w.heap.size, 0, none⟩) 32 32, .slice (some ⟨w.heap.size + 1, 0, none⟩) 32 32] 33)).drew := by
    have := (s1.trans ((s2.trans (s3.mono s2.size)).mono s1.size))
    exact (this.alloc this.size _).drew
  clear h1 s1 h2 s2 h3 s3 h12 h23 h123 e1 e2 hl ha hb
  subst hw2
  subst hw1
  have hsz := hst.size
  have HST := Lib.hid hst
  clear hst
  go_enter Tryd.func45, Tryd.ntmps45
  go_wp2_with fail
  go_region_with (go_at_call 42; refine hj.out.mono ?_; rintro e2 w3 ⟨v2, rfl, ho, hB2⟩)
  all_goals (go_wp2; go_ret; exact ⟨_, rfl, own_wide ho hsz, HST.out.trans (hB2.mono hsz)⟩)
set_option maxRecDepth 20000 in
set_option maxHeartbeats 800000 in
theorem rnum_any (n : Nat) (w : World) :
    Calls Tryd.prog 43 #[.int .u64 n] w (Wrote w (b8 n)) := by
  obtain ⟨i0, hi, hz0, hz1, hz2⟩ := info_parts Tryd.infoByte
  go_enter Tryd.func43, Tryd.ntmps43
  go_wp2
  go_loopw [3, 4] (fun u i wr => ∃ k : Nat, k ≤ 8 ∧ i = .int .i64 (k : Int) ∧ wr.ownsRow w.heap.size 5 1 u k (bys (top8 n k)) ∧ Below w.heap.size w wr)
    (fun _ i _ => (8 - intOf i).toNat)
  case atStart => exact ⟨0, by omega, rfl, World.ownsRow_made w _ _ (Nat.le_refl _) (by unfold maxLen; omega) (by simp), (Below.refl _ _).alloc (Nat.le_refl _) _⟩
  case round =>
    obtain ⟨k, hk, rfl, hown1, hB⟩ := hrel
    rcases Nat.lt_or_ge k 8 with hlt | hge
    · have h1 : 8 * (k:Int) ≤ 56 := by omega
      have h2 : (k:Int) < 8 := by omega
      go_wp2_with (at_builtin; refine wpList_append_own_at _ rfl _ _ 33 rfl w.heap.size 5 i0 (.int .u8 0) 1 1 Tryd.underlying33 hi hz0 hz1 hz2 rfl (by decide) _ _ _ rfl (hown1.alloc _) ⟨wr.heap.size, 0, none⟩ 1 1 [.int .u8 ((n : Int) / 2 ^ (56 - 8 * k) % 256)] rfl rfl (cell_one_new _ _ _) ?c2 ?c3 ?c4 ?c5 ?_)
      case c2 => intro u hu; simp at hu; subst hu; rfl
      case c3 => unfold maxLen; omega
      case c4 => omega
      case c5 => have := hB.size; simp; omega
      intro v' w1 hown' hgrow _ hat'
      have hO : w1.ownsRow w.heap.size 5 1 v' (k + 1) (bys (top8 n (k + 1))) := by
        have e : bys (top8 n (k + 1)) = bys (top8 n k) ++ [.int .u8 ((n : Int) / 2 ^ (56 - 8 * k) % 256)] := by
          rw [top8_snoc, bys_append, byte_of]; rfl
        rw [e]; exact hown'
      have hG : wr.grownBy w1 u3.ownBlock := (World.grownBy_alloc wr _ _).trans hgrow
      have hB' := hB.grown hG hB.size (fun g hg => (hown1.lt g hg).1)
      clear hown' hgrow hat' hown1 hG hB
      go_wp2
      go_roundw
      case rel => exact ⟨k + 1, by omega, by go_num, hO, hB'⟩
      case measure => simp [intOf]; omega
    · have h1 : 8 ≤ (k:Int) := by omega
      go_wp2
      go_ret
      obtain rfl : k = 8 := by omega
      exact ⟨_, rfl, by rw [b8_len]; exact hown1, hB⟩
/-- The power of 2 below a number is one. -/
theorem half_one (n j : Nat) (h2 : 2 ≤ n) (hn : n < 9223372036854775808) (h : 2 ^ j < n) (h' : n ≤ 2 * 2 ^ j) : 2 ^ j = half n := by
  obtain ⟨k1, k2, k3, -⟩ := half_spec n h2 hn
  unfold half at *
  generalize Lib.bitLen (n - 1) - 1 = i at *
  have e1 : 2 * 2 ^ i = 2 ^ (i + 1) := by rw [Nat.pow_succ, Nat.mul_comm]
  have e2 : 2 * 2 ^ j = 2 ^ (j + 1) := by rw [Nat.pow_succ, Nat.mul_comm]
  have a1 : i < j + 1 := (Nat.pow_lt_pow_iff_right (by omega : 1 < 2)).1 (by omega)
  have a2 : j < i + 1 := (Nat.pow_lt_pow_iff_right (by omega : 1 < 2)).1 (by omega)
  rw [show i = j from by omega]
theorem rhalf_any (n : Nat) (h2 : 2 ≤ n) (hn : n < 9223372036854775808) (w : World) :
    Calls Tryd.prog 41 #[.int .i64 (n : Int)] w fun e w' => e = .returned (.int .i64 (half n : Int)) ∧ w = w' := by
  have ho := Lib.hid (half_one n)
  go_enter Tryd.func41, Tryd.ntmps41
  go_wp2
  go_loop [3] (fun k => ∃ (p j : Nat), p = 2 ^ j ∧ p < n ∧ k = .int .i64 (p : Int)) (fun k => n - (intOf k).toNat)
  case atStart => exact ⟨1, 0, rfl, by omega, rfl⟩
  case round =>
    obtain ⟨p, j, hp, hpn, rfl⟩ := hrel
    have HP := Lib.hid hp
    have h1 : 1 ≤ p := by rw [hp]; exact Nat.one_le_two_pow
    clear hp
    have b1 : (p : Int) < n := by omega
    have b2 : 1 ≤ (p : Int) := by omega
    rcases Nat.lt_or_ge (p + p) n with hlt | hge
    · have b3 : (p : Int) < (n : Int) - p := by omega
      have b4 : 2 * (p : Int) < n := by omega
      go_wp2
      go_round
      case rel => exact ⟨2 * p, j + 1, by rw [HP.out, Nat.pow_succ, Nat.mul_comm], by omega, by go_num⟩
      case measure => simp [intOf]; omega
    · have b3 : (n : Int) - p ≤ p := by omega
      go_wp2
      go_ret
      have e := ho.out j h2 hn (by rw [← HP.out]; exact hpn) (by rw [← HP.out]; omega)
      exact ⟨by rw [← e, ← HP.out]; rfl, rfl⟩
end Go.Proofs.YthmkdlnocdbhjaaDoor
