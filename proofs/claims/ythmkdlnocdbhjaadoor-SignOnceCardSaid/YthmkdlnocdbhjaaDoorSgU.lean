/- wapentakelaw05.SignReuse returns true. -/
import Derived.Test.YthmkdlnocdbhjaaDoorSgA
namespace Go.Proofs.YthmkdlnocdbhjaaDoor
open Go.RowKit

section
variable {f : Foot} {nk : Nat} {bud : Int} {L : List Sg} {U : List (Int × Int)}
/-- What was signed before is signed again. -/
theorem sign_old (w : World) (h : RingW w f nk bud L U) (k i : Int) (B : Nat) (A : Option Addr) (c : Nat) (t : List UInt8) (hs : Sees w B 1 A t.length (bys t)) (hBw : B ≤ w.heap.size) (hc : t.length ≤ c) (hcm : c ≤ 9223372036854775807) (ht : t.length ≤ 140737488351232) (hk2 : Consts w) (hfew : L.length < 4611686018427387904)
    (he : sErr nk bud (k, i) = 0) (hL : ((k, i), t) ∈ L) :
    Calls Tryd.prog 24 #[.pointer (some ⟨f.r, 0, none⟩), .int .i64 k, .int .i64 i, .slice A t.length c] w (SPost f nk bud L U (sigL i (tagF ((k, i), t))) 0 w) := by
  have h1 := sign_all w h k i B A c t hs hBw hc hcm ht hk2 hfew
  unfold sL sU sC signL signU at h1
  simp only [he, if_true, if_pos hL] at h1
  exact h1
/-- Another text at a place that was used. -/
theorem sign_more (w : World) (h : RingW w f nk bud L U) (k i : Int) (B : Nat) (A : Option Addr) (c : Nat) (t : List UInt8) (hs : Sees w B 1 A t.length (bys t)) (hBw : B ≤ w.heap.size) (hc : t.length ≤ c) (hcm : c ≤ 9223372036854775807) (ht : t.length ≤ 140737488351232) (hk2 : Consts w) (hfew : L.length < 4611686018427387904)
    (he : sErr nk bud (k, i) = 0) (hL : ((k, i), t) ∉ L) (hU : (k, i) ∈ U) :
    Calls Tryd.prog 24 #[.pointer (some ⟨f.r, 0, none⟩), .int .i64 k, .int .i64 i, .slice A t.length c] w (SPost f nk bud (L ++ [((k, i), t)]) U (sigL i (tagF ((k, i), t))) 0 w) := by
  have h1 := sign_all w h k i B A c t hs hBw hc hcm ht hk2 hfew
  unfold sL sU sC signL signU at h1
  simp only [he, if_true, if_neg hL, if_pos hU] at h1
  exact h1
theorem reused_b (w : World) (h : RingW w f nk bud L U) (k : Nat) (hk : k < nk) (b : Bool) (hb : reuB L U k = b) :
    Calls Tryd.prog 31 #[.pointer (some ⟨f.r, 0, none⟩), .int .i64 (k : Int)] w fun e w' => e = .returned (.bool b) ∧ Below w.heap.size w w' := by
  refine (reused_yes w h k hk).mono fun e w' ⟨he, n, hw⟩ => ⟨by rw [he, hb], by rw [hw]; exact below_drewN_ (Below.refl _ _) n⟩
/-- Nothing was signed with that key, if there is one. -/
theorem reused_0 (w : World) (h : RingW w f nk bud [] U) (k : Int) :
    Calls Tryd.prog 31 #[.pointer (some ⟨f.r, 0, none⟩), .int .i64 k] w fun e w' => e = .returned (.bool false) ∧ Below w.heap.size w w' := by
  by_cases hk : k < 0 ∨ (nk : Int) ≤ k
  · exact (reused_no w h k hk).mono fun e w' ⟨he, n, hw⟩ => ⟨he, by rw [hw]; exact below_drewN_ (Below.refl _ _) n⟩
  · obtain ⟨k', rfl⟩ : ∃ k' : Nat, k = (k' : Int) := ⟨k.toNat, by omega⟩
    exact reused_b w h k' (by omega) false (by simp [reuB, cntL])
theorem made_0 (w : World) (h : RingW w f nk bud [] U) (k : Int) :
    Calls Tryd.prog 33 #[.pointer (some ⟨f.r, 0, none⟩), .int .i64 k] w fun e w' => e = .returned (.int .i64 0) ∧ w = w' := by
  by_cases hk : k < 0 ∨ (nk : Int) ≤ k
  · exact made_no w h k hk
  · obtain ⟨k', rfl⟩ : ∃ k' : Nat, k = (k' : Int) := ⟨k.toNat, by omega⟩
    exact made_yes w h k' (by omega)
end
def LawR (W : World) (e : Ending) (w' : World) : Prop := e = .returned (.bool true) ∧ Below W.heap.size W w'
-- WALK

set_option maxRecDepth 20000 in
set_option maxHeartbeats 3200000 in
theorem reuse_bad (W : World) (hk : Consts W) (k i : Int) (a b : List UInt8) (ha : a.length ≤ 140737488351232) (hb : b.length ≤ 140737488351232) (n : Int) (hn : sErr 4 100 (k, i) = n) (hn0 : n ≠ 0) :
    Calls Tryd.prog 8 #[.int .i64 k, .int .i64 i, .string (strB a), .string (strB b)] W (LawR W) := by
  have hz := Tryd.zeroSig
  have hcs := conv_str
  have HK := Lib.hid hk
  have HAW := Lib.hid (awake_any W hk)
  have HN := Lib.hid hn
  have hne : (n == 0) = false := by simpa using hn0
  have hne2 : (n != 0) = true := by simpa using hn0
  have HN0 := Lib.hid hn0
  clear hk hn hn0
  go_enter Tryd.func8, Tryd.ntmps8
  go_wp2_with fail
  refine HAW.out.mono ?_
  rintro e w1 ⟨rfl, hB1⟩
  have HB1 := Lib.hid hB1
  have HK1 := Lib.hid (HK.out.below hB1 HK.out.2.2)
  clear hB1 HAW
  have hnew : Calls Tryd.prog 22 #[.int .i64 4, .int .i64 100] w1 (NewR w1 4 100) := new_ok 4 100 (by omega) (by omega) (by omega) (by omega) w1
  have HNEW := Lib.hid hnew
  clear hnew
  go_wp2_with fail
  refine HNEW.out.mono ?_
  rintro e w2 ⟨f, rfl, hR, hB, h1, h2, h3, h4⟩
  have HLw2 := Lib.hid (Law.made HK.out HB1.out hR hB h2 h3 h4)
  clear hR hB h1 h2 h3 h4 HNEW
  have hT := txt_str w2 a ha
  have hL2 := HLw2.out.later hT.below
  have hs := sign_bad _ hL2.ring k i _ _ _ a hT.sees (Nat.le_refl _) hT.cap hT.max ha hL2.consts (by simp) n HN.out HN0.out
  have HS := Lib.hid hs
  have HL2 := Lib.hid hL2
  clear hs hL2 hT
  go_wp2_with fail
  refine HS.out.mono ?_
  rintro e w3 ⟨he, hR2, hT2⟩
  have HLw3 := Lib.hid (HL2.out.post hR2 hT2)
  clear hR2 hT2 HS HL2
  obtain ⟨cs1, hcs1⟩ : ∃ cs, cs = sigZ := ⟨_, rfl⟩
  rw [← hcs1] at he
  subst he
  have hcl1 : cs1.length = 33 := by rw [hcs1]; exact sigZ_len
  have HI1 := cs_info hcl1
  have HZ1 := cs_size hcl1
  have HO1 : Hid (cs1.toArray.all (·.oneCell') = true) := Lib.hid (by rw [hcs1]; exact (sigL_one _ _).out)
  have HC1 := Lib.hid hcs1
  have hnew1 := HB.new w3 45 sigZ
  have hrow1 := row_new w3 cs1
  clear hcl1 hcs1
  go_upto_region 5 with (refine wpList_store_row rfl 45 _ _ rfl w3.heap.size cs1.toArray rfl rfl 45 _ hnew1 HI1.out HZ1.out HO1.out ?_)
  clear hnew1
  generalize (w3.alloc (.cells sigZ.toArray 45)).setRow w3.heap.size cs1.toArray = w4 at *
  have HLw4 := Lib.hid (HLw3.out.later hrow1.2)
  clear hrow1
  have hq : Calls Tryd.prog 31 #[.pointer (some ⟨f.r, 0, none⟩), .int .i64 k] w4 fun e w' => e = .returned (.bool false) ∧ Below w4.heap.size w4 w' := reused_0 w4 HLw4.out.ring k
  have HQ := Lib.hid hq
  clear hq
  go_wp2_with fail
  refine HQ.out.mono ?_
  rintro e w5 ⟨rfl, hB⟩
  have HLw5 := Lib.hid (HLw4.out.later hB)
  clear hB HQ
  have hT := txt_str w5 a ha
  have hL2 := HLw5.out.later hT.below
  have hs := sign_bad _ hL2.ring k i _ _ _ a hT.sees (Nat.le_refl _) hT.cap hT.max ha hL2.consts (by simp) n HN.out HN0.out
  have HS := Lib.hid hs
  have HL2 := Lib.hid hL2
  clear hs hL2 hT
  go_wp2_with fail
  refine HS.out.mono ?_
  rintro e w6 ⟨he, hR2, hT2⟩
  have HLw6 := Lib.hid (HL2.out.post hR2 hT2)
  clear hR2 hT2 HS HL2
  subst he
  have hq : Calls Tryd.prog 31 #[.pointer (some ⟨f.r, 0, none⟩), .int .i64 k] w6 fun e w' => e = .returned (.bool false) ∧ Below w6.heap.size w6 w' := reused_0 w6 HLw6.out.ring k
  have HQ := Lib.hid hq
  clear hq
  go_wp2_with fail
  refine HQ.out.mono ?_
  rintro e w7 ⟨rfl, hB⟩
  have HLw7 := Lib.hid (HLw6.out.later hB)
  clear hB HQ
  have hT := txt_str w7 b hb
  have hL2 := HLw7.out.later hT.below
  have hs := sign_bad _ hL2.ring k i _ _ _ b hT.sees (Nat.le_refl _) hT.cap hT.max hb hL2.consts (by simp) n HN.out HN0.out
  have HS := Lib.hid hs
  have HL2 := Lib.hid hL2
  clear hs hL2 hT
  go_wp2_with fail
  refine HS.out.mono ?_
  rintro e w8 ⟨he, hR2, hT2⟩
  have HLw8 := Lib.hid (HL2.out.post hR2 hT2)
  clear hR2 hT2 HS HL2
  subst he
  have hq : Calls Tryd.prog 31 #[.pointer (some ⟨f.r, 0, none⟩), .int .i64 k] w8 fun e w' => e = .returned (.bool false) ∧ Below w8.heap.size w8 w' := reused_0 w8 HLw8.out.ring k
  have HQ := Lib.hid hq
  clear hq
  go_wp2_with fail
  refine HQ.out.mono ?_
  rintro e w9 ⟨rfl, hB⟩
  have HLw9 := Lib.hid (HLw8.out.later hB)
  clear hB HQ
  have hmd := made_0 w9 HLw9.out.ring k
  have HMD := Lib.hid hmd
  clear hmd
  go_wp2_with fail
  refine HMD.out.mono ?_
  rintro e w' ⟨rfl, rfl⟩
  clear HMD
  have HFIN := Lib.hid HLw9.out.below
  go_wp2
  go_ret
  exact ⟨rfl, HFIN.out⟩

set_option maxRecDepth 20000 in
set_option maxHeartbeats 3200000 in
theorem reuse_same (W : World) (hk : Consts W) (k i : Nat) (hk4 : k < 4) (hi : i < 100) (a b : List UInt8) (ha : a.length ≤ 140737488351232) (hb : b.length ≤ 140737488351232) (hab : a = b) :
    Calls Tryd.prog 8 #[.int .i64 (k : Int), .int .i64 (i : Int), .string (strB a), .string (strB b)] W (LawR W) := by
  have hz := Tryd.zeroSig
  have hcs := conv_str
  have HK := Lib.hid hk
  have HAW := Lib.hid (awake_any W hk)
  subst hab
  have hE : sErr 4 100 ((k : Int), (i : Int)) = 0 := sErr_zero.2 ⟨⟨by simp, by simp; omega⟩, by simp, by simp; omega⟩
  have HE := Lib.hid hE
  have HK4 := Lib.hid hk4
  clear hE hk4 hi hb
  clear hk
  go_enter Tryd.func8, Tryd.ntmps8
  go_wp2_with fail
  refine HAW.out.mono ?_
  rintro e w1 ⟨rfl, hB1⟩
  have HB1 := Lib.hid hB1
  have HK1 := Lib.hid (HK.out.below hB1 HK.out.2.2)
  clear hB1 HAW
  have hnew : Calls Tryd.prog 22 #[.int .i64 4, .int .i64 100] w1 (NewR w1 4 100) := new_ok 4 100 (by omega) (by omega) (by omega) (by omega) w1
  have HNEW := Lib.hid hnew
  clear hnew
  go_wp2_with fail
  refine HNEW.out.mono ?_
  rintro e w2 ⟨f, rfl, hR, hB, h1, h2, h3, h4⟩
  have HLw2 := Lib.hid (Law.made HK.out HB1.out hR hB h2 h3 h4)
  clear hR hB h1 h2 h3 h4 HNEW
  have hT := txt_str w2 a ha
  have hL2 := HLw2.out.later hT.below
  have hs := sign_lit _ hL2.ring (k : Int) (i : Int) _ _ _ a hT.sees (Nat.le_refl _) hT.cap hT.max ha hL2.consts (by simp) HE.out (by simp) (by simp)
  have HS := Lib.hid hs
  have HL2 := Lib.hid hL2
  clear hs hL2 hT
  go_wp2_with fail
  refine HS.out.mono ?_
  rintro e w3 ⟨he, hR2, hT2⟩
  have HLw3 := Lib.hid (HL2.out.post hR2 hT2)
  clear hR2 hT2 HS HL2
  obtain ⟨cs1, hcs1⟩ : ∃ cs, cs = sigL (i : Int) (tagF (((k : Int), (i : Int)), a)) := ⟨_, rfl⟩
  rw [← hcs1] at he
  subst he
  have hcl1 : cs1.length = 33 := by rw [hcs1]; exact sigL_len _ _ (tagF_len _)
  have HI1 := cs_info hcl1
  have HZ1 := cs_size hcl1
  have HO1 : Hid (cs1.toArray.all (·.oneCell') = true) := Lib.hid (by rw [hcs1]; exact (sigL_one _ _).out)
  have HC1 := Lib.hid hcs1
  have hnew1 := HB.new w3 45 sigZ
  have hrow1 := row_new w3 cs1
  clear hcl1 hcs1
  go_upto_region 5 with (refine wpList_store_row rfl 45 _ _ rfl w3.heap.size cs1.toArray rfl rfl 45 _ hnew1 HI1.out HZ1.out HO1.out ?_)
  clear hnew1
  generalize (w3.alloc (.cells sigZ.toArray 45)).setRow w3.heap.size cs1.toArray = w4 at *
  have HLw4 := Lib.hid (HLw3.out.later hrow1.2)
  clear hrow1
  have hq : Calls Tryd.prog 31 #[.pointer (some ⟨f.r, 0, none⟩), .int .i64 (k : Int)] w4 fun e w' => e = .returned (.bool false) ∧ Below w4.heap.size w4 w' := reused_b w4 HLw4.out.ring k HK4.out false (by simp [reuB, cntL, cntU])
  have HQ := Lib.hid hq
  clear hq
  go_wp2_with fail
  refine HQ.out.mono ?_
  rintro e w5 ⟨rfl, hB⟩
  have HLw5 := Lib.hid (HLw4.out.later hB)
  clear hB HQ
  have hT := txt_str w5 a ha
  have hL2 := HLw5.out.later hT.below
  have hs := sign_old _ hL2.ring (k : Int) (i : Int) _ _ _ a hT.sees (Nat.le_refl _) hT.cap hT.max ha hL2.consts (by simp) HE.out (by simp)
  have HS := Lib.hid hs
  have HL2 := Lib.hid hL2
  clear hs hL2 hT
  go_wp2_with fail
  refine HS.out.mono ?_
  rintro e w6 ⟨he, hR2, hT2⟩
  have HLw6 := Lib.hid (HL2.out.post hR2 hT2)
  clear hR2 hT2 HS HL2
  subst he
  have hq : Calls Tryd.prog 31 #[.pointer (some ⟨f.r, 0, none⟩), .int .i64 (k : Int)] w6 fun e w' => e = .returned (.bool false) ∧ Below w6.heap.size w6 w' := reused_b w6 HLw6.out.ring k HK4.out false (by simp [reuB, cntL, cntU])
  have HQ := Lib.hid hq
  clear hq
  go_wp2_with fail
  refine HQ.out.mono ?_
  rintro e w7 ⟨rfl, hB⟩
  have HLw7 := Lib.hid (HLw6.out.later hB)
  clear hB HQ
  have hT := txt_str w7 a ha
  have hL2 := HLw7.out.later hT.below
  have hs := sign_old _ hL2.ring (k : Int) (i : Int) _ _ _ a hT.sees (Nat.le_refl _) hT.cap hT.max ha hL2.consts (by simp) HE.out (by simp)
  have HS := Lib.hid hs
  have HL2 := Lib.hid hL2
  clear hs hL2 hT
  go_wp2_with fail
  refine HS.out.mono ?_
  rintro e w8 ⟨he, hR2, hT2⟩
  have HLw8 := Lib.hid (HL2.out.post hR2 hT2)
  clear hR2 hT2 HS HL2
  subst he
  have hq : Calls Tryd.prog 31 #[.pointer (some ⟨f.r, 0, none⟩), .int .i64 (k : Int)] w8 fun e w' => e = .returned (.bool false) ∧ Below w8.heap.size w8 w' := reused_b w8 HLw8.out.ring k HK4.out false (by simp [reuB, cntL, cntU])
  have HQ := Lib.hid hq
  clear hq
  go_wp2_with fail
  refine HQ.out.mono ?_
  rintro e w9 ⟨rfl, hB⟩
  have HLw9 := Lib.hid (HLw8.out.later hB)
  clear hB HQ
  have HFIN := Lib.hid HLw9.out.below
  go_wp2
  go_ret
  exact ⟨rfl, HFIN.out⟩

set_option maxRecDepth 20000 in
set_option maxHeartbeats 3200000 in
theorem reuse_other (W : World) (hk : Consts W) (k i : Nat) (hk4 : k < 4) (hi : i < 100) (a b : List UInt8) (ha : a.length ≤ 140737488351232) (hb : b.length ≤ 140737488351232) (hab : a ≠ b) :
    Calls Tryd.prog 8 #[.int .i64 (k : Int), .int .i64 (i : Int), .string (strB a), .string (strB b)] W (LawR W) := by
  have hz := Tryd.zeroSig
  have hcs := conv_str
  have HK := Lib.hid hk
  have HAW := Lib.hid (awake_any W hk)
  have hE : sErr 4 100 ((k : Int), (i : Int)) = 0 := sErr_zero.2 ⟨⟨by simp, by simp; omega⟩, by simp, by simp; omega⟩
  have HE := Lib.hid hE
  have HK4 := Lib.hid hk4
  have HAB := Lib.hid hab
  have hne : ((strB a).toList == (strB b).toList) = false := by rw [strB_beq]; simpa using hab
  have hne2 : strB a ≠ strB b := fun e => hab (strB_inj e)
  clear hE hk4 hi hab
  clear hk
  go_enter Tryd.func8, Tryd.ntmps8
  go_wp2_with fail
  refine HAW.out.mono ?_
  rintro e w1 ⟨rfl, hB1⟩
  have HB1 := Lib.hid hB1
  have HK1 := Lib.hid (HK.out.below hB1 HK.out.2.2)
  clear hB1 HAW
  have hnew : Calls Tryd.prog 22 #[.int .i64 4, .int .i64 100] w1 (NewR w1 4 100) := new_ok 4 100 (by omega) (by omega) (by omega) (by omega) w1
  have HNEW := Lib.hid hnew
  clear hnew
  go_wp2_with fail
  refine HNEW.out.mono ?_
  rintro e w2 ⟨f, rfl, hR, hB, h1, h2, h3, h4⟩
  have HLw2 := Lib.hid (Law.made HK.out HB1.out hR hB h2 h3 h4)
  clear hR hB h1 h2 h3 h4 HNEW
  have hT := txt_str w2 a ha
  have hL2 := HLw2.out.later hT.below
  have hs := sign_lit _ hL2.ring (k : Int) (i : Int) _ _ _ a hT.sees (Nat.le_refl _) hT.cap hT.max ha hL2.consts (by simp) HE.out (by simp) (by simp)
  have HS := Lib.hid hs
  have HL2 := Lib.hid hL2
  clear hs hL2 hT
  go_wp2_with fail
  refine HS.out.mono ?_
  rintro e w3 ⟨he, hR2, hT2⟩
  have HLw3 := Lib.hid (HL2.out.post hR2 hT2)
  clear hR2 hT2 HS HL2
  obtain ⟨cs1, hcs1⟩ : ∃ cs, cs = sigL (i : Int) (tagF (((k : Int), (i : Int)), a)) := ⟨_, rfl⟩
  rw [← hcs1] at he
  subst he
  have hcl1 : cs1.length = 33 := by rw [hcs1]; exact sigL_len _ _ (tagF_len _)
  have HI1 := cs_info hcl1
  have HZ1 := cs_size hcl1
  have HO1 : Hid (cs1.toArray.all (·.oneCell') = true) := Lib.hid (by rw [hcs1]; exact (sigL_one _ _).out)
  have HC1 := Lib.hid hcs1
  have hnew1 := HB.new w3 45 sigZ
  have hrow1 := row_new w3 cs1
  clear hcl1 hcs1
  go_upto_region 5 with (refine wpList_store_row rfl 45 _ _ rfl w3.heap.size cs1.toArray rfl rfl 45 _ hnew1 HI1.out HZ1.out HO1.out ?_)
  clear hnew1
  generalize (w3.alloc (.cells sigZ.toArray 45)).setRow w3.heap.size cs1.toArray = w4 at *
  have HLw4 := Lib.hid (HLw3.out.later hrow1.2)
  clear hrow1
  have hq : Calls Tryd.prog 31 #[.pointer (some ⟨f.r, 0, none⟩), .int .i64 (k : Int)] w4 fun e w' => e = .returned (.bool false) ∧ Below w4.heap.size w4 w' := reused_b w4 HLw4.out.ring k HK4.out false (by simp [reuB, cntL, cntU])
  have HQ := Lib.hid hq
  clear hq
  go_wp2_with fail
  refine HQ.out.mono ?_
  rintro e w5 ⟨rfl, hB⟩
  have HLw5 := Lib.hid (HLw4.out.later hB)
  clear hB HQ
  have hT := txt_str w5 a ha
  have hL2 := HLw5.out.later hT.below
  have hs := sign_old _ hL2.ring (k : Int) (i : Int) _ _ _ a hT.sees (Nat.le_refl _) hT.cap hT.max ha hL2.consts (by simp) HE.out (by simp)
  have HS := Lib.hid hs
  have HL2 := Lib.hid hL2
  clear hs hL2 hT
  go_wp2_with fail
  refine HS.out.mono ?_
  rintro e w6 ⟨he, hR2, hT2⟩
  have HLw6 := Lib.hid (HL2.out.post hR2 hT2)
  clear hR2 hT2 HS HL2
  subst he
  have hq : Calls Tryd.prog 31 #[.pointer (some ⟨f.r, 0, none⟩), .int .i64 (k : Int)] w6 fun e w' => e = .returned (.bool false) ∧ Below w6.heap.size w6 w' := reused_b w6 HLw6.out.ring k HK4.out false (by simp [reuB, cntL, cntU])
  have HQ := Lib.hid hq
  clear hq
  go_wp2_with fail
  refine HQ.out.mono ?_
  rintro e w7 ⟨rfl, hB⟩
  have HLw7 := Lib.hid (HLw6.out.later hB)
  clear hB HQ
  have hT := txt_str w7 b hb
  have hL2 := HLw7.out.later hT.below
  have hs := sign_more _ hL2.ring (k : Int) (i : Int) _ _ _ b hT.sees (Nat.le_refl _) hT.cap hT.max hb hL2.consts (by simp) HE.out (by simp; exact fun e => HAB.out e.symm) (by simp)
  have HS := Lib.hid hs
  have HL2 := Lib.hid hL2
  clear hs hL2 hT
  go_wp2_with fail
  refine HS.out.mono ?_
  rintro e w8 ⟨he, hR2, hT2⟩
  have HLw8 := Lib.hid (HL2.out.post hR2 hT2)
  clear hR2 hT2 HS HL2
  subst he
  have hq : Calls Tryd.prog 31 #[.pointer (some ⟨f.r, 0, none⟩), .int .i64 (k : Int)] w8 fun e w' => e = .returned (.bool true) ∧ Below w8.heap.size w8 w' := reused_b w8 HLw8.out.ring k HK4.out true (by simp [reuB, cntL, cntU])
  have HQ := Lib.hid hq
  clear hq
  go_wp2_with fail
  refine HQ.out.mono ?_
  rintro e w9 ⟨rfl, hB⟩
  have HLw9 := Lib.hid (HLw8.out.later hB)
  clear hB HQ
  have HFIN := Lib.hid HLw9.out.below
  go_wp2
  go_ret
  exact ⟨rfl, HFIN.out⟩

/-- SignReuse: whatever it is called with. -/
theorem reuse_law (W : World) (hk : Consts W) (k i : Int) (a b : List UInt8) (ha : a.length ≤ 140737488351232) (hb : b.length ≤ 140737488351232) :
    Calls Tryd.prog 8 #[.int .i64 k, .int .i64 i, .string (strB a), .string (strB b)] W (LawR W) := by
  by_cases h : sErr 4 100 (k, i) = 0
  · obtain ⟨⟨h1, h2⟩, h3, h4⟩ := sErr_zero.1 h
    simp only at h1 h2 h3 h4
    obtain ⟨k', rfl⟩ : ∃ k' : Nat, k = (k' : Int) := ⟨k.toNat, by omega⟩
    obtain ⟨i', rfl⟩ : ∃ i' : Nat, i = (i' : Int) := ⟨i.toNat, by omega⟩
    by_cases hab : a = b
    · exact reuse_same W hk k' i' (by omega) (by omega) a b ha hb hab
    · exact reuse_other W hk k' i' (by omega) (by omega) a b ha hb hab
  · exact reuse_bad W hk k i a b ha hb _ rfl h
end Go.Proofs.YthmkdlnocdbhjaaDoor
