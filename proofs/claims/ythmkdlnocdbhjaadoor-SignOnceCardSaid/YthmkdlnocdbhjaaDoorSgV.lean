/- wapentakelaw05.SignApart returns true. -/
import Derived.Test.YthmkdlnocdbhjaaDoorSgU
namespace Go.Proofs.YthmkdlnocdbhjaaDoor
open Go.RowKit

theorem chk_none (w : World) {f : Foot} {nk : Nat} {bud : Int} {U : List (Int × Int)} (h : RingW w f nk bud [] U) (k : Int) (hk : I64 k) (i : Int) (hi : I64 i) (B : Nat) (A : Option Addr) (c : Nat) (t : List UInt8) (hs : Sees w B 1 A t.length (bys t)) (hBw : B ≤ w.heap.size) (ht : t.length ≤ 140737488351232) (d : List UInt8) (hd : d.length = 32) :
    Calls Tryd.prog 26 #[.pointer (some ⟨f.r, 0, none⟩), .int .i64 k, .slice A t.length c, .agg (sigL i d).toArray] w (ChkR w false) := by
  have h1 := check_any w h k i hk hi B A c t hs hBw ht d hd
  rw [show chkB [] ((k, i), t) d = false by simp [chkB]] at h1
  exact h1
-- WALK

theorem chk_tag (w : World) {f : Foot} {nk : Nat} {bud : Int} {L : List Sg} {U : List (Int × Int)} (h : RingW w f nk bud L U) (k : Int) (hk : I64 k) (i : Int) (hi : I64 i) (B : Nat) (A : Option Addr) (c : Nat) (t : List UInt8) (hs : Sees w B 1 A t.length (bys t)) (hBw : B ≤ w.heap.size) (ht : t.length ≤ 140737488351232) (hm : ((k, i), t) ∈ L) :
    Calls Tryd.prog 26 #[.pointer (some ⟨f.r, 0, none⟩), .int .i64 k, .slice A t.length c, .agg (sigL i (tagF ((k, i), t))).toArray] w (ChkR w true) := by
  have h1 := check_any w h k i hk hi B A c t hs hBw ht _ (tagF_len ((k, i), t))
  rw [show chkB L ((k, i), t) (tagF ((k, i), t)) = true by simp [chkB, hm]] at h1
  exact h1

set_option maxRecDepth 20000 in
set_option maxHeartbeats 3200000 in
theorem apart_bad (W : World) (hk : Consts W) (k i : Int) (hk0 : I64 k) (hi0 : I64 i) (t : List UInt8) (ht : t.length ≤ 140737488351232) (n : Int) (hn : sErr 12 65536 (k, i) = n) (hn0 : n ≠ 0) :
    Calls Tryd.prog 9 #[.int .i64 k, .int .i64 i, .string (strB t)] W (LawR W) := by
  have hz := Tryd.zeroSig
  have hcs := conv_str
  have HK := Lib.hid hk
  have HAW := Lib.hid (awake_any W hk)
  have HKI := Lib.hid hk0
  have HII := Lib.hid hi0
  have HN := Lib.hid hn
  have hne : (n == 0) = false := by simpa using hn0
  have hne2 : (n != 0) = true := by simpa using hn0
  have HN0 := Lib.hid hn0
  clear hn hn0
  clear hk0 hi0
  clear hk
  go_enter Tryd.func9, Tryd.ntmps9
  go_wp2_with fail
  refine HAW.out.mono ?_
  rintro e w1 ⟨rfl, hB1⟩
  have HB1 := Lib.hid hB1
  have HK1 := Lib.hid (HK.out.below hB1 HK.out.2.2)
  clear hB1 HAW
  have hnew : Calls Tryd.prog 22 #[.int .i64 12, .int .i64 65536] w1 (NewR w1 12 65536) := new_ok 12 65536 (by omega) (by omega) (by omega) (by omega) w1
  have HNEW := Lib.hid hnew
  clear hnew
  go_wp2_with fail
  refine HNEW.out.mono ?_
  rintro e w2 ⟨f, rfl, hR, hB, h1, h2, h3, h4⟩
  have HLw2 := Lib.hid (Law.made HK.out HB1.out hR hB h2 h3 h4)
  clear hR hB h1 h2 h3 h4 HNEW
  have hnew : Calls Tryd.prog 22 #[.int .i64 12, .int .i64 65536] w2 (NewR w2 12 65536) := new_ok 12 65536 (by omega) (by omega) (by omega) (by omega) w2
  have HNEW := Lib.hid hnew
  clear hnew
  go_wp2_with fail
  refine HNEW.out.mono ?_
  rintro e w3 ⟨o, rfl, hR, hB, h1, h2, h3, h4⟩
  have hm := mine_lt HLw2.out.ring
  have HAP := Lib.hid (show (¬ f.mine o.r ∧ ¬ f.mine o.K) ∧ ¬ f.mine o.T ∧ ¬ f.mine o.U from ⟨⟨fun h => by have := hm _ h; omega, fun h => by have := hm _ h; omega⟩, fun h => by have := hm _ h; omega, fun h => by have := hm _ h; omega⟩)
  have HO3 := Lib.hid hR
  have HLw3 := Lib.hid (HLw2.out.later hB)
  clear hm hR hB h1 h2 h3 h4 HNEW
  have hT := txt_str w3 t ht
  have hL2 := HLw3.out.later hT.below
  have hs := sign_bad _ hL2.ring k i _ _ _ t hT.sees (Nat.le_refl _) hT.cap hT.max ht hL2.consts (by simp) n HN.out HN0.out
  have HS := Lib.hid hs
  have HL2 := Lib.hid hL2
  have hT0 := hT.below
  clear hs hL2 hT
  go_wp2_with fail
  refine HS.out.mono ?_
  rintro e w4 ⟨he, hR2, hT2⟩
  have HLw4 := Lib.hid (HL2.out.post hR2 hT2)
  have HO4 := Lib.hid ((HO3.out.below hT0).turn hT2 HAP.out.1.1 HAP.out.1.2 HAP.out.2.1 HAP.out.2.2)
  clear hR2 hT2 HS HL2
  clear hT0
  obtain ⟨cs1, hcs1⟩ : ∃ cs, cs = sigZ := ⟨_, rfl⟩
  rw [← hcs1] at he
  subst he
  have hcl1 : cs1.length = 33 := by rw [hcs1]; exact sigZ_len
  have HI1 := cs_info hcl1
  have HZ1 := cs_size hcl1
  have HO1 : Hid (cs1.toArray.all (·.oneCell') = true) := Lib.hid (by rw [hcs1]; exact (sigL_one _ _).out)
  have HC1 := Lib.hid hcs1
  have hnew1 := HB.new w4 45 sigZ
  have hrow1 := row_new w4 cs1
  clear hcl1 hcs1
  go_upto_region 6 with (refine wpList_store_row rfl 45 _ _ rfl w4.heap.size cs1.toArray rfl rfl 45 _ hnew1 HI1.out HZ1.out HO1.out ?_)
  clear hnew1
  generalize (w4.alloc (.cells sigZ.toArray 45)).setRow w4.heap.size cs1.toArray = w5 at *
  have HLw5 := Lib.hid (HLw4.out.later hrow1.2)
  have HO5 := Lib.hid (HO4.out.below hrow1.2)
  have HR5 := Lib.hid hrow1.1
  clear hrow1
  have hT := txt_str w5 t ht
  have hL2 := HLw5.out.later hT.below
  have hO2 := HO5.out.below hT.below
  have hch : Calls Tryd.prog 26 #[.pointer (some ⟨o.r, 0, none⟩), .int .i64 k, .slice (some ⟨w5.heap.size, 0, none⟩) t.length (grownCap w5 t.length 0 5), .agg cs1.toArray] (Lib.bytesWorld w5 5 (strB t)) (ChkR (Lib.bytesWorld w5 5 (strB t)) false) := by
    rw [HC1.out]
    exact chk_none _ hO2 k HKI.out 0 ⟨by omega, by omega⟩ _ _ _ t hT.sees (Nat.le_refl _) ht (zeros 32) (zeros_len 32)
  have HCH := Lib.hid hch
  have HL2 := Lib.hid hL2
  have HO2 := Lib.hid hO2
  have hr2 := HR5.out.below hT.below HR5.out.lt
  have HR2 := Lib.hid hr2
  have hld := load_hb hr2 Tryd.underlying45 rfl (by rw [HC1.out]; exact (by rw [sigZ_len]; exact Tryd.sizeSig))
  have HLD := Lib.hid hld
  clear hch hL2 hO2 hr2 hld hT
  go_wp2_with (refine wpList_load_g (by rfl) 45 _ rfl w4.heap.size 0 rfl _ HLD.out ?_)
  refine HCH.out.mono ?_
  rintro e w6 ⟨rfl, hB⟩
  have HLw6 := Lib.hid (HL2.out.later hB)
  have HO6 := Lib.hid (HO2.out.below hB)
  have HR6 := Lib.hid (HR2.out.below hB HR2.out.lt)
  clear hB HCH HLD HL2 HO2 HR2
  have hT := txt_str w6 t ht
  have hL2 := HLw6.out.later hT.below
  have hO2 := HO6.out.below hT.below
  have hch : Calls Tryd.prog 26 #[.pointer (some ⟨f.r, 0, none⟩), .int .i64 k, .slice (some ⟨w6.heap.size, 0, none⟩) t.length (grownCap w6 t.length 0 5), .agg cs1.toArray] (Lib.bytesWorld w6 5 (strB t)) (ChkR (Lib.bytesWorld w6 5 (strB t)) false) := by
    rw [HC1.out]
    exact chk_none _ hL2.ring k HKI.out 0 ⟨by omega, by omega⟩ _ _ _ t hT.sees (Nat.le_refl _) ht (zeros 32) (zeros_len 32)
  have HCH := Lib.hid hch
  have HL2 := Lib.hid hL2
  have HO2 := Lib.hid hO2
  have hr2 := HR6.out.below hT.below HR6.out.lt
  have HR2 := Lib.hid hr2
  have hld := load_hb hr2 Tryd.underlying45 rfl (by rw [HC1.out]; exact (by rw [sigZ_len]; exact Tryd.sizeSig))
  have HLD := Lib.hid hld
  clear hch hL2 hO2 hr2 hld hT
  go_wp2_with (refine wpList_load_g (by rfl) 45 _ rfl w4.heap.size 0 rfl _ HLD.out ?_)
  refine HCH.out.mono ?_
  rintro e w7 ⟨rfl, hB⟩
  have HLw7 := Lib.hid (HL2.out.later hB)
  have HO7 := Lib.hid (HO2.out.below hB)
  have HR7 := Lib.hid (HR2.out.below hB HR2.out.lt)
  clear hB HCH HLD HL2 HO2 HR2
  have hmd := made_0 w7 HO7.out k
  have HMD := Lib.hid hmd
  clear hmd
  go_wp2_with fail
  refine HMD.out.mono ?_
  rintro e w' ⟨rfl, rfl⟩
  clear HMD
  have HFIN := Lib.hid HLw7.out.below
  go_wp2
  go_ret
  exact ⟨rfl, HFIN.out⟩

set_option maxRecDepth 20000 in
set_option maxHeartbeats 3200000 in
theorem apart_ok (W : World) (hk : Consts W) (k i : Int) (hk0 : I64 k) (hi0 : I64 i) (t : List UInt8) (ht : t.length ≤ 140737488351232) (hE : sErr 12 65536 (k, i) = 0) :
    Calls Tryd.prog 9 #[.int .i64 k, .int .i64 i, .string (strB t)] W (LawR W) := by
  have hz := Tryd.zeroSig
  have hcs := conv_str
  have HK := Lib.hid hk
  have HAW := Lib.hid (awake_any W hk)
  have HKI := Lib.hid hk0
  have HII := Lib.hid hi0
  have HE := Lib.hid hE
  clear hE
  clear hk0 hi0
  clear hk
  go_enter Tryd.func9, Tryd.ntmps9
  go_wp2_with fail
  refine HAW.out.mono ?_
  rintro e w1 ⟨rfl, hB1⟩
  have HB1 := Lib.hid hB1
  have HK1 := Lib.hid (HK.out.below hB1 HK.out.2.2)
  clear hB1 HAW
  have hnew : Calls Tryd.prog 22 #[.int .i64 12, .int .i64 65536] w1 (NewR w1 12 65536) := new_ok 12 65536 (by omega) (by omega) (by omega) (by omega) w1
  have HNEW := Lib.hid hnew
  clear hnew
  go_wp2_with fail
  refine HNEW.out.mono ?_
  rintro e w2 ⟨f, rfl, hR, hB, h1, h2, h3, h4⟩
  have HLw2 := Lib.hid (Law.made HK.out HB1.out hR hB h2 h3 h4)
  clear hR hB h1 h2 h3 h4 HNEW
  have hnew : Calls Tryd.prog 22 #[.int .i64 12, .int .i64 65536] w2 (NewR w2 12 65536) := new_ok 12 65536 (by omega) (by omega) (by omega) (by omega) w2
  have HNEW := Lib.hid hnew
  clear hnew
  go_wp2_with fail
  refine HNEW.out.mono ?_
  rintro e w3 ⟨o, rfl, hR, hB, h1, h2, h3, h4⟩
  have hm := mine_lt HLw2.out.ring
  have HAP := Lib.hid (show (¬ f.mine o.r ∧ ¬ f.mine o.K) ∧ ¬ f.mine o.T ∧ ¬ f.mine o.U from ⟨⟨fun h => by have := hm _ h; omega, fun h => by have := hm _ h; omega⟩, fun h => by have := hm _ h; omega, fun h => by have := hm _ h; omega⟩)
  have HO3 := Lib.hid hR
  have HLw3 := Lib.hid (HLw2.out.later hB)
  clear hm hR hB h1 h2 h3 h4 HNEW
  have hT := txt_str w3 t ht
  have hL2 := HLw3.out.later hT.below
  have hs := sign_lit _ hL2.ring k i _ _ _ t hT.sees (Nat.le_refl _) hT.cap hT.max ht hL2.consts (by simp) HE.out (by simp) (by simp)
  have HS := Lib.hid hs
  have HL2 := Lib.hid hL2
  have hT0 := hT.below
  clear hs hL2 hT
  go_wp2_with fail
  refine HS.out.mono ?_
  rintro e w4 ⟨he, hR2, hT2⟩
  have HLw4 := Lib.hid (HL2.out.post hR2 hT2)
  have HO4 := Lib.hid ((HO3.out.below hT0).turn hT2 HAP.out.1.1 HAP.out.1.2 HAP.out.2.1 HAP.out.2.2)
  clear hR2 hT2 HS HL2
  clear hT0
  obtain ⟨cs1, hcs1⟩ : ∃ cs, cs = sigL i (tagF ((k, i), t)) := ⟨_, rfl⟩
  rw [← hcs1] at he
  subst he
  have hcl1 : cs1.length = 33 := by rw [hcs1]; exact sigL_len _ _ (tagF_len _)
  have HI1 := cs_info hcl1
  have HZ1 := cs_size hcl1
  have HO1 : Hid (cs1.toArray.all (·.oneCell') = true) := Lib.hid (by rw [hcs1]; exact (sigL_one _ _).out)
  have HC1 := Lib.hid hcs1
  have hnew1 := HB.new w4 45 sigZ
  have hrow1 := row_new w4 cs1
  clear hcl1 hcs1
  go_upto_region 6 with (refine wpList_store_row rfl 45 _ _ rfl w4.heap.size cs1.toArray rfl rfl 45 _ hnew1 HI1.out HZ1.out HO1.out ?_)
  clear hnew1
  generalize (w4.alloc (.cells sigZ.toArray 45)).setRow w4.heap.size cs1.toArray = w5 at *
  have HLw5 := Lib.hid (HLw4.out.later hrow1.2)
  have HO5 := Lib.hid (HO4.out.below hrow1.2)
  have HR5 := Lib.hid hrow1.1
  clear hrow1
  have hT := txt_str w5 t ht
  have hL2 := HLw5.out.later hT.below
  have hO2 := HO5.out.below hT.below
  have hch : Calls Tryd.prog 26 #[.pointer (some ⟨o.r, 0, none⟩), .int .i64 k, .slice (some ⟨w5.heap.size, 0, none⟩) t.length (grownCap w5 t.length 0 5), .agg cs1.toArray] (Lib.bytesWorld w5 5 (strB t)) (ChkR (Lib.bytesWorld w5 5 (strB t)) false) := by
    rw [HC1.out]
    exact chk_none _ hO2 k HKI.out i HII.out _ _ _ t hT.sees (Nat.le_refl _) ht (tagF ((k, i), t)) (tagF_len _)
  have HCH := Lib.hid hch
  have HL2 := Lib.hid hL2
  have HO2 := Lib.hid hO2
  have hr2 := HR5.out.below hT.below HR5.out.lt
  have HR2 := Lib.hid hr2
  have hld := load_hb hr2 Tryd.underlying45 rfl (by rw [HC1.out]; exact (by rw [sigL_len _ _ (tagF_len _)]; exact Tryd.sizeSig))
  have HLD := Lib.hid hld
  clear hch hL2 hO2 hr2 hld hT
  go_wp2_with (refine wpList_load_g (by rfl) 45 _ rfl w4.heap.size 0 rfl _ HLD.out ?_)
  refine HCH.out.mono ?_
  rintro e w6 ⟨rfl, hB⟩
  have HLw6 := Lib.hid (HL2.out.later hB)
  have HO6 := Lib.hid (HO2.out.below hB)
  have HR6 := Lib.hid (HR2.out.below hB HR2.out.lt)
  clear hB HCH HLD HL2 HO2 HR2
  have hT := txt_str w6 t ht
  have hL2 := HLw6.out.later hT.below
  have hO2 := HO6.out.below hT.below
  have hch : Calls Tryd.prog 26 #[.pointer (some ⟨f.r, 0, none⟩), .int .i64 k, .slice (some ⟨w6.heap.size, 0, none⟩) t.length (grownCap w6 t.length 0 5), .agg cs1.toArray] (Lib.bytesWorld w6 5 (strB t)) (ChkR (Lib.bytesWorld w6 5 (strB t)) true) := by
    rw [HC1.out]
    exact chk_tag _ hL2.ring k HKI.out i HII.out _ _ _ t hT.sees (Nat.le_refl _) ht (by simp)
  have HCH := Lib.hid hch
  have HL2 := Lib.hid hL2
  have HO2 := Lib.hid hO2
  have hr2 := HR6.out.below hT.below HR6.out.lt
  have HR2 := Lib.hid hr2
  have hld := load_hb hr2 Tryd.underlying45 rfl (by rw [HC1.out]; exact (by rw [sigL_len _ _ (tagF_len _)]; exact Tryd.sizeSig))
  have HLD := Lib.hid hld
  clear hch hL2 hO2 hr2 hld hT
  go_wp2_with (refine wpList_load_g (by rfl) 45 _ rfl w4.heap.size 0 rfl _ HLD.out ?_)
  refine HCH.out.mono ?_
  rintro e w7 ⟨rfl, hB⟩
  have HLw7 := Lib.hid (HL2.out.later hB)
  have HO7 := Lib.hid (HO2.out.below hB)
  have HR7 := Lib.hid (HR2.out.below hB HR2.out.lt)
  clear hB HCH HLD HL2 HO2 HR2
  have hmd := made_0 w7 HO7.out k
  have HMD := Lib.hid hmd
  clear hmd
  go_wp2_with fail
  refine HMD.out.mono ?_
  rintro e w' ⟨rfl, rfl⟩
  clear HMD
  have HFIN := Lib.hid HLw7.out.below
  go_wp2
  go_ret
  exact ⟨rfl, HFIN.out⟩

/-- SignApart: whatever it is called with. -/
theorem apart_law (W : World) (hk : Consts W) (k i : Int) (t : List UInt8) (hk0 : I64 k) (hi0 : I64 i) (ht : t.length ≤ 140737488351232) :
    Calls Tryd.prog 9 #[.int .i64 k, .int .i64 i, .string (strB t)] W (LawR W) := by
  by_cases h : sErr 12 65536 (k, i) = 0
  · exact apart_ok W hk k i hk0 hi0 t ht h
  · exact apart_bad W hk k i hk0 hi0 t ht _ rfl h
end Go.Proofs.YthmkdlnocdbhjaaDoor
