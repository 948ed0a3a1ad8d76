/- wapentakelaw05.awake returns true. -/
import Derived.Test.YtkhbogccmngmmaaDoorSgL
import Derived.Test.YtkhbogccmngmmaaDoorSgW
import Derived.Deep.DeepCutAuto
namespace Go.Proofs.YtkhbogccmngmmaaDoor
open Go.RowKit

/-- A ring that a law made in a world that was W. -/
structure Law (W w : World) (f : Foot) (nk : Nat) (bud : Int) (L : List Sg) (U : List (Int × Int)) : Prop where
  ring : RingW w f nk bud L U
  below : Below W.heap.size W w
  high : ∀ b, f.mine b → W.heap.size ≤ b
  consW : Consts W
section
variable {W w w' : World} {f : Foot} {nk : Nat} {bud : Int} {L L' : List Sg} {U U' : List (Int × Int)}
theorem Law.consts (h : Law W w f nk bud L U) : Consts w := h.consW.below h.below h.consW.2.2
theorem Law.later (h : Law W w f nk bud L U) (hB : Below w.heap.size w w') : Law W w' f nk bud L U := ⟨h.ring.below hB, h.below.trans (hB.mono h.below.size), h.high, h.consW⟩
theorem Law.post (h : Law W w f nk bud L U) (hR : RingW w' f nk bud L' U') (hT : Turn f.mine w w') : Law W w' f nk bud L' U' :=
  ⟨hR, h.below.trans (hT.below h.below.size fun b hb hm => by have := h.high b hm; omega), h.high, h.consW⟩
theorem Law.postS (h : Law W w f nk bud L U) {g : Nat} (hg : W.heap.size ≤ g) (hR : RingW w' f nk bud L' U') (hT : Turn (fun b => f.mine b ∨ b = g) w w') : Law W w' f nk bud L' U' :=
  ⟨hR, h.below.trans (hT.below h.below.size fun b hb hm => by
    rcases hm with hm | rfl
    · have := h.high b hm; omega
    · omega), h.high, h.consW⟩
theorem Law.made {f : Foot} (hk : Consts W) (hB0 : Below W.heap.size W w) (hR : RingW w' f nk bud [] []) (hB : Below w.heap.size w w') (h1 : w.heap.size ≤ f.K) (h2 : w.heap.size ≤ f.T) (h3 : w.heap.size ≤ f.U) : Law W w' f nk bud [] [] :=
  ⟨hR, hB0.trans (hB.mono hB0.size), fun b hb => by
    have := hB0.size
    rcases hb with rfl | rfl | rfl <;> omega, hk⟩
end
/-- 's, e := ..': the row of s. -/
theorem row_new (w : World) (cs : List Value) : HB ((w.alloc (.cells sigZ.toArray 61)).setRow w.heap.size cs.toArray) w.heap.size 61 cs ∧ Below w.heap.size w ((w.alloc (.cells sigZ.toArray 61)).setRow w.heap.size cs.toArray) :=
  ⟨(HB.new w 61 sigZ).row cs.toArray, Below.setRow_ (below_alloc1 _ _) (Nat.le_refl _) _⟩
theorem cs_info {cs : List Value} (h : cs.length = 33) : Hid ((Tryd.prog.info? 61).map (·.size) = some cs.toArray.size) := Lib.hid (by rw [List.size_toArray, h]; exact Tryd.sizeSig)
theorem cs_size {cs : List Value} (h : cs.length = 33) : Hid (sigZ.toArray.size = cs.toArray.size) := Lib.hid (by rw [List.size_toArray, List.size_toArray, h, sigZ_len])

section
variable {f : Foot} {nk : Nat} {bud : Int} {L : List Sg} {U : List (Int × Int)}
/-- Sign at a place that was not used. -/
theorem sign_lit (w : World) (h : RingW w f nk bud L U) (k i : Int) (B : Nat) (A : Option Addr) (c : Nat) (t : List UInt8) (hs : Sees w B 1 A t.length (bys t)) (hBw : B ≤ w.heap.size) (hc : t.length ≤ c) (hcm : c ≤ 9223372036854775807) (ht : t.length ≤ 140737488351232) (hk2 : Consts w) (hfew : L.length < 4611686018427387904)
    (he : sErr nk bud (k, i) = 0) (hL : ((k, i), t) ∉ L) (hU : (k, i) ∉ U) :
    Calls Tryd.prog 27 #[.pointer (some ⟨f.r, 0, none⟩), .int .i64 k, .int .i64 i, .slice A t.length c] w (SPost f nk bud (L ++ [((k, i), t)]) (U ++ [(k, i)]) (sigL i (tagF ((k, i), t))) 0 w) := by
  have h1 := sign_all w h k i B A c t hs hBw hc hcm ht hk2 hfew
  unfold sL sU sC signL signU at h1
  simp only [he, if_true, if_neg hL, if_neg hU] at h1
  exact h1
theorem sign_bad (w : World) (h : RingW w f nk bud L U) (k i : Int) (B : Nat) (A : Option Addr) (c : Nat) (t : List UInt8) (hs : Sees w B 1 A t.length (bys t)) (hBw : B ≤ w.heap.size) (hc : t.length ≤ c) (hcm : c ≤ 9223372036854775807) (ht : t.length ≤ 140737488351232) (hk2 : Consts w) (hfew : L.length < 4611686018427387904)
    (n : Int) (he : sErr nk bud (k, i) = n) (hn : n ≠ 0) :
    Calls Tryd.prog 27 #[.pointer (some ⟨f.r, 0, none⟩), .int .i64 k, .int .i64 i, .slice A t.length c] w (SPost f nk bud L U sigZ n w) := by
  have h1 := sign_all w h k i B A c t hs hBw hc hcm ht hk2 hfew
  unfold sL sU sC at h1
  simp only [he, if_neg hn] at h1
  exact h1
theorem ssign_lit (w : World) (h : RingW w f nk bud L U) (k : Nat) (hk : k < nk) (n : Int) (hn0 : 0 ≤ n) (g : Nat) (hg : SigW w g f k n) (A : Option Addr) (c : Nat) (t : List UInt8) (hT : Txt w w A c t) (ht : t.length ≤ 140737488351232) (hk2 : Consts w) (hfew : L.length < 4611686018427387904)
    (hb : n < bud) (hL : (((k : Int), n), t) ∉ L) (hU : ((k : Int), n) ∉ U) :
    Calls Tryd.prog 32 #[.pointer (some ⟨g, 0, none⟩), .slice A t.length c] w (fun e w' => e = .returned (.tuple #[.agg (sigL n (tagF (((k : Int), n), t))).toArray, .int .i64 0]) ∧ RingW w' f nk bud (L ++ [(((k : Int), n), t)]) (U ++ [((k : Int), n)]) ∧ SigW w' g f k (n + 1) ∧ Turn (fun b => f.mine b ∨ b = g) w w') := by
  have h1 := ssign_all w h k hk n hn0 g hg A c t hT ht hk2 hfew
  have he : sErr nk bud ((k : Int), n) = 0 := sErr_zero.2 ⟨⟨by simp, by simp; omega⟩, hn0, hb⟩
  unfold sC signL signU at h1
  simp only [he, if_true, if_neg hL, if_neg hU, if_pos hb] at h1
  exact h1
theorem ssign_bad (w : World) (h : RingW w f nk bud L U) (k : Nat) (hk : k < nk) (n : Int) (hn0 : 0 ≤ n) (g : Nat) (hg : SigW w g f k n) (A : Option Addr) (c : Nat) (t : List UInt8) (hT : Txt w w A c t) (ht : t.length ≤ 140737488351232) (hk2 : Consts w) (hfew : L.length < 4611686018427387904)
    (hb : bud ≤ n) :
    Calls Tryd.prog 32 #[.pointer (some ⟨g, 0, none⟩), .slice A t.length c] w (fun e w' => e = .returned (.tuple #[.agg sigZ.toArray, .int .i64 17]) ∧ RingW w' f nk bud L U ∧ SigW w' g f k n ∧ Turn (fun b => f.mine b ∨ b = g) w w') := by
  have h1 := ssign_all w h k hk n hn0 g hg A c t hT ht hk2 hfew
  have he : sErr nk bud ((k : Int), n) ≠ 0 := fun h => by have := sErr_zero.1 h; omega
  unfold sC at h1
  rw [if_neg he, if_neg (by omega), if_neg (by omega), if_neg (by omega), if_neg (by omega)] at h1
  exact h1
end

set_option maxRecDepth 20000 in
set_option maxHeartbeats 3200000 in
theorem awake_any (W : World) (hk : Consts W) : Calls Tryd.prog 24 #[] W fun e w' => e = .returned (.bool true) ∧ Below W.heap.size W w' := by
  have hz := Tryd.zeroSig
  have hb1 := build_b1
  have kc := fun (w : World) (C : Array Value) (n c : Nat) => Lib.run_convert_bytes_const (P := Tryd.prog) w 31 5 C n c Tryd.underlying31 Tryd.underlying5
  have HK := Lib.hid hk
  have hnew : Calls Tryd.prog 25 #[.int .i64 2, .int .i64 3] W (NewR W 2 3) := new_ok 2 3 (by omega) (by omega) (by omega) (by omega) W
  have HNEW := Lib.hid hnew
  clear hk hnew
  go_enter Tryd.func24, Tryd.ntmps24
  go_wp2_with fail
  refine HNEW.out.mono ?_
  rintro e w1 ⟨f, rfl, hR, hB, h1, h2, h3, h4⟩
  have HL1 := Lib.hid (Law.made HK.out (Below.refl _ _) hR hB h2 h3 h4)
  have HF := Lib.hid h1
  clear hR hB h1 h2 h3 h4 HNEW
  have hno := Lib.hid (new_no 0 3 (.inl (by omega)) w1)
  go_wp2_with fail
  refine hno.out.mono ?_
  rintro e w' ⟨rfl, rfl⟩
  clear hno
  have hT := txt_one w1 97 (1, 2)
  have hL2 := HL1.out.later hT.below
  have hs : Calls Tryd.prog 27 #[.pointer (some ⟨f.r, 0, none⟩), .int .i64 0, .int .i64 2, .slice (some ⟨w1.heap.size, 0, none⟩) 1 1] (w1.alloc (.cells #[by_ 97] 5 (1, 2))) (SPost f 2 3 [((0, 2), [97])] [(0, 2)] (sigL 2 (tagF ((0, 2), [97]))) 0 (w1.alloc (.cells #[by_ 97] 5 (1, 2)))) := sign_lit _ hL2.ring 0 2 _ _ _ [97] hT.sees (Nat.le_refl _) hT.cap hT.max (by simp) hL2.consts (by simp) (by decide) (by simp) (by simp)
  have HS := Lib.hid hs
  have HL2 := Lib.hid hL2
  clear hs hL2 hT
  go_wp2_with fail
  refine HS.out.mono ?_
  rintro e w2 ⟨he, hR2, hT2⟩
  have HL3 := Lib.hid (HL2.out.post hR2 hT2)
  clear hR2 hT2 HS
  obtain ⟨cs1, hcs1⟩ : ∃ cs, cs = sigL 2 (tagF ((0, 2), [97])) := ⟨_, rfl⟩
  rw [← hcs1] at he
  subst he
  have hcl1 : cs1.length = 33 := by rw [hcs1]; exact sigL_len _ _ (tagF_len _)
  have HI1 := cs_info hcl1
  have HZ1 := cs_size hcl1
  have HO1 : Hid (cs1.toArray.all (·.oneCell') = true) := Lib.hid (by rw [hcs1]; exact (sigL_one _ _).out)
  have HC1 := Lib.hid hcs1
  have hnew1 := HB.new w2 61 sigZ
  have hrow1 := row_new w2 cs1
  clear hcl1 hcs1
  go_upto_region 5 with (refine wpList_store_row rfl 61 _ _ rfl w2.heap.size cs1.toArray rfl rfl 61 _ hnew1 HI1.out HZ1.out HO1.out ?_)
  clear hnew1
  generalize (w2.alloc (.cells sigZ.toArray 61)).setRow w2.heap.size cs1.toArray = w3 at *
  have HLn := Lib.hid (HL3.out.later hrow1.2)
  have HR1 := Lib.hid (hrow1.1)
  clear hrow1
  have hT := txt_one w3 97 (1, 2)
  have hL2 := HLn.out.later hT.below
  have hs : Calls Tryd.prog 27 #[.pointer (some ⟨f.r, 0, none⟩), .int .i64 0, .int .i64 3, .slice (some ⟨w3.heap.size, 0, none⟩) 1 1] (w3.alloc (.cells #[by_ 97] 5 (1, 2))) (SPost f 2 3 [((0, 2), [97])] [(0, 2)] sigZ 17 (w3.alloc (.cells #[by_ 97] 5 (1, 2)))) := sign_bad _ hL2.ring 0 3 _ _ _ [97] hT.sees (Nat.le_refl _) hT.cap hT.max (by simp) hL2.consts (by simp) 17 (by decide) (by decide)
  have HS := Lib.hid hs
  have HL4 := Lib.hid hL2
  have HR2 := Lib.hid (HR1.out.below hT.below HR1.out.lt)
  clear hs hL2 hT HLn
  go_wp2_with fail
  refine HS.out.mono ?_
  rintro e w4 ⟨he, hR2, hT2⟩
  have HL5 := Lib.hid (HL4.out.post hR2 hT2)
  have HR3 := Lib.hid (HR2.out.keep (hT2.block _ HR2.out.lt (cells_ne HR2.out HL4.out.ring (by decide))))
  clear hR2 hT2 HS
  obtain ⟨cs2, hcs2⟩ : ∃ cs, cs = sigZ := ⟨_, rfl⟩
  rw [← hcs2] at he
  subst he
  have hcl2 : cs2.length = 33 := by rw [hcs2]; exact sigZ_len
  have HI2 := cs_info hcl2
  have HZ2 := cs_size hcl2
  have HO2 : Hid (cs2.toArray.all (·.oneCell') = true) := Lib.hid (by rw [hcs2]; exact (sigL_one _ _).out)
  have HC2 := Lib.hid hcs2
  have hnew2 := HB.new w4 61 sigZ
  have hrow2 := row_new w4 cs2
  clear hcl2 hcs2
  go_upto_region 6 with (refine wpList_store_row rfl 61 _ _ rfl w4.heap.size cs2.toArray rfl rfl 61 _ hnew2 HI2.out HZ2.out HO2.out ?_)
  clear hnew2
  generalize (w4.alloc (.cells sigZ.toArray 61)).setRow w4.heap.size cs2.toArray = w5 at *
  have HLn := Lib.hid (HL5.out.later hrow2.2)
  have HR4 := Lib.hid (HR3.out.below hrow2.2 HR3.out.lt)
  clear hrow2
  have hsg : Calls Tryd.prog 31 #[.pointer (some ⟨f.r, 0, none⟩), .int .i64 1, .int .i64 2] w5 (NewS w5 f 1 2) := signer_ok w5 HLn.out.ring 1 (by omega) 2
  have HSG := Lib.hid hsg
  clear hsg
  go_wp2_with fail
  refine HSG.out.mono ?_
  rintro e w6 ⟨g, rfl, hg6, hB6, hgh⟩
  have HL7 := Lib.hid (HLn.out.later hB6)
  have HG7 := Lib.hid hg6
  have HGH := Lib.hid (show W.heap.size ≤ g from Nat.le_trans HLn.out.below.size hgh)
  have HR5 := Lib.hid (HR4.out.below hB6 HR4.out.lt)
  clear hg6 hB6 hgh HSG HLn
  have hT := txt_one w6 120 (1, 2)
  have hL2 := HL7.out.later hT.below
  have hG := HB.below HG7.out hT.below HG7.out.lt
  have hs : Calls Tryd.prog 32 #[.pointer (some ⟨g, 0, none⟩), .slice (some ⟨w6.heap.size, 0, none⟩) 1 1] (w6.alloc (.cells #[by_ 120] 5 (1, 2))) (fun e w' => e = .returned (.tuple #[.agg (sigL 2 (tagF ((1, 2), [120]))).toArray, .int .i64 0]) ∧ RingW w' f 2 3 [((0, 2), [97]), ((1, 2), [120])] [(0, 2), (1, 2)] ∧ SigW w' g f 1 3 ∧ Turn (fun b => f.mine b ∨ b = g) (w6.alloc (.cells #[by_ 120] 5 (1, 2))) w') := ssign_lit _ hL2.ring 1 (by omega) 2 (by omega) g hG _ _ [120] ⟨hT.sees, Below.refl _ _, hT.cap, hT.max⟩ (by simp) hL2.consts (by simp) (by omega) (by simp) (by simp)
  have HS := Lib.hid hs
  have HL8 := Lib.hid hL2
  have HR6 := Lib.hid (HR5.out.below hT.below HR5.out.lt)
  clear hs hL2 hT hG
  go_wp2_with fail
  refine HS.out.mono ?_
  rintro e w7 ⟨he, hR2, hG2, hT2⟩
  have HL9 := Lib.hid (HL8.out.postS HGH.out hR2 hT2)
  have HG9 := Lib.hid hG2
  have HR7 := Lib.hid (HR6.out.keep (hT2.block _ HR6.out.lt (fun hb => by
    rcases hb with hb | hb
    · exact cells_ne HR6.out HL8.out.ring (by decide) hb
    · exact hb_ne HR5.out HG7.out (by decide) hb)))
  clear hR2 hT2 hG2 HS
  obtain ⟨cs3, hcs3⟩ : ∃ cs, cs = sigL 2 (tagF ((1, 2), [120])) := ⟨_, rfl⟩
  rw [← hcs3] at he
  subst he
  have hcl3 : cs3.length = 33 := by rw [hcs3]; exact sigL_len _ _ (tagF_len _)
  have HI3 := cs_info hcl3
  have HZ3 := cs_size hcl3
  have HO3 : Hid (cs3.toArray.all (·.oneCell') = true) := Lib.hid (by rw [hcs3]; exact (sigL_one _ _).out)
  have HC3 := Lib.hid hcs3
  have hnew3 := HB.new w7 61 sigZ
  have hrow3 := row_new w7 cs3
  clear hcl3 hcs3
  go_upto_region 10 with (refine wpList_store_row rfl 61 _ _ rfl w7.heap.size cs3.toArray rfl rfl 61 _ hnew3 HI3.out HZ3.out HO3.out ?_)
  clear hnew3
  generalize (w7.alloc (.cells sigZ.toArray 61)).setRow w7.heap.size cs3.toArray = w8 at *
  have HLn := Lib.hid (HL9.out.later hrow3.2)
  have HR8 := Lib.hid (HR7.out.below hrow3.2 HR7.out.lt)
  have HG10 := Lib.hid (HB.below HG9.out hrow3.2 HG9.out.lt)
  clear hrow3
  have hT := txt_one w8 121 (1, 2)
  have hL2 := HLn.out.later hT.below
  have hG := HB.below HG10.out hT.below HG10.out.lt
  have hs : Calls Tryd.prog 32 #[.pointer (some ⟨g, 0, none⟩), .slice (some ⟨w8.heap.size, 0, none⟩) 1 1] (w8.alloc (.cells #[by_ 121] 5 (1, 2))) (fun e w' => e = .returned (.tuple #[.agg sigZ.toArray, .int .i64 17]) ∧ RingW w' f 2 3 [((0, 2), [97]), ((1, 2), [120])] [(0, 2), (1, 2)] ∧ SigW w' g f 1 3 ∧ Turn (fun b => f.mine b ∨ b = g) (w8.alloc (.cells #[by_ 121] 5 (1, 2))) w') := ssign_bad _ hL2.ring 1 (by omega) 3 (by omega) g hG _ _ [121] ⟨hT.sees, Below.refl _ _, hT.cap, hT.max⟩ (by simp) hL2.consts (by simp) (by omega)
  have HS := Lib.hid hs
  have HL10 := Lib.hid hL2
  have HR9 := Lib.hid (HR8.out.below hT.below HR8.out.lt)
  clear hs hL2 hT hG HLn
  go_wp2_with fail
  refine HS.out.mono ?_
  rintro e w9 ⟨he, hR2, hG2, hT2⟩
  have HL11 := Lib.hid (HL10.out.postS HGH.out hR2 hT2)
  have HG11 := Lib.hid hG2
  have HR10 := Lib.hid (HR9.out.keep (hT2.block _ HR9.out.lt (fun hb => by
    rcases hb with hb | hb
    · exact cells_ne HR9.out HL10.out.ring (by decide) hb
    · exact hb_ne HR8.out HG10.out (by decide) hb)))
  clear hR2 hT2 hG2 HS
  obtain ⟨cs4, hcs4⟩ : ∃ cs, cs = sigZ := ⟨_, rfl⟩
  rw [← hcs4] at he
  subst he
  have hcl4 : cs4.length = 33 := by rw [hcs4]; exact sigZ_len
  have HI4 := cs_info hcl4
  have HZ4 := cs_size hcl4
  have HO4 : Hid (cs4.toArray.all (·.oneCell') = true) := Lib.hid (by rw [hcs4]; exact (sigL_one _ _).out)
  have HC4 := Lib.hid hcs4
  have hnew4 := HB.new w9 61 sigZ
  have hrow4 := row_new w9 cs4
  clear hcl4 hcs4
  go_upto_region 11 with (refine wpList_store_row rfl 61 _ _ rfl w9.heap.size cs4.toArray rfl rfl 61 _ hnew4 HI4.out HZ4.out HO4.out ?_)
  clear hnew4
  generalize (w9.alloc (.cells sigZ.toArray 61)).setRow w9.heap.size cs4.toArray = wa at *
  have HLn := Lib.hid (HL11.out.later hrow4.2)
  have HRa := Lib.hid (HR10.out.below hrow4.2 HR10.out.lt)
  have HGa := Lib.hid (HB.below HG11.out hrow4.2 HG11.out.lt)
  clear hrow4
  have hT := txt_one wa 97 (1, 2)
  have hL2 := HLn.out.later hT.below
  have hch : Calls Tryd.prog 29 #[.pointer (some ⟨f.r, 0, none⟩), .int .i64 0, .slice (some ⟨wa.heap.size, 0, none⟩) 1 1, .agg cs1.toArray] (wa.alloc (.cells #[by_ 97] 5 (1, 2))) (ChkR (wa.alloc (.cells #[by_ 97] 5 (1, 2))) true) := by
    have h := check_any _ hL2.ring 0 2 ⟨by omega, by omega⟩ ⟨by omega, by omega⟩ _ _ 1 _ hT.sees (Nat.le_refl _) (by simp) (tagF ((0, 2), [97])) (tagF_len _)
    rw [show chkB [((0, 2), [97]), ((1, 2), [120])] ((0, 2), [97]) (tagF ((0, 2), [97])) = true by simp [chkB], ← HC1.out] at h
    exact h
  have HCH := Lib.hid hch
  have HLb := Lib.hid hL2
  have hld := load_hb (HRa.out.below hT.below HRa.out.lt) Tryd.underlying61 rfl (by rw [HC1.out, sigL_len _ _ (tagF_len _)]; exact Tryd.sizeSig)
  have HLD := Lib.hid hld
  have HRb := Lib.hid (HRa.out.below hT.below HRa.out.lt)
  have HGb := Lib.hid (HB.below HGa.out hT.below HGa.out.lt)
  clear hch hL2 hld hT
  go_wp2_with (refine wpList_load_g (by rfl) 61 _ rfl w2.heap.size 0 rfl _ HLD.out ?_)
  refine HCH.out.mono ?_
  rintro e wc ⟨rfl, hBc⟩
  have HLc := Lib.hid (HLb.out.later hBc)
  have HRc := Lib.hid (HRb.out.below hBc HRb.out.lt)
  have HGc := Lib.hid (HB.below HGb.out hBc HGb.out.lt)
  clear HCH HLD hBc
  have hT := txt_one wc 98 (1, 2)
  have hL2 := HLc.out.later hT.below
  have hch : Calls Tryd.prog 29 #[.pointer (some ⟨f.r, 0, none⟩), .int .i64 0, .slice (some ⟨wc.heap.size, 0, none⟩) 1 1, .agg cs1.toArray] (wc.alloc (.cells #[by_ 98] 5 (1, 2))) (ChkR (wc.alloc (.cells #[by_ 98] 5 (1, 2))) false) := by
    have h := check_any _ hL2.ring 0 2 ⟨by omega, by omega⟩ ⟨by omega, by omega⟩ _ _ 1 _ hT.sees (Nat.le_refl _) (by simp) (tagF ((0, 2), [97])) (tagF_len _)
    rw [show chkB [((0, 2), [97]), ((1, 2), [120])] ((0, 2), [98]) (tagF ((0, 2), [97])) = false by simp [chkB], ← HC1.out] at h
    exact h
  have HCH := Lib.hid hch
  have HLd := Lib.hid hL2
  have hld := load_hb (HRc.out.below hT.below HRc.out.lt) Tryd.underlying61 rfl (by rw [HC1.out, sigL_len _ _ (tagF_len _)]; exact Tryd.sizeSig)
  have HLD := Lib.hid hld
  have HGd := Lib.hid (HB.below HGc.out hT.below HGc.out.lt)
  clear hch hL2 hld hT
  go_wp2_with (refine wpList_load_g (by rfl) 61 _ rfl w2.heap.size 0 rfl _ HLD.out ?_)
  refine HCH.out.mono ?_
  rintro e we ⟨rfl, hBe⟩
  have HLe := Lib.hid (HLd.out.later hBe)
  have hGe : SigW we g f 1 3 := HB.below HGd.out hBe HGd.out.lt
  have HNX := Lib.hid (next_any we g f 1 3 hGe)
  clear HCH HLD hBe hGe
  go_wp2_with fail
  refine HNX.out.mono ?_
  rintro e w' ⟨rfl, rfl⟩
  have hmd : Calls Tryd.prog 36 #[.pointer (some ⟨f.r, 0, none⟩), .int .i64 0] we fun e w' => e = .returned (.int .i64 1) ∧ we = w' := made_yes we HLe.out.ring 0 (by omega)
  have HMD := Lib.hid hmd
  clear hmd HNX
  go_wp2_with fail
  refine HMD.out.mono ?_
  rintro e w' ⟨rfl, rfl⟩
  have HFIN := Lib.hid HLe.out.below
  clear HMD
  go_wp2
  go_ret
  exact ⟨rfl, HFIN.out⟩
end Go.Proofs.YtkhbogccmngmmaaDoor
