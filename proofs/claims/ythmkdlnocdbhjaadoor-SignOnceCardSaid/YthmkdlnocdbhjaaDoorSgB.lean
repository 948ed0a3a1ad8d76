/- wapentakelaw05.SignBudget returns true. -/
import Derived.Test.YthmkdlnocdbhjaaDoorSgV
namespace Go.Proofs.YthmkdlnocdbhjaaDoor
open Go.RowKit

/-- What a signer has signed that began at s0, and where. -/
def LB (s0 : Int) (n : Nat) : List Sg := (List.range n).map fun (j : Nat) => (((1 : Int), s0 + (j : Int)), [UInt8.ofNat j])
def UB (s0 : Int) (n : Nat) : List (Int × Int) := (List.range n).map fun (j : Nat) => ((1 : Int), s0 + (j : Int))
theorem UB_succ (s0 : Int) (n : Nat) : UB s0 (n + 1) = UB s0 n ++ [(1, s0 + (n : Int))] := by simp [UB, List.range_succ]
theorem LB_succ (s0 : Int) (n : Nat) : LB s0 (n + 1) = LB s0 n ++ [((1, s0 + (n : Int)), [UInt8.ofNat n])] := by simp [LB, List.range_succ]
theorem LB_len (s0 : Int) (n : Nat) : (LB s0 n).length = n := by simp [LB]
theorem UB_not (s0 : Int) (n : Nat) : ((1 : Int), s0 + (n : Int)) ∉ UB s0 n := by
  intro h
  obtain ⟨j, hj, e⟩ := List.mem_map.1 h
  rw [List.mem_range] at hj
  have := congrArg Prod.snd e
  simp only at this
  omega
theorem LB_not (s0 : Int) (n : Nat) (t : List UInt8) : (((1 : Int), s0 + (n : Int)), t) ∉ LB s0 n := by
  intro h
  obtain ⟨j, hj, e⟩ := List.mem_map.1 h
  rw [List.mem_range] at hj
  have := congrArg (fun x => x.1.2) e
  simp only at this
  omega
theorem cntL_LB (s0 : Int) (n : Nat) : cntL (LB s0 n) 1 = n ∧ cntL (LB s0 n) 0 = 0 := by
  induction n with
  | zero => exact ⟨rfl, rfl⟩
  | succ n ih =>
    rw [LB_succ, cntL_snoc, cntL_snoc, ih.1, ih.2]
    simp
theorem budget_num (b : Int) : ∃ m : Nat, 1 ≤ m ∧ m ≤ 300 ∧ wrap64 (1 + wrap64 ((IntKind.u64.wrap b).tmod 300)) = (m : Int) := by
  have h0 : 0 ≤ IntKind.u64.wrap b := by rw [IntKind.wrap_u64]; omega
  have h1 : (IntKind.u64.wrap b).tmod 300 = IntKind.u64.wrap b % 300 := Int.tmod_eq_emod_of_nonneg h0
  rw [h1]
  have h2 := Int.emod_nonneg (IntKind.u64.wrap b) (show (300 : Int) ≠ 0 by decide)
  have h3 := Int.emod_lt_of_pos (IntKind.u64.wrap b) (show (0 : Int) < 300 by decide)
  refine ⟨(1 + IntKind.u64.wrap b % 300).toNat, by omega, by omega, ?_⟩
  unfold wrap64
  omega
/-- Behind i rounds n are signed. -/
def Done (s0 : Int) (m i n : Nat) : Prop := n ≤ i ∧ (s0 + (n : Int) ≤ m ∨ n = 0) ∧ (n = i ∨ (m : Int) ≤ s0 + (n : Int))

set_option maxRecDepth 20000 in
set_option maxHeartbeats 6400000 in
theorem budget_law (W : World) (hk : Consts W) (b s : Int) (hb0 : I64 b) (hs0 : I64 s) :
    Calls Tryd.prog 10 #[.int .i64 b, .int .i64 s] W (LawR W) := by
  have hz := Tryd.zeroSig
  have hb1 := build_b1
  have HK := Lib.hid hk
  have HAW := Lib.hid (awake_any W hk)
  have hb2 := hb0.1
  have hb3 := hb0.2
  have hs2 := hs0.1
  have hs3 := hs0.2
  clear hk hb0 hs0
  go_enter Tryd.func10, Tryd.ntmps10
  go_wp2_with fail
  refine HAW.out.mono ?_
  rintro e w1 ⟨rfl, hB1⟩
  have HB1 := Lib.hid hB1
  have HK1 := Lib.hid (HK.out.below hB1 HK.out.2.2)
  clear hB1 HAW
  go_wp2_with fail
  obtain ⟨m, hm1, hm2, hm⟩ := budget_num b
  rw [hm]
  generalize IntKind.u64.wrap b = ub at *
  clear hm
  refine (new_ok 2 (m : Int) (by omega) (by omega) (by omega) (by omega) w1).mono ?_
  rintro e w2 ⟨f, rfl, hR, hB, h1, h2, h3, h4⟩
  have HLw2 := Lib.hid (Law.made HK.out HB1.out hR hB h2 h3 h4)
  clear hR hB h1 h2 h3 h4
  have hsg : Calls Tryd.prog 28 #[.pointer (some ⟨f.r, 0, none⟩), .int .i64 1, .int .i64 s] w2 (NewS w2 f 1 (max s 0)) := signer_ok w2 HLw2.out.ring 1 (by omega) s
  have HSG := Lib.hid hsg
  clear hsg
  go_wp2_with fail
  refine HSG.out.mono ?_
  rintro e w3 ⟨g, rfl, hg, hB, hgh⟩
  obtain ⟨s0, hs⟩ : ∃ s0, s0 = max s 0 := ⟨_, rfl⟩
  have hs00 : 0 ≤ s0 := by omega
  have hs01 : s0 ≤ 9223372036854775807 := by omega
  rw [← hs] at hg
  have HS0 := Lib.hid hs
  have HLw3 := Lib.hid (HLw2.out.later hB)
  have HG3 := Lib.hid hg
  have HGH := Lib.hid (show W.heap.size ≤ g from Nat.le_trans HLw2.out.below.size hgh)
  clear hg hB hgh HSG hs HLw2
  have hm1' : (1 : Int) ≤ m := by omega
  have hm2' : (m : Int) ≤ 300 := by omega
  go_wp2_with fail
  go_loopw [7, 8] (fun sn si wr => ∃ n i : Nat, sn = .int .i64 (n : Int) ∧ si = .int .i64 (i : Int) ∧ i ≤ m + 3 ∧ Done s0 m i n ∧ Law W wr f 2 m (LB s0 n) (UB s0 n) ∧ SigW wr g f 1 (s0 + (n : Int))) (fun _ si _ => m + 3 - (intOf si).toNat)
  case atStart => exact ⟨0, 0, rfl, rfl, by omega, ⟨by omega, .inr rfl, .inl rfl⟩, HLw3.out, by simpa using HG3.out⟩
  case round =>
    obtain ⟨n, i, rfl, rfl, him, hdn, hL, hG⟩ := hrel
    have HL := Lib.hid hL
    have HG := Lib.hid hG
    have HDN := Lib.hid hdn
    clear hL hG HLw3 HG3
    rcases Nat.lt_or_ge i (m + 3) with hlt | hge
    · have hlt' : (i : Int) < (m : Int) + 3 := by omega
      have hn300 : n ≤ 303 := by have := hdn.1; omega
      clear hdn
      have HNX := Lib.hid (next_any wr g f 1 (s0 + (n : Int)) HG.out)
      go_wp2_with fail
      refine HNX.out.mono ?_
      rintro e w' ⟨rfl, rfl⟩
      clear HNX
      have hby : by_ (UInt8.ofNat i) = .int .u8 ((i : Int) % 256) := by simp [by_]
      have hT := txt_one wr (UInt8.ofNat i) (0, 0)
      have hb256 : (0 : Int) ≤ (i : Int) % 256 := by omega
      by_cases hcn : s0 + (n : Int) < m
      · obtain rfl : n = i := by have := HDN.out.2.2; omega
        have hL2 := HL.out.later hT.below
        have hG2 := HB.below HG.out hT.below (HB.lt HG.out)
        have hs : Calls Tryd.prog 29 #[.pointer (some ⟨g, 0, none⟩), .slice (some ⟨wr.heap.size, 0, none⟩) 1 1] (wr.alloc (.cells #[by_ (UInt8.ofNat n)] 5)) (fun e w' => e = .returned (.tuple #[.agg (sigL (s0 + (n : Int)) (tagF (((1 : Int), s0 + (n : Int)), [UInt8.ofNat n]))).toArray, .int .i64 0]) ∧ RingW w' f 2 m (LB s0 n ++ [(((1 : Int), s0 + (n : Int)), [UInt8.ofNat n])]) (UB s0 n ++ [((1 : Int), s0 + (n : Int))]) ∧ SigW w' g f 1 (s0 + (n : Int) + 1) ∧ Turn (fun b => f.mine b ∨ b = g) (wr.alloc (.cells #[by_ (UInt8.ofNat n)] 5)) w') :=
          ssign_lit _ hL2.ring 1 (by omega) (s0 + (n : Int)) (by omega) g hG2 _ _ [UInt8.ofNat n] ⟨hT.sees, Below.refl _ _, hT.cap, hT.max⟩ (by simp) hL2.consts (by rw [LB_len]; omega) hcn (LB_not _ _ _) (UB_not _ _)
        rw [← LB_succ, ← UB_succ, hby] at hs
        rw [hby] at hL2
        have HS := Lib.hid hs
        have HL2 := Lib.hid hL2
        have HBY := Lib.hid hby
        clear hs hL2 hG2 hT hby
        go_wp2_with fail
        refine HS.out.mono ?_
        rintro e w4 ⟨he, hR2, hG2, hT2⟩
        have HLw4 := Lib.hid (HL2.out.postS HGH.out hR2 hT2)
        have HGw4 := Lib.hid hG2
        clear hR2 hG2 hT2 HS HL2
        obtain ⟨cs1, hcs1⟩ : ∃ cs, cs = sigL (s0 + (n : Int)) (tagF (((1 : Int), s0 + (n : Int)), [UInt8.ofNat n])) := ⟨_, rfl⟩
        rw [← hcs1] at he
        subst he
        have hcl1 : cs1.length = 33 := by rw [hcs1]; exact sigL_len _ _ (tagF_len _)
        have HI1 := cs_info hcl1
        have HZ1 := cs_size hcl1
        have HO1 : Hid (cs1.toArray.all (·.oneCell') = true) := Lib.hid (by rw [hcs1]; exact (sigL_one _ _).out)
        have HC1 := Lib.hid hcs1
        have hnew1 := HB.new w4 45 sigZ
        have hrow1 := row_new w4 cs1
        clear hcl1 hcs1
        go_upto_region 12 with (refine wpList_store_row rfl 45 _ _ rfl w4.heap.size cs1.toArray rfl rfl 45 _ hnew1 HI1.out HZ1.out HO1.out ?_)
        clear hnew1
        generalize (w4.alloc (.cells sigZ.toArray 45)).setRow w4.heap.size cs1.toArray = w5 at *
        have HLw5 := Lib.hid (HLw4.out.later hrow1.2)
        have HGw5 := Lib.hid (HB.below HGw4.out hrow1.2 (HB.lt HGw4.out))
        have hc0 : w5.cell? ⟨w4.heap.size, 0, none⟩ = some (.int .i64 (s0 + (n : Int))) := by rw [hrow1.1.cell, HC1.out]; rfl
        have HR5 := Lib.hid hrow1.1
        clear hrow1
        have hT := txt_one w5 (UInt8.ofNat n) (0, 0)
        have hL2 := HLw5.out.later hT.below
        have hch : Calls Tryd.prog 26 #[.pointer (some ⟨f.r, 0, none⟩), .int .i64 1, .slice (some ⟨w5.heap.size, 0, none⟩) 1 1, .agg cs1.toArray] (w5.alloc (.cells #[by_ (UInt8.ofNat n)] 5)) (ChkR (w5.alloc (.cells #[by_ (UInt8.ofNat n)] 5)) true) := by
          rw [HC1.out]
          exact chk_tag _ hL2.ring 1 ⟨by omega, by omega⟩ (s0 + (n : Int)) ⟨by omega, by omega⟩ _ _ _ [UInt8.ofNat n] hT.sees (Nat.le_refl _) (by simp) (by rw [LB_succ]; simp)
        have hr2 := HR5.out.below hT.below HR5.out.lt
        have hG2 := HB.below HGw5.out hT.below (HB.lt HGw5.out)
        rw [HBY.out] at hch hL2 hr2 hG2
        have hld := load_hb hr2 Tryd.underlying45 rfl (by rw [HC1.out, sigL_len _ _ (tagF_len _)]; exact Tryd.sizeSig)
        have HLD := Lib.hid hld
        have HCH := Lib.hid hch
        have HL2 := Lib.hid hL2
        have HG2 := Lib.hid hG2
        clear hch hL2 hr2 hG2 hld hT
        go_wp2_with (refine wpList_load_g (by rfl) 45 _ rfl w4.heap.size 0 rfl _ HLD.out ?_)
        refine HCH.out.mono ?_
        rintro e w6 ⟨rfl, hB⟩
        have HL6 := Lib.hid (HL2.out.later hB)
        have HG6 := Lib.hid (HB.below HG2.out hB (HB.lt HG2.out))
        have HDD := Lib.hid (show Done s0 m (n + 1) (n + 1) from ⟨by omega, .inl (by omega), .inl rfl⟩)
        have hgn : SigW w6 g f 1 (s0 + ((n + 1 : Nat) : Int)) := by
          have e : s0 + ((n + 1 : Nat) : Int) = s0 + (n : Int) + 1 := by omega
          rw [e]; exact HG6.out
        have HGN := Lib.hid hgn
        clear hB HCH HLD HL2 HG2 hc0 hgn
        go_wp2
        go_roundw
        case rel => exact ⟨n + 1, n + 1, by go_num, by go_num, by omega, HDD.out, HL6.out, HGN.out⟩
        case measure => simp [intOf]; omega
      · have hge : (m : Int) ≤ s0 + (n : Int) := by omega
        have hL2 := HL.out.later hT.below
        have hG2 := HB.below HG.out hT.below (HB.lt HG.out)
        have hs : Calls Tryd.prog 29 #[.pointer (some ⟨g, 0, none⟩), .slice (some ⟨wr.heap.size, 0, none⟩) 1 1] (wr.alloc (.cells #[by_ (UInt8.ofNat i)] 5)) (fun e w' => e = .returned (.tuple #[.agg sigZ.toArray, .int .i64 17]) ∧ RingW w' f 2 m (LB s0 n) (UB s0 n) ∧ SigW w' g f 1 (s0 + (n : Int)) ∧ Turn (fun b => f.mine b ∨ b = g) (wr.alloc (.cells #[by_ (UInt8.ofNat i)] 5)) w') :=
          ssign_bad _ hL2.ring 1 (by omega) (s0 + (n : Int)) (by omega) g hG2 _ _ [UInt8.ofNat i] ⟨hT.sees, Below.refl _ _, hT.cap, hT.max⟩ (by simp) hL2.consts (by rw [LB_len]; omega) hge
        rw [hby] at hs hL2
        have HS := Lib.hid hs
        have HL2 := Lib.hid hL2
        clear hs hL2 hG2 hT hby
        go_wp2_with fail
        refine HS.out.mono ?_
        rintro e w4 ⟨he, hR2, hG2, hT2⟩
        have HLw4 := Lib.hid (HL2.out.postS HGH.out hR2 hT2)
        have HGw4 := Lib.hid hG2
        clear hR2 hG2 hT2 HS HL2
        obtain ⟨cs1, hcs1⟩ : ∃ cs, cs = sigZ := ⟨_, rfl⟩
        rw [← hcs1] at he
        subst he
        have hcl1 : cs1.length = 33 := by rw [hcs1]; exact sigZ_len
        have HI1 := cs_info hcl1
        have HZ1 := cs_size hcl1
        have HO1 : Hid (cs1.toArray.all (·.oneCell') = true) := Lib.hid (by rw [hcs1]; exact (sigL_one _ _).out)
        have HC1 := Lib.hid hcs1
        have hnew1 := HB.new w4 45 sigZ
        have hrow1 := row_new w4 cs1
        clear hcl1 hcs1
        go_upto_region 12 with (refine wpList_store_row rfl 45 _ _ rfl w4.heap.size cs1.toArray rfl rfl 45 _ hnew1 HI1.out HZ1.out HO1.out ?_)
        clear hnew1
        generalize (w4.alloc (.cells sigZ.toArray 45)).setRow w4.heap.size cs1.toArray = w5 at *
        have HLw5 := Lib.hid (HLw4.out.later hrow1.2)
        have HGw5 := Lib.hid (HB.below HGw4.out hrow1.2 (HB.lt HGw4.out))
        clear hrow1
        have HNX := Lib.hid (next_any w5 g f 1 (s0 + (n : Int)) HGw5.out)
        go_wp2_with fail
        refine HNX.out.mono ?_
        rintro e w' ⟨rfl, rfl⟩
        have HDD := Lib.hid (show Done s0 m (i + 1) n from ⟨by have := HDN.out.1; omega, HDN.out.2.1, .inr hge⟩)
        clear HNX
        go_wp2
        go_roundw
        case rel => exact ⟨n, i + 1, rfl, by go_num, by omega, HDD.out, HLw5.out, HGw5.out⟩
        case measure => simp [intOf]; omega
    · obtain rfl : i = m + 3 := by omega
      have hdd := HDN.out
      have hs0 := HS0.out
      have hm1 : Calls Tryd.prog 33 #[.pointer (some ⟨f.r, 0, none⟩), .int .i64 1] wr fun e w' => e = .returned (.int .i64 (n : Int)) ∧ wr = w' := by
        have h := made_yes wr HL.out.ring 1 (by omega)
        rw [(cntL_LB s0 n).1] at h
        exact h
      have hm0 : Calls Tryd.prog 33 #[.pointer (some ⟨f.r, 0, none⟩), .int .i64 0] wr fun e w' => e = .returned (.int .i64 0) ∧ wr = w' := by
        have h := made_yes wr HL.out.ring 0 (by omega)
        rw [(cntL_LB s0 n).2] at h
        exact h
      have HMD1 := Lib.hid hm1
      have HMD0 := Lib.hid hm0
      have HFIN := Lib.hid HL.out.below
      have hnm : (n : Int) = max 0 ((m : Int) - max s 0) := by
        unfold Done at hdd
        omega
      have HNM := Lib.hid hnm
      clear hm1 hm0
      by_cases hsn : s < 0
      · obtain rfl : n = m := by omega
        clear hdd hs0 hnm
        go_wp2_with fail
        refine HMD1.out.mono ?_
        rintro e w' ⟨rfl, rfl⟩
        go_wp2_with fail
        refine HMD0.out.mono ?_
        rintro e w' ⟨rfl, rfl⟩
        go_wp2
        go_ret
        exact ⟨rfl, HFIN.out⟩
      · by_cases hsm : s < (m : Int)
        · have hq : (n : Int) = (m : Int) - s := by omega
          have hq1 : ((n : Int) == (m : Int) - s) = true := by simp [hq]
          have hq2 : decide ((n : Int) = (m : Int) - s) = true := by simp [hq]
          have hs0' : (0 : Int) ≤ s := by omega
          have hd : (0 : Int) < (m : Int) - s := by omega
          have HQ := Lib.hid hq
          clear hdd hs0 hnm hsn hq
          go_wp2_with fail
          refine HMD1.out.mono ?_
          rintro e w' ⟨rfl, rfl⟩
          go_wp2_with fail
          refine HMD0.out.mono ?_
          rintro e w' ⟨rfl, rfl⟩
          go_wp2
          go_ret
          exact ⟨rfl, HFIN.out⟩
        · obtain rfl : n = 0 := by omega
          have hs0' : (0 : Int) ≤ s := by omega
          have hd : (m : Int) - s ≤ 0 := by omega
          clear hdd hs0 hnm hsn
          go_wp2_with fail
          refine HMD1.out.mono ?_
          rintro e w' ⟨rfl, rfl⟩
          go_wp2_with fail
          refine HMD0.out.mono ?_
          rintro e w' ⟨rfl, rfl⟩
          go_wp2
          go_ret
          exact ⟨rfl, HFIN.out⟩
end Go.Proofs.YthmkdlnocdbhjaaDoor
