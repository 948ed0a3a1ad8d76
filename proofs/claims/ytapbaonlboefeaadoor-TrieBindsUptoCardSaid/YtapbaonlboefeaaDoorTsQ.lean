/- trie: wapentakelaw04.TrieComplete. WRITTEN BY wip/gen/tsq.py. -/
import Derived.Test.YtapbaonlboefeaaDoorTsP
namespace Go.Proofs.YtapbaonlboefeaaDoor
open Go.RowKit

def Awakes : Prop := ∀ W : World, Consts W → Calls Tryd.prog 10 #[] W fun e w' => e = .returned (.bool true) ∧ Below W.heap.size W w'
set_option maxRecDepth 20000 in
set_option maxHeartbeats 3200000 in
theorem complete_law (haw : Awakes) (w : World) (hk : Consts w) (B c : Nat) (hBw : B ≤ w.heap.size) (A : Option Addr) (L : List Ent) (h : EntsR w B A L) (key : List UInt8) (hkey : key.length = 32) :
    Calls Tryd.prog 5 #[.slice A L.length c, .agg (bys key).toArray] w fun e w' => e = .returned (.bool true) ∧ Below w.heap.size w w' := by
  have hfew := h.few
  have hkeys := h.keys
  have hshort := h.short
  have hd1 := HB.new w 24 (bys key)
  have hB1 := below_alloc1 w (.cells (bys key).toArray 24)
  have hz1 : (w.alloc (.cells (bys key).toArray 24)).heap.size = w.heap.size + 1 := by simp
  generalize hw1 : w.alloc (.cells (bys key).toArray 24) = w1 at *
  have he1 := h.below (hB1.mono hBw)
  have hk1 := hk.below hB1 hk.2.2
  obtain ⟨n, hnn⟩ : ∃ n, n = L.length := ⟨_, rfl⟩
  rw [← hnn]
  have HNN := Lib.hid hnn; have HD1 := Lib.hid hd1; have HB1 := Lib.hid hB1; have HE1 := Lib.hid he1; have HK1 := Lib.hid hk1; have HBW := Lib.hid hBw; have HKY := Lib.hid hkey; have HKEYS := Lib.hid hkeys; have HSHORT := Lib.hid hshort; have HFEW := Lib.hid hfew; have HAW := Lib.hid haw; have HZ1 := Lib.hid hz1
  have HKI : Hid ((Tryd.prog.info? 24).map (·.size) = some (bys key).length) := Lib.hid (by rw [bys_len, hkey]; kernel_rfl)
  clear hnn hd1 hB1 he1 hk1 hBw hkey hkeys hshort hfew haw h hk hz1
  go_enter Tryd.func5, Tryd.ntmps5
  go_wp2_with fail
  clear hw1
  refine (HAW.out w1 HK1.out).mono ?_
  rintro e w2 ⟨rfl, hB2⟩
  have HB2 := Lib.hid (HB1.out.trans (hB2.mono HB1.out.size))
  have HD2 := Lib.hid (HD1.out.below hB2 HD1.out.lt)
  have HE2 := Lib.hid (HE1.out.below (hB2.mono (Nat.le_trans HBW.out HB1.out.size)))
  have HK2 := Lib.hid (HK1.out.below hB2 HK1.out.2.2)
  have HS2 : Hid (w1.heap.size ≤ w2.heap.size) := Lib.hid hB2.size
  clear hB2
  go_wp2_with fail
  have HM := Lib.hid (rmay_any w2 B c (Nat.le_trans HBW.out HB2.out.size) A L HE2.out (by have := HFEW.out; omega))
  rw [← HNN.out] at HM
  refine HM.out.mono ?_
  rintro e w3 ⟨rfl, hB3⟩
  have HB3 := Lib.hid (HB2.out.trans (hB3.mono HB2.out.size))
  have HD3 := Lib.hid (HD2.out.below hB3 HD2.out.lt)
  have HE3 := Lib.hid (HE2.out.below (hB3.mono (Nat.le_trans HBW.out HB2.out.size)))
  have HK3 := Lib.hid (HK2.out.below hB3 HK2.out.2.2)
  clear hB3 HM
  by_cases hm : MayP L
  · rw [decide_eq_true hm]
    have HMM := Lib.hid hm
    clear hm
    go_wp2_with fail
    have HL := Lib.hid (list_any w3 B c (Nat.le_trans HBW.out HB3.out.size) A L HE3.out)
    rw [← HNN.out] at HL
    refine HL.out.mono ?_
    rintro e w4 ⟨hB4, A4, c4, vv, rfl, hc4, hcm4, he4⟩
    have HB4 := Lib.hid (HB3.out.trans (hB4.mono HB3.out.size))
    have hd4 := HD3.out.below hB4 HD3.out.lt
    have HE4 := Lib.hid (HE3.out.below (hB4.mono (Nat.le_trans HBW.out HB3.out.size)))
    have hk4 := HK3.out.below hB4 HK3.out.2.2
    obtain ⟨G, hG⟩ : ∃ G : Nat, w4.heap.size = G := ⟨_, rfl⟩
    rw [hG] at he4
    have HG := Lib.hid hG; have HD := Lib.hid hd4; have HK4 := Lib.hid hk4; have HET := Lib.hid he4
    have HGB : Hid (w.heap.size < G) := Lib.hid (by rw [← hG]; exact hd4.lt)
    have hn4 : L.length ≤ 4611686018427387904 := by have := HFEW.out; omega
    have hsh : ∀ e ∈ L, e.2.length ≤ 1073741824 := fun e he => by have := HSHORT.out e he; omega
    have hv := ver_complete L key HMM.out HKEYS.out HKY.out (fun e he => by have := hsh e he; omega)
    have hpl := proofT_len L key HMM.out HKEYS.out HKY.out hsh
    have hrl := rootT_len L
    have HR : Hid (∀ W, Below G w4 W → Calls Tryd.prog 14 #[.slice A4 n c4] W (Digs W (rootT L))) := Lib.hid (fun W hW => by
      have h := root_any W G c4 (by have := hW.size; omega) A4 vv L (HET.out.below hW) (by rw [← HNN.out]; exact hc4) hcm4 hn4 (HK4.out.below (hG ▸ hW) HK4.out.2.2)
      rw [← HNN.out] at h
      exact h)
    have HP : Hid (∀ W, Below G w4 W → Calls Tryd.prog 15 #[.slice A4 n c4, .agg (bys key).toArray] W (WroteF W (proofT L key))) := Lib.hid (fun W hW => by
      have h := prove_any W G c4 (by have := hW.size; omega) A4 vv L (HET.out.below hW) HMM.out (by rw [← HNN.out]; exact hc4) hcm4 hn4 (HK4.out.below (hG ▸ hW) HK4.out.2.2) key HKY.out
      rw [← HNN.out] at h
      exact h)
    have HGET : Hid (∀ W, Below G w4 W → Calls Tryd.prog 20 #[.slice A n c, .agg (bys key).toArray] W fun e w' => e = .returned (.tuple #[.string (strB ((getT L key).getD [])), .bool (getT L key).isSome]) ∧ Below W.heap.size W w') := Lib.hid (fun W hW => by
      have h := rget_any W B c (by have := hW.size; have := HBW.out; have := HGB.out; omega) A L (HE4.out.below (hW.mono (by have := HBW.out; have := HGB.out; omega))) key HKY.out
      rw [← HNN.out] at h
      exact h)
    generalize rootT L = rt at *
    generalize proofT L key = pf at *
    obtain ⟨xx, hxx⟩ : ∃ xx, (getT L key).getD [] = xx := ⟨_, rfl⟩
    obtain ⟨bo, hbo⟩ : ∃ bo, (getT L key).isSome = bo := ⟨_, rfl⟩
    rw [hxx, hbo] at hv HGET
    have HV : Hid (∀ W, Below G w4 W → ∀ A c, SlotK (· < G) W (.slice A pf.length c) pf → Calls Tryd.prog 18 #[.agg (bys rt).toArray, .agg (bys key).toArray, .slice A pf.length c] W fun e w' => Below W.heap.size W w' ∧ ∃ A c, e = .returned (.tuple #[.slice A xx.length c, .bool bo, .int .i64 0]) ∧ SlotK (· < W.heap.size) w' (.slice A xx.length c) xx) := Lib.hid (fun W hW A c hs => ver_said W (HK4.out.below (hG ▸ hW) HK4.out.2.2) rt key hrl HKY.out A c pf hs.slot hpl xx bo 0 hv 0 rfl)
    clear hv hpl hrl hxx hbo hG hB4 hc4 hcm4 he4 hd4 hk4 hn4 hsh HL HE4 HE3 HE2 HE1 HB3 HB2 HD3 HD2 HD1 HK4 HK3 HK2 HK1
    go_wp2_with fail
    refine wp_region_inv 50 (VeR G (.slice A4 n c4) rt key pf xx bo 0) (Below G w4) (fun _ => Keep G (· < G)) (by kernel_rfl) (by rfl) (by kernel_rfl) (fun i j v W W' _ _ _ hT hR => VeR.keep j hT hR) (fun _ W W' hT hI => hI.trans hT.low) (Below.drew (Below.refl _ _)) (fun j ho1 ho vs W hI hdep => ?_) (fun vs W hI hR => ?_)
    · have hsz : G ≤ W.heap.size := by have := hI.size; have := HG.out; omega
      rcases j with _ | j
      · simp only [List.getElem?_toArray, List.getElem?_cons_zero, Option.some.injEq] at ho
        subst ho
        refine .inl ⟨rfl, fun K Q hK => ?_⟩
        simp only [putFrom, Act.put, List.setIfInBounds_toArray, List.set_cons_succ, List.set_cons_zero, Nat.reduceAdd] at hK ⊢
        have HOUT := Lib.hid hK
        clear hK hdep
        go_simp
        refine HOUT.out _ _ _ rfl ⟨Keep.refl _ _ _, ?_⟩
        exact rfl
      rcases j with _ | j
      · simp only [List.getElem?_toArray, List.getElem?_cons_succ, List.getElem?_cons_zero, Option.some.injEq, Nat.zero_add] at ho
        subst ho
        have e0 : vs 0 = _ := hdep 0 rfl
        refine .inl ⟨rfl, fun K Q hK => ?_⟩
        simp only [putFrom, Act.put, List.setIfInBounds_toArray, List.set_cons_succ, List.set_cons_zero, Nat.reduceAdd, e0] at hK ⊢
        have HOUT := Lib.hid hK
        clear hK hdep e0
        go_simp
        refine (HR.out W hI).mono ?_
        rintro e w3 ⟨rfl, hB3⟩
        go_simp
        refine HOUT.out _ _ _ rfl ⟨Keep.of_below hB3 hsz, ?_⟩
        exact rfl
      rcases j with _ | j
      · simp only [List.getElem?_toArray, List.getElem?_cons_succ, List.getElem?_cons_zero, Option.some.injEq, Nat.zero_add] at ho
        subst ho
        have hrw := HD.out.below hI HGB.out
        refine .inl ⟨rfl, fun K Q hK => ?_⟩
        simp only [putFrom, Act.put, List.setIfInBounds_toArray, List.set_cons_succ, List.set_cons_zero, Nat.reduceAdd] at hK ⊢
        have HOUT := Lib.hid hK
        clear hK hdep
        refine wp_load_mid 24 _ rfl w.heap.size 0 rfl (bys key) _ hrw.rngT Tryd.underlying24 rfl HKI.out ?_
        simp only [Act.put, List.setIfInBounds_toArray, List.set_cons_succ, List.set_cons_zero]
        refine HOUT.out _ _ _ rfl ⟨Keep.refl _ _ _, ?_⟩
        exact rfl
      rcases j with _ | j
      · simp only [List.getElem?_toArray, List.getElem?_cons_succ, List.getElem?_cons_zero, Option.some.injEq, Nat.zero_add] at ho
        subst ho
        refine .inl ⟨rfl, fun K Q hK => ?_⟩
        simp only [putFrom, Act.put, List.setIfInBounds_toArray, List.set_cons_succ, List.set_cons_zero, Nat.reduceAdd] at hK ⊢
        have HOUT := Lib.hid hK
        clear hK hdep
        go_simp
        refine HOUT.out _ _ _ rfl ⟨Keep.refl _ _ _, ?_⟩
        exact rfl
      rcases j with _ | j
      · simp only [List.getElem?_toArray, List.getElem?_cons_succ, List.getElem?_cons_zero, Option.some.injEq, Nat.zero_add] at ho
        subst ho
        have hrw := HD.out.below hI HGB.out
        refine .inl ⟨rfl, fun K Q hK => ?_⟩
        simp only [putFrom, Act.put, List.setIfInBounds_toArray, List.set_cons_succ, List.set_cons_zero, Nat.reduceAdd] at hK ⊢
        have HOUT := Lib.hid hK
        clear hK hdep
        refine wp_load_mid 24 _ rfl w.heap.size 0 rfl (bys key) _ hrw.rngT Tryd.underlying24 rfl HKI.out ?_
        simp only [Act.put, List.setIfInBounds_toArray, List.set_cons_succ, List.set_cons_zero]
        refine HOUT.out _ _ _ rfl ⟨Keep.refl _ _ _, ?_⟩
        exact rfl
      rcases j with _ | j
      · simp only [List.getElem?_toArray, List.getElem?_cons_succ, List.getElem?_cons_zero, Option.some.injEq, Nat.zero_add] at ho
        subst ho
        have e3 : vs 3 = _ := hdep 3 rfl
        have e4 : vs 4 = _ := hdep 4 rfl
        refine .inl ⟨rfl, fun K Q hK => ?_⟩
        simp only [putFrom, Act.put, List.setIfInBounds_toArray, List.set_cons_succ, List.set_cons_zero, Nat.reduceAdd, e3, e4] at hK ⊢
        have HOUT := Lib.hid hK
        clear hK hdep e3 e4
        go_simp
        refine (HP.out W hI).mono ?_
        rintro e w3 ⟨v3, rfl, hs3, hB3⟩
        go_simp
        refine HOUT.out _ _ _ rfl ⟨Keep.of_below hB3 hsz, ?_⟩
        exact hs3.wider hsz
      rcases j with _ | j
      · simp only [List.getElem?_toArray, List.getElem?_cons_succ, List.getElem?_cons_zero, Option.some.injEq, Nat.zero_add] at ho
        subst ho
        have e1 : vs 1 = _ := hdep 1 rfl
        have e2 : vs 2 = _ := hdep 2 rfl
        obtain ⟨A5, c5, e5, a5, b5, s5, d5⟩ := hdep 5 rfl
        have hv := Lib.hid (HV.out W hI A5 c5 ⟨A5, c5, rfl, a5, b5, s5, d5⟩)
        refine .inl ⟨rfl, fun K Q hK => ?_⟩
        simp only [putFrom, Act.put, List.setIfInBounds_toArray, List.set_cons_succ, List.set_cons_zero, Nat.reduceAdd, e1, e2, e5] at hK ⊢
        have HOUT := Lib.hid hK
        clear hK hdep e1 e2 e5
        go_simp
        refine hv.out.mono ?_
        rintro e w3 ⟨hB3, A3, c3, rfl, hs3⟩
        go_simp
        refine HOUT.out _ _ _ rfl ⟨Keep.of_below hB3 hsz, ?_⟩
        exact ⟨A3, c3, rfl, hs3.wider hsz⟩
      rcases j with _ | j
      · simp only [List.getElem?_toArray, List.getElem?_cons_succ, List.getElem?_cons_zero, Option.some.injEq, Nat.zero_add] at ho
        subst ho
        obtain ⟨A6, c6, e6, s6⟩ := hdep 6 rfl
        refine .inl ⟨rfl, fun K Q hK => ?_⟩
        simp only [putFrom, Act.put, List.setIfInBounds_toArray, List.set_cons_succ, List.set_cons_zero, Nat.reduceAdd, e6] at hK ⊢
        have HOUT := Lib.hid hK
        clear hK hdep e6
        go_simp
        refine HOUT.out _ _ _ rfl ⟨Keep.refl _ _ _, ?_⟩
        exact ⟨A6, c6, rfl, s6⟩
      rcases j with _ | j
      · simp only [List.getElem?_toArray, List.getElem?_cons_succ, List.getElem?_cons_zero, Option.some.injEq, Nat.zero_add] at ho
        subst ho
        obtain ⟨A7, c7, e7, s7⟩ := hdep 7 rfl
        refine .inl ⟨rfl, fun K Q hK => ?_⟩
        simp only [putFrom, Act.put, List.setIfInBounds_toArray, List.set_cons_succ, List.set_cons_zero, Nat.reduceAdd, e7] at hK ⊢
        have HOUT := Lib.hid hK
        clear hK hdep e7
        go_simp
        refine HOUT.out _ _ _ rfl ⟨Keep.refl _ _ _, ?_⟩
        exact s7
      rcases j with _ | j
      · simp only [List.getElem?_toArray, List.getElem?_cons_succ, List.getElem?_cons_zero, Option.some.injEq, Nat.zero_add] at ho
        subst ho
        obtain ⟨A7, c7, e7, s7⟩ := hdep 7 rfl
        refine .inl ⟨rfl, fun K Q hK => ?_⟩
        simp only [putFrom, Act.put, List.setIfInBounds_toArray, List.set_cons_succ, List.set_cons_zero, Nat.reduceAdd, e7] at hK ⊢
        have HOUT := Lib.hid hK
        clear hK hdep e7
        go_simp
        refine HOUT.out _ _ _ rfl ⟨Keep.refl _ _ _, ?_⟩
        exact rfl
      rcases j with _ | j
      · simp only [List.getElem?_toArray, List.getElem?_cons_succ, List.getElem?_cons_zero, Option.some.injEq, Nat.zero_add] at ho
        subst ho
        obtain ⟨A7, c7, e7, s7⟩ := hdep 7 rfl
        refine .inl ⟨rfl, fun K Q hK => ?_⟩
        simp only [putFrom, Act.put, List.setIfInBounds_toArray, List.set_cons_succ, List.set_cons_zero, Nat.reduceAdd, e7] at hK ⊢
        have HOUT := Lib.hid hK
        clear hK hdep e7
        go_simp
        refine HOUT.out _ _ _ rfl ⟨Keep.refl _ _ _, ?_⟩
        exact rfl
      rcases j with _ | j
      · simp only [List.getElem?_toArray, List.getElem?_cons_succ, List.getElem?_cons_zero, Option.some.injEq, Nat.zero_add] at ho
        subst ho
        obtain ⟨A8, c8, e8, a8, b8, s8, d8⟩ := hdep 8 rfl
        refine .inl ⟨rfl, fun K Q hK => ?_⟩
        simp only [putFrom, Act.put, List.setIfInBounds_toArray, List.set_cons_succ, List.set_cons_zero, Nat.reduceAdd, e8] at hK ⊢
        have HOUT := Lib.hid hK
        clear hK hdep e8
        go_simp
        refine HOUT.out _ _ _ rfl ⟨Keep.refl _ _ _, ?_⟩
        exact ⟨A8, c8, rfl, a8, b8, s8, d8⟩
      rcases j with _ | j
      · simp only [List.getElem?_toArray, List.getElem?_cons_succ, List.getElem?_cons_zero, Option.some.injEq, Nat.zero_add] at ho
        subst ho
        have e9 : vs 9 = _ := hdep 9 rfl
        refine .inl ⟨rfl, fun K Q hK => ?_⟩
        simp only [putFrom, Act.put, List.setIfInBounds_toArray, List.set_cons_succ, List.set_cons_zero, Nat.reduceAdd, e9] at hK ⊢
        have HOUT := Lib.hid hK
        clear hK hdep e9
        go_simp
        refine HOUT.out _ _ _ rfl ⟨Keep.refl _ _ _, ?_⟩
        exact rfl
      rcases j with _ | j
      · simp only [List.getElem?_toArray, List.getElem?_cons_succ, List.getElem?_cons_zero, Option.some.injEq, Nat.zero_add] at ho
        subst ho
        have e10 : vs 10 = _ := hdep 10 rfl
        refine .inl ⟨rfl, fun K Q hK => ?_⟩
        simp only [putFrom, Act.put, List.setIfInBounds_toArray, List.set_cons_succ, List.set_cons_zero, Nat.reduceAdd, e10] at hK ⊢
        have HOUT := Lib.hid hK
        clear hK hdep e10
        go_simp
        refine HOUT.out _ _ _ rfl ⟨Keep.refl _ _ _, ?_⟩
        exact rfl
      exact absurd ho (by simp)
    · obtain ⟨A3, c3, e11, a3, b3, s3, d3⟩ := (show SlotK (· < G) W (vs 11) xx from hR 11 (by decide))
      have e12 : vs 12 = .bool bo := hR 12 (by decide)
      have e13 : vs 13 = .int .i64 0 := hR 13 (by decide)
      have HSX : Hid (SlotK (· < G) W (.slice A3 xx.length c3) xx) := Lib.hid ⟨A3, c3, rfl, a3, b3, s3, d3⟩
      have HI := Lib.hid hI
      have hrw := HD.out.below hI HGB.out
      clear hR hI a3 b3 s3 d3
      simp only [putFrom, Act.put, List.setIfInBounds_toArray, List.set_cons_succ, List.set_cons_zero, Nat.reduceAdd, e11, e12, e13]
      clear e11 e12 e13
      generalize vs 0 = q0 at *; generalize vs 1 = q1 at *; generalize vs 2 = q2 at *; generalize vs 3 = q3 at *; generalize vs 4 = q4 at *; generalize vs 5 = q5 at *; generalize vs 6 = q6 at *; generalize vs 7 = q7 at *; generalize vs 8 = q8 at *; generalize vs 9 = q9 at *; generalize vs 10 = q10 at *
      go_wp2_with (refine wpList_load_mid rfl 24 _ rfl w.heap.size 0 rfl (bys key) _ hrw.rngT Tryd.underlying24 rfl HKI.out ?_)
      refine (HGET.out W HI.out).mono ?_
      rintro e w6 ⟨rfl, hB6⟩
      have hsz : G ≤ W.heap.size := by have := HI.out.size; have := HG.out; omega
      obtain ⟨A9, c9, e9, h91, h92, h93, -⟩ := HSX.out.keep (Keep.of_below hB6 hsz)
      obtain ⟨rfl, -, rfl⟩ := Value.slice.inj e9
      have hcv := conv_sees c3 h93
      have HFIN := Lib.hid (HB4.out.trans ((HI.out.trans (hB6.mono hsz)).mono (by have := HG.out; have := HGB.out; omega)))
      have hbs : (bo == bo) = true := by simp
      clear e9 h91 h92 h93 hB6 hsz HSX HI hrw
      go_wp2
      go_ret
      exact ⟨by simp, HFIN.out⟩
  · rw [decide_eq_false hm]
    go_wp2
    go_ret
    exact ⟨rfl, HB3.out⟩
end Go.Proofs.YtapbaonlboefeaaDoor
