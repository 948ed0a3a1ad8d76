/- wapentakelaw03.MerkleBinds: two lists of one length; the law. -/
import Derived.Test.YthmkdlnocdbhjaaDoorBiL
import Derived.Test.YthmkdlnocdbhjaaDoorMoA
namespace Go.Proofs.YthmkdlnocdbhjaaDoor
open Go.RowKit

set_option maxRecDepth 20000 in
set_option maxHeartbeats 6400000 in
theorem binds_alike (haw : ∀ W : World, Consts W → Calls Tryd.prog 11 #[] W fun e w' => e = .returned (.bool true) ∧ Below W.heap.size W w') (w : World) (B : Nat) (A : Option Addr) (c : Nat) (vs : List Value) (ls : List (List UInt8)) (A' : Option Addr) (c' : Nat) (us : List Value) (ms : List (List UInt8)) (hT : Two w B A c vs ls A' c' us ms)
    (h1 : ls.length ≤ 64) (hr : rootF ls = rootF ms) (heq : ls.length = ms.length) :
    Calls Tryd.prog 4 #[.slice A ls.length c, .slice A' ls.length c'] w (BindR w) := by
  have hcap := hT.l.cap
  have hAW := Lib.hid (haw w hT.l.consts)
  have HT := Lib.hid hT
  clear haw hT
  have h1' : decide ((64 : Int) < (ls.length : Int)) = false := by simp; omega
  have h1n : decide (64 < ls.length) = false := by simp; omega
  have hq : ∀ W : World, (binOp .neq 28 (.agg (bys (rootF ls)).toArray) (.agg (bys (rootF ls)).toArray)).run Tryd.prog W = .ok (.bool false) W := fun W => by
    have h := neq_dg W (rootF ls) (rootF ls) (shaF_len _) (shaF_len _)
    simpa using h
  have HQ := Lib.hid hq
  have HR := Lib.hid hr
  have HEQ := Lib.hid heq
  clear hr hq heq
  go_enter Tryd.func4, Tryd.ntmps4
  go_wp2_with fail
  refine hAW.out.mono ?_
  rintro en w1 ⟨rfl, hB1⟩
  have HT1 := Lib.hid (HT.out.below hB1)
  have HB1 := Lib.hid hB1
  clear hB1 hAW
  have HR1 := Lib.hid (root_call HT1.out.l)
  go_wp2_with fail
  refine HR1.out.mono ?_
  rintro en w2 ⟨rfl, hB2⟩
  have HT2 := Lib.hid (HT1.out.below hB2)
  have HB2 := Lib.hid (HB1.out.trans (hB2.mono HB1.out.size))
  have hr2 := root_call HT2.out.m
  rw [← HR.out, ← HEQ.out] at hr2
  have HR2 := Lib.hid hr2
  clear hB2 HR1 hr2
  have hq := HQ.out
  generalize rootF ls = rl at hq HR2 ⊢
  go_wp2_with fail
  refine HR2.out.mono ?_
  rintro en w3 ⟨rfl, hB3⟩
  have HT3 := Lib.hid (HT2.out.below hB3)
  have HB3 := Lib.hid (HB2.out.trans (hB3.mono HB2.out.size))
  clear hB3 HR2
  go_wp2_with fail
  clear hq HQ
  go_loopw [7] (fun si wr => ∃ i : Nat, si = .int .i64 (i : Int) ∧ i ≤ ls.length ∧ Two wr B A c vs ls A' c' us ms ∧ Below w.heap.size w wr) (fun si _ => ls.length - (intOf si).toNat)
  case atStart => exact ⟨0, rfl, by omega, HT3.out, HB3.out⟩
  case round =>
    obtain ⟨i, rfl, hi, hTr, hBr⟩ := hrel
    have HTR := Lib.hid hTr
    have HBR := Lib.hid hBr
    clear hTr hBr HT3 HB3
    rcases Nat.lt_or_ge i ls.length with hlt | hge
    · have hlt' : (i : Int) < (ls.length : Int) := by omega
      have hltm : i < ms.length := by have := HEQ.out; omega
      obtain ⟨adl, hAl, -, hxl⟩ := HTR.out.l.sees.some_ (by omega)
      obtain ⟨adm, hAm, -, hxm⟩ := HTR.out.m.sees.some_ (by omega)
      obtain ⟨Al, cl, hl1, hl2, hl3, hl4⟩ := HTR.out.l.lists.at_ hlt
      obtain ⟨Am, cm, hm1, hm2, hm3, hm4⟩ := HTR.out.m.lists.at_ hltm
      have hcl := hxl i _ hl1
      have hcm := hxm i _ hm1
      subst hAl hAm
      have hge1 : ls.getD i [] = ls[i]'hlt := by rw [List.getD_eq_getElem?_getD, List.getElem?_eq_getElem hlt]; rfl
      have hge2 : ms.getD i [] = ms[i]'hltm := by rw [List.getD_eq_getElem?_getD, List.getElem?_eq_getElem hltm]; rfl
      have HG1 := Lib.hid hge1
      have HG2 := Lib.hid hge2
      have HSM := Lib.hid (HTR.out.m.small i _ (List.getElem?_eq_getElem hltm))
      clear hxl hxm hl1 hm1 hge1 hge2
      obtain ⟨x, hx⟩ : ∃ x, x = ls[i]'hlt := ⟨_, rfl⟩
      obtain ⟨y, hy⟩ : ∃ y, y = ms[i]'hltm := ⟨_, rfl⟩
      rw [← hx] at hl2 hl4 hcl
      rw [← hy] at hm2 hm4 hcm
      have HX := Lib.hid hx
      have HY := Lib.hid hy
      have hcv1 : (convert 33 9 (.slice Al x.length cl)).run Tryd.prog wr.drew = .ok (.string (strB x)) wr.drew := conv_sees cl (hl4.below (Below.drew (Below.refl _ _)))
      have hcv2 : (convert 33 9 (.slice Am y.length cm)).run Tryd.prog wr.drew = .ok (.string (strB y)) wr.drew := conv_sees cm (hm4.below (Below.drew (Below.refl _ _)))
      have HM4 := Lib.hid hm4
      clear hl4 hm4 hx hy
      have HTD := Lib.hid (HTR.out.below (Below.drew (Below.refl _ _)))
      have HBD := Lib.hid (HBR.out.drew)
      have HMD := Lib.hid (HM4.out.below (w' := wr.drew) (Below.drew (Below.refl _ _)))
      by_cases hxy : x = y
      · subst hxy
        go_wp2_with fail
        go_still (by kernel_rfl)
        change Exit.then _ _ _ _ wr.drew
        clear hcv1 hcv2 hcl hcm
        generalize wr.drew = wd at *
        go_wp2_with fail
        go_roundw
        case rel => exact ⟨i + 1, by go_num, by omega, HTD.out, HBD.out⟩
        case measure => simp [intOf]; omega
      · have hneS : ((strB x).toList == (strB y).toList) = false := by rw [strB_beq]; simpa using hxy
        have hneT : strB x ≠ strB y := fun e => hxy (strB_inj e)
        go_wp2_with fail
        go_still (by kernel_rfl)
        change Exit.then _ _ _ _ wr.drew
        have hcmd : wr.drew.cell? (adm.add i) = some (.slice Am y.length cm) := hcm
        clear hcv1 hcv2 hcl hcm
        generalize wr.drew = wd at *
        obtain ⟨a, b, hcc, hab, hsh⟩ := binds_clash ls ms i hlt HEQ.out (by omega) HR.out (by rw [HG1.out, HG2.out, ← HX.out, ← HY.out]; exact hxy)
        have hpy := prove_yes i B (some adm) c' us ms wd HTD.out.m hltm
        rw [← HEQ.out] at hpy
        have HPY := Lib.hid hpy
        have HCC := Lib.hid hcc
        have HAB := Lib.hid hab
        have HSH := Lib.hid hsh
        clear hpy hcc hab hsh hneS hneT
        go_wp2_with fail
        refine HPY.out.mono ?_
        rintro en w5 ⟨v5, rfl, ho5, hB5⟩
        obtain ⟨A5, c5, rfl, hc5, hcm5, -, -⟩ := own_slice ho5
        have hP5 := path_own ho5 (pathF_32 ms i) (by have := pathF_len ms i; omega)
        have HT5 := Lib.hid (HTD.out.below hB5)
        have hlm : adm.block < wd.heap.size := by
          have h := HTD.out.m.sees.some_ (by omega)
          obtain ⟨ad', e, h1, -⟩ := h
          injection e with e
          subst e
          exact Nat.lt_of_lt_of_le h1 HTD.out.m.hB
        have hcm5 : w5.cell? (adm.add i) = some (.slice Am y.length cm) := (hB5.cell (p := adm.add i) (by rw [add_block]; exact hlm)).trans hcmd
        have hcl2 := clash_ok i B (some adl) c vs ls w5 HT5.out.l hlt B Am cm y (HMD.out.below (hB5.mono HTD.out.m.hB)) (Nat.le_trans HTD.out.m.hB hB5.size) hm2 hm3 (by rw [HY.out]; exact HSM.out) w5.heap.size A5 c5 (pathF ms i) hP5 (by rw [pathF_len, HEQ.out])
        have hyg : y = ms.getD i [] := by rw [HG2.out]; exact HY.out
        have hcl3 : Calls Tryd.prog 20 #[.slice (some adl) ls.length c, .int .i64 (i : Int), .slice Am y.length cm, .slice A5 (pathF ms i).length c5] w5 (ClashR w5 (some (a, b))) := by
          rw [← HCC.out, ← hyg]
          exact hcl2
        have HCL := Lib.hid hcl3
        have HB5 := Lib.hid (HBD.out.trans (hB5.mono HBD.out.size))
        clear HPY ho5 hP5 hB5 hcl2 hcl3 hcmd hyg hlm hc5
        generalize (pathF ms i).length = np at *
        go_wp2_with fail
        refine HCL.out.mono ?_
        rintro en w6 ⟨hres, hB6⟩
        obtain ⟨Aa, ca, Ab, cb, hen, ⟨ha1, ha2, ha3, ha4⟩, hb1, hb2, hb3, hb4⟩ := hres
        subst hen
        have HB6 := Lib.hid (HB5.out.trans (hB6.mono HB5.out.size))
        have hca := conv_sees ca ha4
        have hcb := conv_sees cb hb4
        have hneS : ((strB a).toList == (strB b).toList) = false := by rw [strB_beq]; simpa using HAB.out
        have hneT : strB a ≠ strB b := fun e => HAB.out (strB_inj e)
        have HSA := Lib.hid (rsum_any w6.heap.size Aa ca a w6 ha4 (Nat.le_refl _) (by omega))
        have HB4 := Lib.hid hb4
        clear hB6 HCL ha4 hb4 hcm5
        go_wp2_with fail
        refine HSA.out.mono ?_
        rintro en w7 ⟨rfl, hB7⟩
        have HSB := Lib.hid (rsum_any w6.heap.size Ab cb b w7 (HB4.out.below hB7) hB7.size (by omega))
        have HB7 := Lib.hid (HB6.out.trans (hB7.mono HB6.out.size))
        have hq := fun W => eql_b32 W (shaF b) (shaF_len _)
        rw [HSH.out]
        clear hB7 HSA hca hcb
        generalize shaF b = db at *
        go_wp2_with fail
        refine HSB.out.mono ?_
        rintro en w8 ⟨rfl, hB8⟩
        have hfin := HB7.out.trans (hB8.mono HB7.out.size)
        clear hB8 HSB
        go_wp2
        go_ret
        exact ⟨rfl, hfin⟩
    · obtain rfl : i = ls.length := by omega
      have hfin := HBR.out
      go_wp2
      go_ret
      exact ⟨rfl, hfin⟩

/-- MerkleBinds: any two lists. -/
theorem binds_law (haw : ∀ W : World, Consts W → Calls Tryd.prog 11 #[] W fun e w' => e = .returned (.bool true) ∧ Below W.heap.size W w') (w : World) (B : Nat) (A : Option Addr) (c : Nat) (vs : List Value) (ls : List (List UInt8)) (A' : Option Addr) (c' : Nat) (us : List Value) (ms : List (List UInt8)) (hl : LsW w B A c vs ls) (hm : LsW w B A' c' us ms) :
    Calls Tryd.prog 4 #[.slice A ls.length c, .slice A' ms.length c'] w (BindR w) := by
  by_cases hbig : 64 < ls.length ∨ 64 < ms.length ∨ rootF ls ≠ rootF ms
  · exact binds_big haw w B A c vs ls A' c' us ms ⟨hl, hm⟩ hbig
  · have hr : rootF ls = rootF ms := Classical.byContradiction fun h => hbig (.inr (.inr h))
    by_cases he : ls.length = ms.length
    · have h := binds_alike haw w B A c vs ls A' c' us ms ⟨hl, hm⟩ (by omega) hr he
      rw [← he]; exact h
    · exact binds_unlike haw w B A c vs ls A' c' us ms ⟨hl, hm⟩ (by omega) (by omega) hr he
end Go.Proofs.YthmkdlnocdbhjaaDoor
