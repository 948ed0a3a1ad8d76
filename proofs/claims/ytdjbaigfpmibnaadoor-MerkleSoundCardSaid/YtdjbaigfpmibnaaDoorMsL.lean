/- wapentakelaw03.MerkleSound: the law returns true. -/
import Derived.Test.YtdjbaigfpmibnaaDoorMsP
import Derived.Test.YtdjbaigfpmibnaaDoorRsG
namespace Go.Proofs.YtdjbaigfpmibnaaDoor
open Go.RowKit

theorem eql_b32 (W : World) (a : List UInt8) (ha : a.length = 32) : (binOp .eql 27 (.agg (bys a).toArray) (.agg (bys a).toArray)).run Tryd.prog W = .ok (.bool true) W := by
  have h := run_eql_bytes W 27 5 32 Tryd.underlying27 Tryd.underlying5 (fun _ => by kernel_rfl) a a ha ha
  have e : (a == a) = true := by simp
  rw [e] at h
  exact h
/-- Verify's answer, whatever is asked. -/
theorem verify_all (i : Int) (B : Nat) (A : Option Addr) (c : Nat) (vs : List Value) (ls : List (List UInt8)) (w : World) (hW : LsW w B A c vs ls) (Be : Nat) (Ae : Option Addr) (ce : Nat) (e : List UInt8) (hs : Sees w Be 1 Ae e.length (bys e)) (hBe : Be ≤ w.heap.size) (hc : e.length ≤ ce) (hcm : ce ≤ 9223372036854775807) (he : e.length ≤ 140737488351232)
    (Bp : Nat) (Ap : Option Addr) (cp : Nat) (ps : List (List UInt8)) (hP : PathW w Bp Ap cp ps) :
    ∃ b : Bool, Calls Tryd.prog 21 #[.agg (bys (rootF ls)).toArray, .int .i64 (ls.length : Int), .int .i64 i, .slice Ae e.length ce, .slice Ap ps.length cp] w (fun en w' => en = .returned (.bool b) ∧ Below w.heap.size w w') ∧
      (b = true → ∃ k : Nat, i = (k : Int) ∧ k < ls.length ∧ ps.length = (sibs 0 ls.length k).length ∧ shaF (rootB ls.length (topF ls.length k e ps)) = rootF ls) := by
  have hcap := hW.cap
  by_cases hr : 0 ≤ i ∧ i < ls.length
  · obtain ⟨k, rfl⟩ : ∃ k : Nat, i = (k : Int) := ⟨i.toNat, by omega⟩
    have hk : k < ls.length := by omega
    by_cases hl : ps.length = (sibs 0 ls.length k).length
    · exact ⟨_, verify_ok (rootF ls) (shaF_len _) ls.length k hk (by omega) Be Ae ce e Bp Ap cp ps w hs hBe hc hcm he hP hl hW.consts, fun h => ⟨k, rfl, hk, hl, eq_of_beq h⟩⟩
    · exact ⟨false, verify_len _ ls.length k hk (by omega) Ae _ ce Ap _ cp hl w, fun h => by cases h⟩
  · exact ⟨false, verify_no _ (ls.length : Int) i Ae _ ce Ap _ cp (by omega) w, fun h => by cases h⟩
set_option maxRecDepth 20000 in
set_option maxHeartbeats 1600000 in
theorem sound_law (haw : ∀ W : World, Consts W → Calls Tryd.prog 15 #[] W fun e w' => e = .returned (.bool true) ∧ Below W.heap.size W w') (i : Int) (_hi1 : -9223372036854775808 ≤ i) (_hi2 : i ≤ 9223372036854775807) (B : Nat) (A : Option Addr) (c : Nat) (vs : List Value) (ls : List (List UInt8)) (w : World) (hW : LsW w B A c vs ls) (Be : Nat) (Ae : Option Addr) (ce : Nat) (e : List UInt8) (hs : Sees w Be 1 Ae e.length (bys e)) (hBe : Be ≤ w.heap.size) (hc : e.length ≤ ce) (hcm : ce ≤ 9223372036854775807) (he : e.length ≤ 140737488351232)
    (Bp : Nat) (Ap : Option Addr) (cp : Nat) (ps : List (List UInt8)) (hP : PathW w Bp Ap cp ps) :
    Calls Tryd.prog 5 #[.slice A ls.length c, .int .i64 i, .slice Ae e.length ce, .slice Ap ps.length cp] w fun e w' => e = .returned (.bool true) ∧ Below w.heap.size w w' := by
  have hcap := hW.cap
  have hAW := Lib.hid (haw w hW.consts)
  have HW := Lib.hid hW
  have HS := Lib.hid hs
  have HP := Lib.hid hP
  clear haw hW hs hP
  go_enter Tryd.func5, Tryd.ntmps5
  go_wp2_with fail
  refine hAW.out.mono ?_
  rintro en w1 ⟨rfl, hB1⟩
  have hW1 := HW.out.below hB1
  have hRT := Lib.hid (rootOf_any B A c vs ls w1 hW1.sees hW1.lists hW1.hB hW1.small (by omega) hW1.consts)
  have HB1 := Lib.hid hB1
  clear hAW hB1 hW1
  go_wp2_with fail
  refine hRT.out.mono ?_
  rintro en w2 ⟨rfl, hB2⟩
  have HB2 := Lib.hid (HB1.out.trans (hB2.mono HB1.out.size))
  have HW2 := Lib.hid (HW.out.below HB2.out)
  obtain ⟨b, hv, hb⟩ := verify_all i B A c vs ls w2 HW2.out Be Ae ce e (HS.out.below (HB2.out.mono hBe)) (Nat.le_trans hBe HB2.out.size) hc hcm he Bp Ap cp ps (HP.out.below HB2.out)
  have HV := Lib.hid hv
  have HBt := Lib.hid hb
  have HRF := Lib.hid (show rootF ls = shaF (rootB ls.length (dig ls 0 ls.length)) from rfl)
  clear hv hb hB2 hRT
  generalize rootF ls = RT at *
  go_wp2_with fail
  refine HV.out.mono ?_
  rintro en w3 ⟨rfl, hB3⟩
  have HB3 := Lib.hid (HB2.out.trans (hB3.mono HB2.out.size))
  clear hB3 HV
  rcases b with _ | _
  · have hfin := HB3.out
    go_wp2
    go_ret
    exact ⟨rfl, hfin⟩
  · obtain ⟨k, rfl, hk, hlp, htop⟩ := HBt.out rfl
    have hkI : (k : Int) < (ls.length : Int) := by omega
    have HW3 := Lib.hid (HW.out.below HB3.out)
    have hS3 := HS.out.below (HB3.out.mono hBe)
    have hP3 := HP.out.below HB3.out
    obtain ⟨adL, hAL, hadL, hxL⟩ := HW3.out.sees.some_ (by omega)
    obtain ⟨Ai, ci, hv1, hv2, hv3, hv4⟩ := HW3.out.lists.at_ hk
    have hxi := hxL k _ hv1
    subst hAL
    have hcl := clash_ok k B (some adL) c vs ls w3 HW3.out hk Be Ae ce e hS3 (Nat.le_trans hBe HB3.out.size) hc hcm he Bp Ap cp ps hP3 hlp
    have hge : ls.getD k [] = ls[k]'hk := by rw [List.getD_eq_getElem?_getD, List.getElem?_eq_getElem hk]; rfl
    have hsome : ls[k]'hk ≠ e → ∃ x y, clashAt (climbF ls.length k (ls.getD k []) (pathF ls k)) (climbF ls.length k e ps) (climbF ls.length k (ls.getD k []) (pathF ls k)).length = some (x, y) := fun hne => by
      rcases hr : clashAt (climbF ls.length k (ls.getD k []) (pathF ls k)) (climbF ls.length k e ps) (climbF ls.length k (ls.getD k []) (pathF ls k)).length with _ | ⟨x, y⟩
      · rw [climbF_len] at hr
        exact absurd (hge.symm.trans (climb_same ls.length k (ls.getD k []) e (pathF ls k) ps (pathF_len ls k) hlp (pathF_32 ls k) hP3.len (by rw [top_path ls k hk (by omega), htop, HRF.out]) hr)) hne
      · exact ⟨x, y, rfl⟩
    have HSome := Lib.hid hsome
    have HCL := Lib.hid hcl
    have hli : (ls[k]'hk).length ≤ 140737488351232 := HW3.out.small k _ (List.getElem?_eq_getElem hk)
    have hcvA : ∀ n, (convert 33 9 (.slice Ai (ls[k]'hk).length ci)).run Tryd.prog (w3.drewN n) = .ok (.string (strB (ls[k]'hk))) (w3.drewN n) := fun n => conv_sees ci (hv4.below (below_drewN_ (Below.refl _ _) n))
    have hcvE : ∀ n, (convert 33 9 (.slice Ae e.length ce)).run Tryd.prog (w3.drewN n) = .ok (.string (strB e)) (w3.drewN n) := fun n => conv_sees ce (hS3.below (below_drewN_ (Below.refl _ _) n))
    have HLP := Lib.hid hlp
    clear hsome hcl hge hxL hv1 hv2 hv4 hS3 hP3 htop hlp
    generalize (ls[k]'hk) = li at *
    by_cases hle : li = e
    · have hfin := HB3.out
      subst hle
      have heqs : ((strB li).toList == (strB li).toList) = true := by simp
      go_wp2
      go_quiet (fail)
      have HF := Lib.hid (below_drewN_ hfin nq)
      clear hfin
      go_wp2
      go_ret
      exact ⟨rfl, HF.out⟩
    · have hne : ((strB li).toList == (strB e).toList) = false := by rw [strB_beq]; simpa using hle
      obtain ⟨x, y, hxy⟩ := HSome.out hle
      have hcl := HCL.out
      rw [hxy] at hcl
      obtain ⟨hnxy, hsxy⟩ := clashAt_some _ _ _ _ _ hxy
      have HNxy := Lib.hid hnxy
      have HSxy := Lib.hid hsxy
      have hclq : ∀ n, Calls Tryd.prog 23 #[.slice (some adL) ls.length c, .int .i64 (k : Int), .slice Ae e.length ce, .slice Ap ps.length cp] (w3.drewN n) (ClashR (w3.drewN n) (some (x, y))) := fun n => by
        have HWn := HW.out.below (below_drewN_ HB3.out n)
        have hSn := HS.out.below ((below_drewN_ HB3.out n).mono hBe)
        have hPn := HP.out.below (below_drewN_ HB3.out n)
        have h := clash_ok k B (some adL) c vs ls (w3.drewN n) HWn hk Be Ae ce e hSn (Nat.le_trans hBe HB3.out.size) hc hcm he Bp Ap cp ps hPn HLP.out
        rw [hxy] at h
        exact h
      have HCLq := Lib.hid hclq
      clear hxy hcl hnxy hsxy hle HSome HCL hclq
      go_wp2
      go_quiet (fail)
      have HBq := Lib.hid (below_drewN_ HB3.out nq)
      have hclc := HCLq.out nq
      clear hcvA hcvE hne
      generalize w3.drewN nq = w4 at *
      have HCc := Lib.hid hclc
      clear hclc
      go_wp2_with fail
      refine HCc.out.mono ?_
      rintro en w5 ⟨hres, hB5⟩
      obtain ⟨Aa, ca, Ab, cb, hen, ⟨ha1, ha2, ha3, ha4⟩, hb1, hb2, hb3, hb4⟩ := hres
      subst hen
      have HB5 := Lib.hid (HBq.out.trans (hB5.mono HBq.out.size))
      have hca := conv_sees ca ha4
      have hcb := conv_sees cb hb4
      have hnexy : ((strB x).toList == (strB y).toList) = false := by rw [strB_beq]; simpa using HNxy.out
      have hnexy2 : ((strB x).toList != (strB y).toList) = true := by rw [bne, hnexy]; rfl
      have hsa := Lib.hid (rsum_any w5.heap.size Aa ca x w5 ha4 (Nat.le_refl _) (by omega))
      have HB4 := Lib.hid hb4
      clear ha4 hb4 hB5 HCc HCLq
      go_wp2_with fail
      refine hsa.out.mono ?_
      rintro en w6 ⟨rfl, hB6⟩
      have hsb := Lib.hid (rsum_any w5.heap.size Ab cb y w6 (HB4.out.below hB6) hB6.size (by omega))
      have HB6 := Lib.hid (HB5.out.trans (hB6.mono HB5.out.size))
      have HEQ := Lib.hid (fun W => eql_b32 W (shaF y) (shaF_len y))
      rw [HSxy.out]
      clear hB6 hsa hca hcb
      have heqd := HEQ.out
      generalize shaF y = dy at *
      go_wp2_with fail
      refine hsb.out.mono ?_
      rintro en w7 ⟨rfl, hB7⟩
      have hfin := HB6.out.trans (hB7.mono HB6.out.size)
      clear hB7 hsb
      go_wp2
      go_ret
      exact ⟨rfl, hfin⟩
end Go.Proofs.YtdjbaigfpmibnaaDoor
