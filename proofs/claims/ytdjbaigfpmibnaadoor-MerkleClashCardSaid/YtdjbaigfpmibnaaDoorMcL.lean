/- wapentakelaw03.MerkleClash: the law returns true. -/
import Derived.Test.YtdjbaigfpmibnaaDoorMcC
import Derived.Test.YtdjbaigfpmibnaaDoorRsG
namespace Go.Proofs.YtdjbaigfpmibnaaDoor
open Go.RowKit

theorem neq_b32 (W : World) (a : List UInt8) (ha : a.length = 32) : (binOp .neq 27 (.agg (bys a).toArray) (.agg (bys a).toArray)).run Tryd.prog W = .ok (.bool false) W := by
  have h : (Op.equalIn 10000 27 (.agg (bys a).toArray) (.agg (bys a).toArray)).run Tryd.prog W = .ok (a == a) W := run_equalIn_bytes W 9998 27 5 32 Tryd.underlying27 Tryd.underlying5 (fun _ => by kernel_rfl) a a ha ha
  rw [run_neq_struct, h]; simp [Result.andThen]
/-- What Clash can hand back at any element and path. -/
theorem clash_all (i : Int) (B : Nat) (A : Option Addr) (c : Nat) (vs : List Value) (ls : List (List UInt8)) (w : World) (hW : LsW w B A c vs ls) (Be : Nat) (Ae : Option Addr) (ce : Nat) (e : List UInt8) (hs : Sees w Be 1 Ae e.length (bys e)) (hBe : Be ≤ w.heap.size) (hc : e.length ≤ ce) (hcm : ce ≤ 9223372036854775807) (he : e.length ≤ 140737488351232)
    (Bp : Nat) (Ap : Option Addr) (cp : Nat) (ps : List (List UInt8)) (hP : PathW w Bp Ap cp ps) :
    ∃ r, Calls Tryd.prog 23 #[.slice A ls.length c, .int .i64 i, .slice Ae e.length ce, .slice Ap ps.length cp] w (ClashR w r) ∧ (∀ a b, r = some (a, b) → (0 ≤ i ∧ i < ls.length) ∧ a ≠ b ∧ shaF a = shaF b) := by
  have hcap := hW.cap
  by_cases hr : 0 ≤ i ∧ i < ls.length
  · obtain ⟨k, rfl⟩ : ∃ k : Nat, i = (k : Int) := ⟨i.toNat, by omega⟩
    have hk : k < ls.length := by omega
    by_cases hl : ps.length = (sibs 0 ls.length k).length
    · exact ⟨_, clash_ok k B A c vs ls w hW hk Be Ae ce e hs hBe hc hcm he Bp Ap cp ps hP hl, fun a b h => ⟨hr, clashAt_some _ _ _ _ _ h⟩⟩
    · exact ⟨none, clash_len A ls.length c k hk (by omega) Ae _ ce Ap _ cp hl w, fun _ _ h => by cases h⟩
  · exact ⟨none, clash_no A ls.length c i Ae _ ce Ap _ cp (by omega) w, fun _ _ h => by cases h⟩
set_option maxRecDepth 20000 in
set_option maxHeartbeats 1600000 in
theorem clash_law (haw : ∀ W : World, Consts W → Calls Tryd.prog 15 #[] W fun e w' => e = .returned (.bool true) ∧ Below W.heap.size W w') (i : Int) (hi1 : -9223372036854775808 ≤ i) (hi2 : i ≤ 9223372036854775807) (B : Nat) (A : Option Addr) (c : Nat) (vs : List Value) (ls : List (List UInt8)) (w : World) (hW : LsW w B A c vs ls) (Be : Nat) (Ae : Option Addr) (ce : Nat) (e : List UInt8) (hs : Sees w Be 1 Ae e.length (bys e)) (hBe : Be ≤ w.heap.size) (hc : e.length ≤ ce) (hcm : ce ≤ 9223372036854775807) (he : e.length ≤ 140737488351232)
    (Bp : Nat) (Ap : Option Addr) (cp : Nat) (ps : List (List UInt8)) (hP : PathW w Bp Ap cp ps) :
    Calls Tryd.prog 6 #[.slice A ls.length c, .int .i64 i, .slice Ae e.length ce, .slice Ap ps.length cp] w fun e w' => e = .returned (.bool true) ∧ Below w.heap.size w w' := by
  have hcap := hW.cap
  have hAW := Lib.hid (haw w hW.consts)
  have HW := Lib.hid hW
  have HS := Lib.hid hs
  have HP := Lib.hid hP
  clear haw hW hs hP
  go_enter Tryd.func6, Tryd.ntmps6
  go_wp2_with fail
  refine hAW.out.mono ?_
  rintro en w1 ⟨rfl, hB1⟩
  obtain ⟨r, hcl, hr⟩ := clash_all i B A c vs ls w1 (HW.out.below hB1) Be Ae ce e (HS.out.below (hB1.mono hBe)) (Nat.le_trans hBe hB1.size) hc hcm he Bp Ap cp ps (HP.out.below hB1)
  have HCL := Lib.hid hcl
  have HR := Lib.hid hr
  have HB1 := Lib.hid hB1
  clear hcl hr hB1 hAW
  go_wp2_with fail
  refine HCL.out.mono ?_
  rintro en w2 ⟨hres, hB2⟩
  have HB2 := Lib.hid (HB1.out.trans (hB2.mono HB1.out.size))
  have HW2 := Lib.hid (HW.out.below HB2.out)
  clear hB2 HCL
  rcases r with _ | ⟨a, b⟩
  · have hres : en = .returned (.tuple #[.slice none 0 0, .slice none 0 0, .bool false]) := hres
    subst hres
    by_cases hrg : 0 ≤ i ∧ i < ls.length
    · obtain ⟨k, rfl⟩ : ∃ k : Nat, i = (k : Int) := ⟨i.toNat, by omega⟩
      have hk : k < ls.length := by omega
      clear hi1 hi2 hrg
      have hb2 : (k : Int) < (ls.length : Int) := by omega
      have hpy := Lib.hid (prove_yes k B A c vs ls w2 HW2.out hk)
      go_wp2_with fail
      refine hpy.out.mono ?_
      rintro en w5 ⟨v5, rfl, ho5, hB5⟩
      obtain ⟨A5, c5, rfl, hc5, hcm5, -, -⟩ := own_slice ho5
      have hP5 := path_own ho5 (pathF_32 ls k) (by have := pathF_len ls k; omega)
      have hW5 := HW2.out.below hB5
      obtain ⟨adL, hAL, hadL, hxL⟩ := hW5.sees.some_ (by omega)
      obtain ⟨Ai, ci, hv1, hv2, hv3, hv4⟩ := hW5.lists.at_ hk
      have hxi := hxL k _ hv1
      subst hAL
      have hcl2 := clash_ok k B (some adL) c vs ls w5 hW5 hk B Ai ci (ls[k]'hk) hv4 hW5.hB hv2 hv3 (hW5.small k _ (List.getElem?_eq_getElem hk)) w5.heap.size A5 c5 (pathF ls k) hP5 (pathF_len ls k)
      have hge : ls.getD k [] = ls[k]'hk := by rw [List.getD_eq_getElem?_getD, List.getElem?_eq_getElem hk]; rfl
      rw [hge, clashAt_same] at hcl2
      have HCL2 := Lib.hid hcl2
      have HB5 := Lib.hid (HB2.out.trans (hB5.mono HB2.out.size))
      clear hpy ho5 hP5 hW5 hxL hv1 hv2 hv4 hB5 hcl2 hge
      generalize (ls[k]'hk) = ei at *
      generalize (pathF ls k).length = np at *
      go_wp2_with fail
      refine HCL2.out.mono ?_
      rintro en w6 ⟨h6, hB6⟩
      have h6 : en = .returned (.tuple #[.slice none 0 0, .slice none 0 0, .bool false]) := h6
      subst h6
      have hfin := HB5.out.trans (hB6.mono HB5.out.size)
      clear hB6
      go_wp2
      go_ret
      exact ⟨rfl, hfin⟩
    · by_cases hneg : i < 0
      · have hfin := HB2.out
        go_wp2
        go_ret
        exact ⟨rfl, hfin⟩
      · have hge : (ls.length : Int) ≤ i := by omega
        have h0 : 0 ≤ i := by omega
        have hfin := HB2.out
        clear hneg hrg
        go_wp2
        go_ret
        exact ⟨rfl, hfin⟩
  · obtain ⟨Aa, ca, Ab, cb, hen, ⟨ha1, ha2, ha3, ha4⟩, hb1, hb2, hb3, hb4⟩ := hres
    subst hen
    obtain ⟨hrg, hab, hsh⟩ := HR.out a b rfl
    obtain ⟨k, rfl⟩ : ∃ k : Nat, i = (k : Int) := ⟨i.toNat, by omega⟩
    have hk : k < ls.length := by omega
    have hca := conv_sees ca ha4
    have hcb := conv_sees cb hb4
    have hne : ((strB a).toList == (strB b).toList) = false := by rw [strB_beq]; simpa using hab
    have hsa := Lib.hid (rsum_any w2.heap.size Aa ca a w2 ha4 (Nat.le_refl _) (by omega))
    have HB4 := Lib.hid hb4
    have HSh := Lib.hid hsh
    have hlb := shaF_len b
    clear hi1 hi2 hrg hab hsh ha4 hb4
    go_wp2_with fail
    refine hsa.out.mono ?_
    rintro en w3 ⟨rfl, hB3⟩
    have hsb := Lib.hid (rsum_any w2.heap.size Ab cb b w3 (HB4.out.below hB3) hB3.size (by omega))
    have HB3 := Lib.hid (HB2.out.trans (hB3.mono HB2.out.size))
    have hnq := fun W => neq_b32 W (shaF b) hlb
    have HNQ := Lib.hid hnq
    rw [HSh.out]
    clear hB3 hsa hca hcb hnq hlb
    have hnq := HNQ.out
    generalize shaF b = db at *
    go_wp2_with fail
    refine hsb.out.mono ?_
    rintro en w4 ⟨rfl, hB4⟩
    have HB4' := Lib.hid (HB3.out.trans (hB4.mono HB3.out.size))
    have HW4 := Lib.hid (HW.out.below HB4'.out)
    clear hB4 hsb
    have hb2 : (k : Int) < (ls.length : Int) := by omega
    have hpy := Lib.hid (prove_yes k B A c vs ls w4 HW4.out hk)
    go_wp2_with fail
    refine hpy.out.mono ?_
    rintro en w5 ⟨v5, rfl, ho5, hB5⟩
    obtain ⟨A5, c5, rfl, hc5, hcm5, -, -⟩ := own_slice ho5
    have hP5 := path_own ho5 (pathF_32 ls k) (by have := pathF_len ls k; omega)
    have hW5 := HW4.out.below hB5
    obtain ⟨adL, hAL, hadL, hxL⟩ := hW5.sees.some_ (by omega)
    obtain ⟨Ai, ci, hv1, hv2, hv3, hv4⟩ := hW5.lists.at_ hk
    have hxi := hxL k _ hv1
    subst hAL
    have hcl2 := clash_ok k B (some adL) c vs ls w5 hW5 hk B Ai ci (ls[k]'hk) hv4 hW5.hB hv2 hv3 (hW5.small k _ (List.getElem?_eq_getElem hk)) w5.heap.size A5 c5 (pathF ls k) hP5 (pathF_len ls k)
    have hge : ls.getD k [] = ls[k]'hk := by rw [List.getD_eq_getElem?_getD, List.getElem?_eq_getElem hk]; rfl
    rw [hge, clashAt_same] at hcl2
    have HCL2 := Lib.hid hcl2
    have HB5 := Lib.hid (HB4'.out.trans (hB5.mono HB4'.out.size))
    clear hpy ho5 hP5 hW5 hxL hv1 hv2 hv4 hB5 hcl2 hge
    generalize (ls[k]'hk) = ei at *
    generalize (pathF ls k).length = np at *
    go_wp2_with fail
    refine HCL2.out.mono ?_
    rintro en w6 ⟨h6, hB6⟩
    have h6 : en = .returned (.tuple #[.slice none 0 0, .slice none 0 0, .bool false]) := h6
    subst h6
    have hfin := HB5.out.trans (hB6.mono HB5.out.size)
    clear hB6
    go_wp2
    go_ret
    exact ⟨rfl, hfin⟩
end Go.Proofs.YtdjbaigfpmibnaaDoor
