/- merkle.Clash: where there is a path. -/
import Derived.Test.YthmkdlnocdbhjaaDoorMcA
namespace Go.Proofs.YthmkdlnocdbhjaaDoor
open Go.RowKit

/-- Element k of a list of slices of bytes that lies. -/
theorem list_at {w : World} {B : Nat} {ad : Addr} {n : Nat} {vs : List Value} {ls : List (List UInt8)} (hs : Sees w B 1 (some ad) n vs) (hl : Lists w B vs ls) {k : Nat} (hk : k < ls.length) (hn : ls.length = n) :
    ∃ A c, w.cell? (ad.add k) = some (.slice A (ls.getD k []).length c) ∧ (ls.getD k []).length ≤ c ∧ c ≤ 9223372036854775807 ∧ Sees w B 1 A (ls.getD k []).length (bys (ls.getD k [])) := by
  have e : ls.getD k [] = ls[k]'hk := by rw [List.getD_eq_getElem?_getD, List.getElem?_eq_getElem hk]; rfl
  obtain ⟨A, c, h1, h2, h3, h4⟩ := hl.at_ hk
  rw [e]
  obtain ⟨ad', hA, _, hx⟩ := hs.some_ (by omega)
  injection hA with hA
  subst hA
  exact ⟨A, c, hx k _ h1, h2, h3, h4⟩
set_option maxRecDepth 20000 in
set_option maxHeartbeats 1600000 in
theorem clash_ok (i B : Nat) (A : Option Addr) (c : Nat) (vs : List Value) (ls : List (List UInt8)) (w : World) (hW : LsW w B A c vs ls) (hi : i < ls.length) (Be : Nat) (Ae : Option Addr) (ce : Nat) (e : List UInt8) (hs : Sees w Be 1 Ae e.length (bys e)) (hBe : Be ≤ w.heap.size) (hc : e.length ≤ ce) (hcm : ce ≤ 9223372036854775807) (he : e.length ≤ 140737488351232)
    (Bp : Nat) (Ap : Option Addr) (cp : Nat) (ps : List (List UInt8)) (hP : PathW w Bp Ap cp ps) (hl : ps.length = (sibs 0 ls.length i).length) :
    Calls Tryd.prog 20 #[.slice A ls.length c, .int .i64 (i : Int), .slice Ae e.length ce, .slice Ap ps.length cp] w (ClashR w (clashAt (climbF ls.length i (ls.getD i []) (pathF ls i)) (climbF ls.length i e ps) (climbF ls.length i (ls.getD i []) (pathF ls i)).length)) := by
  have hcap := hW.cap
  have h63 : ls.length < 9223372036854775808 := by omega
  have hc1 := Lib.hid (climb_yes ls.length i hi h63 Be Ae ce e Bp Ap cp ps w hs hBe hc hcm he hP hl hW.consts)
  have hl1 := climbF_len ls.length i e ps
  have hl2 := climbF_len ls.length i (ls.getD i []) (pathF ls i)
  have hsm1 := climb_small ls.length i e ps he hP.len hl
  have hfew := sibs_few i 63 0 ls.length (by omega) (by omega)
  have HW := Lib.hid hW
  have hge : ls.getD i [] = ls[i]'hi := by rw [List.getD_eq_getElem?_getD, List.getElem?_eq_getElem hi]; rfl
  have hei : (ls.getD i []).length ≤ 140737488351232 := by rw [hge]; exact hW.small i _ (List.getElem?_eq_getElem hi)
  have hsm2 := climb_small ls.length i (ls.getD i []) (pathF ls i) hei (pathF_32 ls i) (pathF_len ls i)
  have HPL := Lib.hid (pathF_len ls i)
  have hHi := Lib.hid hi
  have HGe := Lib.hid hge
  have hiI : (i : Int) < ls.length := by omega
  have HSM1 := Lib.hid hsm1
  have HSM2 := Lib.hid hsm2
  have HLN1 := Lib.hid hl1
  have HLN2 := Lib.hid hl2
  clear hs hP hl hW hc hsm1 hsm2 hge hl1 hl2
  go_enter Tryd.func20, Tryd.ntmps20
  go_wp2_with fail
  refine hc1.out.mono ?_
  rintro en w1 ⟨v1, vs1, rfl, ho1, hli1, hB1⟩
  have HW1 := Lib.hid (HW.out.below hB1)
  have hpy := Lib.hid (prove_yes i B A c vs ls w1 HW1.out hHi.out)
  obtain ⟨A1, c1, rfl, hcc1, hccm1, -, hse1⟩ := own_slice ho1
  have HO1 := Lib.hid hse1
  have HL1 := Lib.hid hli1
  have HB1 := Lib.hid hB1
  clear hc1 hB1 ho1 hli1 hse1
  go_wp2_with fail
  refine hpy.out.mono ?_
  rintro en w2 ⟨v2, rfl, ho2, hB2⟩
  obtain ⟨A2, c2, rfl, hcc2, hccm2, -, -⟩ := own_slice ho2
  have hP2 := path_own ho2 (pathF_32 ls i) (by have := HPL.out; omega)
  have hW2 := HW1.out.below hB2
  obtain ⟨adL, hAL, hadL, hxL⟩ := hW2.sees.some_ (by omega)
  obtain ⟨Ai, ci, hv1, hv2, hv3, hv4⟩ := hW2.lists.at_ hHi.out
  have hxi := hxL i _ hv1
  rw [← HGe.out] at hxi hv4 hv2
  subst hAL
  have hc2 := Lib.hid (climb_yes ls.length i hHi.out h63 B Ai ci (ls.getD i []) w2.heap.size A2 c2 (pathF ls i) w2 hv4 hW2.hB hv2 hv3 hei hP2 HPL.out hW2.consts)
  have HB2 := Lib.hid hB2
  clear hpy ho2 hP2 hxL hv1 hv2 hv4 hB2
  generalize hE : ls.getD i [] = ei at *
  generalize hPp : pathF ls i = pp at *
  have HW2 := Lib.hid hW2
  clear hW2 hE hPp
  go_wp2_with fail
  refine hc2.out.mono ?_
  rintro en w3 ⟨v3, vs3, rfl, ho3, hli3, hB3⟩
  obtain ⟨A3, c3, rfl, hcc3, hccm3, -, hse3⟩ := own_slice ho3
  have hl1 := HLN1.out
  have hl2 := HLN2.out
  have hse1' := (HO1.out.below HB2.out).below (hB3.mono HB2.out.size)
  have hli1' := (HL1.out.below HB2.out).below (hB3.mono HB2.out.size)
  have hB13 := HB1.out.trans ((HB2.out.trans (hB3.mono HB2.out.size)).mono HB1.out.size)
  have hk3 := (HW2.out.below hB3).consts
  have hsz13 : w1.heap.size ≤ w3.heap.size := Nat.le_trans HB2.out.size hB3.size
  generalize climbF ls.length i e ps = comp at *
  generalize climbF ls.length i ei pp = own at *
  obtain ⟨ad1, rfl, had1, -⟩ := hse1'.some_ (by omega)
  obtain ⟨ad3, rfl, had3, -⟩ := hse3.some_ (by omega)
  have hM : own.length ≤ 9223372036854775807 := by omega
  have hlen : comp.length = own.length := by omega
  have HO1' := Lib.hid hse1'
  have HL1' := Lib.hid hli1'
  have HO3 := Lib.hid hse3
  have HL3 := Lib.hid hli3
  have HB13 := Lib.hid hB13
  have HK3 := Lib.hid hk3
  have HLen := Lib.hid hlen
  have m0 : 2 ≤ own.length := by omega
  clear hc2 HB2 HW2 HW1 HW HL1 HO1 HB1 hxi hse1' hli1' hse3 hli3 hB13 hk3 ho3 hB3 hlen hl1 hl2 HLN1 HLN2 HPL hfew hcc2 hei
  go_wp2_with fail
  go_loopw [17] (fun lv wr => ∃ k : Nat, k ≤ own.length ∧ lv = .int .i64 ((k : Int) - 1) ∧ clashAt own comp own.length = clashAt own comp k ∧ Below w3.heap.size w3 wr) (fun lv _ => (intOf lv + 1).toNat)
  case atStart => exact ⟨own.length, Nat.le_refl _, rfl, rfl, Below.refl _ _⟩
  case round =>
    obtain ⟨k, hk, rfl, hcl, hBr⟩ := hrel
    have HC := Lib.hid hcl
    have hsr := hBr.size
    rcases Nat.eq_zero_or_pos k with h0 | hpos
    · subst h0
      have hfin : Below w.heap.size w wr := HB13.out.trans (hBr.mono HB13.out.size)
      clear hcl hBr
      go_wp2
      go_ret3
      rw [HC.out]
      exact ⟨rfl, hfin⟩
    · obtain ⟨q, rfl⟩ : ∃ q, k = q + 1 := ⟨k - 1, by omega⟩
      obtain ⟨Ax, cx, hx1, hx2, hx3, hx4⟩ := list_at (HO3.out.below hBr) (HL3.out.below hBr) (k := q) (by omega) rfl
      obtain ⟨Ay, cy, hy1, hy2, hy3, hy4⟩ := list_at (HO1'.out.below (hBr.mono hsz13)) (HL1'.out.below (hBr.mono (by omega))) (k := q) (by rw [HLen.out]; omega) rfl
      have hxs := HSM2.out q
      have hys := HSM1.out q
      have hcase : ((own.getD q [] == comp.getD q []) = true ∧ clashAt own comp (q + 1) = clashAt own comp q) ∨ ((own.getD q [] == comp.getD q []) = false ∧ (shaF (own.getD q []) == shaF (comp.getD q [])) = false ∧ clashAt own comp (q + 1) = clashAt own comp q) ∨ ((own.getD q [] == comp.getD q []) = false ∧ (shaF (own.getD q []) == shaF (comp.getD q [])) = true ∧ clashAt own comp (q + 1) = some (own.getD q [], comp.getD q [])) := by
        rcases h1 : (own.getD q [] == comp.getD q []) with _ | _
        · rcases h2 : (shaF (own.getD q []) == shaF (comp.getD q [])) with _ | _
          · exact .inr (.inl ⟨rfl, rfl, clashAt_ne own comp q h2⟩)
          · exact .inr (.inr ⟨rfl, rfl, clashAt_is own comp q h1 h2⟩)
        · exact .inl ⟨rfl, clashAt_eq own comp q h1⟩
      have HCase := Lib.hid hcase
      have hq1 : (q : Int) < (own.length : Int) := by omega
      have hq2 : (q : Int) < (comp.length : Int) := by have := HLen.out; omega
      have HBr := Lib.hid hBr
      have HX4 := Lib.hid hx4
      have HY4 := Lib.hid hy4
      clear hcase hcl hBr hx4 hy4
      generalize own.getD q [] = x at *
      generalize comp.getD q [] = y at *
      go_wp2
      go_quiet (fail)
      clear hx1 hy1
      obtain ⟨wq, hwq⟩ : ∃ wq, wq = wr.drewN nq := ⟨_, rfl⟩
      rw [← hwq]
      have hBq : Below w3.heap.size w3 wq := by rw [hwq]; exact below_drewN_ HBr.out nq
      have hxq : Sees wq w3.heap.size 1 Ax x.length (bys x) := by rw [hwq]; exact HX4.out.below (below_drewN_ (Below.refl _ _) nq)
      have hyq : Sees wq w1.heap.size 1 Ay y.length (bys y) := by rw [hwq]; exact HY4.out.below (below_drewN_ (Below.refl _ _) nq)
      have hkq := HK3.out.below hBq HK3.out.2.2
      have hsq := hBq.size
      have heq1 := Lib.hid (equal_any w3.heap.size w1.heap.size Ax Ay cx cy x y wq hxq hyq)
      have hsx := Lib.hid (sum_any w3.heap.size Ax cx x wq hxq hsq hx2 hx3 (by omega) hkq)
      have HXS := Lib.hid hxs
      have HXQ := Lib.hid hxq
      have HYQ := Lib.hid hyq
      have HKQ := Lib.hid hkq
      have HBQ := Lib.hid hBq
      clear hwq hBq hxq hyq hkq HX4 HY4 HBr hxs
      go_wp2_with fail
      refine heq1.out.mono ?_
      rintro en w' ⟨rfl, rfl⟩
      rcases HCase.out with ⟨h1, h2⟩ | ⟨h1, h2, h3⟩ | ⟨h1, h2, h3⟩
      · have HN := Lib.hid h2
        clear h2
        go_wp2
        go_roundw
        case rel => exact ⟨q, by omega, by first | rfl | go_num, by rw [HC.out, HN.out], HBQ.out⟩
        case measure => simp [intOf]
      · have HN := Lib.hid h3
        have H2 := Lib.hid h2
        clear h3 h2
        go_wp2_with fail
        refine hsx.out.mono ?_
        rintro en wa ⟨rfl, hBa⟩
        have hBqa := HBQ.out.trans (hBa.mono hsq)
        have hsy := Lib.hid (sum_any w1.heap.size Ay cy y wa (HYQ.out.below (hBa.mono (by omega))) (by have := hBa.size; omega) hy2 hy3 (by omega) (HKQ.out.below hBa HKQ.out.2.2))
        have HBqa := Lib.hid hBqa
        have hsa := hBqa.size
        have heqd := fun W => eql_dig W (shaF x) (shaF y) (shaF_len _) (shaF_len _)
        have H2' := H2.out
        clear hBa hBqa
        generalize shaF x = dx at *
        generalize shaF y = dy at *
        go_wp2_with fail
        refine hsy.out.mono ?_
        rintro en wb ⟨rfl, hBb⟩
        have hfin := Lib.hid (HBqa.out.trans (hBb.mono hsa))
        clear hBb
        go_wp2
        go_roundw
        case rel => exact ⟨q, by omega, by first | rfl | go_num, by rw [HC.out, HN.out], hfin.out⟩
        case measure => simp [intOf]
      · have HN := Lib.hid h3
        have H2 := Lib.hid h2
        clear h3 h2
        go_wp2_with fail
        refine hsx.out.mono ?_
        rintro en wa ⟨rfl, hBa⟩
        have hBqa := HBQ.out.trans (hBa.mono hsq)
        have hsy := Lib.hid (sum_any w1.heap.size Ay cy y wa (HYQ.out.below (hBa.mono (by omega))) (by have := hBa.size; omega) hy2 hy3 (by omega) (HKQ.out.below hBa HKQ.out.2.2))
        have HXa := Lib.hid (HXQ.out.below (hBa.mono hsq))
        have HYa := Lib.hid (HYQ.out.below (hBa.mono (by omega)))
        have HBqa := Lib.hid hBqa
        have hsa := hBqa.size
        have hsaa := hBa.size
        have heqd := fun W => eql_dig W (shaF x) (shaF y) (shaF_len _) (shaF_len _)
        have H2' := H2.out
        clear hBa hBqa
        have hsaw : wq.heap.size ≤ wa.heap.size := by omega
        generalize hDX : shaF x = dx at *
        generalize hDY : shaF y = dy at *
        clear hDX hDY
        go_wp2_with fail
        refine hsy.out.mono ?_
        rintro en wb ⟨rfl, hBb⟩
        have hsb := hBb.size
        have hfin := Lib.hid (HB13.out.trans ((HBqa.out.trans (hBb.mono hsa)).mono HB13.out.size))
        have hxb := Lib.hid ((HXa.out.below (hBb.mono hsa)).wide (B' := wb.heap.size) (by omega))
        have hyb := Lib.hid ((HYa.out.below (hBb.mono (by omega))).wide (B' := wb.heap.size) (by omega))
        clear hBb
        go_wp2
        go_ret3
        rw [HC.out, HN.out]
        exact ⟨⟨Ax, cx, Ay, cy, rfl, ⟨HXS.out, hx2, hx3, hxb.out⟩, hys, hy2, hy3, hyb.out⟩, hfin.out⟩
end Go.Proofs.YthmkdlnocdbhjaaDoor
