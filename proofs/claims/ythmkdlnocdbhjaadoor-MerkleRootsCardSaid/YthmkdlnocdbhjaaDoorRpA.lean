/- wapentakeref03.Root is rootF; two lists of digests compared by the law. -/
import Derived.Test.YthmkdlnocdbhjaaDoorBiL
import Derived.Deep.MidRow
import Derived.Deep.RegionHeld3
namespace Go.Proofs.YthmkdlnocdbhjaaDoor
open Go.RowKit

set_option maxRecDepth 20000 in
set_option maxHeartbeats 3200000 in
theorem rrt_any (B : Nat) (A : Option Addr) (c : Nat) (vs : List Value) (ls : List (List UInt8)) (w : World) (hW : LsW w B A c vs ls) :
    Calls Tryd.prog 14 #[.slice A ls.length c] w (Digs w (rootF ls)) := by
  have hz := Tryd.zeroDig
  have h63 : ls.length < 9223372036854775808 := by have := hW.cap; omega
  have hb1 := below_alloc1 w (.cells zdig.toArray 28)
  have hd1 := HB.new w 28 zdig
  have hdg := Lib.hid (top_call (hW.below hb1))
  have hrf : rootF ls = shaF (rootB ls.length (dig ls 0 ls.length)) := rfl
  have Hrf := Lib.hid hrf
  have h63' : ((ls.length : Nat) : Int) < 9223372036854775808 := by omega
  clear hW hrf
  go_enter Tryd.func14, Tryd.ntmps14
  go_wp2_with fail
  refine hdg.out.mono ?_
  generalize w.alloc (.cells zdig.toArray 28) = w1 at *
  rintro e w2 ⟨rfl, hB2⟩
  have hd2 := hd1.below hB2 hd1.lt
  have hb2 := hb1.trans (hB2.mono hb1.size)
  have hrt := Lib.hid (rroot_any ls.length h63 (dig ls 0 ls.length) w2 (dig_len _ _ _))
  have hlb : (rootB ls.length (dig ls 0 ls.length)).length ≤ 140737488353000 := by rw [rootB_len, dig_len]; omega
  clear hdg hd1 hb1 hB2
  have Hlb := Lib.hid hlb
  clear hlb
  generalize dig ls 0 ls.length = d at *
  go_wp2_with fail
  refine hrt.out.mono ?_
  rintro e w3 ⟨v3, rfl, ho, hB3⟩
  have hd3 := hd2.below hB3 hd2.lt
  have hb3 := hb2.trans (hB3.mono hb2.size)
  have hsu := Lib.hid (rsum_wrote ho Hlb.out)
  clear hrt hd2 hB3 hb2 ho
  go_wp2_with fail
  refine hsu.out.mono ?_
  rintro e w4 ⟨rfl, hB4⟩
  have hd4 := hd3.below hB4 hd3.lt
  have hb4 := hb3.trans (hB4.mono hb3.size)
  have HI := dig_info (shaF_len (rootB ls.length d))
  have HS := dig_size (shaF_len (rootB ls.length d))
  have HA := dig_one (shaF (rootB ls.length d))
  have hr := hd4.row (bys (shaF (rootB ls.length d))).toArray
  have hB6 := Below.setRow_ hb4 (Nat.le_refl _) (bys (shaF (rootB ls.length d))).toArray
  clear hsu hd3 hb3 hB4 hb4
  generalize shaF (rootB ls.length d) = l at *
  go_wp2_with (refine wpList_store_row rfl 28 _ _ rfl w.heap.size (bys l).toArray rfl rfl 28 _ hd4 HI.out HS.out HA.out ?_)
  refine bodyPost_ret (v := .agg (bys l).toArray) (results_cell_row rfl _ _ w.heap.size 28 (bys l).toArray (0, 0) _ rfl hr Tryd.underlying28 rfl HI.out) rfl ?_
  exact ⟨by rw [Hrf.out], hB6⟩

theorem path_row {w : World} {B : Nat} {ad : Addr} {c : Nat} {ps : List (List UInt8)} (h : PathW w B (some ad) c ps) (k : Nat) (hk : k < ps.length) : ∃ pk po, ad.add (k * 32) = ⟨pk, po, none⟩ ∧ pk < B ∧ w.rangeAt pk po (bys (ps[k]'hk)) := by
  obtain ⟨ad', hA, hb, hx⟩ := h.sees.some_ (by omega)
  injection hA with hA
  subst hA
  have hl := h.len _ (List.getElem_mem hk)
  have hpc : ∀ j u, (bys (ps[k]'hk))[j]? = some u → w.cell? ((ad.add (k * 32)).add j) = some u := fun j u hu => by
    rw [add_add]; exact hx _ u (digCells_at ps k hk h.len j u hu)
  obtain ⟨pk, po, hpa⟩ : ∃ pk po, ad.add (k * 32) = ⟨pk, po, none⟩ := by
    have h0 := hpc 0 _ (List.getElem?_eq_getElem (by rw [bys_len, hl]; omega))
    rw [add_zero] at h0
    rcases hh : ad.add (k * 32) with ⟨x, y, z⟩
    refine ⟨x, y, ?_⟩
    rw [hh] at h0
    cases z with
    | none => rfl
    | some _ => simp only [World.cell?] at h0; split at h0 <;> simp at h0
  refine ⟨pk, po, hpa, ?_, fun j u hu => ?_⟩
  · have h1 := congrArg Addr.block hpa
    rw [add_block] at h1
    have h2 : ad.block = pk := h1
    omega
  · have h1 := hpc j u hu
    rw [hpa, Addr.add_mid] at h1; exact h1
theorem load_mid {w : World} {g o : Nat} {ty : TypeId} {cs : List Value} {d : TypeDesc} (h : w.rangeAt g o cs) (hu : Tryd.prog.underlying ty = some d) (hd : d.isRow = true) (hi : (Tryd.prog.info? ty).map (·.size) = some cs.length) :
    (loadVar ty ⟨g, o, none⟩).run Tryd.prog w = .ok (.agg cs.toArray) w := run_loadVar_mid w g o ty cs d h hu hd hi

set_option maxRecDepth 20000 in
set_option maxHeartbeats 3200000 in
theorem same_any (B : Nat) (A : Option Addr) (c : Nat) (B' : Nat) (A' : Option Addr) (c' : Nat) (ps : List (List UInt8)) (w : World) (hP : PathW w B A c ps) (hQ : PathW w B' A' c' ps) :
    Calls Tryd.prog 15 #[.slice A ps.length c, .slice A' ps.length c'] w fun e w' => e = .returned (.bool true) ∧ Below w.heap.size w w' := by
  have hcap := hP.cap
  have HP := Lib.hid hP
  have HQ := Lib.hid hQ
  clear hP hQ
  go_enter Tryd.func15, Tryd.ntmps15
  go_wp2_with fail
  go_loopw [5] (fun si wr => ∃ i : Nat, si = .int .i64 (i : Int) ∧ i ≤ ps.length ∧ PathW wr B A c ps ∧ PathW wr B' A' c' ps ∧ Below w.heap.size w wr) (fun si _ => ps.length - (intOf si).toNat)
  case atStart => exact ⟨0, rfl, by omega, HP.out, HQ.out, Below.refl _ _⟩
  case round =>
    obtain ⟨i, rfl, hi, hPr, hQr, hBr⟩ := hrel
    have HPR := Lib.hid hPr
    have HQR := Lib.hid hQr
    have HBR := Lib.hid hBr
    clear hPr hQr hBr HP HQ
    rcases Nat.lt_or_ge i ps.length with hlt | hge
    · have hlt' : (i : Int) < (ps.length : Int) := by omega
      obtain ⟨ad, rfl, -, -⟩ := HPR.out.sees.some_ (by omega)
      obtain ⟨ad', rfl, -, -⟩ := HQR.out.sees.some_ (by omega)
      obtain ⟨pk, po, hpa, hpb, hpr⟩ := path_row HPR.out i hlt
      obtain ⟨qk, qo, hqa, hqb, hqr⟩ := path_row HQR.out i hlt
      have hl := HPR.out.len _ (List.getElem_mem hlt)
      generalize ps[i]'hlt = d at *
      have hpi : (Tryd.prog.info? 28).map (·.size) = some (bys d).length := by rw [bys_len, hl]; exact Tryd.infoD
      have hu28 := Tryd.underlying28
      have hq : ∀ W : World, (binOp .neq 28 (.agg (bys d).toArray) (.agg (bys d).toArray)).run Tryd.prog W = .ok (.bool false) W := fun W => by
        have h := neq_dg W d d hl hl
        simpa using h
      go_wp2_with fail
      refine wp_region_held_drew (S := fun w' => w'.rangeAt pk po (bys d) ∧ w'.rangeAt qk qo (bys d)) (by kernel_rfl) ⟨hpr, hqr⟩ (fun hH => ?_)
      try simp only [Act.put, List.getElem_toArray, List.getElem_cons_succ, List.getElem_cons_zero, List.setIfInBounds_toArray, List.set_cons_succ, List.set_cons_zero]
      refine wpAnyH_take (i := 0) (v := ?v0) rfl (by kernel_rfl) (by kernel_rfl) (by kernel_rfl) (fun _ _ _ h => h) (Or.inl ⟨by rfl, ?y0⟩) hH ?_
      case y0 => intro w' hSw; clear hSw; (first | (go_simp; done) | (go_simp; with_reducible rfl))
      try simp only [Act.put, List.getElem_toArray, List.getElem_cons_zero, List.setIfInBounds_toArray, List.set_cons_succ, List.set_cons_zero]
      refine wpAnyH_take (i := 1) (v := ?v1) rfl (by kernel_rfl) (by kernel_rfl) (by kernel_rfl) (fun _ _ _ h => h) (Or.inl ⟨by rfl, ?y1⟩) hH ?_
      case y1 => intro w' hSw; clear hSw; (first | (go_simp; done) | (go_simp; with_reducible rfl))
      try simp only [Act.put, List.getElem_toArray, List.getElem_cons_succ, List.getElem_cons_zero, List.setIfInBounds_toArray, List.set_cons_succ, List.set_cons_zero]
      refine wpAnyH_take (i := 2) (v := ?v2) rfl (by kernel_rfl) (by kernel_rfl) (by kernel_rfl) (fun _ _ _ h => h) (Or.inl ⟨by rfl, ?y2⟩) hH ?_
      case y2 => intro w' hSw; clear hSw; (first | (go_simp; done) | (go_simp; with_reducible rfl))
      try simp only [Act.put, List.getElem_toArray, List.getElem_cons_succ, List.getElem_cons_zero, List.setIfInBounds_toArray, List.set_cons_succ, List.set_cons_zero]
      refine wpAnyH_take (i := 3) (v := .agg (bys d).toArray) rfl (by kernel_rfl) (by kernel_rfl) (by kernel_rfl) (fun _ _ _ h => h) (yieldsIf_load_mid (by rfl) 28 _ rfl pk po rfl (bys d) _ (fun w' h => h.1) hu28 rfl hpi) hH ?_
      try simp only [Act.put, List.getElem_toArray, List.getElem_cons_succ, List.getElem_cons_zero, List.setIfInBounds_toArray, List.set_cons_succ, List.set_cons_zero]
      refine wpAnyH_take (i := 4) (v := ?v4) rfl (by kernel_rfl) (by kernel_rfl) (by kernel_rfl) (fun _ _ _ h => h) (Or.inl ⟨by rfl, ?y4⟩) hH ?_
      case y4 => intro w' hSw; clear hSw; (first | (go_simp; done) | (go_simp; with_reducible rfl))
      try simp only [Act.put, List.getElem_toArray, List.getElem_cons_succ, List.getElem_cons_zero, List.setIfInBounds_toArray, List.set_cons_succ, List.set_cons_zero]
      refine wpAnyH_take (i := 5) (v := ?v5) rfl (by kernel_rfl) (by kernel_rfl) (by kernel_rfl) (fun _ _ _ h => h) (Or.inl ⟨by rfl, ?y5⟩) hH ?_
      case y5 => intro w' hSw; clear hSw; (first | (go_simp; done) | (go_simp; with_reducible rfl))
      try simp only [Act.put, List.getElem_toArray, List.getElem_cons_succ, List.getElem_cons_zero, List.setIfInBounds_toArray, List.set_cons_succ, List.set_cons_zero]
      refine wpAnyH_take (i := 6) (v := ?v6) rfl (by kernel_rfl) (by kernel_rfl) (by kernel_rfl) (fun _ _ _ h => h) (Or.inl ⟨by rfl, ?y6⟩) hH ?_
      case y6 => intro w' hSw; clear hSw; (first | (go_simp; done) | (go_simp; with_reducible rfl))
      try simp only [Act.put, List.getElem_toArray, List.getElem_cons_succ, List.getElem_cons_zero, List.setIfInBounds_toArray, List.set_cons_succ, List.set_cons_zero]
      refine wpAnyH_take (i := 7) (v := .agg (bys d).toArray) rfl (by kernel_rfl) (by kernel_rfl) (by kernel_rfl) (fun _ _ _ h => h) (yieldsIf_load_mid (by rfl) 28 _ rfl qk qo rfl (bys d) _ (fun w' h => h.2) hu28 rfl hpi) hH ?_
      try simp only [Act.put, List.getElem_toArray, List.getElem_cons_succ, List.getElem_cons_zero, List.setIfInBounds_toArray, List.set_cons_succ, List.set_cons_zero]
      refine wpAnyH_take (i := 8) (v := ?v8) rfl (by kernel_rfl) (by kernel_rfl) (by kernel_rfl) (fun _ _ _ h => h) (Or.inl ⟨by rfl, ?y8⟩) hH ?_
      case y8 => intro w' hSw; clear hSw; (first | (go_simp; done) | (go_simp; with_reducible rfl))
      try simp only [Act.put, List.getElem_toArray, List.getElem_cons_succ, List.getElem_cons_zero, List.setIfInBounds_toArray, List.set_cons_succ, List.set_cons_zero]
      refine wpAnyH_done (by kernel_rfl) ?_ _
      have hPd := HPR.out.below (w' := wr.drew) (Below.drew (Below.refl _ _))
      have hQd := HQR.out.below (w' := wr.drew) (Below.drew (Below.refl _ _))
      have hBd := HBR.out.drew
      have HPD := Lib.hid hPd
      have HQD := Lib.hid hQd
      have HBD := Lib.hid hBd
      clear hPd hQd hBd hpr hqr hH
      generalize wr.drew = wd at *
      go_wp2_with fail
      go_roundw
      case rel => exact ⟨i + 1, by go_num, by omega, HPD.out, HQD.out, HBD.out⟩
      case measure => simp [intOf]; omega
    · obtain rfl : i = ps.length := by omega
      have hfin := HBR.out
      go_wp2
      go_ret
      exact ⟨rfl, hfin⟩
end Go.Proofs.YthmkdlnocdbhjaaDoor
