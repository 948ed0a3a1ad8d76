/- wapentakeref03.top: a step. -/
import Derived.Test.YtdjbaigfpmibnaaDoorRtT
namespace Go.Proofs.YtdjbaigfpmibnaaDoor
open Go.RowKit

theorem top_left (n f i0 : Nat) (h2 : 2 ≤ n) (hn : n < 9223372036854775808) (hi : i0 < half n) (ps ps' : List (List UInt8)) (p e D' : List UInt8) (hps : ps = ps' ++ [p])
    (hD : ps'.length = (sibs f (f + half n) (f + i0)).length → D' = cD (f + i0) (sibs f (f + half n) (f + i0)) ps' (shaF (leafB e)) ps'.length) :
    (decide (ps'.length = (sibs f (f + half n) (f + i0)).length) = decide (ps.length = (sibs f (f + n) (f + i0)).length)) ∧ (ps.length = (sibs f (f + n) (f + i0)).length → shaF (nodeB D' p) = cD (f + i0) (sibs f (f + n) (f + i0)) ps (shaF (leafB e)) ps.length) := by
  have hs := sibs_left f (f + n) (f + i0) (by omega) (by omega) (by rw [Nat.add_sub_cancel_left]; omega)
  rw [Nat.add_sub_cancel_left] at hs
  rw [hs, hps, List.length_append, List.length_append, List.length_singleton, List.length_singleton]
  refine ⟨by rw [decide_eq_decide]; omega, fun h => ?_⟩
  have h1 : ps'.length = (sibs f (f + half n) (f + i0)).length := by omega
  have h3 := cD_snoc (f + i0) (sibs f (f + half n) (f + i0)) (f + half n, f + n) ps' p (shaF (leafB e)) h1
  rw [List.length_append, List.length_singleton] at h3
  rw [h, h3, hD h1, h1]
  unfold stepP
  rw [if_neg (by simp only; omega)]
theorem top_right (n f i0 : Nat) (h2 : 2 ≤ n) (hn : n < 9223372036854775808) (hi : half n ≤ i0) (ps ps' : List (List UInt8)) (p e D' : List UInt8) (hps : ps = ps' ++ [p])
    (hD : ps'.length = (sibs (f + half n) (f + n) (f + i0)).length → D' = cD (f + i0) (sibs (f + half n) (f + n) (f + i0)) ps' (shaF (leafB e)) ps'.length) :
    (decide (ps'.length = (sibs (f + half n) (f + n) (f + i0)).length) = decide (ps.length = (sibs f (f + n) (f + i0)).length)) ∧ (ps.length = (sibs f (f + n) (f + i0)).length → shaF (nodeB p D') = cD (f + i0) (sibs f (f + n) (f + i0)) ps (shaF (leafB e)) ps.length) := by
  obtain ⟨k1, k2, -⟩ := half_spec n h2 hn
  have hs := sibs_right f (f + n) (f + i0) (by omega) (by omega) (by rw [Nat.add_sub_cancel_left]; omega)
  rw [Nat.add_sub_cancel_left] at hs
  rw [hs, hps, List.length_append, List.length_append, List.length_singleton, List.length_singleton]
  refine ⟨by rw [decide_eq_decide]; omega, fun h => ?_⟩
  have h1 : ps'.length = (sibs (f + half n) (f + n) (f + i0)).length := by omega
  have h3 := cD_snoc (f + i0) (sibs (f + half n) (f + n) (f + i0)) (f, f + half n) ps' p (shaF (leafB e)) h1
  rw [List.length_append, List.length_singleton] at h3
  rw [h, h3, hD h1, h1]
  unfold stepP
  rw [if_pos (by simp only; omega)]

set_option maxRecDepth 20000 in
set_option maxHeartbeats 1600000 in
theorem rtop_left (n i0 f : Nat) (h2 : 2 ≤ n) (hn : n < 9223372036854775808) (hi : i0 < half n) (Ae : Option Addr) (ce : Nat) (e : List UInt8) (w : World) (Bp : Nat) (ad : Addr) (cp : Nat) (ps' : List (List UInt8)) (p : List UInt8) (hP : PathW w Bp (some ad) cp (ps' ++ [p]))
    (ih : ∀ W : World, Below w.heap.size w W → Calls Tryd.prog 46 #[.int .i64 (half n : Int), .int .i64 (i0 : Int), .slice Ae e.length ce, .slice (some ad) ps'.length cp] W (TopPost W f (f + half n) (f + i0) e ps')) :
    Calls Tryd.prog 46 #[.int .i64 (n : Int), .int .i64 (i0 : Int), .slice Ae e.length ce, .slice (some ad) (ps'.length + 1) cp] w (TopPost w f (f + n) (f + i0) e (ps' ++ [p])) := by
  have hz := Tryd.zeroDig
  have hb1 := below_alloc1 w (.cells zdig.toArray 28)
  have hd1 := HB.new w 28 zdig
  obtain ⟨pk, po, hpa, hpb, hpr⟩ := path_row hP ps'.length (by simp)
  have lp : p.length = 32 := hP.len p (by simp)
  have hgp : (ps' ++ [p])[ps'.length]'(by simp) = p := by simp
  rw [hgp] at hpr
  clear hgp
  have hBp := hP.hB
  have hcap := hP.cap
  rw [List.length_append, List.length_singleton] at hcap
  obtain ⟨k1, k2, -⟩ := half_spec n h2 hn
  have hHf := Lib.hid (fun W => rhalf_any n h2 hn W)
  have HTop := Lib.hid (fun D' => top_left n f i0 h2 hn hi (ps' ++ [p]) ps' p e D' rfl)
  have IH := Lib.hid ih
  have hn1 : (((n : Nat) : Int) == 1) = false := by simp only [beq_eq_false_iff_ne, ne_eq]; omega
  have hq0 : (((ps'.length : Int) + 1) == 0) = false := by simp only [beq_eq_false_iff_ne, ne_eq]; omega
  have hpr1 : (w.alloc (.cells zdig.toArray 28)).rangeAt pk po (bys p) := World.rangeAt_alloc hpr _
  have hpkl : pk < w.heap.size := by omega
  have hpi : (Tryd.prog.info? 28).map (·.size) = some (bys p).length := by rw [bys_len, lp]; exact Tryd.infoD
  have hu28 := Tryd.underlying28
  generalize hk : half n = k at *
  have b1 : (i0 : Int) < (k : Int) := by omega
  clear hP ih hpr hk
  go_enter Tryd.func46, Tryd.ntmps46
  go_wp2_with fail
  refine (hHf.out _).mono ?_
  rintro en w' ⟨rfl, rfl⟩
  obtain ⟨w1, hw1⟩ : ∃ w1, w1 = w.alloc (.cells zdig.toArray 28) := ⟨_, rfl⟩
  rw [← hw1] at hb1 hd1 hpr1 ⊢
  have hz1 : w.heap.size < w1.heap.size := by rw [hw1]; simp
  clear hw1 hHf
  have hd2 := HB.new w1 28 zdig
  have HI := dig_info lp
  have HS := dig_size lp
  have HA := dig_one p
  have hr2 := hd2.row (bys p).toArray
  have hd12 : HB ((w1.alloc (.cells zdig.toArray 28)).setRow w1.heap.size (bys p).toArray) w.heap.size 28 zdig := (hd1.alloc _).grown (grownBy_setRow _ _ _) (by intro e; injection e with e; omega)
  have hb2 : Below w.heap.size w ((w1.alloc (.cells zdig.toArray 28)).setRow w1.heap.size (bys p).toArray) := hb1.trans ((Below.setRow_ (below_alloc1 w1 _) (Nat.le_refl _) _).mono hb1.size)
  have HB2 := Lib.hid hb2
  have HR2 := Lib.hid hr2
  have HD12 := Lib.hid hd12
  clear hb1 hd1 hr2 hd12 hb2
  go_wp2_with (first
    | (refine wpList_load_mid rfl 28 _ rfl pk po rfl (bys p) _ hpr1 hu28 rfl hpi ?_)
    | (refine wpList_store_row rfl 28 _ _ rfl w1.heap.size (bys p).toArray rfl rfl 28 _ hd2 HI.out HS.out HA.out ?_))
  have hcall := Lib.hid (IH.out _ HB2.out)
  generalize World.setRow _ w1.heap.size (bys p).toArray = w2 at *
  clear hd2 hpr1 IH
  refine hcall.out.mono ?_
  rintro en w3 ⟨D', lD', rfl, hD', hB3⟩
  have HTp := Lib.hid (HTop.out D' hD')
  have hb3 := HB2.out.trans (hB3.mono HB2.out.size)
  have hg11 := HR2.out.below hB3 HR2.out.lt
  have hg8 := HD12.out.below hB3 HD12.out.lt
  have hsz3 := hb3.size
  have hl11 := hg11.lt
  have hd3 := HB.new w3 28 zdig
  have HI2 := dig_info lD'
  have HS2 := dig_size lD'
  have HA2 := dig_one D'
  have h12 := hd3.row (bys D').toArray
  have h11 : HB ((w3.alloc (.cells zdig.toArray 28)).setRow w3.heap.size (bys D').toArray) w1.heap.size 28 (bys p) := (hg11.alloc _).grown (grownBy_setRow _ _ _) (by intro e; injection e with e; omega)
  have h8 : HB ((w3.alloc (.cells zdig.toArray 28)).setRow w3.heap.size (bys D').toArray) w.heap.size 28 zdig := (hg8.alloc _).grown (grownBy_setRow _ _ _) (by intro e; injection e with e; omega)
  have hb4 : Below w.heap.size w ((w3.alloc (.cells zdig.toArray 28)).setRow w3.heap.size (bys D').toArray) := hb3.trans ((Below.setRow_ (below_alloc1 w3 _) (Nat.le_refl _) _).mono hb3.size)
  have HB4 := Lib.hid hb4
  have H8 := Lib.hid h8
  clear hcall hD' hB3 hg11 hg8 HR2 HD12 hb3 hb4 h8
  go_wp2_with (first
    | (refine wpList_store_row rfl 28 _ _ rfl w3.heap.size (bys D').toArray rfl rfl 28 _ hd3 HI2.out HS2.out HA2.out ?_)
    | (refine wpList_load_row rfl 28 _ rfl w3.heap.size rfl 28 (bys D').toArray (0, 0) _ h12 hu28 rfl HI2.out ?_)
    | (refine wpList_load_row rfl 28 _ rfl w1.heap.size rfl 28 (bys p).toArray (0, 0) _ h11 hu28 rfl HI.out ?_))
  refine (rnode_any D' p _ lD' lp).mono ?_
  clear hd3 h12 h11
  generalize World.setRow _ w3.heap.size (bys D').toArray = w4 at *
  rintro en w5 ⟨v5, rfl, ho, hB5⟩
  obtain ⟨A5, c5, rfl, hc5, hcm5, -, hs5⟩ := own_slice ho
  have hsm := Lib.hid (rsum_any w5.heap.size A5 c5 (nodeB D' p) w5 hs5 (Nat.le_refl _) (by rw [nodeB_len, lp, lD']; omega))
  have HB5 := Lib.hid (HB4.out.trans (hB5.mono HB4.out.size))
  have H85 := Lib.hid (H8.out.below hB5 H8.out.lt)
  clear ho hs5 hB5
  go_wp2_with fail
  refine hsm.out.mono ?_
  rintro en w6 ⟨rfl, hB6⟩
  have hg8 := H85.out.below hB6 H85.out.lt
  have hb6 := HB5.out.trans (hB6.mono HB5.out.size)
  have lN : (shaF (nodeB D' p)).length = 32 := shaF_len _
  have HI3 := dig_info lN
  have HS3 := dig_size lN
  have HA3 := dig_one (shaF (nodeB D' p))
  have hr := hg8.row (bys (shaF (nodeB D' p))).toArray
  have hfin := Lib.hid (Below.setRow_ hb6 (Nat.le_refl _) (bys (shaF (nodeB D' p))).toArray)
  have HR := Lib.hid hr
  have HT2 := Lib.hid HTp.out.2
  have HT1 := Lib.hid HTp.out.1
  clear hsm hB6 hr hb6 HTp HTop
  generalize shaF (nodeB D' p) = N at *
  go_wp2_with (refine wpList_store_row rfl 28 _ _ rfl w.heap.size (bys N).toArray rfl rfl 28 _ hg8 HI3.out HS3.out HA3.out ?_)
  refine bodyPost_ret (v := .tuple #[.agg (bys N).toArray, .bool (decide (ps'.length = (sibs f (f + k) (f + i0)).length))]) (results_row_tmp rfl _ _ w.heap.size 28 (bys N) _ _ rfl rfl HR.out Tryd.underlying28 rfl (by rw [bys_len, lN]; exact Tryd.infoD)) rfl ?_
  exact ⟨N, lN, by rw [HT1.out], HT2.out, hfin.out⟩

set_option maxRecDepth 20000 in
set_option maxHeartbeats 1600000 in
theorem rtop_right (n i0 f : Nat) (h2 : 2 ≤ n) (hn : n < 9223372036854775808) (hi : half n ≤ i0) (hi2 : i0 < n) (Ae : Option Addr) (ce : Nat) (e : List UInt8) (w : World) (Bp : Nat) (ad : Addr) (cp : Nat) (ps' : List (List UInt8)) (p : List UInt8) (hP : PathW w Bp (some ad) cp (ps' ++ [p]))
    (ih : ∀ W : World, Below w.heap.size w W → Calls Tryd.prog 46 #[.int .i64 ((n - half n : Nat) : Int), .int .i64 ((i0 - half n : Nat) : Int), .slice Ae e.length ce, .slice (some ad) ps'.length cp] W (TopPost W (f + half n) (f + n) (f + i0) e ps')) :
    Calls Tryd.prog 46 #[.int .i64 (n : Int), .int .i64 (i0 : Int), .slice Ae e.length ce, .slice (some ad) (ps'.length + 1) cp] w (TopPost w f (f + n) (f + i0) e (ps' ++ [p])) := by
  have hz := Tryd.zeroDig
  have hb1 := below_alloc1 w (.cells zdig.toArray 28)
  have hd1 := HB.new w 28 zdig
  obtain ⟨pk, po, hpa, hpb, hpr⟩ := path_row hP ps'.length (by simp)
  have lp : p.length = 32 := hP.len p (by simp)
  have hgp : (ps' ++ [p])[ps'.length]'(by simp) = p := by simp
  rw [hgp] at hpr
  clear hgp
  have hBp := hP.hB
  have hcap := hP.cap
  rw [List.length_append, List.length_singleton] at hcap
  obtain ⟨k1, k2, -⟩ := half_spec n h2 hn
  have hHf := Lib.hid (fun W => rhalf_any n h2 hn W)
  have HTop := Lib.hid (fun D' => top_right n f i0 h2 hn hi (ps' ++ [p]) ps' p e D' rfl)
  have IH := Lib.hid ih
  have hn1 : (((n : Nat) : Int) == 1) = false := by simp only [beq_eq_false_iff_ne, ne_eq]; omega
  have hq0 : (((ps'.length : Int) + 1) == 0) = false := by simp only [beq_eq_false_iff_ne, ne_eq]; omega
  have hpr1 : (w.alloc (.cells zdig.toArray 28)).rangeAt pk po (bys p) := World.rangeAt_alloc hpr _
  have hpkl : pk < w.heap.size := by omega
  have hpi : (Tryd.prog.info? 28).map (·.size) = some (bys p).length := by rw [bys_len, lp]; exact Tryd.infoD
  have hu28 := Tryd.underlying28
  generalize hk : half n = k at *
  have b1 : (k : Int) ≤ (i0 : Int) := by omega
  have b2 : (k : Int) < (n : Int) := by omega
  have c1 : ((n - k : Nat) : Int) = (n : Int) - k := by omega
  have c2 : ((i0 - k : Nat) : Int) = (i0 : Int) - k := by omega
  rw [c1, c2] at IH
  clear c1 c2
  clear hP ih hpr hk
  go_enter Tryd.func46, Tryd.ntmps46
  go_wp2_with fail
  refine (hHf.out _).mono ?_
  rintro en w' ⟨rfl, rfl⟩
  obtain ⟨w1, hw1⟩ : ∃ w1, w1 = w.alloc (.cells zdig.toArray 28) := ⟨_, rfl⟩
  rw [← hw1] at hb1 hd1 hpr1 ⊢
  have hz1 : w.heap.size < w1.heap.size := by rw [hw1]; simp
  clear hw1 hHf
  have hd2 := HB.new w1 28 zdig
  have HI := dig_info lp
  have HS := dig_size lp
  have HA := dig_one p
  have hr2 := hd2.row (bys p).toArray
  have hd12 : HB ((w1.alloc (.cells zdig.toArray 28)).setRow w1.heap.size (bys p).toArray) w.heap.size 28 zdig := (hd1.alloc _).grown (grownBy_setRow _ _ _) (by intro e; injection e with e; omega)
  have hb2 : Below w.heap.size w ((w1.alloc (.cells zdig.toArray 28)).setRow w1.heap.size (bys p).toArray) := hb1.trans ((Below.setRow_ (below_alloc1 w1 _) (Nat.le_refl _) _).mono hb1.size)
  have HB2 := Lib.hid hb2
  have HR2 := Lib.hid hr2
  have HD12 := Lib.hid hd12
  clear hb1 hd1 hr2 hd12 hb2
  go_wp2_with (first
    | (refine wpList_load_mid rfl 28 _ rfl pk po rfl (bys p) _ hpr1 hu28 rfl hpi ?_)
    | (refine wpList_store_row rfl 28 _ _ rfl w1.heap.size (bys p).toArray rfl rfl 28 _ hd2 HI.out HS.out HA.out ?_))
  have hcall := Lib.hid (IH.out _ HB2.out)
  generalize World.setRow _ w1.heap.size (bys p).toArray = w2 at *
  clear hd2 hpr1 IH
  refine hcall.out.mono ?_
  rintro en w3 ⟨D', lD', rfl, hD', hB3⟩
  have HTp := Lib.hid (HTop.out D' hD')
  have hb3 := HB2.out.trans (hB3.mono HB2.out.size)
  have hg11 := HR2.out.below hB3 HR2.out.lt
  have hg8 := HD12.out.below hB3 HD12.out.lt
  have hsz3 := hb3.size
  have hl11 := hg11.lt
  have hd3 := HB.new w3 28 zdig
  have HI2 := dig_info lD'
  have HS2 := dig_size lD'
  have HA2 := dig_one D'
  have h12 := hd3.row (bys D').toArray
  have h11 : HB ((w3.alloc (.cells zdig.toArray 28)).setRow w3.heap.size (bys D').toArray) w1.heap.size 28 (bys p) := (hg11.alloc _).grown (grownBy_setRow _ _ _) (by intro e; injection e with e; omega)
  have h8 : HB ((w3.alloc (.cells zdig.toArray 28)).setRow w3.heap.size (bys D').toArray) w.heap.size 28 zdig := (hg8.alloc _).grown (grownBy_setRow _ _ _) (by intro e; injection e with e; omega)
  have hb4 : Below w.heap.size w ((w3.alloc (.cells zdig.toArray 28)).setRow w3.heap.size (bys D').toArray) := hb3.trans ((Below.setRow_ (below_alloc1 w3 _) (Nat.le_refl _) _).mono hb3.size)
  have HB4 := Lib.hid hb4
  have H8 := Lib.hid h8
  clear hcall hD' hB3 hg11 hg8 HR2 HD12 hb3 hb4 h8
  go_wp2_with (first
    | (refine wpList_store_row rfl 28 _ _ rfl w3.heap.size (bys D').toArray rfl rfl 28 _ hd3 HI2.out HS2.out HA2.out ?_)
    | (refine wpList_load_row rfl 28 _ rfl w3.heap.size rfl 28 (bys D').toArray (0, 0) _ h12 hu28 rfl HI2.out ?_)
    | (refine wpList_load_row rfl 28 _ rfl w1.heap.size rfl 28 (bys p).toArray (0, 0) _ h11 hu28 rfl HI.out ?_))
  refine (rnode_any p D' _ lp lD').mono ?_
  clear hd3 h12 h11
  generalize World.setRow _ w3.heap.size (bys D').toArray = w4 at *
  rintro en w5 ⟨v5, rfl, ho, hB5⟩
  obtain ⟨A5, c5, rfl, hc5, hcm5, -, hs5⟩ := own_slice ho
  have hsm := Lib.hid (rsum_any w5.heap.size A5 c5 (nodeB p D') w5 hs5 (Nat.le_refl _) (by rw [nodeB_len, lp, lD']; omega))
  have HB5 := Lib.hid (HB4.out.trans (hB5.mono HB4.out.size))
  have H85 := Lib.hid (H8.out.below hB5 H8.out.lt)
  clear ho hs5 hB5
  go_wp2_with fail
  refine hsm.out.mono ?_
  rintro en w6 ⟨rfl, hB6⟩
  have hg8 := H85.out.below hB6 H85.out.lt
  have hb6 := HB5.out.trans (hB6.mono HB5.out.size)
  have lN : (shaF (nodeB p D')).length = 32 := shaF_len _
  have HI3 := dig_info lN
  have HS3 := dig_size lN
  have HA3 := dig_one (shaF (nodeB p D'))
  have hr := hg8.row (bys (shaF (nodeB p D'))).toArray
  have hfin := Lib.hid (Below.setRow_ hb6 (Nat.le_refl _) (bys (shaF (nodeB p D'))).toArray)
  have HR := Lib.hid hr
  have HT2 := Lib.hid HTp.out.2
  have HT1 := Lib.hid HTp.out.1
  clear hsm hB6 hr hb6 HTp HTop
  generalize shaF (nodeB p D') = N at *
  go_wp2_with (refine wpList_store_row rfl 28 _ _ rfl w.heap.size (bys N).toArray rfl rfl 28 _ hg8 HI3.out HS3.out HA3.out ?_)
  refine bodyPost_ret (v := .tuple #[.agg (bys N).toArray, .bool (decide (ps'.length = (sibs (f + k) (f + n) (f + i0)).length))]) (results_row_tmp rfl _ _ w.heap.size 28 (bys N) _ _ rfl rfl HR.out Tryd.underlying28 rfl (by rw [bys_len, lN]; exact Tryd.infoD)) rfl ?_
  exact ⟨N, lN, by rw [HT1.out], HT2.out, hfin.out⟩
end Go.Proofs.YtdjbaigfpmibnaaDoor
