/- wapentakeref03.Top: the digest of a list. WRITTEN BY wip/gen/ruu.py. -/
import Derived.Test.YthmkdlnocdbhjaaDoorRuT
import Derived.Test.YthmkdlnocdbhjaaDoorRtR
import Derived.Test.YthmkdlnocdbhjaaDoorSet
import Derived.Deep.RegionHeld3
import Derived.Deep.DeepCutAuto
namespace Go.Proofs.YthmkdlnocdbhjaaDoor
open Go.RowKit

theorem there_hb1 {w : World} {g n : Nat} {t : TypeId} {Z : List Value} (h : HB w g t Z) (hn : n = Z.length) : w.there g 0 n := there_hb h (by omega)
theorem hb_setWhole {w : World} {g : Nat} {t : TypeId} {Z : List Value} (h : HB w g t Z) (l : List Value) (hl : l.length = Z.length) : HB (w.setCells g 0 l) g t l := by
  have h2 := hb_setCells l 0 w Z h (by omega)
  simpa using h2
/-- The sum of what a call wrote. -/
theorem rsum_wrote {w w1 : World} {v : Value} {b : List UInt8} (ho : w1.ownsRow w.heap.size 5 1 v b.length (bys b)) (hb : b.length ≤ 140737488353000) :
    Calls Tryd.prog 19 #[v] w1 (Digs w1 (shaF b)) := by
  obtain ⟨A, c, rfl, hc, hm, _, hs⟩ := own_slice ho
  exact rsum_any w1.heap.size A c b w1 hs (Nat.le_refl _) hb

set_option maxRecDepth 20000 in
set_option maxHeartbeats 1600000 in
theorem rtop_0 (A : Option Addr) (c : Nat) (w : World) : Calls Tryd.prog 18 #[.slice A 0 c] w (Digs w (shaF noneB)) := by
  have hb4 := build_b4
  have hbs := build_1
  have hz := Tryd.zeroDig
  have kc := fun (w : World) (C : Array Value) (n c : Nat) => Lib.run_convert_bytes_const (P := Tryd.prog) w 33 5 C n c Tryd.underlying33 Tryd.underlying5
  have e1 : (w.alloc (.cells zdig.toArray 28)).heap.size = w.heap.size + 1 := by simp
  have kc1 := kc (w.alloc (.cells zdig.toArray 28)) #[.int .u8 110, .int .u8 111, .int .u8 110, .int .u8 101] 4 4
  rw [e1] at kc1
  have hd1 := HB.new w 28 zdig
  have hB1 := below_alloc1 w (.cells zdig.toArray 28)
  have hB2 := below_alloc1 (w.alloc (.cells zdig.toArray 28)) (.cells #[.int .u8 110, .int .u8 111, .int .u8 110, .int .u8 101] 5 (4, 5))
  have hS2 : Slot ((w.alloc (.cells zdig.toArray 28)).alloc (.cells #[.int .u8 110, .int .u8 111, .int .u8 110, .int .u8 101] 5 (4, 5))) (w.heap.size + 1 + 1) (.slice (some ⟨w.heap.size + 1, 0, none⟩) 4 4) tagNone := by
    have h := slot_lit (w.alloc (.cells zdig.toArray 28)) 5 (4, 5) 110 111 110 101
    rw [e1] at h
    exact h
  have hz2 : ((w.alloc (.cells zdig.toArray 28)).alloc (.cells #[.int .u8 110, .int .u8 111, .int .u8 110, .int .u8 101] 5 (4, 5))).heap.size = w.heap.size + 1 + 1 := by simp
  have hl : Lists ((w.alloc (.cells zdig.toArray 28)).alloc (.cells #[.int .u8 110, .int .u8 111, .int .u8 110, .int .u8 101] 5 (4, 5))) ((w.alloc (.cells zdig.toArray 28)).alloc (.cells #[.int .u8 110, .int .u8 111, .int .u8 110, .int .u8 101] 5 (4, 5))).heap.size [.slice (some ⟨w.heap.size + 1, 0, none⟩) 4 4] [tagNone] :=
    Lists.cons (hS2.wide (by rw [hz2]; exact Nat.le_refl _)) (Lists.nothing _ _)
  have hj := Lib.hid (rjoin_lit _ 33 _ _ (w.heap.size + 1 + 1) 1 hz2 rfl hl (by decide))
  have hst := (hB1.trans (hB2.mono (by rw [e1]; omega))).alloc (show w.heap.size ≤ _ by rw [hz2]; omega) (.cells ([.slice (some ⟨w.heap.size + 1, 0, none⟩) 4 4] : List Value).toArray 33)
  have hD2 := (hd1.alloc (.cells #[.int .u8 110, .int .u8 111, .int .u8 110, .int .u8 101] 5 (4, 5))).alloc (.cells ([.slice (some ⟨w.heap.size + 1, 0, none⟩) 4 4] : List Value).toArray 33)
  have HST := Lib.hid hst
  have HD2 := Lib.hid hD2
  clear e1 hd1 hB1 hB2 hS2 hz2 hl hst hD2 kc
  go_enter Tryd.func18, Tryd.ntmps18
  go_wp2_with fail
  refine hj.out.mono ?_
  rintro e w2 ⟨v2, rfl, ho, hB2⟩
  have hsm1 : Calls Tryd.prog 19 #[v2] w2 (Digs w2 (shaF noneB)) := rsum_wrote ho (by decide)
  have hsm := Lib.hid hsm1
  clear hsm1
  have hd3 := HD2.out.below hB2 HD2.out.lt
  have hb3 := HST.out.trans (hB2.mono HST.out.size)
  have HD3 := Lib.hid hd3
  have HB3 := Lib.hid hb3
  clear ho hB2 hd3 hb3 hj kc1 hb4 hbs
  go_wp2_with fail
  refine hsm.out.mono ?_
  rintro e w4 ⟨rfl, hB4⟩
  have hD4 := HD3.out.below hB4 HD3.out.lt
  have hB5 := HB3.out.trans (hB4.mono HB3.out.size)
  have HI := dig_info (shaF_len noneB)
  have HS := dig_size (shaF_len noneB)
  have HA := dig_one (shaF noneB)
  have hr := hD4.row (bys (shaF noneB)).toArray
  have hB6 := Below.setRow_ hB5 (Nat.le_refl _) (bys (shaF noneB)).toArray
  clear hsm hB4 hB5
  generalize shaF noneB = l at *
  go_wp2_with (refine wpList_store_row rfl 28 _ _ rfl w.heap.size (bys l).toArray rfl rfl 28 _ hD4 HI.out HS.out HA.out ?_)
  refine bodyPost_ret (v := .agg (bys l).toArray) (results_cell_row rfl _ _ w.heap.size 28 (bys l).toArray (0, 0) _ rfl hr Tryd.underlying28 rfl HI.out) rfl ?_
  exact ⟨rfl, hB6⟩

set_option maxRecDepth 20000 in
set_option maxHeartbeats 1600000 in
theorem rtop_1 (B : Nat) (A : Option Addr) (c : Nat) (vs : List Value) (ls : List (List UInt8)) (w : World) (hW : LsW w B A c vs ls) (h1 : ls.length = 1) : Calls Tryd.prog 18 #[.slice A 1 c] w (Digs w (shaF (leafB (ls.getD 0 [])))) := by
  have hz := Tryd.zeroDig
  have hd1 := HB.new w 28 zdig
  have hB1 := below_alloc1 w (.cells zdig.toArray 28)
  have hWa := hW.below hB1
  obtain ⟨ad, hA, hadb, hx⟩ := hWa.sees.some_ (by omega)
  obtain ⟨Ai, ci, hv1, hv2, hv3, hv4⟩ := hWa.lists.at_ (show 0 < ls.length by omega)
  have hxi := hx 0 _ hv1
  rw [add_zero] at hxi
  have hge : ls.getD 0 [] = ls[0]'(by omega) := by rw [List.getD_eq_getElem?_getD, List.getElem?_eq_getElem (by omega)]; rfl
  have hsm0 := hW.small 0 _ (List.getElem?_eq_getElem (by omega))
  have hlf := Lib.hid (rleaf_any B Ai ci (ls[0]'(by omega)) (w.alloc (.cells zdig.toArray 28)) hv4 hWa.hB hv2 hv3 hsm0)
  have HS0 := Lib.hid hsm0
  rw [hge]
  subst hA
  have HD1 := Lib.hid hd1
  have HB1 := Lib.hid hB1
  clear hW hWa hx hv1 hv2 hv4 hge hd1 hB1 hsm0
  generalize (ls[0]'(by omega)) = e0 at *
  go_enter Tryd.func18, Tryd.ntmps18
  go_wp2_with fail
  refine hlf.out.mono ?_
  rintro e w2 ⟨v2, rfl, ho, hB2⟩
  have hsm := Lib.hid (rsum_wrote ho (by have := leafB_len e0; have := HS0.out; omega))
  have hd3 := HD1.out.below hB2 (by have := HD1.out.lt; omega)
  have hb3 := HB1.out.trans (hB2.mono HB1.out.size)
  have HD3 := Lib.hid hd3
  have HB3 := Lib.hid hb3
  clear ho hB2 hd3 hb3 hlf
  go_wp2_with fail
  refine hsm.out.mono ?_
  rintro e w4 ⟨rfl, hB4⟩
  have hD4 := HD3.out.below hB4 HD3.out.lt
  have hB5 := HB3.out.trans (hB4.mono HB3.out.size)
  have HI := dig_info (shaF_len (leafB e0))
  have HS := dig_size (shaF_len (leafB e0))
  have HA := dig_one (shaF (leafB e0))
  have hr := hD4.row (bys (shaF (leafB e0))).toArray
  have hB6 := Below.setRow_ hB5 (Nat.le_refl _) (bys (shaF (leafB e0))).toArray
  clear hsm hB4 hB5
  generalize shaF (leafB e0) = l at *
  go_wp2_with (refine wpList_store_row rfl 28 _ _ rfl w.heap.size (bys l).toArray rfl rfl 28 _ hD4 HI.out HS.out HA.out ?_)
  refine bodyPost_ret (v := .agg (bys l).toArray) (results_cell_row rfl _ _ w.heap.size 28 (bys l).toArray (0, 0) _ rfl hr Tryd.underlying28 rfl HI.out) rfl ?_
  exact ⟨rfl, hB6⟩

set_option maxRecDepth 20000 in
set_option maxHeartbeats 1600000 in
theorem rtop_N (B : Nat) (A : Option Addr) (c : Nat) (vs : List Value) (ls : List (List UInt8)) (w : World) (hW : LsW w B A c vs ls) (h2 : 2 ≤ ls.length) (d1 d2 : List UInt8) (l1 : d1.length = 32) (l2 : d2.length = 32)
    (ih1 : ∀ W : World, Below w.heap.size w W → Calls Tryd.prog 18 #[.slice A (half ls.length) c] W (Digs W d1))
    (ih2 : ∀ W : World, Below w.heap.size w W → Calls Tryd.prog 18 #[.slice (A.map (·.add (half ls.length))) (ls.length - half ls.length) (c - half ls.length)] W (Digs W d2)) : Calls Tryd.prog 18 #[.slice A ls.length c] w (Digs w (shaF (nodeB d1 d2))) := by
  have hz := Tryd.zeroDig
  have hcap := hW.cap
  obtain ⟨k1, k2, -⟩ := half_spec ls.length h2 (by omega)
  have hhf := Lib.hid (fun W : World => rhalf_any ls.length h2 (by omega) W)
  obtain ⟨ad, hA, -, -⟩ := hW.sees.some_ (by omega)
  subst hA
  have hd1 := HB.new w 28 zdig
  have hB1 := below_alloc1 w (.cells zdig.toArray 28)
  have HD1 := Lib.hid hd1
  have HB1 := Lib.hid hB1
  have IH1 := Lib.hid ih1
  have IH2 := Lib.hid ih2
  have L1 := Lib.hid l1
  have L2 := Lib.hid l2
  have c1 : ls.length ≤ c := hcap.1
  have c2 : c ≤ 9223372036854775807 := by omega
  clear hW hcap hd1 hB1 ih1 ih2 l1 l2
  generalize ls.length = n at *
  generalize half n = k at *
  have i1 : (2 : Int) ≤ n := by omega
  have i2 : (0 : Int) < k := by omega
  have i3 : (k : Int) < n := by omega
  have i4 : (n : Int) ≤ c := by omega
  have i5 : (k : Int) ≤ c := by omega
  have i6 : (n : Int) ≤ 9223372036854775807 := by omega
  have i7 : ¬ c = k := by omega
  have i9 : k ≤ n := by omega
  have i8 : (c == k) = false := by simp; omega
  go_enter Tryd.func18, Tryd.ntmps18
  go_wp2_with fail
  refine (hhf.out _).mono ?_
  rintro e w1 ⟨rfl, rfl⟩
  clear hhf
  go_upto_region 6 with fail
  generalize (w.alloc (.cells zdig.toArray 28)) = w1 at *
  refine wp_region_held_drew (S := fun _ => True) (by kernel_rfl) trivial (fun hH => ?_)
  try simp only [Act.put, List.getElem_toArray, List.getElem_cons_succ, List.getElem_cons_zero, List.setIfInBounds_toArray, List.set_cons_succ, List.set_cons_zero]
  refine wpAnyH_take (i := 0) (v := ?v1) rfl (by kernel_rfl) (by kernel_rfl) (by kernel_rfl) (fun _ _ _ h => h) (Or.inl ⟨by rfl, ?y1⟩) hH ?_
  case y1 => intro w' hSw; clear hSw; (first | (go_simp; done) | (go_simp; with_reducible rfl))
  try simp only [Act.put, List.getElem_toArray, List.getElem_cons_zero, List.setIfInBounds_toArray, List.set_cons_succ, List.set_cons_zero]
  refine wpAnyH_take (i := 1) (v := ?v2) rfl (by kernel_rfl) (by kernel_rfl) (by kernel_rfl) (fun _ _ _ h => h) (Or.inl ⟨by rfl, ?y2⟩) hH ?_
  case y2 => intro w' hSw; clear hSw; (first | (go_simp; done) | (go_simp; with_reducible rfl))
  try simp only [Act.put, List.getElem_toArray, List.getElem_cons_succ, List.getElem_cons_zero, List.setIfInBounds_toArray, List.set_cons_succ, List.set_cons_zero]
  refine wpAnyH_take (i := 2) (v := ?v3) rfl (by kernel_rfl) (by kernel_rfl) (by kernel_rfl) (fun _ _ _ h => h) (Or.inl ⟨by rfl, ?y3⟩) hH ?_
  case y3 => intro w' hSw; clear hSw; (first | (go_simp; done) | (go_simp; with_reducible rfl))
  try simp only [Act.put, List.getElem_toArray, List.getElem_cons_succ, List.getElem_cons_zero, List.setIfInBounds_toArray, List.set_cons_succ, List.set_cons_zero]
  refine wpAnyH_take (i := 4) (v := ?v4) rfl (by kernel_rfl) (by kernel_rfl) (by kernel_rfl) (fun _ _ _ h => h) (Or.inl ⟨by rfl, ?y4⟩) hH ?_
  case y4 => intro w' hSw; clear hSw; (first | (go_simp; done) | (go_simp; with_reducible rfl))
  try simp only [Act.put, List.getElem_toArray, List.getElem_cons_succ, List.getElem_cons_zero, List.setIfInBounds_toArray, List.set_cons_succ, List.set_cons_zero]
  refine wpAnyH_take (i := 5) (v := ?v5) rfl (by kernel_rfl) (by kernel_rfl) (by kernel_rfl) (fun _ _ _ h => h) (Or.inl ⟨by rfl, ?y5⟩) hH ?_
  case y5 => intro w' hSw; clear hSw; (first | (go_simp; done) | (go_simp; with_reducible rfl))
  try simp only [Act.put, List.getElem_toArray, List.getElem_cons_succ, List.getElem_cons_zero, List.setIfInBounds_toArray, List.set_cons_succ, List.set_cons_zero]
  refine wpAnyH_take (i := 6) (v := ?v6) rfl (by kernel_rfl) (by kernel_rfl) (by kernel_rfl) (fun _ _ _ h => h) (Or.inl ⟨by rfl, ?y6⟩) hH ?_
  case y6 => intro w' hSw; clear hSw; (first | (go_simp; done) | (go_simp; with_reducible rfl))
  try simp only [Act.put, List.getElem_toArray, List.getElem_cons_succ, List.getElem_cons_zero, List.setIfInBounds_toArray, List.set_cons_succ, List.set_cons_zero]
  refine wpAnyH_ready (rs := [3]) (by kernel_rfl) (by simp) ?_
  refine AllReadyH.cons rfl (fun K hK => ?_) AllReadyH.nil
  rw [if_pos (by rfl)]
  go_simp
  refine (IH1.out _ HB1.out.drew).mono ?_
  rintro e wa ⟨rfl, hBa⟩
  have HBa := Lib.hid (HB1.out.drew.trans (hBa.mono HB1.out.size))
  have HDa := Lib.hid (HD1.out.drew.below hBa (by have := HD1.out.lt; exact this))
  clear hBa
  try dsimp only
  refine hK.out _ _ trivial (fun _ => ?_)
  clear hK K hH
  try simp only [Act.put, List.getElem_toArray, List.getElem_cons_succ, List.getElem_cons_zero, List.setIfInBounds_toArray, List.set_cons_succ, List.set_cons_zero]
  refine wpAnyH_ready (rs := [7]) (by kernel_rfl) (by simp) ?_
  refine AllReadyH.cons rfl (fun K hK => ?_) AllReadyH.nil
  rw [if_pos (by rfl)]
  go_simp
  refine (IH2.out _ HBa.out).mono ?_
  rintro e wb ⟨rfl, hBb⟩
  have HBb := Lib.hid (HBa.out.trans (hBb.mono HBa.out.size))
  have HDb := Lib.hid (HDa.out.below hBb HDa.out.lt)
  clear hBb
  try dsimp only
  refine hK.out _ _ trivial (fun _ => ?_)
  clear hK K
  try simp only [Act.put, List.getElem_toArray, List.getElem_cons_succ, List.getElem_cons_zero, List.setIfInBounds_toArray, List.set_cons_succ, List.set_cons_zero]
  refine wpAnyH_ready (rs := [8]) (by kernel_rfl) (by simp) ?_
  refine AllReadyH.cons rfl (fun K hK => ?_) AllReadyH.nil
  rw [if_pos (by rfl)]
  go_simp
  refine (rnode_any d1 d2 _ L1.out L2.out).mono ?_
  rintro e wc ⟨vc, rfl, hoc, hBc⟩
  have hsm := Lib.hid (rsum_wrote hoc (by rw [nodeB_len, L1.out, L2.out]; omega))
  have HBc := Lib.hid (HBb.out.trans (hBc.mono HBb.out.size))
  have HDc := Lib.hid (HDb.out.below hBc HDb.out.lt)
  clear hBc hoc
  try dsimp only
  refine hK.out _ _ trivial (fun _ => ?_)
  clear hK K
  try simp only [Act.put, List.getElem_toArray, List.getElem_cons_succ, List.getElem_cons_zero, List.setIfInBounds_toArray, List.set_cons_succ, List.set_cons_zero]
  refine wpAnyH_ready (rs := [9]) (by kernel_rfl) (by simp) ?_
  refine AllReadyH.cons rfl (fun K hK => ?_) AllReadyH.nil
  rw [if_pos (by rfl)]
  go_simp
  refine hsm.out.mono ?_
  rintro e wd ⟨rfl, hBd⟩
  have HBd := Lib.hid (HBc.out.trans (hBd.mono HBc.out.size))
  have HDd := Lib.hid (HDc.out.below hBd HDc.out.lt)
  clear hBd hsm
  have HI := dig_info (shaF_len (nodeB d1 d2))
  have HL : Hid ((bys (shaF (nodeB d1 d2))).toArray.size = zdig.length) := Lib.hid (by rw [List.size_toArray, bys_len, shaF_len, zdig_len])
  have HL2 : Hid ((bys (shaF (nodeB d1 d2))).toArray.toList.length = zdig.length) := Lib.hid (by simp [bys_len, shaF_len, zdig_len])
  have HA := dig_one (shaF (nodeB d1 d2))
  generalize shaF (nodeB d1 d2) = l at *
  try dsimp only
  refine hK.out _ _ trivial (fun _ => ?_)
  clear hK K
  try simp only [Act.put, List.getElem_toArray, List.getElem_cons_succ, List.getElem_cons_zero, List.setIfInBounds_toArray, List.set_cons_succ, List.set_cons_zero]
  refine wpAnyH_ready (rs := [10]) (by kernel_rfl) (by simp) ?_
  refine AllReadyH.cons rfl (fun K hK => ?_) AllReadyH.nil
  rw [if_pos (by rfl)]
  refine wp_store_mid 28 _ _ rfl w.heap.size 0 (bys l).toArray rfl rfl (there_hb1 HDd.out HL.out) HI.out HA.out ?_
  have hDe : HB (wd.setCells w.heap.size 0 (bys l).toArray.toList) w.heap.size 28 (bys l) := hb_setWhole HDd.out _ HL2.out
  have hBe : Below w.heap.size w (wd.setCells w.heap.size 0 (bys l).toArray.toList) := below_setCells (Nat.le_refl _) _ 0 _ HBd.out
  generalize wd.setCells w.heap.size 0 (bys l).toArray.toList = we at *
  refine hK.out _ _ trivial (fun _ => ?_)
  clear hK K
  refine wpAnyH_done (by kernel_rfl) ?_ _
  go_wp2
  refine bodyPost_ret (v := .agg (bys l).toArray) (results_cell_row rfl _ _ w.heap.size 28 (bys l).toArray (0, 0) _ rfl hDe Tryd.underlying28 rfl HI.out) rfl ?_
  exact ⟨rfl, hBe⟩

/-- Top: the digest of any list. -/
theorem rtop_any : ∀ (n B : Nat) (A : Option Addr) (c : Nat) (vs : List Value) (ls : List (List UInt8)) (w : World), ls.length = n → LsW w B A c vs ls → Calls Tryd.prog 18 #[.slice A ls.length c] w (Digs w (dig ls 0 ls.length)) := by
  intro n
  induction n using Nat.strongRecOn with
  | ind n ih =>
    intro B A c vs ls w hn hW
    have hcap := hW.cap
    rcases Nat.lt_or_ge n 2 with h2 | h2
    · rcases Nat.eq_zero_or_pos n with h0 | h0
      · have hl : ls.length = 0 := by omega
        rw [hl, dig_none ls 0 0 (by omega)]
        exact rtop_0 A c w
      · have hl : ls.length = 1 := by omega
        rw [hl, dig_leaf ls 0 1 (by omega)]
        exact rtop_1 B A c vs ls w hW hl
    · obtain ⟨k1, k2, -⟩ := half_spec ls.length (by omega) (by omega)
      rw [dig_node ls 0 ls.length (by omega) (by omega)]
      simp only [Nat.zero_add, Nat.sub_zero]
      refine rtop_N B A c vs ls w hW (by omega) _ _ (dig_len _ _ _) (dig_len _ _ _) (fun W hB => ?_) (fun W hB => ?_)
      · have h := ih (half ls.length) (by omega) B A c (vs.take (half ls.length)) (ls.take (half ls.length)) W (by rw [List.length_take]; omega) ((hW.below hB).front _ (by omega))
        rw [dig_take ls _ (by omega) (by omega)] at h
        rw [show (ls.take (half ls.length)).length = half ls.length by rw [List.length_take]; omega] at h
        exact h
      · have h := ih (ls.length - half ls.length) (by omega) B (A.map (·.add (half ls.length))) (c - half ls.length) (vs.drop (half ls.length)) (ls.drop (half ls.length)) W (by rw [List.length_drop]) ((hW.below hB).back _ (by omega))
        rw [dig_drop ls _ (by omega) (by omega)] at h
        rw [List.length_drop] at h
        exact h
end Go.Proofs.YthmkdlnocdbhjaaDoor
