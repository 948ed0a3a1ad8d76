/- (*sign.Ring).Sign where it signs. WRITTEN BY wip/gen/sgt.py. -/
import Derived.Test.YtkhbogccmngmmaaDoorSgS
namespace Go.Proofs.YtkhbogccmngmmaaDoor
open Go.RowKit

theorem Tryd.zeroSgn (W : World) : (zeroValue 122).run Tryd.prog W = .ok (.agg ([.int .i64 0, .int .i64 0, .string (strB [])] : List Value).toArray) W := by kernel_rfl
theorem Tryd.sizeSgn : (Tryd.prog.info? 122).map (·.size) = some 3 := by kernel_rfl
theorem Tryd.sizeDig : (Tryd.prog.info? 24).map (·.size) = some 32 := by kernel_rfl
/-- It signs. -/
def SignR (w : World) (f : Foot) (nk : Nat) (bud : Int) (L : List Sg) (U : List (Int × Int)) (s : Sg) (e : Ending) (w' : World) : Prop :=
  e = .returned (.tuple #[.agg (sigL s.1.2 (tagF s)).toArray, .int .i64 0]) ∧ RingW w' f nk bud (signL L s) (signU L U s) ∧ Turn f.mine w w'
/-- A digest's row in a block of its own: what is known behind 'tag, known := r.tags[made]'. -/
structure Look (w5 w' : World) (n : Nat) (d : List UInt8) : Prop where
  below : Below w5.heap.size w5 w'
  row : HB w' n 24 (bys d)
  fresh : w5.heap.size ≤ n
theorem there_hb0 {w : World} {g n : Nat} {t : TypeId} {Z : List Value} (h : HB w g t Z) (hn : n = Z.length) : w.there g 0 n := there_hb h (by omega)
theorem hb_setAll {w : World} {g : Nat} {t : TypeId} {Z : List Value} (h : HB w g t Z) (l : List Value) (hl : l.length = Z.length) : HB (w.setCells g 0 l) g t l := by
  have h2 := hb_setCells l 0 w Z h (by omega)
  simpa using h2


set_option maxRecDepth 20000 in
set_option maxHeartbeats 1600000 in
theorem sign_known {f : Foot} {nk : Nat} {bud : Int} {L : List Sg} {U : List (Int × Int)} (w : World) (h : RingW w f nk bud L U) (k : Nat) (hk : k < nk) (i : Nat) (hib : (i : Int) < bud) (B : Nat) (A : Option Addr) (c : Nat) (t : List UInt8) (hs : Sees w B 1 A t.length (bys t)) (hBw : B ≤ w.heap.size) (ht : t.length ≤ 140737488351232)
    (hmem : (((k : Int), (i : Int)), t) ∈ L) :
    Calls Tryd.prog 27 #[.pointer (some ⟨f.r, 0, none⟩), .int .i64 (k : Int), .int .i64 (i : Int), .slice A t.length c] w (SignR w f nk bud L U (((k : Int), (i : Int)), t)) := by
  have hbud := h.bud
  have hnk := h.nk
  have hI : I64 (k : Int) := ⟨by omega, by omega⟩
  have hI2 : I64 (i : Int) := ⟨by omega, by omega⟩
  obtain ⟨kl, hkl⟩ := keySg (s := (((k : Int), (i : Int)), t)) ⟨hI, hI2, ht⟩
  have hz := Tryd.zeroSig
  have hzs := Tryd.zeroSgn
  have hR1 := h.alloc (.cells sigZ.toArray 61)
  have hh := Lib.hid (has_yes _ hR1 k hk)
  have hd1 := HB.new w 61 sigZ
  have hc0 := hR1.c0
  have hB1 := below_alloc1 w (.cells sigZ.toArray 61)
  have hs1 := hs.below (hB1.mono hBw)
  have hcv := conv_sees c hs1
  have e1 : (w.alloc (.cells sigZ.toArray 61)).heap.size = w.heap.size + 1 := by simp
  have hX := HB.new (w.alloc (.cells sigZ.toArray 61)) 122 [.int .i64 0, .int .i64 0, .string (strB [])]
  rw [e1] at hX
  have hX3 := hX.row ([.int .i64 (k : Int), .int .i64 (i : Int), .string (strB t)] : List Value).toArray
  have hB3 : Below (w.heap.size + 1) (w.alloc (.cells sigZ.toArray 61)) (((w.alloc (.cells sigZ.toArray 61)).alloc (.cells ([.int .i64 0, .int .i64 0, .string (strB [])] : List Value).toArray 122)).setRow (w.heap.size + 1) ([.int .i64 (k : Int), .int .i64 (i : Int), .string (strB t)] : List Value).toArray) := by
    have h2 := below_alloc1 (w.alloc (.cells sigZ.toArray 61)) (.cells ([.int .i64 0, .int .i64 0, .string (strB [])] : List Value).toArray 122)
    rw [e1] at h2
    exact Below.setRow_ h2 (Nat.le_refl _) _
  have hR3 := hR1.below (by rw [e1]; exact hB3)
  have hd3 := hd1.below hB3 (by omega)
  have hB03 := hB1.trans (hB3.mono (by omega))
  have HIX : Hid ((Tryd.prog.info? 122).map (·.size) = some ([.int .i64 (k : Int), .int .i64 (i : Int), .string (strB t)] : List Value).toArray.size) := Lib.hid Tryd.sizeSgn
  have HSX : Hid (([.int .i64 0, .int .i64 0, .string (strB [])] : List Value).toArray.size = ([.int .i64 (k : Int), .int .i64 (i : Int), .string (strB t)] : List Value).toArray.size) := Lib.hid rfl
  have HAX : Hid (([.int .i64 (k : Int), .int .i64 (i : Int), .string (strB t)] : List Value).toArray.all (·.oneCell') = true) := Lib.hid (all_oneCell_toArray (by simp [Value.oneCell']))
  have H := Lib.hid h
  have HX5 := Lib.hid hX3
  have HR5 := Lib.hid hR3
  have HD5 := Lib.hid hd3
  have HB5 := Lib.hid hB03
  have HE1 := Lib.hid e1
  clear h hk hR1 hd1 hB1 hs1 e1 hX3 hB3 hR3 hd3 hB03 hbud hnk
  go_enter Tryd.func27, Tryd.ntmps27
  go_wp2_with fail
  refine hh.out.mono ?_
  rintro e w' ⟨rfl, rfl⟩
  clear hh
  go_wp2_with (refine wpList_store_row rfl 122 _ _ rfl (w.heap.size + 1) ([.int .i64 (k : Int), .int .i64 (i : Int), .string (strB t)] : List Value).toArray rfl rfl 122 _ hX HIX.out HSX.out HAX.out ?_)
  clear hcv hc0 hX hz hzs
  generalize ((w.alloc (.cells sigZ.toArray 61)).alloc (.cells ([.int .i64 0, .int .i64 0, .string (strB [])] : List Value).toArray 122)).setRow (w.heap.size + 1) ([.int .i64 (k : Int), .int .i64 (i : Int), .string (strB t)] : List Value).toArray = w5 at *
  have hlk : ∀ w' : World, Below w5.heap.size w5 w' → (Instr.lookup 112 (.map (some f.T)) (.agg #[.int .i64 (k : Int), .int .i64 (i : Int), .string (strB t)]) true).run Tryd.prog w' = .ok (.tuple #[.agg (bys (tagF (((k : Int), (i : Int)), t))).toArray, .bool true]) w' := fun w' hB =>
    (HR5.out.below hB).tags.look_yes Tryd.lawSg Tryd.underlying112 hkl (sg_in hmem)
  have hzd := Tryd.zeroDig
  obtain ⟨dg, hdg⟩ : ∃ d, d = tagF (((k : Int), (i : Int)), t) := ⟨_, rfl⟩
  have hdl : dg.length = 32 := by rw [hdg]; exact tagF_len _
  have HZ32 : Hid ((bys dg).toArray.size = zdig.length) := Lib.hid (by rw [List.size_toArray, bys_len, hdl, zdig_len])
  have HZ32' : Hid ((bys dg).toArray.toList.length = zdig.length) := Lib.hid (by simp [bys_len, hdl, zdig_len])
  have HDI := dig_info hdl
  have HDA := dig_one dg
  have HDL := Lib.hid hdl
  rw [← hdg] at hlk
  have HLK := Lib.hid hlk
  have HDG := Lib.hid hdg
  clear hlk hdl hdg
  refine wp_region_held_drew (S := fun w' => Below w5.heap.size w5 w') (by kernel_rfl) (Below.drew (Below.refl _ _)) (fun hH => ?_)
  try simp only [Act.put]
  refine wpAnyH_take (i := 0) (v := ?v1) rfl (by kernel_rfl) (by kernel_rfl) (by kernel_rfl) (fun _ _ _ h => h) (Or.inl ⟨by rfl, ?y1⟩) hH ?_
  case y1 => intro w' hSw; clear hSw; (first | (go_simp; done) | (go_simp; with_reducible rfl))
  try simp only [Act.put, List.getElem_toArray, List.getElem_cons_zero, List.setIfInBounds_toArray, List.set_cons_succ, List.set_cons_zero]
  refine wpAnyH_take (i := 1) (v := ?v2) rfl (by kernel_rfl) (by kernel_rfl) (by kernel_rfl) (fun _ _ _ h => h) (Or.inl ⟨by rfl, ?y2⟩) hH ?_
  case y2 => intro w' hSw; clear hSw; (first | (go_simp; done) | (go_simp; with_reducible rfl))
  try simp only [Act.put, List.getElem_toArray, List.getElem_cons_succ, List.getElem_cons_zero, List.setIfInBounds_toArray, List.set_cons_succ, List.set_cons_zero]
  refine wpAnyH_take (i := 2) (v := ?v3) rfl (by kernel_rfl) (by kernel_rfl) (by kernel_rfl) (fun _ _ _ h => h) (Or.inl ⟨by rfl, ?y3⟩) hH ?_
  case y3 => intro w' hSw; clear hSw; (first | (go_simp; done) | (go_simp; with_reducible rfl))
  try simp only [Act.put, List.getElem_toArray, List.getElem_cons_succ, List.getElem_cons_zero, List.setIfInBounds_toArray, List.set_cons_succ, List.set_cons_zero]
  refine wpAnyH_take (i := 3) (v := ?v4) rfl (by kernel_rfl) (by kernel_rfl) (by kernel_rfl) (fun _ _ _ h => h) (Or.inl ⟨by rfl, ?y4⟩) hH ?_
  case y4 => intro w' hSw; have hc2 := (HR5.out.below hSw).c2; clear hSw; (first | (go_simp; done) | (go_simp; with_reducible rfl))
  try simp only [Act.put, List.getElem_toArray, List.getElem_cons_succ, List.getElem_cons_zero, List.setIfInBounds_toArray, List.set_cons_succ, List.set_cons_zero]
  refine wpAnyH_take (i := 4) (v := .agg ([.int .i64 (k : Int), .int .i64 (i : Int), .string (strB t)]).toArray) rfl (by kernel_rfl) (by kernel_rfl) (by kernel_rfl) (fun _ _ _ h => h) (yieldsIf_load_mid (by rfl) 122 _ rfl (w.heap.size + 1) 0 rfl ([.int .i64 (k : Int), .int .i64 (i : Int), .string (strB t)]) _ (fun w' h => (HX5.out.below h HX5.out.lt).range) Tryd.underlying122 rfl Tryd.sizeSgn) hH ?_
  try simp only [Act.put, List.getElem_toArray, List.getElem_cons_succ, List.getElem_cons_zero, List.setIfInBounds_toArray, List.set_cons_succ, List.set_cons_zero]
  refine wpAnyH_take (i := 5) (v := ?v5) rfl (by kernel_rfl) (by kernel_rfl) (by kernel_rfl) (fun _ _ _ h => h) (Or.inl ⟨by rfl, ?y5⟩) hH ?_
  case y5 => intro w' hSw; have hlk := HLK.out w' hSw; clear hSw; (first | (go_simp; done) | (go_simp; with_reducible rfl))
  try simp only [Act.put, List.getElem_toArray, List.getElem_cons_succ, List.getElem_cons_zero, List.setIfInBounds_toArray, List.set_cons_succ, List.set_cons_zero]
  refine wpAnyH_take (i := 6) (v := ?v6) rfl (by kernel_rfl) (by kernel_rfl) (by kernel_rfl) (fun _ _ _ h => h) (Or.inl ⟨by rfl, ?y6⟩) hH ?_
  case y6 => intro w' hSw; clear hSw; (first | (go_simp; done) | (go_simp; with_reducible rfl))
  try simp only [Act.put, List.getElem_toArray, List.getElem_cons_succ, List.getElem_cons_zero, List.setIfInBounds_toArray, List.set_cons_succ, List.set_cons_zero]
  refine wpAnyH_take (i := 7) (v := ?v7) rfl (by kernel_rfl) (by kernel_rfl) (by kernel_rfl) (fun _ _ _ h => h) (Or.inl ⟨by rfl, ?y7⟩) hH ?_
  case y7 => intro w' hSw; clear hSw; (first | (go_simp; done) | (go_simp; with_reducible rfl))
  try simp only [Act.put, List.getElem_toArray, List.getElem_cons_succ, List.getElem_cons_zero, List.setIfInBounds_toArray, List.set_cons_succ, List.set_cons_zero]
  refine wpAnyH_take (i := 8) (v := ?v8) rfl (by kernel_rfl) (by kernel_rfl) (by kernel_rfl) (fun _ _ _ h => h) (Or.inl ⟨by rfl, ?y8⟩) hH ?_
  case y8 => intro w' hSw; clear hSw; (first | (go_simp; done) | (go_simp; with_reducible rfl))
  try simp only [Act.put, List.getElem_toArray, List.getElem_cons_succ, List.getElem_cons_zero, List.setIfInBounds_toArray, List.set_cons_succ, List.set_cons_zero]
  refine wpAnyH_ready (rs := [9]) (by kernel_rfl) (by simp) ?_
  refine AllReadyH.cons rfl (fun K hK => ?_) AllReadyH.nil
  rw [if_pos (by rfl)]
  go_simp
  have hn6 := (HB.new w5 24 zdig).drew
  have hH6 : Below w5.heap.size w5 (w5.alloc (.cells zdig.toArray 24)).drew := (below_alloc1 w5 _).drew
  generalize (w5.alloc (.cells zdig.toArray 24)).drew = w6 at *
  refine hK.out _ _ hH6 (fun _ => ?_)
  clear hK K hH
  try simp only [Act.put, List.getElem_toArray, List.getElem_cons_succ, List.getElem_cons_zero, List.setIfInBounds_toArray, List.set_cons_succ, List.set_cons_zero]
  refine wpAnyH_ready (rs := [10]) (by kernel_rfl) (by simp) ?_
  refine AllReadyH.cons rfl (fun K hK => ?_) AllReadyH.nil
  rw [if_pos (by rfl)]
  refine wp_store_mid 24 _ _ rfl w5.heap.size 0 (bys dg).toArray rfl rfl (there_hb0 hn6 HZ32.out) HDI.out HDA.out ?_
  have hn7 : HB (w6.setCells w5.heap.size 0 (bys dg).toArray.toList) w5.heap.size 24 (bys dg) := hb_setAll hn6 _ HZ32'.out
  have hH7 : Below w5.heap.size w5 (w6.setCells w5.heap.size 0 (bys dg).toArray.toList) := below_setCells (Nat.le_refl _) _ 0 _ hH6
  generalize w6.setCells w5.heap.size 0 (bys dg).toArray.toList = w7 at *
  refine hK.out _ _ hH7 (fun _ => ?_)
  clear hK K hH6 hn6
  try simp only [Act.put, List.getElem_toArray, List.getElem_cons_succ, List.getElem_cons_zero]
  refine wpAnyH_take (i := 11) (v := ?v9) rfl (by kernel_rfl) (by kernel_rfl) (by kernel_rfl) (fun _ _ _ h => h) (Or.inl ⟨by rfl, ?y9⟩) hH7 ?_
  case y9 => intro w' hSw; clear hSw; (first | (go_simp; done) | (go_simp; with_reducible rfl))
  try simp only [Act.put, List.getElem_toArray, List.getElem_cons_succ, List.getElem_cons_zero, List.setIfInBounds_toArray, List.set_cons_succ, List.set_cons_zero]
  refine wpAnyH_done (by kernel_rfl) ?_ _
  have hd7 := HD5.out.below hH7 HD5.out.lt
  have hs5 := HB5.out.size
  have HBF := Lib.hid (Below.setRow_ (HB5.out.trans (hH7.mono hs5)) (Nat.le_refl _) (sigL (i : Int) dg).toArray)
  have HBS := Lib.hid (built_sig (i : Int) dg HDL.out)
  have HSI := sig_info (i := (i : Int)) HDL.out
  have HSL := sig_info_l (i := (i : Int)) HDL.out
  have HSS := sig_size (i := (i : Int)) HDL.out
  have HSA := sigL_one (i : Int) dg
  have hr := hd7.row (sigL (i : Int) dg).toArray
  clear hH7 hs5
  go_wp2_with (first
    | (refine wpList_load_row rfl 24 _ rfl w5.heap.size rfl 24 (bys dg).toArray (0, 0) _ hn7 Tryd.underlying24 rfl HDI.out ?_)
    | (refine wpList_buildTo rfl 61 _ rfl _ rfl (sigL (i : Int) dg).toArray (by (simp only [List.map_toArray, List.map_cons, List.map_nil]; exact HBS.out)) ?_)
    | (refine wpList_store_row rfl 61 _ _ rfl w.heap.size (sigL (i : Int) dg).toArray rfl rfl 61 _ hd7 HSI.out HSS.out HSA.out ?_))
  refine bodyPost_ret (results_sig rfl _ _ w.heap.size 61 (sigL (i : Int) dg) _ (.int .i64 0) rfl rfl hr Tryd.underlying61 rfl HSL.out) rfl ?_
  exact ⟨by rw [HDG.out], by unfold signL signU; rw [if_pos hmem, if_pos hmem]; exact H.out.below HBF.out, Turn.of_below HBF.out⟩

set_option maxRecDepth 20000 in
set_option maxHeartbeats 1600000 in
theorem sign_new {f : Foot} {nk : Nat} {bud : Int} {L : List Sg} {U : List (Int × Int)} (w : World) (h : RingW w f nk bud L U) (k : Nat) (hk : k < nk) (i : Nat) (hib : (i : Int) < bud) (B : Nat) (A : Option Addr) (c : Nat) (t : List UInt8) (hs : Sees w B 1 A t.length (bys t)) (hBw : B ≤ w.heap.size) (hc : t.length ≤ c) (hcm : c ≤ 9223372036854775807) (ht : t.length ≤ 140737488351232) (hk2 : Consts w)
    (hmem : (((k : Int), (i : Int)), t) ∉ L) (hfew : L.length < 4611686018427387904) :
    Calls Tryd.prog 27 #[.pointer (some ⟨f.r, 0, none⟩), .int .i64 (k : Int), .int .i64 (i : Int), .slice A t.length c] w (SignR w f nk bud L U (((k : Int), (i : Int)), t)) := by
  have hbud := h.bud
  have hnk := h.nk
  have hI : I64 (k : Int) := ⟨by omega, by omega⟩
  have hI2 : I64 (i : Int) := ⟨by omega, by omega⟩
  obtain ⟨kl, hkl⟩ := keySg (s := (((k : Int), (i : Int)), t)) ⟨hI, hI2, ht⟩
  have hz := Tryd.zeroSig
  have hzs := Tryd.zeroSgn
  have hR1 := h.alloc (.cells sigZ.toArray 61)
  have hh := Lib.hid (has_yes _ hR1 k hk)
  have hd1 := HB.new w 61 sigZ
  have hc0 := hR1.c0
  have hB1 := below_alloc1 w (.cells sigZ.toArray 61)
  have hs1 := hs.below (hB1.mono hBw)
  have hcv := conv_sees c hs1
  have e1 : (w.alloc (.cells sigZ.toArray 61)).heap.size = w.heap.size + 1 := by simp
  have hX := HB.new (w.alloc (.cells sigZ.toArray 61)) 122 [.int .i64 0, .int .i64 0, .string (strB [])]
  rw [e1] at hX
  have hX3 := hX.row ([.int .i64 (k : Int), .int .i64 (i : Int), .string (strB t)] : List Value).toArray
  have hB3 : Below (w.heap.size + 1) (w.alloc (.cells sigZ.toArray 61)) (((w.alloc (.cells sigZ.toArray 61)).alloc (.cells ([.int .i64 0, .int .i64 0, .string (strB [])] : List Value).toArray 122)).setRow (w.heap.size + 1) ([.int .i64 (k : Int), .int .i64 (i : Int), .string (strB t)] : List Value).toArray) := by
    have h2 := below_alloc1 (w.alloc (.cells sigZ.toArray 61)) (.cells ([.int .i64 0, .int .i64 0, .string (strB [])] : List Value).toArray 122)
    rw [e1] at h2
    exact Below.setRow_ h2 (Nat.le_refl _) _
  have hR3 := hR1.below (by rw [e1]; exact hB3)
  have hd3 := hd1.below hB3 (by omega)
  have hB03 := hB1.trans (hB3.mono (by omega))
  have HIX : Hid ((Tryd.prog.info? 122).map (·.size) = some ([.int .i64 (k : Int), .int .i64 (i : Int), .string (strB t)] : List Value).toArray.size) := Lib.hid Tryd.sizeSgn
  have HSX : Hid (([.int .i64 0, .int .i64 0, .string (strB [])] : List Value).toArray.size = ([.int .i64 (k : Int), .int .i64 (i : Int), .string (strB t)] : List Value).toArray.size) := Lib.hid rfl
  have HAX : Hid (([.int .i64 (k : Int), .int .i64 (i : Int), .string (strB t)] : List Value).toArray.all (·.oneCell') = true) := Lib.hid (all_oneCell_toArray (by simp [Value.oneCell']))
  have H := Lib.hid h
  have HX5 := Lib.hid hX3
  have HR5 := Lib.hid hR3
  have HD5 := Lib.hid hd3
  have HB5 := Lib.hid hB03
  have HE1 := Lib.hid e1
  have HKS := Lib.hid hk2
  have HSE := Lib.hid hs
  have HBW := Lib.hid hBw
  have HC := Lib.hid hc
  have HKN := Lib.hid hk
  have HI2 := Lib.hid hI2
  have HF := Lib.hid hfew
  clear hs hBw hc hfew hI hI2
  clear h hk hR1 hd1 hB1 hs1 e1 hX3 hB3 hR3 hd3 hB03 hk2 hbud hnk
  go_enter Tryd.func27, Tryd.ntmps27
  go_wp2_with fail
  refine hh.out.mono ?_
  rintro e w' ⟨rfl, rfl⟩
  clear hh
  go_wp2_with (refine wpList_store_row rfl 122 _ _ rfl (w.heap.size + 1) ([.int .i64 (k : Int), .int .i64 (i : Int), .string (strB t)] : List Value).toArray rfl rfl 122 _ hX HIX.out HSX.out HAX.out ?_)
  clear hcv hc0 hX hz hzs
  generalize ((w.alloc (.cells sigZ.toArray 61)).alloc (.cells ([.int .i64 0, .int .i64 0, .string (strB [])] : List Value).toArray 122)).setRow (w.heap.size + 1) ([.int .i64 (k : Int), .int .i64 (i : Int), .string (strB t)] : List Value).toArray = w5 at *
  have hlk : ∀ w' : World, Below w5.heap.size w5 w' → (Instr.lookup 112 (.map (some f.T)) (.agg #[.int .i64 (k : Int), .int .i64 (i : Int), .string (strB t)]) true).run Tryd.prog w' = .ok (.tuple #[.agg (bys (zeros 32)).toArray, .bool false]) w' := fun w' hB =>
    (HR5.out.below hB).tags.look_no Tryd.lawSg Tryd.underlying112 (Tryd.zeroDig _) hkl (sg_not_in hmem)
  have hzd := Tryd.zeroDig
  obtain ⟨dg, hdg⟩ : ∃ d, d = zeros 32 := ⟨_, rfl⟩
  have hdl : dg.length = 32 := by rw [hdg]; exact zeros_len 32
  have HZ32 : Hid ((bys dg).toArray.size = zdig.length) := Lib.hid (by rw [List.size_toArray, bys_len, hdl, zdig_len])
  have HZ32' : Hid ((bys dg).toArray.toList.length = zdig.length) := Lib.hid (by simp [bys_len, hdl, zdig_len])
  have HDI := dig_info hdl
  have HDA := dig_one dg
  have HDL := Lib.hid hdl
  rw [← hdg] at hlk
  have HLK := Lib.hid hlk
  have HDG := Lib.hid hdg
  clear hlk hdl hdg
  refine wp_region_held_drew (S := fun w' => Below w5.heap.size w5 w') (by kernel_rfl) (Below.drew (Below.refl _ _)) (fun hH => ?_)
  try simp only [Act.put]
  refine wpAnyH_take (i := 0) (v := ?v10) rfl (by kernel_rfl) (by kernel_rfl) (by kernel_rfl) (fun _ _ _ h => h) (Or.inl ⟨by rfl, ?y10⟩) hH ?_
  case y10 => intro w' hSw; clear hSw; (first | (go_simp; done) | (go_simp; with_reducible rfl))
  try simp only [Act.put, List.getElem_toArray, List.getElem_cons_zero, List.setIfInBounds_toArray, List.set_cons_succ, List.set_cons_zero]
  refine wpAnyH_take (i := 1) (v := ?v11) rfl (by kernel_rfl) (by kernel_rfl) (by kernel_rfl) (fun _ _ _ h => h) (Or.inl ⟨by rfl, ?y11⟩) hH ?_
  case y11 => intro w' hSw; clear hSw; (first | (go_simp; done) | (go_simp; with_reducible rfl))
  try simp only [Act.put, List.getElem_toArray, List.getElem_cons_succ, List.getElem_cons_zero, List.setIfInBounds_toArray, List.set_cons_succ, List.set_cons_zero]
  refine wpAnyH_take (i := 2) (v := ?v12) rfl (by kernel_rfl) (by kernel_rfl) (by kernel_rfl) (fun _ _ _ h => h) (Or.inl ⟨by rfl, ?y12⟩) hH ?_
  case y12 => intro w' hSw; clear hSw; (first | (go_simp; done) | (go_simp; with_reducible rfl))
  try simp only [Act.put, List.getElem_toArray, List.getElem_cons_succ, List.getElem_cons_zero, List.setIfInBounds_toArray, List.set_cons_succ, List.set_cons_zero]
  refine wpAnyH_take (i := 3) (v := ?v13) rfl (by kernel_rfl) (by kernel_rfl) (by kernel_rfl) (fun _ _ _ h => h) (Or.inl ⟨by rfl, ?y13⟩) hH ?_
  case y13 => intro w' hSw; have hc2 := (HR5.out.below hSw).c2; clear hSw; (first | (go_simp; done) | (go_simp; with_reducible rfl))
  try simp only [Act.put, List.getElem_toArray, List.getElem_cons_succ, List.getElem_cons_zero, List.setIfInBounds_toArray, List.set_cons_succ, List.set_cons_zero]
  refine wpAnyH_take (i := 4) (v := .agg ([.int .i64 (k : Int), .int .i64 (i : Int), .string (strB t)]).toArray) rfl (by kernel_rfl) (by kernel_rfl) (by kernel_rfl) (fun _ _ _ h => h) (yieldsIf_load_mid (by rfl) 122 _ rfl (w.heap.size + 1) 0 rfl ([.int .i64 (k : Int), .int .i64 (i : Int), .string (strB t)]) _ (fun w' h => (HX5.out.below h HX5.out.lt).range) Tryd.underlying122 rfl Tryd.sizeSgn) hH ?_
  try simp only [Act.put, List.getElem_toArray, List.getElem_cons_succ, List.getElem_cons_zero, List.setIfInBounds_toArray, List.set_cons_succ, List.set_cons_zero]
  refine wpAnyH_take (i := 5) (v := ?v14) rfl (by kernel_rfl) (by kernel_rfl) (by kernel_rfl) (fun _ _ _ h => h) (Or.inl ⟨by rfl, ?y14⟩) hH ?_
  case y14 => intro w' hSw; have hlk := HLK.out w' hSw; clear hSw; (first | (go_simp; done) | (go_simp; with_reducible rfl))
  try simp only [Act.put, List.getElem_toArray, List.getElem_cons_succ, List.getElem_cons_zero, List.setIfInBounds_toArray, List.set_cons_succ, List.set_cons_zero]
  refine wpAnyH_take (i := 6) (v := ?v15) rfl (by kernel_rfl) (by kernel_rfl) (by kernel_rfl) (fun _ _ _ h => h) (Or.inl ⟨by rfl, ?y15⟩) hH ?_
  case y15 => intro w' hSw; clear hSw; (first | (go_simp; done) | (go_simp; with_reducible rfl))
  try simp only [Act.put, List.getElem_toArray, List.getElem_cons_succ, List.getElem_cons_zero, List.setIfInBounds_toArray, List.set_cons_succ, List.set_cons_zero]
  refine wpAnyH_take (i := 7) (v := ?v16) rfl (by kernel_rfl) (by kernel_rfl) (by kernel_rfl) (fun _ _ _ h => h) (Or.inl ⟨by rfl, ?y16⟩) hH ?_
  case y16 => intro w' hSw; clear hSw; (first | (go_simp; done) | (go_simp; with_reducible rfl))
  try simp only [Act.put, List.getElem_toArray, List.getElem_cons_succ, List.getElem_cons_zero, List.setIfInBounds_toArray, List.set_cons_succ, List.set_cons_zero]
  refine wpAnyH_take (i := 8) (v := ?v17) rfl (by kernel_rfl) (by kernel_rfl) (by kernel_rfl) (fun _ _ _ h => h) (Or.inl ⟨by rfl, ?y17⟩) hH ?_
  case y17 => intro w' hSw; clear hSw; (first | (go_simp; done) | (go_simp; with_reducible rfl))
  try simp only [Act.put, List.getElem_toArray, List.getElem_cons_succ, List.getElem_cons_zero, List.setIfInBounds_toArray, List.set_cons_succ, List.set_cons_zero]
  refine wpAnyH_ready (rs := [9]) (by kernel_rfl) (by simp) ?_
  refine AllReadyH.cons rfl (fun K hK => ?_) AllReadyH.nil
  rw [if_pos (by rfl)]
  go_simp
  have hn6 := (HB.new w5 24 zdig).drew
  have hH6 : Below w5.heap.size w5 (w5.alloc (.cells zdig.toArray 24)).drew := (below_alloc1 w5 _).drew
  generalize (w5.alloc (.cells zdig.toArray 24)).drew = w6 at *
  refine hK.out _ _ hH6 (fun _ => ?_)
  clear hK K hH
  try simp only [Act.put, List.getElem_toArray, List.getElem_cons_succ, List.getElem_cons_zero, List.setIfInBounds_toArray, List.set_cons_succ, List.set_cons_zero]
  refine wpAnyH_ready (rs := [10]) (by kernel_rfl) (by simp) ?_
  refine AllReadyH.cons rfl (fun K hK => ?_) AllReadyH.nil
  rw [if_pos (by rfl)]
  refine wp_store_mid 24 _ _ rfl w5.heap.size 0 (bys dg).toArray rfl rfl (there_hb0 hn6 HZ32.out) HDI.out HDA.out ?_
  have hn7 : HB (w6.setCells w5.heap.size 0 (bys dg).toArray.toList) w5.heap.size 24 (bys dg) := hb_setAll hn6 _ HZ32'.out
  have hH7 : Below w5.heap.size w5 (w6.setCells w5.heap.size 0 (bys dg).toArray.toList) := below_setCells (Nat.le_refl _) _ 0 _ hH6
  generalize w6.setCells w5.heap.size 0 (bys dg).toArray.toList = w7 at *
  refine hK.out _ _ hH7 (fun _ => ?_)
  clear hK K hH6 hn6
  try simp only [Act.put, List.getElem_toArray, List.getElem_cons_succ, List.getElem_cons_zero]
  refine wpAnyH_take (i := 11) (v := ?v18) rfl (by kernel_rfl) (by kernel_rfl) (by kernel_rfl) (fun _ _ _ h => h) (Or.inl ⟨by rfl, ?y18⟩) hH7 ?_
  case y18 => intro w' hSw; clear hSw; (first | (go_simp; done) | (go_simp; with_reducible rfl))
  try simp only [Act.put, List.getElem_toArray, List.getElem_cons_succ, List.getElem_cons_zero, List.setIfInBounds_toArray, List.set_cons_succ, List.set_cons_zero]
  refine wpAnyH_done (by kernel_rfl) ?_ _
  have hs5 := HB5.out.size
  have hB07 := HB5.out.trans (hH7.mono hs5)
  have hk7 := HKS.out.below hB07 HKS.out.2.2
  have htg := Lib.hid (tag_any k i B A c t w7 (HSE.out.below (hB07.mono HBW.out)) (Nat.le_trans HBW.out hB07.size) HC.out hcm ht hk7)
  have HH7 := Lib.hid hH7
  have HN7 := Lib.hid hn7
  clear hH7 hn7 hs5 hB07 hk7
  go_wp2_with fail
  refine htg.out.mono ?_
  rintro e w8 ⟨rfl, hB8⟩
  clear htg
  obtain ⟨tg, htg⟩ : ∃ d, d = tagF (((k : Int), (i : Int)), t) := ⟨_, rfl⟩
  rw [← htg]
  have htl : tg.length = 32 := by rw [htg]; exact tagF_len _
  have HTG := Lib.hid htg
  have HTI := dig_info htl
  have HTS : Hid ((bys dg).toArray.size = (bys tg).toArray.size) := dig_size2 HDL.out htl
  have HTA := dig_one tg
  have HTL := Lib.hid htl
  have hn8 := HN7.out.below hB8 HN7.out.lt
  have hH8 := HH7.out.trans (hB8.mono HH7.out.size)
  have hn9 := hn8.row (bys tg).toArray
  have hH9 := Below.setRow_ hH8 (Nat.le_refl _) (bys tg).toArray
  have HN9 := Lib.hid hn9
  have HH9 := Lib.hid hH9
  have hx9 := HX5.out.below hH9 HX5.out.lt
  have hR9 := HR5.out.below hH9
  have hrec := Lib.hid (record_new _ hR9 k HKN.out (i : Int) t HI2.out ht hmem HF.out tg htg)
  have HR9 := Lib.hid hR9
  clear htg htl hB8 hH8 hn9 hH9 HH7 HN7 hR9
  have hx90 : (w8.setRow w5.heap.size (bys tg).toArray).cell? ⟨w.heap.size + 1, 0, none⟩ = some (.int .i64 (k : Int)) := by rw [hx9.cell]; rfl
  have hx91 : (w8.setRow w5.heap.size (bys tg).toArray).cell? ⟨w.heap.size + 1, 1, none⟩ = some (.int .i64 (i : Int)) := by rw [hx9.cell]; rfl
  have hx92 : (w8.setRow w5.heap.size (bys tg).toArray).cell? ⟨w.heap.size + 1, 2, none⟩ = some (.string (strB t)) := by rw [hx9.cell]; rfl
  have hn9 := HN9.out
  have HR9' := HR9
  generalize hw9 : w8.setRow w5.heap.size (bys tg).toArray = w9 at hx90 hx91 hx92 hn9 hx9 hrec HR9 HH9 HN9
  clear HR9'
  have HW9 := Lib.hid hw9
  clear hw9
  go_wp2_with (first
    | (refine wpList_store_row rfl 24 _ _ rfl w5.heap.size (bys tg).toArray rfl rfl 24 _ hn8 HTI.out HTS.out HTA.out ?_; rw [HW9.out])
    | (refine wpList_load_row rfl 24 _ rfl w5.heap.size rfl 24 (bys tg).toArray (0, 0) _ hn9 Tryd.underlying24 rfl HTI.out ?_))
  clear hn8
  refine hrec.out.mono ?_
  rintro e w10 ⟨rfl, hR10, hT10⟩
  have hlt := H.out.ring.lt
  have hm5 : ∀ b, f.mine b → b < w.heap.size := fun b hb => by
    rcases hb with rfl | rfl | rfl
    · exact H.out.tally.lt
    · exact H.out.tags.lt
    · exact H.out.used.lt
  have hs5 := HB5.out.size
  have hn10 : HB w10 w5.heap.size 24 (bys tg) := hn9.keep (hT10.block _ hn9.lt (fun hb => by have := hm5 _ hb; omega))
  have hd9 := HD5.out.below HH9.out HD5.out.lt
  have hd10 : HB w10 w.heap.size 61 sigZ := hd9.keep (hT10.block _ hd9.lt (fun hb => by have := hm5 _ hb; omega))
  have HBS := Lib.hid (built_sig (i : Int) tg HTL.out)
  have HSI := sig_info (i := (i : Int)) HTL.out
  have HSL := sig_info_l (i := (i : Int)) HTL.out
  have HSS := sig_size (i := (i : Int)) HTL.out
  have HSA := sigL_one (i : Int) tg
  have hr := hd10.row (sigL (i : Int) tg).toArray
  have hset : ∀ b, b ≠ w.heap.size → (w10.setRow w.heap.size (sigL (i : Int) tg).toArray).heap[b]? = w10.heap[b]? := fun b hb => by
    simp only [World.setRow, Array.getElem?_modify]
    rw [if_neg (by omega)]
  have HR11 := Lib.hid (hR10.of_heap (hset _ (by omega)) (hset _ (by have := hm5 f.K (.inl rfl); omega)) (hset _ (by have := hm5 f.T (.inr (.inl rfl)); omega)) (hset _ (by have := hm5 f.U (.inr (.inr rfl)); omega)))
  have ht9 : Turn f.mine w w9 := Turn.of_below (HB5.out.trans (HH9.out.mono hs5))
  have ht11 : Turn f.mine w (w10.setRow w.heap.size (sigL (i : Int) tg).toArray) := by
    have h2 := ht9.trans hT10
    refine ⟨h2.os, h2.tape, h2.output, by simpa using h2.size, fun b hb hm => ?_⟩
    rw [hset b (by omega)]
    exact h2.block b hb hm
  have HT11 := Lib.hid ht11
  clear hR10 hT10 hlt hm5 hs5 hn9 hd9 hset ht9 ht11 hx9 hrec hx90 hx91 hx92
  go_wp2_with (first
    | (refine wpList_load_row rfl 24 _ rfl w5.heap.size rfl 24 (bys tg).toArray (0, 0) _ hn10 Tryd.underlying24 rfl HTI.out ?_)
    | (refine wpList_buildTo rfl 61 _ rfl _ rfl (sigL (i : Int) tg).toArray (by (simp only [List.map_toArray, List.map_cons, List.map_nil]; exact HBS.out)) ?_)
    | (refine wpList_store_row rfl 61 _ _ rfl w.heap.size (sigL (i : Int) tg).toArray rfl rfl 61 _ hd10 HSI.out HSS.out HSA.out ?_))
  refine bodyPost_ret (results_sig rfl _ _ w.heap.size 61 (sigL (i : Int) tg) _ (.int .i64 0) rfl rfl hr Tryd.underlying61 rfl HSL.out) rfl ?_
  exact ⟨by rw [HTG.out], by unfold signL signU; rw [if_neg hmem, if_neg hmem]; exact HR11.out, HT11.out⟩

/-- It signs, whatever was signed before. -/
theorem sign_ok {f : Foot} {nk : Nat} {bud : Int} {L : List Sg} {U : List (Int × Int)} (w : World) (h : RingW w f nk bud L U) (k : Nat) (hk : k < nk) (i : Nat) (hib : (i : Int) < bud) (B : Nat) (A : Option Addr) (c : Nat) (t : List UInt8) (hs : Sees w B 1 A t.length (bys t)) (hBw : B ≤ w.heap.size) (hc : t.length ≤ c) (hcm : c ≤ 9223372036854775807) (ht : t.length ≤ 140737488351232) (hk2 : Consts w)
    (hfew : L.length < 4611686018427387904) :
    Calls Tryd.prog 27 #[.pointer (some ⟨f.r, 0, none⟩), .int .i64 (k : Int), .int .i64 (i : Int), .slice A t.length c] w (SignR w f nk bud L U (((k : Int), (i : Int)), t)) := by
  by_cases hm : (((k : Int), (i : Int)), t) ∈ L
  · exact sign_known w h k hk i hib B A c t hs hBw ht hm
  · exact sign_new w h k hk i hib B A c t hs hBw hc hcm ht hk2 hm hfew
end Go.Proofs.YtkhbogccmngmmaaDoor
