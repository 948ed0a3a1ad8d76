/- (*sign.Ring).Check. WRITTEN BY wip/gen/sgt.py. -/
import Derived.Test.YtkhbogccmngmmaaDoorSgT
import Derived.Stop.BytesEq
namespace Go.Proofs.YtkhbogccmngmmaaDoor
open Go.RowKit

theorem eql_dg (W : World) (a b : List UInt8) (ha : a.length = 32) (hb : b.length = 32) : (binOp .eql 24 (.agg (bys a).toArray) (.agg (bys b).toArray)).run Tryd.prog W = .ok (.bool (a == b)) W :=
  run_eql_bytes W 24 5 32 Tryd.underlying24 Tryd.underlying5 (fun _ => by kernel_rfl) a b ha hb
theorem wpList_load_g {P : Program} {w : World} {ops : Array Oper} {o : Oper} {rest : List Oper} {a : Act} {Q : Exit → Act → World → Prop} (hw : Region.wanted o (yielded ops a.tmps) = true) (ty : TypeId) (x : Operand) (ho : o.op = .load ty x) (b n : Nat) (hx : a.eval x = .pointer (some ⟨b, n, none⟩)) (v : Value)
    (hl : (loadVar ty ⟨b, n, none⟩).run P w = .ok v w) (h : wpList P ops Q rest (a.put o.dst v) w) : wpList P ops Q (o :: rest) a w :=
  wpList_step fun K hK => by
    rw [if_pos hw]
    unfold Oper.wp execOp
    simp only [ho, hx, Instr.loadAt, Instr.sureAddr, Sem.run_bind, Sem.run_pure, Result.andThen_ok, hl]
    exact hK _ _ h
/-- Is it the tag of what was signed? -/
def chkB (L : List Sg) (s : Sg) (d : List UInt8) : Bool := decide (s ∈ L) && (tagF s == d)
def ChkR (w : World) (b : Bool) (e : Ending) (w' : World) : Prop := e = .returned (.bool b) ∧ Below w.heap.size w w'

set_option maxRecDepth 20000 in
set_option maxHeartbeats 1600000 in
theorem check_in {f : Foot} {nk : Nat} {bud : Int} {L : List Sg} {U : List (Int × Int)} (w : World) (h : RingW w f nk bud L U) (k i : Int) (hk : I64 k) (hi : I64 i) (B : Nat) (A : Option Addr) (c : Nat) (t : List UInt8) (hs : Sees w B 1 A t.length (bys t)) (hBw : B ≤ w.heap.size) (ht : t.length ≤ 140737488351232) (d : List UInt8) (hd : d.length = 32)
    (hmem : ((k, i), t) ∈ L) :
    Calls Tryd.prog 29 #[.pointer (some ⟨f.r, 0, none⟩), .int .i64 k, .slice A t.length c, .agg (sigL i d).toArray] w (ChkR w (tagF ((k, i), t) == d)) := by
  obtain ⟨kl, hkl⟩ := keySg (s := ((k, i), t)) ⟨hk, hi, ht⟩
  have hbx := HB.new w 61 (sigL i d)
  have hR1 := h.alloc (.cells (sigL i d).toArray 61)
  have hB1 := below_alloc1 w (.cells (sigL i d).toArray 61)
  have hs1 := hs.below (hB1.mono hBw)
  have HZB := Lib.hid (show B ≤ (w.alloc (.cells (sigL i d).toArray 61)).heap.size from Nat.le_trans hBw hB1.size)
  have HR1 := Lib.hid hR1
  have HX1 := Lib.hid hbx
  have HB1 := Lib.hid hB1
  have HS1 := Lib.hid hs1
  have HDD := Lib.hid hd
  clear h hbx hR1 hB1 hs1 hs hBw hd
  go_enter Tryd.func29, Tryd.ntmps29
  go_wp2_with fail
  generalize w.alloc (.cells (sigL i d).toArray 61) = w1 at *
  have hlk : ∀ w' : World, Below w1.heap.size w1 w' → (Instr.lookup 112 (.map (some f.T)) (.agg #[.int .i64 k, .int .i64 i, .string (strB t)]) true).run Tryd.prog w' = .ok (.tuple #[.agg (bys (tagF ((k, i), t))).toArray, .bool true]) w' := fun w' hB =>
    (HR1.out.below hB).tags.look_yes Tryd.lawSg Tryd.underlying112 hkl (sg_in hmem)
  have hz0 : ∀ w' : World, Below w1.heap.size w1 w' → w'.cell? ⟨w.heap.size, 0, none⟩ = some (.int .i64 i) := fun w' hB => by rw [(HX1.out.below hB HX1.out.lt).cell]; rfl
  have HZ0 := Lib.hid hz0
  have hcv : ∀ w' : World, Below w1.heap.size w1 w' → (convert 31 9 (.slice A t.length c)).run Tryd.prog w' = .ok (.string (strB t)) w' := fun w' hB => conv_sees c (HS1.out.below (hB.mono HZB.out))
  have HCV := Lib.hid hcv
  have hzd := Tryd.zeroDig
  obtain ⟨dg, hdg⟩ : ∃ d, d = tagF ((k, i), t) := ⟨_, rfl⟩
  have hdl : dg.length = 32 := by rw [hdg]; exact tagF_len _
  have HZ32 : Hid ((bys dg).toArray.size = zdig.length) := Lib.hid (by rw [List.size_toArray, bys_len, hdl, zdig_len])
  have HZ32' : Hid ((bys dg).toArray.toList.length = zdig.length) := Lib.hid (by simp [bys_len, hdl, zdig_len])
  have HDI := dig_info hdl
  have HDL := Lib.hid hdl
  have HDA := dig_one dg
  rw [← hdg] at hlk
  have HLK := Lib.hid hlk
  have HDG := Lib.hid hdg
  clear hlk hdl hdg hz0 hcv
  refine wp_region_held_drew (S := fun w' => Below w1.heap.size w1 w') (by kernel_rfl) (Below.drew (Below.refl _ _)) (fun hH => ?_)
  try simp only [Act.put, List.getElem_toArray, List.getElem_cons_succ, List.getElem_cons_zero, List.setIfInBounds_toArray, List.set_cons_succ, List.set_cons_zero]
  refine wpAnyH_take (i := 0) (v := ?v19) rfl (by kernel_rfl) (by kernel_rfl) (by kernel_rfl) (fun _ _ _ h => h) (Or.inl ⟨by rfl, ?y19⟩) hH ?_
  case y19 => intro w' hSw; clear hSw; (first | (go_simp; done) | (go_simp; with_reducible rfl))
  try simp only [Act.put, List.getElem_toArray, List.getElem_cons_zero, List.setIfInBounds_toArray, List.set_cons_succ, List.set_cons_zero]
  refine wpAnyH_take (i := 1) (v := ?v20) rfl (by kernel_rfl) (by kernel_rfl) (by kernel_rfl) (fun _ _ _ h => h) (Or.inl ⟨by rfl, ?y20⟩) hH ?_
  case y20 => intro w' hSw; clear hSw; (first | (go_simp; done) | (go_simp; with_reducible rfl))
  try simp only [Act.put, List.getElem_toArray, List.getElem_cons_succ, List.getElem_cons_zero, List.setIfInBounds_toArray, List.set_cons_succ, List.set_cons_zero]
  refine wpAnyH_take (i := 2) (v := ?v21) rfl (by kernel_rfl) (by kernel_rfl) (by kernel_rfl) (fun _ _ _ h => h) (Or.inl ⟨by rfl, ?y21⟩) hH ?_
  case y21 => intro w' hSw; clear hSw; (first | (go_simp; done) | (go_simp; with_reducible rfl))
  try simp only [Act.put, List.getElem_toArray, List.getElem_cons_succ, List.getElem_cons_zero, List.setIfInBounds_toArray, List.set_cons_succ, List.set_cons_zero]
  refine wpAnyH_take (i := 3) (v := ?v22) rfl (by kernel_rfl) (by kernel_rfl) (by kernel_rfl) (fun _ _ _ h => h) (Or.inl ⟨by rfl, ?y22⟩) hH ?_
  case y22 => intro w' hSw; have hc2 := (HR1.out.below hSw).c2; clear hSw; (first | (go_simp; done) | (go_simp; with_reducible rfl))
  try simp only [Act.put, List.getElem_toArray, List.getElem_cons_succ, List.getElem_cons_zero, List.setIfInBounds_toArray, List.set_cons_succ, List.set_cons_zero]
  refine wpAnyH_take (i := 4) (v := ?v23) rfl (by kernel_rfl) (by kernel_rfl) (by kernel_rfl) (fun _ _ _ h => h) (Or.inl ⟨by rfl, ?y23⟩) hH ?_
  case y23 => intro w' hSw; clear hSw; (first | (go_simp; done) | (go_simp; with_reducible rfl))
  try simp only [Act.put, List.getElem_toArray, List.getElem_cons_succ, List.getElem_cons_zero, List.setIfInBounds_toArray, List.set_cons_succ, List.set_cons_zero]
  refine wpAnyH_take (i := 5) (v := ?v24) rfl (by kernel_rfl) (by kernel_rfl) (by kernel_rfl) (fun _ _ _ h => h) (Or.inl ⟨by rfl, ?y24⟩) hH ?_
  case y24 => intro w' hSw; clear hSw; (first | (go_simp; done) | (go_simp; with_reducible rfl))
  try simp only [Act.put, List.getElem_toArray, List.getElem_cons_succ, List.getElem_cons_zero, List.setIfInBounds_toArray, List.set_cons_succ, List.set_cons_zero]
  refine wpAnyH_take (i := 6) (v := ?v25) rfl (by kernel_rfl) (by kernel_rfl) (by kernel_rfl) (fun _ _ _ h => h) (Or.inl ⟨by rfl, ?y25⟩) hH ?_
  case y25 => intro w' hSw; have hz0 := HZ0.out w' hSw; clear hSw; (first | (go_simp; done) | (go_simp; with_reducible rfl))
  try simp only [Act.put, List.getElem_toArray, List.getElem_cons_succ, List.getElem_cons_zero, List.setIfInBounds_toArray, List.set_cons_succ, List.set_cons_zero]
  refine wpAnyH_take (i := 7) (v := ?v26) rfl (by kernel_rfl) (by kernel_rfl) (by kernel_rfl) (fun _ _ _ h => h) (Or.inl ⟨by rfl, ?y26⟩) hH ?_
  case y26 => intro w' hSw; clear hSw; (first | (go_simp; done) | (go_simp; with_reducible rfl))
  try simp only [Act.put, List.getElem_toArray, List.getElem_cons_succ, List.getElem_cons_zero, List.setIfInBounds_toArray, List.set_cons_succ, List.set_cons_zero]
  refine wpAnyH_take (i := 8) (v := ?v27) rfl (by kernel_rfl) (by kernel_rfl) (by kernel_rfl) (fun _ _ _ h => h) (Or.inl ⟨by rfl, ?y27⟩) hH ?_
  case y27 => intro w' hSw; clear hSw; (first | (go_simp; done) | (go_simp; with_reducible rfl))
  try simp only [Act.put, List.getElem_toArray, List.getElem_cons_succ, List.getElem_cons_zero, List.setIfInBounds_toArray, List.set_cons_succ, List.set_cons_zero]
  refine wpAnyH_take (i := 9) (v := ?v28) rfl (by kernel_rfl) (by kernel_rfl) (by kernel_rfl) (fun _ _ _ h => h) (Or.inl ⟨by rfl, ?y28⟩) hH ?_
  case y28 => intro w' hSw; have hcv := HCV.out w' hSw; clear hSw; (first | (go_simp; done) | (go_simp; with_reducible rfl))
  try simp only [Act.put, List.getElem_toArray, List.getElem_cons_succ, List.getElem_cons_zero, List.setIfInBounds_toArray, List.set_cons_succ, List.set_cons_zero]
  refine wpAnyH_take (i := 10) (v := ?v29) rfl (by kernel_rfl) (by kernel_rfl) (by kernel_rfl) (fun _ _ _ h => h) (Or.inl ⟨by rfl, ?y29⟩) hH ?_
  case y29 => intro w' hSw; clear hSw; (first | (go_simp; done) | (go_simp; with_reducible rfl))
  try simp only [Act.put, List.getElem_toArray, List.getElem_cons_succ, List.getElem_cons_zero, List.setIfInBounds_toArray, List.set_cons_succ, List.set_cons_zero]
  refine wpAnyH_take (i := 11) (v := ?v30) rfl (by kernel_rfl) (by kernel_rfl) (by kernel_rfl) (fun _ _ _ h => h) (Or.inl ⟨by rfl, ?y30⟩) hH ?_
  case y30 => intro w' hSw; have hlk := HLK.out w' hSw; clear hSw; (first | (go_simp; done) | (go_simp; with_reducible rfl))
  try simp only [Act.put, List.getElem_toArray, List.getElem_cons_succ, List.getElem_cons_zero, List.setIfInBounds_toArray, List.set_cons_succ, List.set_cons_zero]
  refine wpAnyH_take (i := 12) (v := ?v31) rfl (by kernel_rfl) (by kernel_rfl) (by kernel_rfl) (fun _ _ _ h => h) (Or.inl ⟨by rfl, ?y31⟩) hH ?_
  case y31 => intro w' hSw; clear hSw; (first | (go_simp; done) | (go_simp; with_reducible rfl))
  try simp only [Act.put, List.getElem_toArray, List.getElem_cons_succ, List.getElem_cons_zero, List.setIfInBounds_toArray, List.set_cons_succ, List.set_cons_zero]
  refine wpAnyH_take (i := 13) (v := ?v32) rfl (by kernel_rfl) (by kernel_rfl) (by kernel_rfl) (fun _ _ _ h => h) (Or.inl ⟨by rfl, ?y32⟩) hH ?_
  case y32 => intro w' hSw; clear hSw; (first | (go_simp; done) | (go_simp; with_reducible rfl))
  try simp only [Act.put, List.getElem_toArray, List.getElem_cons_succ, List.getElem_cons_zero, List.setIfInBounds_toArray, List.set_cons_succ, List.set_cons_zero]
  refine wpAnyH_take (i := 14) (v := ?v33) rfl (by kernel_rfl) (by kernel_rfl) (by kernel_rfl) (fun _ _ _ h => h) (Or.inl ⟨by rfl, ?y33⟩) hH ?_
  case y33 => intro w' hSw; clear hSw; (first | (go_simp; done) | (go_simp; with_reducible rfl))
  try simp only [Act.put, List.getElem_toArray, List.getElem_cons_succ, List.getElem_cons_zero, List.setIfInBounds_toArray, List.set_cons_succ, List.set_cons_zero]
  refine wpAnyH_ready (rs := [15]) (by kernel_rfl) (by simp) ?_
  refine AllReadyH.cons rfl (fun K hK => ?_) AllReadyH.nil
  rw [if_pos (by rfl)]
  go_simp
  have hn6 := (HB.new w1 24 zdig).drew
  have hH6 : Below w1.heap.size w1 (w1.alloc (.cells zdig.toArray 24)).drew := (below_alloc1 w1 _).drew
  generalize (w1.alloc (.cells zdig.toArray 24)).drew = w6 at *
  refine hK.out _ _ hH6 (fun _ => ?_)
  clear hK K hH
  try simp only [Act.put, List.getElem_toArray, List.getElem_cons_succ, List.getElem_cons_zero, List.setIfInBounds_toArray, List.set_cons_succ, List.set_cons_zero]
  refine wpAnyH_ready (rs := [16]) (by kernel_rfl) (by simp) ?_
  refine AllReadyH.cons rfl (fun K hK => ?_) AllReadyH.nil
  rw [if_pos (by rfl)]
  refine wp_store_mid 24 _ _ rfl w1.heap.size 0 (bys dg).toArray rfl rfl (there_hb0 hn6 HZ32.out) HDI.out HDA.out ?_
  have hn7 : HB (w6.setCells w1.heap.size 0 (bys dg).toArray.toList) w1.heap.size 24 (bys dg) := hb_setAll hn6 _ HZ32'.out
  have hH7 : Below w1.heap.size w1 (w6.setCells w1.heap.size 0 (bys dg).toArray.toList) := below_setCells (Nat.le_refl _) _ 0 _ hH6
  generalize w6.setCells w1.heap.size 0 (bys dg).toArray.toList = w7 at *
  refine hK.out _ _ hH7 (fun _ => ?_)
  clear hK K hH6 hn6
  try simp only [Act.put, List.getElem_toArray, List.getElem_cons_succ, List.getElem_cons_zero]
  refine wpAnyH_take (i := 17) (v := ?v34) rfl (by kernel_rfl) (by kernel_rfl) (by kernel_rfl) (fun _ _ _ h => h) (Or.inl ⟨by rfl, ?y34⟩) hH7 ?_
  case y34 => intro w' hSw; clear hSw; (first | (go_simp; done) | (go_simp; with_reducible rfl))
  try simp only [Act.put, List.getElem_toArray, List.getElem_cons_succ, List.getElem_cons_zero, List.setIfInBounds_toArray, List.set_cons_succ, List.set_cons_zero]
  refine wpAnyH_done (by kernel_rfl) ?_ _
  have hbf := HB1.out.trans (hH7.mono HB1.out.size)
  have hx7 : w7.rangeAt w.heap.size 1 (bys d) := fun j v hj => by
    have hbx := HX1.out.below hH7 HX1.out.lt
    rw [hbx.cell, sigL]
    rw [show 1 + j = j + 1 from by omega, List.getElem?_cons_succ]; exact hj
  have hdi : (Tryd.prog.info? 24).map (·.size) = some (bys d).length := by rw [bys_len, HDD.out]; exact Tryd.sizeDig
  have HDI2 := Lib.hid hdi
  have heq := fun W => eql_dg W dg d HDL.out HDD.out
  clear hH7 hdi
  have hl1 := load_hb hn7 Tryd.underlying24 rfl (by rw [bys_len, HDL.out]; exact Tryd.sizeDig)
  have hl2 := load_range hx7 Tryd.underlying24 rfl HDI2.out
  have HL1 := Lib.hid hl1
  have HL2 := Lib.hid hl2
  clear hl1 hl2
  go_wp2_with (first
    | (refine wpList_load_g (by rfl) 24 _ rfl w1.heap.size 0 rfl _ HL1.out ?_)
    | (refine wpList_load_g (by rfl) 24 _ rfl w.heap.size 1 rfl _ HL2.out ?_))
  go_ret
  exact ⟨by rw [HDG.out]; rfl, hbf⟩

set_option maxRecDepth 20000 in
set_option maxHeartbeats 1600000 in
theorem check_out {f : Foot} {nk : Nat} {bud : Int} {L : List Sg} {U : List (Int × Int)} (w : World) (h : RingW w f nk bud L U) (k i : Int) (hk : I64 k) (hi : I64 i) (B : Nat) (A : Option Addr) (c : Nat) (t : List UInt8) (hs : Sees w B 1 A t.length (bys t)) (hBw : B ≤ w.heap.size) (ht : t.length ≤ 140737488351232) (d : List UInt8) (hd : d.length = 32)
    (hmem : ((k, i), t) ∉ L) :
    Calls Tryd.prog 29 #[.pointer (some ⟨f.r, 0, none⟩), .int .i64 k, .slice A t.length c, .agg (sigL i d).toArray] w (ChkR w false) := by
  obtain ⟨kl, hkl⟩ := keySg (s := ((k, i), t)) ⟨hk, hi, ht⟩
  have hbx := HB.new w 61 (sigL i d)
  have hR1 := h.alloc (.cells (sigL i d).toArray 61)
  have hB1 := below_alloc1 w (.cells (sigL i d).toArray 61)
  have hs1 := hs.below (hB1.mono hBw)
  have HZB := Lib.hid (show B ≤ (w.alloc (.cells (sigL i d).toArray 61)).heap.size from Nat.le_trans hBw hB1.size)
  have HR1 := Lib.hid hR1
  have HX1 := Lib.hid hbx
  have HB1 := Lib.hid hB1
  have HS1 := Lib.hid hs1
  have HDD := Lib.hid hd
  clear h hbx hR1 hB1 hs1 hs hBw hd
  go_enter Tryd.func29, Tryd.ntmps29
  go_wp2_with fail
  generalize w.alloc (.cells (sigL i d).toArray 61) = w1 at *
  have hlk : ∀ w' : World, Below w1.heap.size w1 w' → (Instr.lookup 112 (.map (some f.T)) (.agg #[.int .i64 k, .int .i64 i, .string (strB t)]) true).run Tryd.prog w' = .ok (.tuple #[.agg (bys (zeros 32)).toArray, .bool false]) w' := fun w' hB =>
    (HR1.out.below hB).tags.look_no Tryd.lawSg Tryd.underlying112 (Tryd.zeroDig _) hkl (sg_not_in hmem)
  have hz0 : ∀ w' : World, Below w1.heap.size w1 w' → w'.cell? ⟨w.heap.size, 0, none⟩ = some (.int .i64 i) := fun w' hB => by rw [(HX1.out.below hB HX1.out.lt).cell]; rfl
  have HZ0 := Lib.hid hz0
  have hcv : ∀ w' : World, Below w1.heap.size w1 w' → (convert 31 9 (.slice A t.length c)).run Tryd.prog w' = .ok (.string (strB t)) w' := fun w' hB => conv_sees c (HS1.out.below (hB.mono HZB.out))
  have HCV := Lib.hid hcv
  have hzd := Tryd.zeroDig
  obtain ⟨dg, hdg⟩ : ∃ d, d = zeros 32 := ⟨_, rfl⟩
  have hdl : dg.length = 32 := by rw [hdg]; exact zeros_len 32
  have HZ32 : Hid ((bys dg).toArray.size = zdig.length) := Lib.hid (by rw [List.size_toArray, bys_len, hdl, zdig_len])
  have HZ32' : Hid ((bys dg).toArray.toList.length = zdig.length) := Lib.hid (by simp [bys_len, hdl, zdig_len])
  have HDI := dig_info hdl
  have HDL := Lib.hid hdl
  have HDA := dig_one dg
  rw [← hdg] at hlk
  have HLK := Lib.hid hlk
  have HDG := Lib.hid hdg
  clear hlk hdl hdg hz0 hcv
  refine wp_region_held_drew (S := fun w' => Below w1.heap.size w1 w') (by kernel_rfl) (Below.drew (Below.refl _ _)) (fun hH => ?_)
  try simp only [Act.put, List.getElem_toArray, List.getElem_cons_succ, List.getElem_cons_zero, List.setIfInBounds_toArray, List.set_cons_succ, List.set_cons_zero]
  refine wpAnyH_take (i := 0) (v := ?v35) rfl (by kernel_rfl) (by kernel_rfl) (by kernel_rfl) (fun _ _ _ h => h) (Or.inl ⟨by rfl, ?y35⟩) hH ?_
  case y35 => intro w' hSw; clear hSw; (first | (go_simp; done) | (go_simp; with_reducible rfl))
  try simp only [Act.put, List.getElem_toArray, List.getElem_cons_zero, List.setIfInBounds_toArray, List.set_cons_succ, List.set_cons_zero]
  refine wpAnyH_take (i := 1) (v := ?v36) rfl (by kernel_rfl) (by kernel_rfl) (by kernel_rfl) (fun _ _ _ h => h) (Or.inl ⟨by rfl, ?y36⟩) hH ?_
  case y36 => intro w' hSw; clear hSw; (first | (go_simp; done) | (go_simp; with_reducible rfl))
  try simp only [Act.put, List.getElem_toArray, List.getElem_cons_succ, List.getElem_cons_zero, List.setIfInBounds_toArray, List.set_cons_succ, List.set_cons_zero]
  refine wpAnyH_take (i := 2) (v := ?v37) rfl (by kernel_rfl) (by kernel_rfl) (by kernel_rfl) (fun _ _ _ h => h) (Or.inl ⟨by rfl, ?y37⟩) hH ?_
  case y37 => intro w' hSw; clear hSw; (first | (go_simp; done) | (go_simp; with_reducible rfl))
  try simp only [Act.put, List.getElem_toArray, List.getElem_cons_succ, List.getElem_cons_zero, List.setIfInBounds_toArray, List.set_cons_succ, List.set_cons_zero]
  refine wpAnyH_take (i := 3) (v := ?v38) rfl (by kernel_rfl) (by kernel_rfl) (by kernel_rfl) (fun _ _ _ h => h) (Or.inl ⟨by rfl, ?y38⟩) hH ?_
  case y38 => intro w' hSw; have hc2 := (HR1.out.below hSw).c2; clear hSw; (first | (go_simp; done) | (go_simp; with_reducible rfl))
  try simp only [Act.put, List.getElem_toArray, List.getElem_cons_succ, List.getElem_cons_zero, List.setIfInBounds_toArray, List.set_cons_succ, List.set_cons_zero]
  refine wpAnyH_take (i := 4) (v := ?v39) rfl (by kernel_rfl) (by kernel_rfl) (by kernel_rfl) (fun _ _ _ h => h) (Or.inl ⟨by rfl, ?y39⟩) hH ?_
  case y39 => intro w' hSw; clear hSw; (first | (go_simp; done) | (go_simp; with_reducible rfl))
  try simp only [Act.put, List.getElem_toArray, List.getElem_cons_succ, List.getElem_cons_zero, List.setIfInBounds_toArray, List.set_cons_succ, List.set_cons_zero]
  refine wpAnyH_take (i := 5) (v := ?v40) rfl (by kernel_rfl) (by kernel_rfl) (by kernel_rfl) (fun _ _ _ h => h) (Or.inl ⟨by rfl, ?y40⟩) hH ?_
  case y40 => intro w' hSw; clear hSw; (first | (go_simp; done) | (go_simp; with_reducible rfl))
  try simp only [Act.put, List.getElem_toArray, List.getElem_cons_succ, List.getElem_cons_zero, List.setIfInBounds_toArray, List.set_cons_succ, List.set_cons_zero]
  refine wpAnyH_take (i := 6) (v := ?v41) rfl (by kernel_rfl) (by kernel_rfl) (by kernel_rfl) (fun _ _ _ h => h) (Or.inl ⟨by rfl, ?y41⟩) hH ?_
  case y41 => intro w' hSw; have hz0 := HZ0.out w' hSw; clear hSw; (first | (go_simp; done) | (go_simp; with_reducible rfl))
  try simp only [Act.put, List.getElem_toArray, List.getElem_cons_succ, List.getElem_cons_zero, List.setIfInBounds_toArray, List.set_cons_succ, List.set_cons_zero]
  refine wpAnyH_take (i := 7) (v := ?v42) rfl (by kernel_rfl) (by kernel_rfl) (by kernel_rfl) (fun _ _ _ h => h) (Or.inl ⟨by rfl, ?y42⟩) hH ?_
  case y42 => intro w' hSw; clear hSw; (first | (go_simp; done) | (go_simp; with_reducible rfl))
  try simp only [Act.put, List.getElem_toArray, List.getElem_cons_succ, List.getElem_cons_zero, List.setIfInBounds_toArray, List.set_cons_succ, List.set_cons_zero]
  refine wpAnyH_take (i := 8) (v := ?v43) rfl (by kernel_rfl) (by kernel_rfl) (by kernel_rfl) (fun _ _ _ h => h) (Or.inl ⟨by rfl, ?y43⟩) hH ?_
  case y43 => intro w' hSw; clear hSw; (first | (go_simp; done) | (go_simp; with_reducible rfl))
  try simp only [Act.put, List.getElem_toArray, List.getElem_cons_succ, List.getElem_cons_zero, List.setIfInBounds_toArray, List.set_cons_succ, List.set_cons_zero]
  refine wpAnyH_take (i := 9) (v := ?v44) rfl (by kernel_rfl) (by kernel_rfl) (by kernel_rfl) (fun _ _ _ h => h) (Or.inl ⟨by rfl, ?y44⟩) hH ?_
  case y44 => intro w' hSw; have hcv := HCV.out w' hSw; clear hSw; (first | (go_simp; done) | (go_simp; with_reducible rfl))
  try simp only [Act.put, List.getElem_toArray, List.getElem_cons_succ, List.getElem_cons_zero, List.setIfInBounds_toArray, List.set_cons_succ, List.set_cons_zero]
  refine wpAnyH_take (i := 10) (v := ?v45) rfl (by kernel_rfl) (by kernel_rfl) (by kernel_rfl) (fun _ _ _ h => h) (Or.inl ⟨by rfl, ?y45⟩) hH ?_
  case y45 => intro w' hSw; clear hSw; (first | (go_simp; done) | (go_simp; with_reducible rfl))
  try simp only [Act.put, List.getElem_toArray, List.getElem_cons_succ, List.getElem_cons_zero, List.setIfInBounds_toArray, List.set_cons_succ, List.set_cons_zero]
  refine wpAnyH_take (i := 11) (v := ?v46) rfl (by kernel_rfl) (by kernel_rfl) (by kernel_rfl) (fun _ _ _ h => h) (Or.inl ⟨by rfl, ?y46⟩) hH ?_
  case y46 => intro w' hSw; have hlk := HLK.out w' hSw; clear hSw; (first | (go_simp; done) | (go_simp; with_reducible rfl))
  try simp only [Act.put, List.getElem_toArray, List.getElem_cons_succ, List.getElem_cons_zero, List.setIfInBounds_toArray, List.set_cons_succ, List.set_cons_zero]
  refine wpAnyH_take (i := 12) (v := ?v47) rfl (by kernel_rfl) (by kernel_rfl) (by kernel_rfl) (fun _ _ _ h => h) (Or.inl ⟨by rfl, ?y47⟩) hH ?_
  case y47 => intro w' hSw; clear hSw; (first | (go_simp; done) | (go_simp; with_reducible rfl))
  try simp only [Act.put, List.getElem_toArray, List.getElem_cons_succ, List.getElem_cons_zero, List.setIfInBounds_toArray, List.set_cons_succ, List.set_cons_zero]
  refine wpAnyH_take (i := 13) (v := ?v48) rfl (by kernel_rfl) (by kernel_rfl) (by kernel_rfl) (fun _ _ _ h => h) (Or.inl ⟨by rfl, ?y48⟩) hH ?_
  case y48 => intro w' hSw; clear hSw; (first | (go_simp; done) | (go_simp; with_reducible rfl))
  try simp only [Act.put, List.getElem_toArray, List.getElem_cons_succ, List.getElem_cons_zero, List.setIfInBounds_toArray, List.set_cons_succ, List.set_cons_zero]
  refine wpAnyH_take (i := 14) (v := ?v49) rfl (by kernel_rfl) (by kernel_rfl) (by kernel_rfl) (fun _ _ _ h => h) (Or.inl ⟨by rfl, ?y49⟩) hH ?_
  case y49 => intro w' hSw; clear hSw; (first | (go_simp; done) | (go_simp; with_reducible rfl))
  try simp only [Act.put, List.getElem_toArray, List.getElem_cons_succ, List.getElem_cons_zero, List.setIfInBounds_toArray, List.set_cons_succ, List.set_cons_zero]
  refine wpAnyH_ready (rs := [15]) (by kernel_rfl) (by simp) ?_
  refine AllReadyH.cons rfl (fun K hK => ?_) AllReadyH.nil
  rw [if_pos (by rfl)]
  go_simp
  have hn6 := (HB.new w1 24 zdig).drew
  have hH6 : Below w1.heap.size w1 (w1.alloc (.cells zdig.toArray 24)).drew := (below_alloc1 w1 _).drew
  generalize (w1.alloc (.cells zdig.toArray 24)).drew = w6 at *
  refine hK.out _ _ hH6 (fun _ => ?_)
  clear hK K hH
  try simp only [Act.put, List.getElem_toArray, List.getElem_cons_succ, List.getElem_cons_zero, List.setIfInBounds_toArray, List.set_cons_succ, List.set_cons_zero]
  refine wpAnyH_ready (rs := [16]) (by kernel_rfl) (by simp) ?_
  refine AllReadyH.cons rfl (fun K hK => ?_) AllReadyH.nil
  rw [if_pos (by rfl)]
  refine wp_store_mid 24 _ _ rfl w1.heap.size 0 (bys dg).toArray rfl rfl (there_hb0 hn6 HZ32.out) HDI.out HDA.out ?_
  have hn7 : HB (w6.setCells w1.heap.size 0 (bys dg).toArray.toList) w1.heap.size 24 (bys dg) := hb_setAll hn6 _ HZ32'.out
  have hH7 : Below w1.heap.size w1 (w6.setCells w1.heap.size 0 (bys dg).toArray.toList) := below_setCells (Nat.le_refl _) _ 0 _ hH6
  generalize w6.setCells w1.heap.size 0 (bys dg).toArray.toList = w7 at *
  refine hK.out _ _ hH7 (fun _ => ?_)
  clear hK K hH6 hn6
  try simp only [Act.put, List.getElem_toArray, List.getElem_cons_succ, List.getElem_cons_zero]
  refine wpAnyH_take (i := 17) (v := ?v50) rfl (by kernel_rfl) (by kernel_rfl) (by kernel_rfl) (fun _ _ _ h => h) (Or.inl ⟨by rfl, ?y50⟩) hH7 ?_
  case y50 => intro w' hSw; clear hSw; (first | (go_simp; done) | (go_simp; with_reducible rfl))
  try simp only [Act.put, List.getElem_toArray, List.getElem_cons_succ, List.getElem_cons_zero, List.setIfInBounds_toArray, List.set_cons_succ, List.set_cons_zero]
  refine wpAnyH_done (by kernel_rfl) ?_ _
  have hbf := HB1.out.trans (hH7.mono HB1.out.size)
  have hx7 : w7.rangeAt w.heap.size 1 (bys d) := fun j v hj => by
    have hbx := HX1.out.below hH7 HX1.out.lt
    rw [hbx.cell, sigL]
    rw [show 1 + j = j + 1 from by omega, List.getElem?_cons_succ]; exact hj
  have hdi : (Tryd.prog.info? 24).map (·.size) = some (bys d).length := by rw [bys_len, HDD.out]; exact Tryd.sizeDig
  have HDI2 := Lib.hid hdi
  have heq := fun W => eql_dg W dg d HDL.out HDD.out
  clear hH7 hdi
  have hl1 := load_hb hn7 Tryd.underlying24 rfl (by rw [bys_len, HDL.out]; exact Tryd.sizeDig)
  have hl2 := load_range hx7 Tryd.underlying24 rfl HDI2.out
  have HL1 := Lib.hid hl1
  have HL2 := Lib.hid hl2
  clear hl1 hl2
  go_wp2_with (first
    | (refine wpList_load_g (by rfl) 24 _ rfl w1.heap.size 0 rfl _ HL1.out ?_)
    | (refine wpList_load_g (by rfl) 24 _ rfl w.heap.size 1 rfl _ HL2.out ?_))
  go_ret
  exact ⟨rfl, hbf⟩

theorem check_any {f : Foot} {nk : Nat} {bud : Int} {L : List Sg} {U : List (Int × Int)} (w : World) (h : RingW w f nk bud L U) (k i : Int) (hk : I64 k) (hi : I64 i) (B : Nat) (A : Option Addr) (c : Nat) (t : List UInt8) (hs : Sees w B 1 A t.length (bys t)) (hBw : B ≤ w.heap.size) (ht : t.length ≤ 140737488351232) (d : List UInt8) (hd : d.length = 32) :
    Calls Tryd.prog 29 #[.pointer (some ⟨f.r, 0, none⟩), .int .i64 k, .slice A t.length c, .agg (sigL i d).toArray] w (ChkR w (chkB L ((k, i), t) d)) := by
  by_cases hm : ((k, i), t) ∈ L
  · have h2 := check_in w h k i hk hi B A c t hs hBw ht d hd hm
    have e : chkB L ((k, i), t) d = (tagF ((k, i), t) == d) := by unfold chkB; rw [decide_eq_true hm, Bool.true_and]
    rw [e]; exact h2
  · have h2 := check_out w h k i hk hi B A c t hs hBw ht d hd hm
    have e : chkB L ((k, i), t) d = false := by unfold chkB; rw [decide_eq_false hm, Bool.false_and]
    rw [e]; exact h2
end Go.Proofs.YtkhbogccmngmmaaDoor
