/- The law CodecHeaders as a call: any two headers. -/
import Derived.Test.YtlkjahfkgfkilaaDoorLawH
import Derived.Test.YtlkjahfkgfkilaaDoorEql
namespace Go.Proofs.YtlkjahfkgfkilaaDoor
open Go.RowKit

theorem toList_loop (bs : ByteArray) : ∀ (n i : Nat) (r : List UInt8), bs.size - i = n → ByteArray.toList.loop bs i r = r.reverse ++ bs.data.toList.drop i := by
  intro n
  induction n with
  | zero =>
    intro i r h
    unfold ByteArray.toList.loop
    rw [if_neg (by omega), List.drop_eq_nil_of_le (by simp; exact Nat.le_of_sub_eq_zero h), List.append_nil]
  | succ n ih =>
    intro i r h
    have hi : i < bs.size := by omega
    have hi2 : i < bs.data.toList.length := by simpa using hi
    unfold ByteArray.toList.loop
    rw [if_pos hi, ih (i + 1) _ (by omega), List.drop_eq_getElem_cons hi2]
    have e : bs.get! i = bs.data.toList[i] := by
      have hi3 : i < bs.data.size := hi
      have h2 : bs.data[i]! = bs.data[i]'hi3 := getElem!_pos bs.data i hi3
      simp [ByteArray.get!, h2]
    rw [e]
    simp
theorem strB_toList (b : List UInt8) : (strB b).toList = b := by
  unfold ByteArray.toList
  rw [toList_loop _ _ 0 [] rfl]
  simp [strB]

theorem exec_eql_header {cs ds : List Value} {r : Bool} {W : World} (ρ : Operand → Value) (o : Oper) (x y : Operand) (yt : TypeId) (ho : o.op = .binOp .eql 25 x y yt) (hx : ρ x = .agg cs.toArray) (hy : ρ y = .agg ds.toArray)
    (he : (binOp .eql 25 (.agg cs.toArray) (.agg ds.toArray)).run Tryd.prog W = .ok (.bool r) W) : (execOp ρ o).run Tryd.prog W = .ok (.value (.bool r)) W := by
  have hm : Tryd.prog.eqGuardType Tryd.prog.depth 25 = false := by kernel_rfl
  unfold execOp
  simp only [ho, hx, hy, Sem.run_bind, run_eqGuard_agg W .eql 25 x y cs.toArray ds.toArray hm, he, Result.andThen_ok, Sem.run_pure]

set_option maxRecDepth 20000 in
set_option maxHeartbeats 8000000 in
theorem codecHeaders_any (w : World) (al af : Addr) (tl tf : ByteArray) (hL : Lay w al af tl tf) (cs ds : List Value) (b d : List UInt8) (hR : headerR w (fun _ => False) cs b) (hR2 : headerR w (fun _ => False) ds d) :
    Calls Tryd.prog 3 #[.agg cs.toArray, .agg ds.toArray] w fun e w' => e = .returned (.bool true) ∧ Below w.heap.size w w' := by
  obtain ⟨hcl, -⟩ := headerR_len _ _ _ _ hR
  obtain ⟨hdl, -⟩ := headerR_len _ _ _ _ hR2
  have Hszb := Lib.hid (headerR_size hR)
  have Hszd := Lib.hid (headerR_size hR2)
  have HR := Lib.hid hR
  have HR2 := Lib.hid hR2
  have heq' : ∀ W : World, (binOp .eql 25 (.agg cs.toArray) (.agg ds.toArray)).run Tryd.prog W = .ok (.bool (decide (b = d))) W := fun W => header_eql hR hR2
  have hst : (decide (b = d) == ((strB b).toList == (strB d).toList)) = true := by
    rw [strB_toList, strB_toList]
    rcases Decidable.em (b = d) with e | e
    · rw [decide_eq_true e, e]; simp
    · rw [decide_eq_false e]; simpa using e
  generalize decide (b = d) = r at heq' hst
  have heq := Lib.hid heq'
  have Hst := Lib.hid hst
  clear hst
  obtain ⟨W2, hW2⟩ : ∃ W2 : World, W2 = (w.alloc (.cells cs.toArray 25)).alloc (.cells ds.toArray 25) := ⟨_, rfl⟩
  have hBw : Below w.heap.size w W2 := by rw [hW2]; exact ((Below.refl _ _).alloc (Nat.le_refl _) _).alloc (by simp) _
  have hx2 : HB W2 w.heap.size 25 cs := by rw [hW2]; exact (HB.new w _ _).alloc _
  have hy2 : HB W2 (w.heap.size + 1) 25 ds := by
    rw [hW2]
    have hh := HB.new (w.alloc (.cells cs.toArray 25)) 25 ds
    simpa only [World.size_alloc] using hh
  have hL2 := hL.later hBw
  have HLl : (Tryd.prog.info? 25).map (·.size) = some cs.length := by rw [hcl]; kernel_rfl
  have HLl2 : (Tryd.prog.info? 25).map (·.size) = some ds.length := by rw [hdl]; kernel_rfl
  have HL := Lib.hid HLl
  have HL2 := Lib.hid HLl2
  clear hR hR2 hcl hdl HLl HLl2 heq' hL
  go_enter Tryd.func3, Tryd.ntmps3
  go_wp2_with fail
  rw [← hW2]
  clear hW2
  refine wp_region_held_drew (S := fun w' => Below W2.heap.size W2 w') (by kernel_rfl) (Below.drew (Below.refl _ _)) (fun hH => ?_)
  refine wpAnyH_ready (rs := [0]) (by kernel_rfl) (by simp) ?_
  refine AllReadyH.cons rfl (fun K hK => ?_) AllReadyH.nil
  rw [if_pos (by rfl)]
  go_simp
  refine (awake_any _ al af tl tf (hL2.later hH)).mono ?_
  rintro e w3 ⟨rfl, hB3⟩
  have hH3 := hH.trans (hB3.mono hH.size)
  dsimp only
  refine hK.out _ _ hH3 (fun _ => ?_)
  clear hK K
  try simp only [Act.put]
  refine wpAnyH_take (i := 1) (v := ?v101) rfl (by kernel_rfl) (by kernel_rfl) (by kernel_rfl) (fun _ _ _ h => h) (Or.inl ⟨by rfl, ?y101⟩) hH3 ?_
  case y101 => intro w' hSw; (first | (go_simp; done) | (go_simp; with_reducible rfl))
  try simp only [Act.put]
  refine wpAnyH_take (i := 2) (v := .agg cs.toArray) rfl (by kernel_rfl) (by kernel_rfl) (by kernel_rfl) (fun _ _ _ h => h) (yieldsIf_load_mid (by rfl) 25 _ rfl w.heap.size 0 rfl cs _ (fun w' h => (hx2.below h (HB.lt hx2)).range) Tryd.underlying25 rfl HL.out) hH3 ?_
  try simp only [Act.put]
  refine wpAnyH_ready (rs := [3]) (by kernel_rfl) (by simp) ?_
  refine AllReadyH.cons rfl (fun K hK => ?_) AllReadyH.nil
  rw [if_pos (by rfl)]
  go_simp
  refine (header_law _ al af tl tf (hL2.later hH3) cs b (headerR_free HR.out)).mono ?_
  rintro e w4 ⟨rfl, hB4⟩
  have hH4 := hH3.trans (hB4.mono hH3.size)
  dsimp only
  refine hK.out _ _ hH4 (fun _ => ?_)
  clear hK K
  try simp only [Act.put]
  refine wpAnyH_take (i := 4) (v := ?v102) rfl (by kernel_rfl) (by kernel_rfl) (by kernel_rfl) (fun _ _ _ h => h) (Or.inl ⟨by rfl, ?y102⟩) hH4 ?_
  case y102 => intro w' hSw; (first | (go_simp; done) | (go_simp; with_reducible rfl))
  try simp only [Act.put]
  refine wpAnyH_take (i := 5) (v := ?v103) rfl (by kernel_rfl) (by kernel_rfl) (by kernel_rfl) (fun _ _ _ h => h) (Or.inl ⟨by rfl, ?y103⟩) hH4 ?_
  case y103 => intro w' hSw; (first | (go_simp; done) | (go_simp; with_reducible rfl))
  try simp only [Act.put]
  refine wpAnyH_take (i := 6) (v := .agg cs.toArray) rfl (by kernel_rfl) (by kernel_rfl) (by kernel_rfl) (fun _ _ _ h => h) (yieldsIf_load_mid (by rfl) 25 _ rfl w.heap.size 0 rfl cs _ (fun w' h => (hx2.below h (HB.lt hx2)).range) Tryd.underlying25 rfl HL.out) hH4 ?_
  try simp only [Act.put]
  refine wpAnyH_take (i := 7) (v := .agg ds.toArray) rfl (by kernel_rfl) (by kernel_rfl) (by kernel_rfl) (fun _ _ _ h => h) (yieldsIf_load_mid (by rfl) 25 _ rfl (w.heap.size + 1) 0 rfl ds _ (fun w' h => (hy2.below h (HB.lt hy2)).range) Tryd.underlying25 rfl HL2.out) hH4 ?_
  try simp only [Act.put]
  refine wpAnyH_take (i := 8) (v := .bool r) rfl (by kernel_rfl) (by kernel_rfl) (by kernel_rfl) (fun _ _ _ h => h) (Or.inl ⟨by rfl, fun w' _ => exec_eql_header _ _ _ _ _ rfl rfl rfl (heq.out w')⟩) hH4 ?_
  try simp only [Act.put]
  refine wpAnyH_take (i := 9) (v := .agg cs.toArray) rfl (by kernel_rfl) (by kernel_rfl) (by kernel_rfl) (fun _ _ _ h => h) (yieldsIf_load_mid (by rfl) 25 _ rfl w.heap.size 0 rfl cs _ (fun w' h => (hx2.below h (HB.lt hx2)).range) Tryd.underlying25 rfl HL.out) hH4 ?_
  try simp only [Act.put]
  refine wpAnyH_take (i := 12) (v := .agg ds.toArray) rfl (by kernel_rfl) (by kernel_rfl) (by kernel_rfl) (fun _ _ _ h => h) (yieldsIf_load_mid (by rfl) 25 _ rfl (w.heap.size + 1) 0 rfl ds _ (fun w' h => (hy2.below h (HB.lt hy2)).range) Tryd.underlying25 rfl HL2.out) hH4 ?_
  try simp only [Act.put]
  refine wpAnyH_ready (rs := [10]) (by kernel_rfl) (by simp) ?_
  refine AllReadyH.cons rfl (fun K hK => ?_) AllReadyH.nil
  rw [if_pos (by rfl)]
  go_simp
  refine (header_writes _ (fun _ => False) cs b (headerR_free HR.out) (fun _ h => h.elim) (by rw [Hszb.out]; decide)).mono ?_
  rintro e w6 ⟨v6, rfl, hown6, hB6⟩
  obtain ⟨A6, c6, rfl, -, -, -, hse6⟩ := own_slice hown6
  have hH6 := hH4.trans (hB6.mono hH4.size)
  dsimp only
  refine hK.out _ _ hH6 (fun _ => ?_)
  clear hK K hown6
  try simp only [Act.put]
  refine wpAnyH_ready (rs := [11, 13]) (by kernel_rfl) (by simp) ?_
  refine AllReadyH.cons rfl (fun K hK => ?_) (AllReadyH.cons rfl (fun K hK => ?_) AllReadyH.nil)
  · rw [if_pos (by rfl)]
    have hc6 := conv_sees (w := w6) c6 (hse6)
    go_simp
    refine hK.out _ _ hH6 (fun _ => ?_)
    clear hK K hc6
    try simp only [Act.put]
    refine wpAnyH_ready (rs := [13]) (by kernel_rfl) (by simp) ?_
    refine AllReadyH.cons rfl (fun K hK => ?_) AllReadyH.nil
    rw [if_pos (by rfl)]
    go_simp
    refine (header_writes _ (fun _ => False) ds d (headerR_free HR2.out) (fun _ h => h.elim) (by rw [Hszd.out]; decide)).mono ?_
    rintro e w7 ⟨v7, rfl, hown7, hB7⟩
    obtain ⟨A7, c7, rfl, -, -, -, hse7⟩ := own_slice hown7
    have hH7 := hH6.trans (hB7.mono hH6.size)
    dsimp only
    refine hK.out _ _ hH7 (fun _ => ?_)
    clear hK K hown7
    try simp only [Act.put]
    refine wpAnyH_ready (rs := [14]) (by kernel_rfl) (by simp) ?_
    refine AllReadyH.cons rfl (fun K hK => ?_) AllReadyH.nil
    rw [if_pos (by rfl)]
    have hc7 := conv_sees (w := w7) c7 (hse7)
    go_simp
    refine hK.out _ _ hH7 (fun _ => ?_)
    clear hK K hc7
    try simp only [Act.put]
    refine wpAnyH_take (i := 15) (v := ?v104) rfl (by kernel_rfl) (by kernel_rfl) (by kernel_rfl) (fun _ _ _ h => h) (Or.inl ⟨by rfl, ?y104⟩) hH7 ?_
    case y104 => intro w' hSw; (first | (go_simp; done) | (go_simp; with_reducible rfl))
    try simp only [Act.put]
    refine wpAnyH_take (i := 16) (v := ?v105) rfl (by kernel_rfl) (by kernel_rfl) (by kernel_rfl) (fun _ _ _ h => h) (Or.inl ⟨by rfl, ?y105⟩) hH7 ?_
    case y105 => intro w' hSw; (first | (go_simp; done) | (go_simp; with_reducible rfl))
    try simp only [Act.put]
    refine wpAnyH_take (i := 17) (v := ?v106) rfl (by kernel_rfl) (by kernel_rfl) (by kernel_rfl) (fun _ _ _ h => h) (Or.inl ⟨by rfl, ?y106⟩) hH7 ?_
    case y106 => intro w' hSw; (first | (go_simp; done) | (go_simp; with_reducible rfl))
    try simp only [Act.put]
    refine wpAnyH_take (i := 18) (v := ?v107) rfl (by kernel_rfl) (by kernel_rfl) (by kernel_rfl) (fun _ _ _ h => h) (Or.inl ⟨by rfl, ?y107⟩) hH7 ?_
    case y107 => intro w' hSw; (first | (go_simp; done) | (go_simp; with_reducible rfl))
    try simp only [Act.put]
    refine wpAnyH_done (by kernel_rfl) ?_ _
    have hEnd := hBw.trans (hH7.mono hBw.size)
    simp only [List.getElem_toArray, List.getElem_cons_succ, List.getElem_cons_zero, List.setIfInBounds_toArray, List.set_cons_succ, List.set_cons_zero]
    go_wp2
    go_ret
    exact ⟨congrArg (fun z => Ending.returned (.bool z)) Hst.out, hEnd⟩
  · rw [if_pos (by rfl)]
    go_simp
    refine (header_writes _ (fun _ => False) ds d (headerR_free HR2.out) (fun _ h => h.elim) (by rw [Hszd.out]; decide)).mono ?_
    rintro e w7 ⟨v7, rfl, hown7, hB7⟩
    obtain ⟨A7, c7, rfl, -, -, -, hse7⟩ := own_slice hown7
    have hH7 := hH6.trans (hB7.mono hH6.size)
    dsimp only
    refine hK.out _ _ hH7 (fun _ => ?_)
    clear hK K hown7
    try simp only [Act.put]
    refine wpAnyH_ready (rs := [11, 14]) (by kernel_rfl) (by simp) ?_
    refine AllReadyH.cons rfl (fun K hK => ?_) (AllReadyH.cons rfl (fun K hK => ?_) AllReadyH.nil)
    · rw [if_pos (by rfl)]
      have hc6 := conv_sees (w := w7) c6 (hse6.below hB7)
      go_simp
      refine hK.out _ _ hH7 (fun _ => ?_)
      clear hK K hc6
      try simp only [Act.put]
      refine wpAnyH_ready (rs := [14]) (by kernel_rfl) (by simp) ?_
      refine AllReadyH.cons rfl (fun K hK => ?_) AllReadyH.nil
      rw [if_pos (by rfl)]
      have hc7 := conv_sees (w := w7) c7 (hse7)
      go_simp
      refine hK.out _ _ hH7 (fun _ => ?_)
      clear hK K hc7
      try simp only [Act.put]
      refine wpAnyH_take (i := 15) (v := ?v108) rfl (by kernel_rfl) (by kernel_rfl) (by kernel_rfl) (fun _ _ _ h => h) (Or.inl ⟨by rfl, ?y108⟩) hH7 ?_
      case y108 => intro w' hSw; (first | (go_simp; done) | (go_simp; with_reducible rfl))
      try simp only [Act.put]
      refine wpAnyH_take (i := 16) (v := ?v109) rfl (by kernel_rfl) (by kernel_rfl) (by kernel_rfl) (fun _ _ _ h => h) (Or.inl ⟨by rfl, ?y109⟩) hH7 ?_
      case y109 => intro w' hSw; (first | (go_simp; done) | (go_simp; with_reducible rfl))
      try simp only [Act.put]
      refine wpAnyH_take (i := 17) (v := ?v110) rfl (by kernel_rfl) (by kernel_rfl) (by kernel_rfl) (fun _ _ _ h => h) (Or.inl ⟨by rfl, ?y110⟩) hH7 ?_
      case y110 => intro w' hSw; (first | (go_simp; done) | (go_simp; with_reducible rfl))
      try simp only [Act.put]
      refine wpAnyH_take (i := 18) (v := ?v111) rfl (by kernel_rfl) (by kernel_rfl) (by kernel_rfl) (fun _ _ _ h => h) (Or.inl ⟨by rfl, ?y111⟩) hH7 ?_
      case y111 => intro w' hSw; (first | (go_simp; done) | (go_simp; with_reducible rfl))
      try simp only [Act.put]
      refine wpAnyH_done (by kernel_rfl) ?_ _
      have hEnd := hBw.trans (hH7.mono hBw.size)
      simp only [List.getElem_toArray, List.getElem_cons_succ, List.getElem_cons_zero, List.setIfInBounds_toArray, List.set_cons_succ, List.set_cons_zero]
      go_wp2
      go_ret
      exact ⟨congrArg (fun z => Ending.returned (.bool z)) Hst.out, hEnd⟩
    · rw [if_pos (by rfl)]
      have hc7 := conv_sees (w := w7) c7 (hse7)
      go_simp
      refine hK.out _ _ hH7 (fun _ => ?_)
      clear hK K hc7
      try simp only [Act.put]
      refine wpAnyH_ready (rs := [11]) (by kernel_rfl) (by simp) ?_
      refine AllReadyH.cons rfl (fun K hK => ?_) AllReadyH.nil
      rw [if_pos (by rfl)]
      have hc6 := conv_sees (w := w7) c6 (hse6.below hB7)
      go_simp
      refine hK.out _ _ hH7 (fun _ => ?_)
      clear hK K hc6
      try simp only [Act.put]
      refine wpAnyH_take (i := 15) (v := ?v112) rfl (by kernel_rfl) (by kernel_rfl) (by kernel_rfl) (fun _ _ _ h => h) (Or.inl ⟨by rfl, ?y112⟩) hH7 ?_
      case y112 => intro w' hSw; (first | (go_simp; done) | (go_simp; with_reducible rfl))
      try simp only [Act.put]
      refine wpAnyH_take (i := 16) (v := ?v113) rfl (by kernel_rfl) (by kernel_rfl) (by kernel_rfl) (fun _ _ _ h => h) (Or.inl ⟨by rfl, ?y113⟩) hH7 ?_
      case y113 => intro w' hSw; (first | (go_simp; done) | (go_simp; with_reducible rfl))
      try simp only [Act.put]
      refine wpAnyH_take (i := 17) (v := ?v114) rfl (by kernel_rfl) (by kernel_rfl) (by kernel_rfl) (fun _ _ _ h => h) (Or.inl ⟨by rfl, ?y114⟩) hH7 ?_
      case y114 => intro w' hSw; (first | (go_simp; done) | (go_simp; with_reducible rfl))
      try simp only [Act.put]
      refine wpAnyH_take (i := 18) (v := ?v115) rfl (by kernel_rfl) (by kernel_rfl) (by kernel_rfl) (fun _ _ _ h => h) (Or.inl ⟨by rfl, ?y115⟩) hH7 ?_
      case y115 => intro w' hSw; (first | (go_simp; done) | (go_simp; with_reducible rfl))
      try simp only [Act.put]
      refine wpAnyH_done (by kernel_rfl) ?_ _
      have hEnd := hBw.trans (hH7.mono hBw.size)
      simp only [List.getElem_toArray, List.getElem_cons_succ, List.getElem_cons_zero, List.setIfInBounds_toArray, List.set_cons_succ, List.set_cons_zero]
      go_wp2
      go_ret
      exact ⟨congrArg (fun z => Ending.returned (.bool z)) Hst.out, hEnd⟩
end Go.Proofs.YtlkjahfkgfkilaaDoor
