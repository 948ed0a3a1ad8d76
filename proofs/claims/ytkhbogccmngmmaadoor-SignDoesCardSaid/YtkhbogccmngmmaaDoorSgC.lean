/- sign.record. -/
import Derived.Test.YtkhbogccmngmmaaDoorSgH
import Derived.Test.YtkhbogccmngmmaaDoorLt
import Derived.StillTailTactics
import Derived.Deep.MidRow
import Derived.IntWalk
namespace Go.Proofs.YtkhbogccmngmmaaDoor
open Go.RowKit

theorem HB.range {w : World} {g : Nat} {t : TypeId} {cs : List Value} (h : HB w g t cs) : w.rangeAt g 0 cs := by
  intro j v hj
  rw [Nat.zero_add, h.cell]; exact hj
/-- A row loaded. -/
theorem load_hb {w : World} {g : Nat} {t ty : TypeId} {cs : List Value} {d : TypeDesc} (h : HB w g t cs) (hu : Tryd.prog.underlying ty = some d) (hd : d.isRow = true) (hi : (Tryd.prog.info? ty).map (·.size) = some cs.length) :
    (loadVar ty ⟨g, 0, none⟩).run Tryd.prog w = .ok (.agg cs.toArray) w := run_loadVar_mid w g 0 ty cs d h.range hu hd hi
theorem still_load {P : Program} {W : World} {ops : Array Oper} {o : Oper} {rest : List Oper} {a : Act} {Q : Act → Prop} (hgd : o.guard = none) (ty : TypeId) (x : Operand) (ho : o.op = .load ty x) (b n : Nat) (hx : a.eval x = .pointer (some ⟨b, n, none⟩)) (v : Value)
    (hl : (loadVar ty ⟨b, n, none⟩).run P W = .ok v W) (h : wpStill P ops W Q rest (a.put o.dst v)) : wpStill P ops W Q (o :: rest) a := by
  unfold wpStill
  rw [if_pos (by simp [Region.wanted, hgd])]
  unfold Oper.still execOp
  simp only [ho, hx, Instr.loadAt, Instr.sureAddr, Sem.run_bind, Sem.run_pure, Result.andThen_ok, hl]
  exact ⟨rfl, h⟩

/-- A ring while a signing is recorded: the maps' lists, the tallies' lists; the boxed signing in block z. -/
structure RecW (w : World) (f : Foot) (nk : Nat) (bud : Int) (L Lt : List Sg) (U Ut : List (Int × Int)) (z : Nat) (s : Sg) : Prop where
  ring : HB w f.r 115 [.int .i64 bud, .slice (some ⟨f.K, 0, none⟩) nk nk, .map (some f.T), .map (some f.U)]
  tally : HB w f.K 133 (talV nk Lt Ut)
  tags : MapL w Tryd.prog 122 f.T (tagL L)
  used : MapL w Tryd.prog 120 f.U (useL U)
  box : HB w z 122 [.int .i64 s.1.1, .int .i64 s.1.2, .string (strB s.2)]
  rK : f.r ≠ f.K
  TU : f.T ≠ f.U
theorem hb_ne {w : World} {g g' : Nat} {t t' : TypeId} {cs cs' : List Value} (h : HB w g t cs) (h' : HB w g' t' cs') (hne : t ≠ t') : g ≠ g' := by
  rintro rfl
  have e : some (Obj.cells cs.toArray t (0, 0)) = some (Obj.cells cs'.toArray t' (0, 0)) := h.symm.trans h'
  injection e with e
  injection e with _ e
  exact hne e
section
variable {w w' : World} {f : Foot} {nk : Nat} {bud : Int} {L Lt : List Sg} {U Ut : List (Int × Int)} {z : Nat} {s : Sg}
theorem RecW.of_heap (h : RecW w f nk bud L Lt U Ut z s) (hh : ∀ b, b < w.heap.size → w'.heap[b]? = w.heap[b]?) : RecW w' f nk bud L Lt U Ut z s :=
  ⟨h.ring.keep (hh _ h.ring.lt), h.tally.keep (hh _ h.tally.lt), h.tags.of_heap (hh _ h.tags.lt), h.used.of_heap (hh _ h.used.lt), h.box.keep (hh _ h.box.lt), h.rK, h.TU⟩
theorem RecW.drew (h : RecW w f nk bud L Lt U Ut z s) : RecW w.drew f nk bud L Lt U Ut z s := h.of_heap fun _ _ => rfl
theorem RecW.alloc (h : RecW w f nk bud L Lt U Ut z s) (o : Obj) : RecW (w.alloc o) f nk bud L Lt U Ut z s := h.of_heap fun _ hb => heap_alloc_old w o hb
theorem RecW.c1 (h : RecW w f nk bud L Lt U Ut z s) : w.cell? ⟨f.r, 1, none⟩ = some (.slice (some ⟨f.K, 0, none⟩) nk nk) := by rw [h.ring.cell]; rfl
theorem RecW.c2 (h : RecW w f nk bud L Lt U Ut z s) : w.cell? ⟨f.r, 2, none⟩ = some (.map (some f.T)) := by rw [h.ring.cell]; rfl
theorem RecW.c3 (h : RecW w f nk bud L Lt U Ut z s) : w.cell? ⟨f.r, 3, none⟩ = some (.map (some f.U)) := by rw [h.ring.cell]; rfl
theorem RecW.z0 (h : RecW w f nk bud L Lt U Ut z s) : w.cell? ⟨z, 0, none⟩ = some (.int .i64 s.1.1) := by rw [h.box.cell]; rfl
theorem RecW.z1 (h : RecW w f nk bud L Lt U Ut z s) : w.cell? ⟨z, 1, none⟩ = some (.int .i64 s.1.2) := by rw [h.box.cell]; rfl
theorem RecW.tL (h : RecW w f nk bud L Lt U Ut z s) {k : Nat} (hk : k < nk) : w.cell? ⟨f.K, k * 2, none⟩ = some (.int .i64 (cntL Lt k : Int)) := by rw [Nat.mul_comm, h.tally.cell, talV_L Lt Ut hk]
theorem RecW.tU (h : RecW w f nk bud L Lt U Ut z s) {k : Nat} (hk : k < nk) : w.cell? ⟨f.K, k * 2 + 1, none⟩ = some (.int .i64 (cntU Ut k : Int)) := by rw [Nat.mul_comm, h.tally.cell, talV_U Lt Ut hk]
theorem RecW.fr (h : RecW w f nk bud L Lt U Ut z s) (j : Nat) : w.frozen? ⟨f.K, j, none⟩ = false := h.tally.frozen j
theorem RecW.zK (h : RecW w f nk bud L Lt U Ut z s) : z ≠ f.K := hb_ne h.box h.tally (by decide)
theorem RecW.stepT (h : RecW w f nk bud L Lt U Ut z s) {d : List UInt8} (hd : d = tagF s) (hm : MapL w' Tryd.prog 122 f.T (tagL L ++ [(sgV s, .agg (bys d).toArray)])) (hg : w.grownBy w' (some f.T)) : RecW w' f nk bud (L ++ [s]) Lt U Ut z s := by
  subst hd
  refine ⟨h.ring.grown hg ?_, h.tally.grown hg ?_, ?_, h.used.of_heap (hg.block _ h.used.lt ?_), h.box.grown hg ?_, h.rK, h.TU⟩
  · exact fun e => cells_not_map h.ring h.tags (Option.some.inj e)
  · exact fun e => cells_not_map h.tally h.tags (Option.some.inj e)
  · have e : tagL (L ++ [s]) = tagL L ++ [(sgV s, tagV s)] := by simp [tagL]
    rw [e]; exact hm
  · exact fun e => h.TU (Option.some.inj e).symm
  · exact fun e => cells_not_map h.box h.tags (Option.some.inj e)
theorem RecW.stepU (h : RecW w f nk bud L Lt U Ut z s) (hm : MapL w' Tryd.prog 120 f.U (useL U ++ [(plV s.1, .agg #[])])) (hg : w.grownBy w' (some f.U)) : RecW w' f nk bud L Lt (U ++ [s.1]) Ut z s := by
  refine ⟨h.ring.grown hg ?_, h.tally.grown hg ?_, h.tags.of_heap (hg.block _ h.tags.lt ?_), ?_, h.box.grown hg ?_, h.rK, h.TU⟩
  · exact fun e => cells_not_map h.ring h.used (Option.some.inj e)
  · exact fun e => cells_not_map h.tally h.used (Option.some.inj e)
  · exact fun e => h.TU (Option.some.inj e)
  · have e : useL (U ++ [s.1]) = useL U ++ [(plV s.1, .agg #[])] := by simp [useL]
    rw [e]; exact hm
  · exact fun e => cells_not_map h.box h.used (Option.some.inj e)
theorem RecW.setL (h : RecW w f nk bud L Lt U Ut z s) {k : Nat} (hk : k < nk) (hs : s.1.1 = (k : Int)) : RecW (w.setCell ⟨f.K, k * 2, none⟩ (.int .i64 ((cntL Lt k : Int) + 1))) f nk bud L (Lt ++ [s]) U Ut z s := by
  refine ⟨h.ring.far h.rK _, ?_, h.tags.of_heap (heap_setCell_other w _ _ _ ?_), h.used.of_heap (heap_setCell_other w _ _ _ ?_), h.box.far h.zK _, h.rK, h.TU⟩
  · have h2 := h.tally.set_ (k * 2) (.int .i64 ((cntL Lt k : Int) + 1))
    rw [show (talV nk Lt Ut).set (k * 2) (.int .i64 ((cntL Lt k : Int) + 1)) = talV nk (Lt ++ [s]) Ut by rw [Nat.mul_comm]; exact talV_stepL Lt Ut s hk hs] at h2
    exact h2
  · exact fun e => cells_not_map h.tally h.tags e.symm
  · exact fun e => cells_not_map h.tally h.used e.symm
theorem RecW.setU (h : RecW w f nk bud L Lt U Ut z s) {k : Nat} (hk : k < nk) (hs : s.1.1 = (k : Int)) : RecW (w.setCell ⟨f.K, k * 2 + 1, none⟩ (.int .i64 ((cntU Ut k : Int) + 1))) f nk bud L Lt U (Ut ++ [s.1]) z s := by
  refine ⟨h.ring.far h.rK _, ?_, h.tags.of_heap (heap_setCell_other w _ _ _ ?_), h.used.of_heap (heap_setCell_other w _ _ _ ?_), h.box.far h.zK _, h.rK, h.TU⟩
  · have h2 := h.tally.set_ (k * 2 + 1) (.int .i64 ((cntU Ut k : Int) + 1))
    rw [show (talV nk Lt Ut).set (k * 2 + 1) (.int .i64 ((cntU Ut k : Int) + 1)) = talV nk Lt (Ut ++ [s.1]) by rw [Nat.mul_comm]; exact talV_stepU Lt Ut s.1 hk hs] at h2
    exact h2
  · exact fun e => cells_not_map h.tally h.tags e.symm
  · exact fun e => cells_not_map h.tally h.used e.symm
theorem RecW.toRing {w0 : World} {L0 : List Sg} {U0 : List (Int × Int)} (h : RecW w f nk bud L L U U z s) (h0 : RingW w0 f nk bud L0 U0) (hf : L.length ≤ 4611686018427387904 ∧ U.length ≤ L.length) : RingW w f nk bud L U :=
  ⟨h.ring, h.tally, h.tags, h.used, h.rK, h.TU, h0.nk, h0.bud, hf⟩
theorem Turn.setK (f : Foot) (w : World) (j : Nat) (v : Value) : Turn f.mine w (w.setCell ⟨f.K, j, none⟩ v) :=
  ⟨rfl, rfl, rfl, by simp [World.setCell], fun k _ hs => heap_setCell_other w _ _ _ (fun e => hs (.inl e))⟩
theorem Turn.drew {S : Nat → Prop} (w : World) : Turn S w w.drew := ⟨rfl, rfl, rfl, Nat.le_refl _, fun _ _ _ => rfl⟩
theorem Turn.alloc {S : Nat → Prop} (w : World) (o : Obj) : Turn S w (w.alloc o) := Turn.of_below (below_alloc1 w o)
end
def useU (U : List (Int × Int)) (p : Int × Int) : List (Int × Int) := if p ∈ U then U else U ++ [p]
theorem sg_not_in {L : List Sg} {s : Sg} (h : s ∉ L) : ∀ x ∈ tagL L, x.1 ≠ sgV s := by
  intro x hx
  obtain ⟨t, ht, rfl⟩ := List.mem_map.1 hx
  exact fun e => h (sgV_inj e ▸ ht)
theorem sg_in {L : List Sg} {s : Sg} (h : s ∈ L) : (sgV s, tagV s) ∈ tagL L := List.mem_map.2 ⟨s, h, rfl⟩
theorem pl_not_in {U : List (Int × Int)} {p : Int × Int} (h : p ∉ U) : ∀ x ∈ useL U, x.1 ≠ plV p := by
  intro x hx
  obtain ⟨t, ht, rfl⟩ := List.mem_map.1 hx
  exact fun e => h (plV_inj e ▸ ht)
theorem pl_in {U : List (Int × Int)} {p : Int × Int} (h : p ∈ U) : (plV p, Value.agg #[]) ∈ useL U := List.mem_map.2 ⟨p, h, rfl⟩
theorem Tryd.zeroUnit (W : World) : (zeroValue 159).run Tryd.prog W = .ok (.agg #[]) W := by kernel_rfl
theorem rangeAt_drew {w : World} {g o : Nat} {cs : List Value} (h : w.rangeAt g o cs) : w.drew.rangeAt g o cs := h
theorem RecW.part {w : World} {f : Foot} {nk : Nat} {bud : Int} {L Lt : List Sg} {U Ut : List (Int × Int)} {z : Nat} {s : Sg} (h : RecW w f nk bud L Lt U Ut z s) : w.rangeAt z 0 [.int .i64 s.1.1, .int .i64 s.1.2] := by
  intro j v hj
  rw [Nat.zero_add, h.box.cell]
  rcases j with _ | _ | j
  · exact hj
  · exact hj
  · simp at hj
theorem load_range {w : World} {g o : Nat} {ty : TypeId} {cs : List Value} {d : TypeDesc} (h : w.rangeAt g o cs) (hu : Tryd.prog.underlying ty = some d) (hd : d.isRow = true) (hi : (Tryd.prog.info? ty).map (·.size) = some cs.length) :
    (loadVar ty ⟨g, o, none⟩).run Tryd.prog w = .ok (.agg cs.toArray) w := run_loadVar_mid w g o ty cs d h hu hd hi
/-- Recorded. -/
def RecR (w : World) (f : Foot) (nk : Nat) (bud : Int) (L : List Sg) (U : List (Int × Int)) (s : Sg) (e : Ending) (w' : World) : Prop :=
  e = .returned (.tuple #[]) ∧ RingW w' f nk bud (L ++ [s]) (useU U s.1) ∧ Turn f.mine w w'

set_option maxRecDepth 20000 in
set_option maxHeartbeats 1600000 in
theorem record_new {f : Foot} {nk : Nat} {bud : Int} {L : List Sg} {U : List (Int × Int)} (w : World) (h : RingW w f nk bud L U) (k : Nat) (hk : k < nk) (i : Int) (t : List UInt8) (hi : I64 i) (ht : t.length ≤ 140737488351232) (hn : (((k : Int), i), t) ∉ L) (hfew : L.length < 4611686018427387904) (d : List UInt8) (hd : d = tagF (((k : Int), i), t)) :
    Calls Tryd.prog 60 #[.pointer (some ⟨f.r, 0, none⟩), .agg #[.int .i64 (k : Int), .int .i64 i, .string (strB t)], .agg (bys d).toArray] w (RecR w f nk bud L U (((k : Int), i), t)) := by
  have hd32 : d.length = 32 := by rw [hd]; exact tagF_len _
  have hnk := h.nk
  have hI : I64 (k : Int) := ⟨by omega, by omega⟩
  obtain ⟨kl, hkl⟩ := keySg (s := (((k : Int), i), t)) ⟨hI, hi, ht⟩
  obtain ⟨kp, hkp⟩ := keyPl (p := ((k : Int), i)) hI hi
  have e1 : (w.alloc (.cells #[.int .i64 (k : Int), .int .i64 i, .string (strB t)] 122)).heap.size = w.heap.size + 1 := by simp
  have h5 := HB.new (w.alloc (.cells #[.int .i64 (k : Int), .int .i64 i, .string (strB t)] 122)) 24 (bys d)
  rw [e1] at h5
  have hbx := HB.new w 122 [.int .i64 (k : Int), .int .i64 i, .string (strB t)]
  have hR1 := h.alloc (.cells #[.int .i64 (k : Int), .int .i64 i, .string (strB t)] 122)
  have hR : RecW (w.alloc (.cells #[.int .i64 (k : Int), .int .i64 i, .string (strB t)] 122)) f nk bud L L U U w.heap.size (((k : Int), i), t) := ⟨hR1.ring, hR1.tally, hR1.tags, hR1.used, hbx, h.rK, h.TU⟩
  have hR2 := hR.alloc (.cells (bys d).toArray 24)
  have hT2 : Turn f.mine w ((w.alloc (.cells #[.int .i64 (k : Int), .int .i64 i, .string (strB t)] 122)).alloc (.cells (bys d).toArray 24)) := (Turn.alloc _ _).trans (Turn.alloc _ _)
  have H := Lib.hid h
  clear h hR hR1 hbx e1
  have hc2 := hR2.c2
  have HR2 := Lib.hid hR2
  have HT2 := Lib.hid hT2
  have H5 := Lib.hid h5
  clear hR2 hT2 h5
  have hs101 : (Tryd.prog.info? 122).map (·.size) = some 3 := by kernel_rfl
  have hs28 : (Tryd.prog.info? 24).map (·.size) = some (bys d).length := by rw [bys_len, hd32]; kernel_rfl
  have hs99 : (Tryd.prog.info? 120).map (·.size) = some 2 := by kernel_rfl
  have HS101 := Lib.hid hs101
  have HS28 := Lib.hid hs28
  have HS99 := Lib.hid hs99
  have HD := Lib.hid hd
  clear hs101 hs28 hs99 hnk hd32 hd
  go_enter Tryd.func60, Tryd.ntmps60
  go_wp2_with fail
  generalize (w.alloc (.cells #[.int .i64 (k : Int), .int .i64 i, .string (strB t)] 122)).alloc (.cells (bys d).toArray 24) = w2 at *
  go_still_tail 6, (by kernel_rfl)
  refine still_load rfl 122 _ rfl w.heap.size 0 rfl _ (load_hb HR2.out.box.drew Tryd.underlying122 rfl HS101.out) ?_
  refine still_load rfl 24 _ rfl (w.heap.size + 1) 0 rfl _ (load_hb H5.out.drew Tryd.underlying24 rfl HS28.out) ?_
  refine wpStill_nil ?_
  change wpList _ _ _ _ _ w2.drew
  obtain ⟨w3, hu3, hm3, hg3⟩ := HR2.out.drew.tags.push Tryd.lawSg Tryd.underlying112 (val := .agg (bys d).toArray) hkl (sg_not_in hn)
  have HU3 := Lib.hid hu3
  have hR3 := HR2.out.drew.stepT HD.out hm3 hg3
  have hT3 := HT2.out.trans ((Turn.drew w2).trans (Turn.of_grown (S := f.mine) hg3 (.inr (.inl rfl))))
  have HR3 := Lib.hid hR3
  have HT3 := Lib.hid hT3
  have hc1 := hR3.drew.c1
  have hz0 : w3.drew.cell? ⟨w.heap.size, 0, none⟩ = some (.int .i64 (k : Int)) := hR3.drew.z0
  have htL := hR3.drew.tL hk
  have hfr := hR3.drew.fr (k * 2)
  have hkn : (k : Int) < (nk : Int) := by omega
  have hcl := (cnt_le L U k).1
  have hwr : IntKind.i64.wrap ((cntL L k : Int) + 1) = (cntL L k : Int) + 1 := IntWalk.i64_in _ (by omega)
  have hR4 := hR3.drew.setL hk rfl
  have hT4 := hT3.trans ((Turn.drew w3).trans (Turn.setK f w3.drew (k * 2) (.int .i64 ((cntL L k : Int) + 1))))
  have HR4 := Lib.hid hR4
  have HT4 := Lib.hid hT4
  have HK := Lib.hid hk
  clear hu3 hm3 hg3 hR3 hT3 hc2 hR4 hT4 HR3 HT3 hcl hk
  refine wpList_mapUpdate_is _ rfl _ _ _ 112 rfl _ _ _ rfl rfl rfl HU3.out ?_
  clear HU3
  go_wp2_with fail
  go_still_tail 13, (by kernel_rfl)
  change wpList _ _ _ _ _ w3.drew
  generalize w3.drew = w3d at *
  go_wp2_with fail
  clear hc1 hz0 htL hfr hwr
  generalize w3d.setCell ⟨f.K, k * 2, none⟩ (.int .i64 ((cntL L k : Int) + 1)) = w4 at *
  have hc3 := HR4.out.drew.c3
  have hp4 := rangeAt_drew HR4.out.part
  have hz0 : w4.cell? ⟨w.heap.size, 0, none⟩ = some (.int .i64 (k : Int)) := HR4.out.z0
  have hz1 : w4.cell? ⟨w.heap.size, 1, none⟩ = some (.int .i64 i) := HR4.out.z1
  have hc3 := HR4.out.c3
  have hA0 : (w4.alloc (.cells #[] 159)).cell? ⟨w.heap.size, 0, none⟩ = some (.int .i64 (k : Int)) := (HR4.out.alloc _).z0
  have hA1 : (w4.alloc (.cells #[] 159)).cell? ⟨w.heap.size, 1, none⟩ = some (.int .i64 i) := (HR4.out.alloc _).z1
  have hA3 := (HR4.out.alloc (.cells #[] 159)).c3
  by_cases hu : ((k : Int), i) ∈ U
  · have hlk : (Instr.lookup 113 (.map (some f.U)) (.agg #[.int .i64 (k : Int), .int .i64 i]) true).run Tryd.prog w4.drew = .ok (.tuple #[.agg #[], .bool true]) w4.drew := HR4.out.drew.used.look_yes Tryd.lawPl Tryd.underlying113 hkp (pl_in hu)
    have hlkA : (Instr.lookup 113 (.map (some f.U)) (.agg #[.int .i64 (k : Int), .int .i64 i]) true).run Tryd.prog (w4.alloc (.cells #[] 159)).drew = .ok (.tuple #[.agg #[], .bool true]) (w4.alloc (.cells #[] 159)).drew := (HR4.out.alloc _).drew.used.look_yes Tryd.lawPl Tryd.underlying113 hkp (pl_in hu)
    go_region
    all_goals
      have hR5 := (HR4.out.alloc (.cells #[] 159)).drew
      have hT5 := HT4.out.trans ((Turn.alloc w4 (.cells #[] 159)).trans (Turn.drew _))
      generalize (w4.alloc (.cells #[] 159)).drew = w5 at *
      have HR5 := Lib.hid hR5
      have HT5 := Lib.hid hT5
      clear hlk hlkA hz0 hz1 hA0 hA1 hA3 hp4 hR5 hT5
      go_wp2
      refine bodyPost_ret (v := .tuple #[]) (by first | rfl | simp [results, go_sem]) rfl ?_
      exact ⟨rfl, by unfold useU; rw [if_pos hu]; exact HR5.out.toRing H.out (by have := H.out.few; simp; omega), HT5.out⟩
  · have hlk : (Instr.lookup 113 (.map (some f.U)) (.agg #[.int .i64 (k : Int), .int .i64 i]) true).run Tryd.prog w4.drew = .ok (.tuple #[.agg #[], .bool false]) w4.drew := HR4.out.drew.used.look_no Tryd.lawPl Tryd.underlying113 (Tryd.zeroUnit _) hkp (pl_not_in hu)
    have hlkA : (Instr.lookup 113 (.map (some f.U)) (.agg #[.int .i64 (k : Int), .int .i64 i]) true).run Tryd.prog (w4.alloc (.cells #[] 159)).drew = .ok (.tuple #[.agg #[], .bool false]) (w4.alloc (.cells #[] 159)).drew := (HR4.out.alloc _).drew.used.look_no Tryd.lawPl Tryd.underlying113 (Tryd.zeroUnit _) hkp (pl_not_in hu)
    go_region
    all_goals
      have hR5 := (HR4.out.alloc (.cells #[] 159)).drew
      have hT5 := HT4.out.trans ((Turn.alloc w4 (.cells #[] 159)).trans (Turn.drew _))
      generalize (w4.alloc (.cells #[] 159)).drew = w5 at *
      have hp5 := rangeAt_drew hR5.part
      have hc5 := hR5.c3
      have HR5 := Lib.hid hR5
      have HT5 := Lib.hid hT5
      clear hlk hlkA hz0 hz1 hA0 hA1 hA3 hp4 hR5 hT5
      go_wp2_with fail
      go_still_tail 7, (by kernel_rfl)
      refine still_load rfl 120 _ rfl w.heap.size 0 rfl _ (load_range hp5 Tryd.underlying120 rfl HS99.out) ?_
      change wpStill _ _ w5.drew _ _ _
      repeat still_step
      refine wpStill_nil ?_
      change wpList _ _ _ _ _ w5.drew
      obtain ⟨w6, hu6, hm6, hg6⟩ := HR5.out.drew.used.push Tryd.lawPl Tryd.underlying113 (val := .agg #[]) hkp (pl_not_in hu)
      have HU6 := Lib.hid hu6
      have hR6 := HR5.out.drew.stepU hm6 hg6
      have hT6 := HT5.out.trans ((Turn.drew w5).trans (Turn.of_grown (S := f.mine) hg6 (.inr (.inr rfl))))
      have hc1 := hR6.drew.c1
      have hz0 : w6.drew.cell? ⟨w.heap.size, 0, none⟩ = some (.int .i64 (k : Int)) := hR6.drew.z0
      have htU := hR6.drew.tU HK.out
      have hfr := hR6.drew.fr (k * 2 + 1)
      have hcl := (cnt_le L U k).2
      have hwr : IntKind.i64.wrap ((cntU U k : Int) + 1) = (cntU U k : Int) + 1 := IntWalk.i64_in _ (by have := H.out.few; omega)
      have hR7 := hR6.drew.setU HK.out rfl
      have hT7 := hT6.trans ((Turn.drew w6).trans (Turn.setK f w6.drew (k * 2 + 1) (.int .i64 ((cntU U k : Int) + 1))))
      have HR7 := Lib.hid hR7
      have HT7 := Lib.hid hT7
      clear hu6 hm6 hg6 hR6 hT6 hR7 hT7 hcl hp5 hc5
      refine wpList_mapUpdate_is _ rfl _ _ _ 113 rfl _ _ _ rfl rfl rfl HU6.out ?_
      clear HU6
      go_wp2_with fail
      go_still_tail 13, (by kernel_rfl)
      change wpList _ _ _ _ _ w6.drew
      generalize w6.drew = w6d at *
      go_wp2
      refine bodyPost_ret (v := .tuple #[]) (by first | rfl | simp [results, go_sem]) rfl ?_
      exact ⟨rfl, by unfold useU; rw [if_neg hu]; exact HR7.out.toRing H.out (by simp; have := H.out.few; omega), HT7.out⟩
end Go.Proofs.YtkhbogccmngmmaaDoor
