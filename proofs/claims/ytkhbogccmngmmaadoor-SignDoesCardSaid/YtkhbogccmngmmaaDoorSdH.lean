/- wapentakeref05: has. -/
import Derived.Test.YtkhbogccmngmmaaDoorSdR
import Derived.Test.YtkhbogccmngmmaaDoorLt
import Derived.Deep.MidRow
import Derived.Deep.RegionHeld3
namespace Go.Proofs.YtkhbogccmngmmaaDoor
open Go.RowKit

theorem keyLits_flat3 {P : Program} {k a b c : TypeId} {f1 f2 f3 : Field} (hu : P.underlying k = some (.struct #[f1, f2, f3])) (h1 : f1.type = a) (h2 : f2.type = b) (h3 : f3.type = c) (o1 : f1.offset = 0) (o2 : f2.offset = 1) (o3 : f3.offset = 2) (n1 : (f1.name != "_") = true) (n2 : (f2.name != "_") = true) (n3 : (f3.name != "_") = true)
    (ca : P.cellsOf a = 1) (cb : P.cellsOf b = 1) (cc : P.cellsOf c = 1) (ck : P.cellsOf k = 3) (ua : P.underlying a = some (.int .i64)) (ub : P.underlying b = some (.int .i64)) (uc : P.underlying c = some .string) {x y : Int} (wx : (Lit.int .i64 x).wf = true) (wy : (Lit.int .i64 y).wf = true) {s : ByteArray} (hs : s.size ≤ maxLen) (d : Nat) :
    P.keyLits (d + 2) k [.int .i64 x, .int .i64 y, .string s] = some [.int .i64 x, .int .i64 y, .string s.data.toList] := by
  subst h1 h2 h3
  simp [Program.keyLits, hu, o1, o2, o3, n1, n2, n3, ca, cb, cc, ck, ua, ub, uc, wx, wy, hs]
theorem Tryd.cellsSg5 : Tryd.prog.cellsOf 127 = 3 := by kernel_rfl
theorem strB_size (t : List UInt8) : (strB t).size = t.length := by simp [strB, ByteArray.size]
theorem sg5_lits {s : Sg} (h : SgOk s) (d : Nat) : Tryd.prog.keyLits (d + 2) 127 (sgC s) = some [.int .i64 s.1.1, .int .i64 s.1.2, .string (strB s.2).data.toList] :=
  keyLits_flat3 Tryd.underlying127 rfl rfl rfl rfl rfl rfl rfl rfl rfl Tryd.cellsInt Tryd.cellsI64 Tryd.cellsStr Tryd.cellsSg5 Tryd.underlying3 Tryd.underlying2 Tryd.underlying9 (wfI h.key) (wfI h.ix)
    (by have := h.text
        rw [strB_size]; unfold maxLen; omega) d
theorem sg5_formed (s : Sg) : (Value.agg (sgC s).toArray).formed Tryd.prog 127 = true := by
  simp [Value.formed, Tryd.underlying127, Tryd.cellsSg5, sgC]
/-- Two signings are the same. -/
theorem eql_sg5 (W : World) (s t : Sg) (hs : SgOk s) (ht : SgOk t) : (binOp .eql 127 (.agg (sgC s).toArray) (.agg (sgC t).toArray)).run Tryd.prog W = .ok (.bool (decide (s = t))) W := by
  obtain ⟨r, hr, hi⟩ := run_equalIn_deep (P := Tryd.prog) 9997 3 127 (by kernel_rfl) W 2 2 _ _ _ _ (sg5_formed s) (sg5_formed t) (by simpa [Value.cells] using sg5_lits hs 0) (by simpa [Value.cells] using sg5_lits ht 0)
  have hr' : (Op.equalIn 10000 127 (.agg (sgC s).toArray) (.agg (sgC t).toArray)).run Tryd.prog W = .ok r W := hr
  rw [run_eql_struct, hr', Result.andThen_ok]
  have he : r = decide (s = t) := by
    rw [Bool.eq_iff_iff, hi, decide_eq_true_eq]
    constructor
    · intro h
      simp only [List.cons.injEq, Lit.int.injEq, Lit.string.injEq, and_true, true_and] at h
      obtain ⟨h1, h2, h3⟩ := h
      have h4 : strB s.2 = strB t.2 := ByteArray.ext (Array.toList_inj.1 h3)
      exact Prod.ext (Prod.ext h1 h2) (strB_inj h4)
    · rintro rfl; rfl
  rw [he]

set_option maxRecDepth 20000 in
set_option maxHeartbeats 3200000 in
theorem has5_any (w : World) (base r : Nat) (nk bud : Int) (v : Value) (L : List Sg) (h : Ring5 w base r nk bud v L) (hok : ∀ x ∈ L, SgOk x) (s : Sg) (hs : SgOk s) :
    Calls Tryd.prog 61 #[.pointer (some ⟨r, 0, none⟩), .agg (sgC s).toArray] w fun e w' => e = .returned (.bool (decide (s ∈ L))) ∧ Below w.heap.size w w' := by
  have HR := Lib.hid h
  have HOK := Lib.hid hok
  have HS := Lib.hid hs
  have HR1 := Lib.hid (h.below (below_alloc1 w (.cells (sgC s).toArray 127)))
  have HX1 := Lib.hid (HB.new w 127 (sgC s))
  have HB1 := Lib.hid (below_alloc1 w (.cells (sgC s).toArray 127))
  clear h hok hs
  go_enter Tryd.func61, Tryd.ntmps61
  go_wp2_with fail
  go_loopw [5] (fun i wr => ∃ j : Nat, i = .int .i64 (j : Int) ∧ j ≤ L.length ∧ s ∉ L.take j ∧ Ring5 wr base r nk bud v L ∧ HB wr w.heap.size 127 (sgC s) ∧ Below w.heap.size w wr) (fun i _ => L.length - (intOf i).toNat)
  case atStart => exact ⟨0, rfl, by omega, by simp, HR1.out, HX1.out, HB1.out⟩
  case round =>
    obtain ⟨j, rfl, hj, hno, hRr, hXr, hBr⟩ := hrel
    have HXR := Lib.hid hXr
    have HRR := Lib.hid hRr
    have HBR := Lib.hid hBr
    have HNO := Lib.hid hno
    have hc2 := hRr.c2
    obtain ⟨A, c, rfl, hc, hcm, hcells⟩ := hRr.slice
    clear hRr hXr hBr HR HR1 HX1 HB1 hno
    rcases Nat.lt_or_ge j L.length with hlt | hge
    · have hlt' : (j : Int) < (L.length : Int) := by omega
      obtain ⟨b, o, hA, h0, h1, h2⟩ := hcells j hlt
      obtain ⟨ad, rfl⟩ : ∃ ad, A = some ad := by cases A with
        | none => simp at hA
        | some ad => exact ⟨ad, rfl⟩
      simp only [Option.map_some, Option.some.injEq] at hA
      have hrg : wr.rangeAt b o (sgC (L[j]'hlt)) := by
        intro i u hu
        rcases i with _ | _ | _ | i
        · simp [sgC] at hu; subst hu; exact h0
        · simp [sgC] at hu; subst hu; exact h1
        · simp [sgC] at hu; subst hu; exact h2
        · simp [sgC] at hu
      have hq := fun W => eql_sg5 W (L[j]'hlt) s (HOK.out _ (List.getElem_mem hlt)) HS.out
      have hpi : (Tryd.prog.info? 127).map (·.size) = some (sgC (L[j]'hlt)).length := by show _ = some 3; kernel_rfl
      have hu := Tryd.underlying127
      have hmem : s ∈ L.take (j + 1) ↔ s ∈ L.take j ∨ L[j]'hlt = s := by
        rw [List.take_add_one, List.getElem?_eq_getElem hlt, Option.toList_some, List.mem_append, List.mem_singleton]
        constructor
        · rintro (h | h); · exact .inl h
          · exact .inr h.symm
        · rintro (h | h); · exact .inl h
          · exact .inr h.symm
      have HM := Lib.hid hmem
      have HIN := Lib.hid (List.getElem_mem hlt)
      clear hcells h0 h1 h2 hmem
      generalize L[j]'hlt = x at *
      have hbx : wr.rangeAt w.heap.size 0 (sgC s) := fun i u hi => by rw [Nat.zero_add, HXR.out.cell]; exact hi
      have hpj : (Tryd.prog.info? 127).map (·.size) = some (sgC s).length := by show _ = some 3; kernel_rfl
      generalize hcs : sgC s = cs at *
      generalize hcx : sgC x = cx at *
      have HCS := Lib.hid hcs
      have HCX := Lib.hid hcx
      clear hcs hcx
      have HRD := Lib.hid (HRR.out.drew)
      have HXD := Lib.hid (HXR.out.drew)
      have HBD := Lib.hid (HBR.out.drew)
      go_wp2_with fail
      refine wp_region_held_drew (S := fun w' => w'.cell? ⟨r, 2, none⟩ = some (.slice (some ad) L.length c) ∧ w'.rangeAt b o cx ∧ w'.rangeAt w.heap.size 0 cs) (by kernel_rfl) ⟨hc2, hrg, hbx⟩ (fun hH => ?_)
      try simp only [Act.put, List.getElem_toArray, List.getElem_cons_succ, List.getElem_cons_zero, List.setIfInBounds_toArray, List.set_cons_succ, List.set_cons_zero]
      refine wpAnyH_take (i := 0) (v := ?v0) rfl (by kernel_rfl) (by kernel_rfl) (by kernel_rfl) (fun _ _ _ h => h) (Or.inl ⟨by rfl, ?y0⟩) hH ?_
      case y0 => intro w' hSw; clear hSw; (first | (go_simp; done) | (go_simp; with_reducible rfl))
      try simp only [Act.put, List.getElem_toArray, List.getElem_cons_zero, List.setIfInBounds_toArray, List.set_cons_succ, List.set_cons_zero]
      refine wpAnyH_take (i := 1) (v := ?v1) rfl (by kernel_rfl) (by kernel_rfl) (by kernel_rfl) (fun _ _ _ h => h) (Or.inl ⟨by rfl, ?y1⟩) hH ?_
      case y1 => intro w' hSw; clear hSw; (first | (go_simp; done) | (go_simp; with_reducible rfl))
      try simp only [Act.put, List.getElem_toArray, List.getElem_cons_succ, List.getElem_cons_zero, List.setIfInBounds_toArray, List.set_cons_succ, List.set_cons_zero]
      refine wpAnyH_take (i := 2) (v := ?v2) rfl (by kernel_rfl) (by kernel_rfl) (by kernel_rfl) (fun _ _ _ h => h) (Or.inl ⟨by rfl, ?y2⟩) hH ?_
      case y2 => intro w' hSw; clear hSw; (first | (go_simp; done) | (go_simp; with_reducible rfl))
      try simp only [Act.put, List.getElem_toArray, List.getElem_cons_succ, List.getElem_cons_zero, List.setIfInBounds_toArray, List.set_cons_succ, List.set_cons_zero]
      refine wpAnyH_take (i := 3) (v := .slice (some ad) L.length c) rfl (by kernel_rfl) (by kernel_rfl) (by kernel_rfl) (fun _ _ _ h => h) (Or.inl ⟨by rfl, ?y3⟩) hH ?_
      case y3 => intro w' hSw; obtain ⟨hS1, -, -⟩ := hSw; (first | (go_simp; done) | (go_simp; with_reducible rfl))
      try simp only [Act.put, List.getElem_toArray, List.getElem_cons_succ, List.getElem_cons_zero, List.setIfInBounds_toArray, List.set_cons_succ, List.set_cons_zero]
      refine wpAnyH_take (i := 4) (v := ?v4) rfl (by kernel_rfl) (by kernel_rfl) (by kernel_rfl) (fun _ _ _ h => h) (Or.inl ⟨by rfl, ?y4⟩) hH ?_
      case y4 => intro w' hSw; clear hSw; (first | (go_simp; done) | (go_simp; with_reducible rfl))
      try simp only [Act.put, List.getElem_toArray, List.getElem_cons_succ, List.getElem_cons_zero, List.setIfInBounds_toArray, List.set_cons_succ, List.set_cons_zero]
      refine wpAnyH_take (i := 5) (v := ?v5) rfl (by kernel_rfl) (by kernel_rfl) (by kernel_rfl) (fun _ _ _ h => h) (Or.inl ⟨by rfl, ?y5⟩) hH ?_
      case y5 => intro w' hSw; clear hSw; (first | (go_simp; done) | (go_simp; with_reducible rfl))
      try simp only [Act.put, List.getElem_toArray, List.getElem_cons_succ, List.getElem_cons_zero, List.setIfInBounds_toArray, List.set_cons_succ, List.set_cons_zero]
      refine wpAnyH_take (i := 6) (v := .agg cx.toArray) rfl (by kernel_rfl) (by kernel_rfl) (by kernel_rfl) (fun _ _ _ h => h) (yieldsIf_load_mid (by rfl) 127 _ rfl b o rfl cx _ (fun w' h => h.2.1) hu rfl hpi) hH ?_
      try simp only [Act.put, List.getElem_toArray, List.getElem_cons_succ, List.getElem_cons_zero, List.setIfInBounds_toArray, List.set_cons_succ, List.set_cons_zero]
      refine wpAnyH_take (i := 7) (v := .agg cs.toArray) rfl (by kernel_rfl) (by kernel_rfl) (by kernel_rfl) (fun _ _ _ h => h) (yieldsIf_load_mid (by rfl) 127 _ rfl w.heap.size 0 rfl cs _ (fun w' h => h.2.2) hu rfl hpj) hH ?_
      try simp only [Act.put, List.getElem_toArray, List.getElem_cons_succ, List.getElem_cons_zero, List.setIfInBounds_toArray, List.set_cons_succ, List.set_cons_zero]
      refine wpAnyH_take (i := 8) (v := ?v8) rfl (by kernel_rfl) (by kernel_rfl) (by kernel_rfl) (fun _ _ _ h => h) (Or.inl ⟨by rfl, ?y8⟩) hH ?_
      case y8 => intro w' hSw; clear hSw; (first | (go_simp; done) | (go_simp; with_reducible rfl))
      try simp only [Act.put, List.getElem_toArray, List.getElem_cons_succ, List.getElem_cons_zero, List.setIfInBounds_toArray, List.set_cons_succ, List.set_cons_zero]
      refine wpAnyH_done (by kernel_rfl) ?_ _
      clear hH hbx hrg hc2
      generalize wr.drew = wd at *
      by_cases he : x = s
      · have hd : decide (x = s) = true := by simpa using he
        have hin : decide (s ∈ L) = true := by rw [decide_eq_true_eq, ← he]; exact HIN.out
        have HHIN := Lib.hid hin
        have hfin := HBD.out
        simp only [hd]
        clear hd he hin HM hq
        go_wp2
        go_ret
        exact ⟨by rw [HHIN.out]; rfl, hfin⟩
      · have hd : decide (x = s) = false := by simpa using he
        have hnext : s ∉ L.take (j + 1) := by rw [HM.out]; rintro (h | h); · exact HNO.out h
                                              · exact he h
        have HN := Lib.hid hnext
        simp only [hd]
        clear hd he hnext HM hq
        have hxd := HXD.out
        go_wp2
        go_roundw
        case rel => exact ⟨j + 1, by go_num, by omega, HN.out, HRD.out, HXD.out, HBD.out⟩
        case measure => simp [intOf]; omega
    · obtain rfl : j = L.length := by omega
      have hno := HNO.out
      rw [List.take_length] at hno
      have hin : decide (s ∈ L) = false := by simpa using hno
      have HHIN := Lib.hid hin
      have hfin := HBR.out
      clear hcells hno hin HNO
      go_wp2
      go_ret
      exact ⟨by rw [HHIN.out]; rfl, hfin⟩
end Go.Proofs.YtkhbogccmngmmaaDoor
