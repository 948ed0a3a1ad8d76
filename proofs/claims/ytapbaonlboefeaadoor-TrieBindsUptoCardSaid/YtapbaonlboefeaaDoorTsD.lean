/- trie: trail.preimages. WRITTEN BY wip/gen/tsd.py. -/
import Derived.Test.YtapbaonlboefeaaDoorTsE
import Derived.Shelf.Abstract
import Derived.Shelf.RegionOpen
import Derived.WalkKit
import Derived.OwnWalkIn
import Derived.TacticsInMore
import Derived.LoopNIn
import Derived.LoopIn
namespace Go.Proofs.YtapbaonlboefeaaDoor
open Go.RowKit Go.Shelf
attribute [local go_sem] Oper.semAt_some

/-- What preimages hands back. -/
def PreP (w : World) (L : List (List UInt8)) (e : Ending) (w' : World) : Prop :=
  Below w.heap.size w w' ∧ ∃ ad c vs, e = .returned (.slice (some ad) L.length c) ∧ L.length ≤ c ∧ c ≤ 9223372036854775807 ∧ Sees w' w'.heap.size 1 (some ad) L.length vs ∧ Lists w' w'.heap.size vs L
def PreBR (G : Nat) (A : Option Addr) (n c : Nat) (d1 sb : List UInt8) (vs : Nat → Value) : Nat → World → Prop
  | 0, _ => vs 0 = .slice A n c
  | 1, _ => vs 1 = .agg (bys d1).toArray
  | 2, _ => vs 2 = .agg (bys sb).toArray
  | 3, w => VarN G w (vs 3) 24 (·.length = 32) [vs 4]
  | 4, w => VarN G w (vs 4) 24 (·.length = 32) [vs 3]
  | 5, w => VarN G w (vs 3) 24 (· = bys d1) [vs 4]
  | 6, w => VarN G w (vs 4) 24 (· = bys sb) [vs 3]
  | _, _ => True
def PreBT (G : Nat) (_A : Option Addr) (_n _c : Nat) (d1 sb : List UInt8) (vs : Nat → Value) (i : Nat) (v : Value) (w w' : World) : Prop := match i with
  | 3 => AlT v w w'
  | 4 => AlT v w w'
  | 5 => StT G (vs 3) 24 (bys d1) w w'
  | 6 => StT G (vs 4) 24 (bys sb) w w'
  | _ => Below w.heap.size w w'
theorem PreBT.low {G : Nat} {A : Option Addr} {n c : Nat} {d1 sb : List UInt8} {vs : Nat → Value} {i : Nat} {v : Value} {w w' : World} (h : PreBT G A n c d1 sb vs i v w w') (hG : G ≤ w.heap.size) : Below G w w' := by
  match i, h with
  | 0, h => exact Below.mono (show Below w.heap.size w w' from h) hG
  | 1, h => exact Below.mono (show Below w.heap.size w w' from h) hG
  | 2, h => exact Below.mono (show Below w.heap.size w w' from h) hG
  | 3, h => exact AlT.low h hG
  | 4, h => exact AlT.low h hG
  | 5, h => exact StT.low h
  | 6, h => exact StT.low h
  | n + 7, h => exact Below.mono (show Below w.heap.size w w' from h) hG
theorem PreBR.keep0 {G : Nat} {A : Option Addr} {n c : Nat} {d1 sb : List UInt8}  {vs : Nat → Value} {i : Nat} {v : Value} {w w' : World} (_hi : i < 7) (hij : i ≠ 0) (_hT : PreBT G A n c d1 sb vs i v w w') (h : PreBR G A n c d1 sb vs 0 w) : PreBR G A n c d1 sb (fun k => if k = i then v else vs k) 0 w' := by
  show (if (0 : Nat) = i then v else vs 0) = _
  rw [if_neg (fun e => hij e.symm)]
  exact h
theorem PreBR.keep1 {G : Nat} {A : Option Addr} {n c : Nat} {d1 sb : List UInt8}  {vs : Nat → Value} {i : Nat} {v : Value} {w w' : World} (_hi : i < 7) (hij : i ≠ 1) (_hT : PreBT G A n c d1 sb vs i v w w') (h : PreBR G A n c d1 sb vs 1 w) : PreBR G A n c d1 sb (fun k => if k = i then v else vs k) 1 w' := by
  show (if (1 : Nat) = i then v else vs 1) = _
  rw [if_neg (fun e => hij e.symm)]
  exact h
theorem PreBR.keep2 {G : Nat} {A : Option Addr} {n c : Nat} {d1 sb : List UInt8}  {vs : Nat → Value} {i : Nat} {v : Value} {w w' : World} (_hi : i < 7) (hij : i ≠ 2) (_hT : PreBT G A n c d1 sb vs i v w w') (h : PreBR G A n c d1 sb vs 2 w) : PreBR G A n c d1 sb (fun k => if k = i then v else vs k) 2 w' := by
  show (if (2 : Nat) = i then v else vs 2) = _
  rw [if_neg (fun e => hij e.symm)]
  exact h
theorem PreBR.keep3 {G : Nat} {A : Option Addr} {n c : Nat} {d1 sb : List UInt8} (h1 : d1.length = 32) {vs : Nat → Value} {i : Nat} {v : Value} {w w' : World} (hi : i < 7) (hij : i ≠ 3) (hT : PreBT G A n c d1 sb vs i v w w') (h : PreBR G A n c d1 sb vs 3 w) : PreBR G A n c d1 sb (fun k => if k = i then v else vs k) 3 w' := by
  match i, hi, hij, hT with
  | 0, _, _, hT => exact (show VarN G w' (vs 3) 24 (·.length = 32) [vs 4] from VarN.below (show VarN _ w _ _ _ _ from h) hT)
  | 1, _, _, hT => exact (show VarN G w' (vs 3) 24 (·.length = 32) [vs 4] from VarN.below (show VarN _ w _ _ _ _ from h) hT)
  | 2, _, _, hT => exact (show VarN G w' (vs 3) 24 (·.length = 32) [vs 4] from VarN.below (show VarN _ w _ _ _ _ from h) hT)
  | 3, _, hij, _ => exact absurd rfl hij
  | 4, _, _, hT => exact (show VarN G w' (vs 3) 24 (·.length = 32) [v] from VarN.alloc (show VarN _ w _ _ _ _ from h) hT (fun N hm => by simp only [List.mem_cons, List.not_mem_nil, or_false] at hm ⊢; first | (rcases hm with rfl <;> simp) | (exact absurd hm (by simp))))
  | 5, _, _, hT => exact (show VarN G w' (vs 3) 24 (·.length = 32) [vs 4] from VarN.self (show VarN _ w _ _ _ _ from h) hT (by rw [bys_len]; exact h1))
  | 6, _, _, hT => exact (show VarN G w' (vs 3) 24 (·.length = 32) [vs 4] from VarN.other (show VarN _ w _ _ _ _ from h) hT (by simp))
  | n + 7, hi, _, _ => exact absurd hi (by omega)
theorem PreBR.keep4 {G : Nat} {A : Option Addr} {n c : Nat} {d1 sb : List UInt8} (h2 : sb.length = 32) {vs : Nat → Value} {i : Nat} {v : Value} {w w' : World} (hi : i < 7) (hij : i ≠ 4) (hT : PreBT G A n c d1 sb vs i v w w') (h : PreBR G A n c d1 sb vs 4 w) : PreBR G A n c d1 sb (fun k => if k = i then v else vs k) 4 w' := by
  match i, hi, hij, hT with
  | 0, _, _, hT => exact (show VarN G w' (vs 4) 24 (·.length = 32) [vs 3] from VarN.below (show VarN _ w _ _ _ _ from h) hT)
  | 1, _, _, hT => exact (show VarN G w' (vs 4) 24 (·.length = 32) [vs 3] from VarN.below (show VarN _ w _ _ _ _ from h) hT)
  | 2, _, _, hT => exact (show VarN G w' (vs 4) 24 (·.length = 32) [vs 3] from VarN.below (show VarN _ w _ _ _ _ from h) hT)
  | 3, _, _, hT => exact (show VarN G w' (vs 4) 24 (·.length = 32) [v] from VarN.alloc (show VarN _ w _ _ _ _ from h) hT (fun N hm => by simp only [List.mem_cons, List.not_mem_nil, or_false] at hm ⊢; first | (rcases hm with rfl <;> simp) | (exact absurd hm (by simp))))
  | 4, _, hij, _ => exact absurd rfl hij
  | 5, _, _, hT => exact (show VarN G w' (vs 4) 24 (·.length = 32) [vs 3] from VarN.other (show VarN _ w _ _ _ _ from h) hT (by simp))
  | 6, _, _, hT => exact (show VarN G w' (vs 4) 24 (·.length = 32) [vs 3] from VarN.self (show VarN _ w _ _ _ _ from h) hT (by rw [bys_len]; exact h2))
  | n + 7, hi, _, _ => exact absurd hi (by omega)
theorem PreBR.keep5 {G : Nat} {A : Option Addr} {n c : Nat} {d1 sb : List UInt8}  {vs : Nat → Value} {i : Nat} {v : Value} {w w' : World} (hi : i < 7) (hij : i ≠ 5) (hw3 : i ≠ 3) (hT : PreBT G A n c d1 sb vs i v w w') (h : PreBR G A n c d1 sb vs 5 w) : PreBR G A n c d1 sb (fun k => if k = i then v else vs k) 5 w' := by
  match i, hi, hij, hT, hw3 with
  | 0, _, _, hT, _ => exact (show VarN G w' (vs 3) 24 (· = bys d1) [vs 4] from VarN.below (show VarN _ w _ _ _ _ from h) hT)
  | 1, _, _, hT, _ => exact (show VarN G w' (vs 3) 24 (· = bys d1) [vs 4] from VarN.below (show VarN _ w _ _ _ _ from h) hT)
  | 2, _, _, hT, _ => exact (show VarN G w' (vs 3) 24 (· = bys d1) [vs 4] from VarN.below (show VarN _ w _ _ _ _ from h) hT)
  | 3, _, _, _, hw3 => exact absurd rfl hw3
  | 4, _, _, hT, _ => exact (show VarN G w' (vs 3) 24 (· = bys d1) [v] from VarN.alloc (show VarN _ w _ _ _ _ from h) hT (fun N hm => by simp only [List.mem_cons, List.not_mem_nil, or_false] at hm ⊢; first | (rcases hm with rfl <;> simp) | (exact absurd hm (by simp))))
  | 5, _, hij, _, _ => exact absurd rfl hij
  | 6, _, _, hT, _ => exact (show VarN G w' (vs 3) 24 (· = bys d1) [vs 4] from VarN.other (show VarN _ w _ _ _ _ from h) hT (by simp))
  | n + 7, hi, _, _, _ => exact absurd hi (by omega)
theorem PreBR.keep6 {G : Nat} {A : Option Addr} {n c : Nat} {d1 sb : List UInt8}  {vs : Nat → Value} {i : Nat} {v : Value} {w w' : World} (hi : i < 7) (hij : i ≠ 6) (hw4 : i ≠ 4) (hT : PreBT G A n c d1 sb vs i v w w') (h : PreBR G A n c d1 sb vs 6 w) : PreBR G A n c d1 sb (fun k => if k = i then v else vs k) 6 w' := by
  match i, hi, hij, hT, hw4 with
  | 0, _, _, hT, _ => exact (show VarN G w' (vs 4) 24 (· = bys sb) [vs 3] from VarN.below (show VarN _ w _ _ _ _ from h) hT)
  | 1, _, _, hT, _ => exact (show VarN G w' (vs 4) 24 (· = bys sb) [vs 3] from VarN.below (show VarN _ w _ _ _ _ from h) hT)
  | 2, _, _, hT, _ => exact (show VarN G w' (vs 4) 24 (· = bys sb) [vs 3] from VarN.below (show VarN _ w _ _ _ _ from h) hT)
  | 3, _, _, hT, _ => exact (show VarN G w' (vs 4) 24 (· = bys sb) [v] from VarN.alloc (show VarN _ w _ _ _ _ from h) hT (fun N hm => by simp only [List.mem_cons, List.not_mem_nil, or_false] at hm ⊢; first | (rcases hm with rfl <;> simp) | (exact absurd hm (by simp))))
  | 4, _, _, _, hw4 => exact absurd rfl hw4
  | 5, _, _, hT, _ => exact (show VarN G w' (vs 4) 24 (· = bys sb) [vs 3] from VarN.other (show VarN _ w _ _ _ _ from h) hT (by simp))
  | 6, _, hij, _, _ => exact absurd rfl hij
  | n + 7, hi, _, _, _ => exact absurd hi (by omega)
set_option maxRecDepth 100000 in
set_option maxHeartbeats 2000000 in
theorem pre_fold (w : World) (key : List UInt8) (hkey : key.length = 32) (hk : Consts w) (D : Nat) (hD : D ≤ 256) (T : List UInt8) (hTD : T.length = D * 32) (As : Option Addr) (cs : Nat) (hS : Slot w w.heap.size (.slice As (D * 32) cs) T)
    (B : Nat) (hBw : B ≤ w.heap.size) (A3 : Option Addr) (c3 : Nat) (vs0 : List Value) (E : List Ent) (h : EntsW w B A3 vs0 E) (h2 : E.length < 2) (hc : E.length ≤ c3) (hcm : c3 ≤ 9223372036854775807) :
    Calls Tryd.prog 35 #[.agg #[.slice As (D * 32) cs, .slice A3 E.length c3], .agg (bys key).toArray] w (PreP w (foldP key T E D (dn D D)).2) := by
  refine (callsIn_wide (n := 5)).1 ?_
  refine callsIn_of_wp_marks Tryd.func35 rfl trivial ?_ rfl
  simp only [Tryd.ntmps35, List.size_toArray, List.length_cons, List.length_nil, Nat.reduceAdd, Nat.reduceSub, Array.replicate_succ, Array.replicate_zero, List.push_toArray, List.append_toArray, List.nil_append, List.cons_append]
  obtain ⟨nt, hnt⟩ : ∃ nt, nt = D * 32 := ⟨_, rfl⟩
  obtain ⟨m, hm⟩ : ∃ m, m = E.length := ⟨_, rfl⟩
  rw [← hnt] at hS ⊢
  rw [← hm] at hc ⊢
  have hb0 := HB.new w 62 [.slice As nt cs, .slice A3 m c3]
  have hB0 := below_alloc1 w (.cells #[.slice As nt cs, .slice A3 m c3] 62)
  have hq0 : (w.alloc (.cells #[.slice As nt cs, .slice A3 m c3] 62)).heap.size = w.heap.size + 1 := by simp
  generalize hw0 : w.alloc (.cells #[.slice As nt cs, .slice A3 m c3] 62) = w0 at *
  have hb1 := HB.new w0 24 (bys key)
  have hB1 := below_alloc1 w0 (.cells (bys key).toArray 24)
  have hq1 : (w0.alloc (.cells (bys key).toArray 24)).heap.size = w.heap.size + 2 := by simp; omega
  rw [hq0] at hb1
  generalize hw1 : w0.alloc (.cells (bys key).toArray 24) = w1 at *
  have hBw1 := hB0.trans (hB1.mono hB0.size)
  have HTR := Lib.hid (hb0.below hB1 (by omega))
  have HKR := Lib.hid hb1
  have HB1 := Lib.hid hBw1
  have HQ1 := Lib.hid hq1
  have HG2 : Hid (w.heap.size < w1.heap.size) := Lib.hid (by omega)
  have HG3 : Hid (w.heap.size + 1 < w1.heap.size) := Lib.hid (by omega)
  have HKY := Lib.hid hkey; have HKC := Lib.hid hk; have HTD := Lib.hid hTD; have HS := Lib.hid hS; have HE := Lib.hid h; have HE2 := Lib.hid h2; have HNT := Lib.hid hnt; have HM := Lib.hid hm; have HBW := Lib.hid hBw; have HDD := Lib.hid hD
  have HBU := Lib.hid (built_bits key hkey)
  have HBI : Hid ((Tryd.prog.info? 95).map (·.size) = some (bys key).toArray.size) := Lib.hid (by rw [List.size_toArray, bys_len, hkey]; kernel_rfl)
  have HBO := dig_one key
  have HZB := Lib.hid Tryd.zeroBits
  have HEND : Hid (∀ W, Below w1.heap.size w1 W → Calls Tryd.prog 45 #[.slice A3 m c3] W (WroteF W (endF E))) := Lib.hid (fun W hW => by
    have hx := HB1.out.trans (hW.mono HB1.out.size)
    have := end_any W B (Nat.le_trans hBw hx.size) A3 c3 vs0 E (h.below (hx.mono hBw)) h2 (by rw [← hm]; exact hc) hcm
    rw [← hm] at this
    exact this)
  clear hb0 hb1 hB0 hB1 hq1 hkey hk hTD hS h h2 hnt hm hBw hBw1
  gi_wp2_with fail
  clear hw0 hw1
  obtain ⟨G, hG⟩ : ∃ G : Nat, w1.heap.size = G := ⟨_, rfl⟩
  rw [hG] at HQ1 HG2 HG3 HEND
  have HG := Lib.hid hG
  refine wpIn_wide.2 (wp_region_iny 47 (PreAR G w.heap.size key A3 m c3 (endF E)) (fun _ => Below G w1) (PreAT G w.heap.size key A3 m c3 (endF E)) (by kernel_rfl) (by rfl) (by kernel_rfl) (fun i j vs v W W' hi hij hw hT hR => ?_) (fun i vs v W W' hT hI => ?_) (Below.drew (hG ▸ Below.refl _ _)) (fun j o ho vs W hI hdep hx _ => ?_) (fun vs W hI hR => ?_))
  · have hi : i < 9 := hi
    match j, hij, hw, hR with
    | 0, hij, hw, hR => exact PreAR.keep0  hi hij  hT hR
    | 1, hij, hw, hR => exact PreAR.keep1  hi hij  hT hR
    | 2, hij, hw, hR => exact PreAR.keep2  hi hij  hT hR
    | 3, hij, hw, hR => exact PreAR.keep3  hi hij  hT hR
    | 4, hij, hw, hR => exact PreAR.keep4  hi hij  hT hR
    | 5, hij, hw, hR => exact PreAR.keep5 HKY.out hi hij  hT hR
    | 6, hij, hw, hR => exact PreAR.keep6  hi hij  hT hR
    | 7, hij, hw, hR => exact PreAR.keep7  hi hij (fun e => by subst e; exact absurd (hw _ rfl) (by decide)) hT hR
    | 8, hij, hw, hR => exact PreAR.keep8  hi hij (fun e => by subst e; exact absurd (hw _ rfl) (by decide)) (fun e => by subst e; exact absurd (hw _ rfl) (by decide)) hT hR
    | n + 9, _, _, _ => exact trivial
  · exact hI.trans (PreAT.low hT (by have := hI.size; omega))
  · have hsz : G ≤ W.heap.size := by have := hI.size; omega
    clear hG
    rcases j with _ | j
    · simp only [List.getElem?_toArray, List.getElem?_cons_zero, Option.some.injEq] at ho
      subst ho
      refine .inl ⟨rfl, fun K Q hK => ?_⟩
      simp only [putFrom, Act.put, List.setIfInBounds_toArray, List.set_cons_succ, List.set_cons_zero, Nat.reduceAdd] at hK ⊢
      have HOUT := Lib.hid hK
      clear hK hdep hx
      refine wp_load_mid 24 _ rfl (w.heap.size + 1) 0 rfl (bys key) _ (HKR.out.below hI HG3.out).rngT Tryd.underlying24 rfl (by rw [bys_len, HKY.out]; exact Tryd.infoD) ?_
      simp only [Act.put, List.setIfInBounds_toArray, List.set_cons_succ, List.set_cons_zero]
      exact HOUT.out _ _ _ rfl ⟨(Below.refl _ _), rfl⟩
    rcases j with _ | j
    · simp only [List.getElem?_toArray, List.getElem?_cons_succ, List.getElem?_cons_zero, Option.some.injEq, Nat.zero_add] at ho
      subst ho
      have e0 : vs 0 = _ := hdep 0 rfl
      have hbu := HBU.out
      refine .inl ⟨rfl, fun K Q hK => ?_⟩
      simp only [putFrom, Act.put, List.setIfInBounds_toArray, List.set_cons_succ, List.set_cons_zero, Nat.reduceAdd, e0] at hK ⊢
      have HOUT := Lib.hid hK
      clear hK hdep hx e0
      refine wp_buildTo 95 _ rfl (bys key).toArray (by (simp only [List.map_toArray, List.map_cons, List.map_nil]; exact hbu)) ?_
      simp only [Act.put, List.setIfInBounds_toArray, List.set_cons_succ, List.set_cons_zero]
      exact HOUT.out _ _ _ rfl ⟨(Below.refl _ _), rfl⟩
    rcases j with _ | j
    · simp only [List.getElem?_toArray, List.getElem?_cons_succ, List.getElem?_cons_zero, Option.some.injEq, Nat.zero_add] at ho
      subst ho
      refine .inl ⟨rfl, fun K Q hK => ?_⟩
      simp only [putFrom, Act.put, List.setIfInBounds_toArray, List.set_cons_succ, List.set_cons_zero, Nat.reduceAdd] at hK ⊢
      have HOUT := Lib.hid hK
      clear hK hdep hx
      go_simp
      exact HOUT.out _ _ _ rfl ⟨(Below.refl _ _), rfl⟩
    rcases j with _ | j
    · simp only [List.getElem?_toArray, List.getElem?_cons_succ, List.getElem?_cons_zero, Option.some.injEq, Nat.zero_add] at ho
      subst ho
      have e2 : vs 2 = _ := hdep 2 rfl
      have hc1 : W.cell? ⟨w.heap.size, 1, none⟩ = some (.slice A3 m c3) := by rw [(HTR.out.below hI HG2.out).cell]; rfl
      refine .inl ⟨rfl, fun K Q hK => ?_⟩
      simp only [putFrom, Act.put, List.setIfInBounds_toArray, List.set_cons_succ, List.set_cons_zero, Nat.reduceAdd, e2] at hK ⊢
      have HOUT := Lib.hid hK
      clear hK hdep hx e2
      go_simp
      exact HOUT.out _ _ _ rfl ⟨(Below.refl _ _), rfl⟩
    rcases j with _ | j
    · simp only [List.getElem?_toArray, List.getElem?_cons_succ, List.getElem?_cons_zero, Option.some.injEq, Nat.zero_add] at ho
      subst ho
      have e3 : vs 3 = _ := hdep 3 rfl
      have HV5 := Lib.hid (hx 5)
      have HV6 := Lib.hid (hx 6)
      have HEN := Lib.hid (HEND.out W hI)
      refine .inl ⟨rfl, fun K Q hK => ?_⟩
      simp only [putFrom, Act.put, List.setIfInBounds_toArray, List.set_cons_succ, List.set_cons_zero, Nat.reduceAdd, e3] at hK ⊢
      have HOUT := Lib.hid hK
      clear hK hdep hx e3
      go_simp
      refine HEN.out.mono ?_
      rintro e w3 ⟨v3, rfl, hs3, hB3⟩
      go_simp
      refine HOUT.out _ _ _ rfl ⟨hB3, SlotN.wrote (Ns := [vs 5, vs 6]) hs3 hsz (fun N hm => by
        simp only [List.mem_cons, List.not_mem_nil, or_false] at hm
        rcases hm with rfl | rfl
        · exact vu_of (show vs 5 = undef ∨ VarN _ _ _ _ _ _ from HV5.out)
        · exact vu_of (show vs 6 = undef ∨ VarN _ _ _ _ _ _ from HV6.out))⟩
    rcases j with _ | j
    · simp only [List.getElem?_toArray, List.getElem?_cons_succ, List.getElem?_cons_zero, Option.some.injEq, Nat.zero_add] at ho
      subst ho
      have HV6 := Lib.hid (hx 6)
      have hzb := HZB.out
      refine .inl ⟨rfl, fun K Q hK => ?_⟩
      simp only [putFrom, Act.put, List.setIfInBounds_toArray, List.set_cons_succ, List.set_cons_zero, Nat.reduceAdd] at hK ⊢
      have HOUT := Lib.hid hK
      clear hK hdep hx
      go_simp
      refine HOUT.out _ _ _ rfl ⟨⟨rfl, _, rfl⟩, VarN.new (Ns := [vs 6]) hsz zdig zdig_len (fun N hm => by
        simp only [List.mem_cons, List.not_mem_nil, or_false] at hm
        subst hm
        exact vu_of (show vs 6 = undef ∨ VarN _ _ _ _ _ _ from HV6.out))⟩
    rcases j with _ | j
    · simp only [List.getElem?_toArray, List.getElem?_cons_succ, List.getElem?_cons_zero, Option.some.injEq, Nat.zero_add] at ho
      subst ho
      have HV5 := Lib.hid (hx 5)
      refine .inl ⟨rfl, fun K Q hK => ?_⟩
      simp only [putFrom, Act.put, List.setIfInBounds_toArray, List.set_cons_succ, List.set_cons_zero, Nat.reduceAdd] at hK ⊢
      have HOUT := Lib.hid hK
      clear hK hdep hx
      go_simp
      refine HOUT.out _ _ _ rfl ⟨⟨rfl, _, rfl⟩, VarN.new (Ns := [vs 5]) hsz [.slice none 0 0] rfl (fun N hm => by
        simp only [List.mem_cons, List.not_mem_nil, or_false] at hm
        subst hm
        exact vu_of (show vs 5 = undef ∨ VarN _ _ _ _ _ _ from HV5.out))⟩
    rcases j with _ | j
    · simp only [List.getElem?_toArray, List.getElem?_cons_succ, List.getElem?_cons_zero, Option.some.injEq, Nat.zero_add] at ho
      subst ho
      have e1 : vs 1 = _ := hdep 1 rfl
      obtain ⟨g, cs9, e5, hg, hb, hl, ha⟩ := (show VarN _ _ _ _ _ _ from hdep 5 rfl)
      have HVA := Lib.hid (show VarN G W (vs 5) 95 (·.length = 32) [vs 6] from ⟨g, cs9, e5, hg, hb, hl, ha⟩)
      have hst : StT G (vs 5) 95 (bys key) W (W.setCells g 0 (bys key)) := ⟨g, cs9, e5, hg, hb, by rw [hl, bys_len, HKY.out], rfl⟩
      have HST := Lib.hid hst
      clear hst
      refine .inl ⟨rfl, fun K Q hK => ?_⟩
      simp only [putFrom, Act.put, List.setIfInBounds_toArray, List.set_cons_succ, List.set_cons_zero, Nat.reduceAdd, e1, e5] at hK ⊢
      have HOUT := Lib.hid hK
      clear hK hdep hx e1 e5
      refine wp_store_mid 95 _ _ rfl g 0 (bys key).toArray rfl rfl (there_hb hb (by rw [hl]; simp [bys_len, HKY.out])) HBI.out HBO.out ?_
      simp only [Act.put]
      exact HOUT.out _ undef _ rfl ⟨HST.out, VarN.self HVA.out HST.out rfl⟩
    rcases j with _ | j
    · simp only [List.getElem?_toArray, List.getElem?_cons_succ, List.getElem?_cons_zero, Option.some.injEq, Nat.zero_add] at ho
      subst ho
      obtain ⟨A9, c9, e4, s1, s2, s3, s4⟩ := (show SlotN _ _ _ _ _ from hdep 4 rfl)
      obtain ⟨g, cs9, e6, hg, hb, hl, ha⟩ := (show VarN _ _ _ _ _ _ from hdep 6 rfl)
      have HVA := Lib.hid (show VarN G W (vs 6) 31 (·.length = 1) [vs 5] from ⟨g, cs9, e6, hg, hb, hl, ha⟩)
      have hst : StT G (vs 6) 31 [vs 4] W (W.setCells g 0 [vs 4]) := ⟨g, cs9, e6, hg, hb, by rw [hl]; rfl, rfl⟩
      have HST := Lib.hid hst
      have E4 := Lib.hid e4
      clear hst
      obtain ⟨x9, rfl⟩ : ∃ x, cs9 = [x] := by
        match cs9, hl with
        | [x], _ => exact ⟨x, rfl⟩
      have hcc : W.cell? ⟨g, 0, none⟩ = some x9 := by rw [hb.cell]; rfl
      have hff := hb.frozen 0
      clear s1 s2 s3 s4 hb hl ha
      refine .inl ⟨rfl, fun K Q hK => ?_⟩
      simp only [putFrom, Act.put, List.setIfInBounds_toArray, List.set_cons_succ, List.set_cons_zero, Nat.reduceAdd, e4, e6] at hK ⊢
      have HOUT := Lib.hid hK
      clear hK hdep hx e4 e6
      go_simp
      have hw9 : W.setCells g 0 [vs 4] = W.setCell ⟨g, 0, none⟩ (.slice A9 (endF E).length c9) := by rw [E4.out]; rfl
      have h1 := HST.out
      have h2 : VarN G (W.setCells g 0 [vs 4]) (vs 6) 31 (· = [vs 4]) [vs 5] := VarN.self HVA.out HST.out rfl
      rw [hw9] at h1 h2
      exact HOUT.out _ undef _ rfl ⟨h1, h2⟩
    exact absurd ho (by simp)
  · have r4 : SlotN G W (vs 4) (endF E) [vs 5, vs 6] := hR 4 (by decide)
    have r7 : VarN G W (vs 5) 95 (· = bys key) [vs 6] := hR 7 (by decide)
    have r8 : VarN G W (vs 6) 31 (· = [vs 4]) [vs 5] := hR 8 (by decide)
    obtain ⟨g5, cs5, e5, hg5, hb5, rfl, -⟩ := r7
    obtain ⟨g6, cs6, e6, hg6, hb6, rfl, ha6⟩ := r8
    change vs 5 = .pointer (some ⟨g5, 0, none⟩) at e5
    change vs 6 = .pointer (some ⟨g6, 0, none⟩) at e6
    have hne : g6 ≠ g5 := ha6 _ (by simp) g5 e5
    simp only [putFrom, Act.put, List.setIfInBounds_toArray, List.set_cons_succ, List.set_cons_zero, Nat.reduceAdd, e5, e6]
    have HS4 := Lib.hid r4.slot
    have HB5 := Lib.hid hb5; have HB6 := Lib.hid hb6; have HNE := Lib.hid hne; have HG5 := Lib.hid hg5; have HG6 := Lib.hid hg6
    have HBA := Lib.hid (HB1.out.trans (hI.mono (by have := HQ1.out; omega)))
    have HTRA := Lib.hid (HTR.out.below hI HG2.out)
    clear hR hI r4 hb5 hb6 hne hg5 hg6 ha6 e5 e6
    generalize vs 0 = q0 at *; generalize vs 1 = q1 at *; generalize vs 2 = q2 at *; generalize vs 3 = q3 at *
    obtain ⟨A4, c4, e4, hs41, hs42, hs43⟩ := HS4.out
    rw [e4] at HB6 HS4 ⊢
    clear e4 hs43
    have htr := HTRA.out
    have HDA := Lib.hid (depth_any W As nt cs (.slice A3 m c3) (by have := HNT.out; have := HDD.out; omega) ⟨_, _, _, rfl⟩)
    rw [show nt / 32 = D by have := HNT.out; omega] at HDA
    have hc0t : W.cell? ⟨w.heap.size, 0, none⟩ = some (.slice As nt cs) := by rw [htr.cell]; rfl
    have hc1t : W.cell? ⟨w.heap.size, 1, none⟩ = some (.slice A3 m c3) := by rw [htr.cell]; rfl
    clear htr
    gi_wp2_with fail
    refine ⟨trivial, (callsIn_wide.2 HDA.out).mono ?_⟩
    rintro e w3 ⟨rfl, hB3⟩
    have hmk : ∀ W : World, (Instr.makeSlice 69 (.int .i64 ((D : Int) + 1)) (.int .i64 ((D : Int) + 1))).run Tryd.prog W = .ok (.slice (some ⟨W.heap.size, 0, none⟩) (D + 1) (D + 1)) (W.alloc (.cells (List.replicate (D + 1) (Value.slice none 0 0)).toArray 31)) := fun W => by
      obtain ⟨i0, hi, hz0, hz1, hz2⟩ := info_parts Tryd.infoBytes
      have h := run_make (P := Tryd.prog) (w := W) 69 31 i0 (.slice none 0 0) Tryd.underlying69 hi hz0 .i64 .i64 ((D : Int) + 1) ((D : Int) + 1) (by omega) (Int.le_refl _) (by rw [hz2]; have := HDD.out; omega) (by have := HDD.out; omega)
      rw [h, hz1, show ((D : Int) + 1).toNat = D + 1 from by omega, Nat.mul_one]
      congr 2
      congr 1
      exact Array.ext' (toList_madeCells_one _ _)
    have HSZ3 := Lib.hid hB3.size
    have HB3 := Lib.hid hB3
    have hd1 : (D : Int) ≤ 256 := by have := HDD.out; omega
    have hd0 : (0 : Int) ≤ (D : Int) := by omega
    clear hc0t hc1t hB3
    gi_wp2_with fail
    have hgp := HB.new w3 31 (List.replicate (D + 1) (Value.slice none 0 0))
    rw [List.toArray_replicate] at hgp
    have hgp2 := hgp.alloc (.cells #[.slice (some ⟨w3.heap.size, 0, none⟩) (D + 1) (D + 1)] 69)
    have hz4 : (w3.alloc (Obj.cells (Array.replicate (D + 1) (Value.slice none 0 0)) 31)).heap.size = w3.heap.size + 1 := by simp
    have hg7 := HB.new (w3.alloc (Obj.cells (Array.replicate (D + 1) (Value.slice none 0 0)) 31)) 69 [.slice (some ⟨w3.heap.size, 0, none⟩) (D + 1) (D + 1)]
    rw [hz4] at hg7
    have hBc : Below w3.heap.size w3 ((w3.alloc (Obj.cells (Array.replicate (D + 1) (Value.slice none 0 0)) 31)).alloc (.cells #[.slice (some ⟨w3.heap.size, 0, none⟩) (D + 1) (D + 1)] 69)) := ((Below.refl _ _).alloc (Nat.le_refl _) _).alloc (by simp) _
    have hzc : ((w3.alloc (Obj.cells (Array.replicate (D + 1) (Value.slice none 0 0)) 31)).alloc (.cells #[.slice (some ⟨w3.heap.size, 0, none⟩) (D + 1) (D + 1)] 69)).heap.size = w3.heap.size + 2 := by simp
    clear hmk hgp hz4
    generalize (w3.alloc (Obj.cells (Array.replicate (D + 1) (Value.slice none 0 0)) 31)).alloc (.cells #[.slice (some ⟨w3.heap.size, 0, none⟩) (D + 1) (D + 1)] 69) = wc at *
    have HBC := Lib.hid (HB3.out.trans (hBc.mono HSZ3.out))
    have HB5c := Lib.hid (HB5.out.below HBC.out HB5.out.lt)
    have HB6c := Lib.hid (HB6.out.below HBC.out HB6.out.lt)
    have HTRc := Lib.hid (HTRA.out.below HBC.out HTRA.out.lt)
    have HBWc := Lib.hid (HBA.out.trans (HBC.out.mono HBA.out.size))
    have HS4c := Lib.hid ((HS4.out.below HBC.out).wide HSZ3.out)
    obtain ⟨gp, hgpn⟩ : ∃ g : Nat, w3.heap.size = g := ⟨_, rfl⟩
    rw [hgpn] at hgp2 hg7 hzc HS4c ⊢
    have HLT : Hid (g5 < gp ∧ g6 < gp ∧ w.heap.size < gp ∧ G ≤ gp) := Lib.hid (by
      have a1 := HB5.out.lt; have a2 := HB6.out.lt; have a3 := HTRA.out.lt; have a4 := HSZ3.out; have a5 := HG5.out
      omega)
    have HGP := Lib.hid hgp2; have HG7 := Lib.hid hg7; have HZC := Lib.hid hzc
    obtain ⟨r0, hr0⟩ : ∃ r, List.replicate (D + 1) (Value.slice none 0 0) = r := ⟨_, rfl⟩
    rw [hr0] at HGP
    have HR0 := Lib.hid hr0
    obtain ⟨r1, hr1⟩ : ∃ r, r0.set D (.slice A4 (endF E).length c4) = r := ⟨_, rfl⟩
    have HR1 := Lib.hid hr1
    have hr11 : r1.set D (.slice A4 (endF E).length c4) = r1 := by rw [← hr1]; simp
    have HR11 := Lib.hid hr11
    have HRL : Hid (r0.length = D + 1 ∧ r1.length = D + 1) := Lib.hid (by rw [← hr1, ← hr0]; simp)
    clear hgp2 hg7 hBc hzc hgpn hr0 hr1 hr11 HB5 HB6 HTRA HS4 HB3
    obtain ⟨ln, hln⟩ : ∃ ln, ln = (endF E).length := ⟨_, rfl⟩
    rw [← hln] at HB6c HS4c HR1 HR11 hs41 ⊢
    have HLN := Lib.hid hln
    clear hln
    refine wpIn_wide.2 (wp_region_inv 47 (fun jx v Wx => if jx = 5 then HB Wx gp 31 r1 else v = ([.slice (some ⟨gp, 0, none⟩) (D + 1) (D + 1), .agg #[.slice As nt cs, .slice A3 m c3], .int .i64 (D : Int), .slice A4 ln c4, .pointer (some ⟨gp, D, none⟩)] : List Value).getD jx undef) (fun Wx => wc.grownBy Wx (some gp) ∧ (HB Wx gp 31 r0 ∨ HB Wx gp 31 r1)) (fun ix Wx Wy => (ix = 5 ∧ Wy = Wx.setCell ⟨gp, D, none⟩ (.slice A4 ln c4)) ∨ (ix ≠ 5 ∧ Below Wx.heap.size Wx Wy)) (by kernel_rfl) (by rfl) (by kernel_rfl) (fun i j v Wx Wy _ hij _ hT hR => ?_) (fun i Wx Wy hT hI => ?_) ⟨⟨rfl, rfl, rfl, Nat.le_refl _, fun _ _ _ => rfl⟩, .inl HGP.out⟩ (fun jx o ho vs Wx hI hdep => ?_) (fun vs Wx hI hR => ?_))
    · by_cases hj : j = 5
      · subst hj
        rw [if_pos rfl] at hR ⊢
        rcases hT with ⟨e, -⟩ | ⟨-, hb⟩
        · exact absurd e hij
        · exact HB.below hR hb (HB.lt hR)
      · rw [if_neg hj] at hR ⊢; exact hR
    · obtain ⟨h1, h2⟩ := hI
      rcases hT with ⟨-, rfl⟩ | ⟨-, hb⟩
      · refine ⟨h1.trans (grownBy_setCell_ _ _ _ _), .inr ?_⟩
        rcases h2 with q | q
        · have := q.set_ D (.slice A4 ln c4); rw [HR1.out] at this; exact this
        · have := q.set_ D (.slice A4 ln c4); rw [HR11.out] at this; exact this
      · exact ⟨h1.trans ⟨hb.os, hb.tape, hb.output, hb.size, fun k hk _ => hb.block k hk⟩, h2.imp (fun q => q.below hb q.lt) (fun q => q.below hb q.lt)⟩
    · rcases jx with _ | jx
      · simp only [List.getElem?_toArray, List.getElem?_cons_zero, Option.some.injEq] at ho
        subst ho
        have hc7 : Wx.cell? ⟨gp + 1, 0, none⟩ = some (.slice (some ⟨gp, 0, none⟩) (D + 1) (D + 1)) := by rw [(HG7.out.grown hI.1 (by intro e; injection e; omega)).cell]; rfl
        refine .inl ⟨rfl, fun K Q hK => ?_⟩
        simp only [putFrom, Act.put, List.setIfInBounds_toArray, List.set_cons_succ, List.set_cons_zero, Nat.reduceAdd] at hK ⊢
        have HOUT := Lib.hid hK
        clear hK hdep
        go_simp
        exact HOUT.out _ _ _ rfl ⟨.inr ⟨by decide, (Below.refl _ _)⟩, rfl⟩
      rcases jx with _ | jx
      · simp only [List.getElem?_toArray, List.getElem?_cons_succ, List.getElem?_cons_zero, Option.some.injEq, Nat.zero_add] at ho
        subst ho
        have htr := HTRc.out.grown hI.1 (by intro e; injection e; have := HLT.out; omega)
        refine .inl ⟨rfl, fun K Q hK => ?_⟩
        simp only [putFrom, Act.put, List.setIfInBounds_toArray, List.set_cons_succ, List.set_cons_zero, Nat.reduceAdd] at hK ⊢
        have HOUT := Lib.hid hK
        clear hK hdep
        refine wp_load_mid 62 _ rfl w.heap.size 0 rfl ([.slice As nt cs, .slice A3 m c3]) _ htr.rngT Tryd.underlying62 rfl (by kernel_rfl) ?_
        simp only [Act.put, List.setIfInBounds_toArray, List.set_cons_succ, List.set_cons_zero]
        exact HOUT.out _ _ _ rfl ⟨.inr ⟨by decide, (Below.refl _ _)⟩, rfl⟩
      rcases jx with _ | jx
      · simp only [List.getElem?_toArray, List.getElem?_cons_succ, List.getElem?_cons_zero, Option.some.injEq, Nat.zero_add] at ho
        subst ho
        have e1 : vs 1 = .agg #[.slice As nt cs, .slice A3 m c3] := hdep 1 rfl
        have HDA := Lib.hid (depth_any Wx As nt cs (.slice A3 m c3) (by have := HNT.out; have := HDD.out; omega) ⟨_, _, _, rfl⟩)
        rw [show nt / 32 = D by have := HNT.out; omega] at HDA
        refine .inl ⟨rfl, fun K Q hK => ?_⟩
        simp only [putFrom, Act.put, List.setIfInBounds_toArray, List.set_cons_succ, List.set_cons_zero, Nat.reduceAdd, e1] at hK ⊢
        have HOUT := Lib.hid hK
        clear hK hdep e1
        go_simp
        refine HDA.out.mono ?_
        rintro e w5 ⟨rfl, hB5⟩
        go_simp
        exact HOUT.out _ _ _ rfl ⟨.inr ⟨by decide, hB5⟩, rfl⟩
      rcases jx with _ | jx
      · simp only [List.getElem?_toArray, List.getElem?_cons_succ, List.getElem?_cons_zero, Option.some.injEq, Nat.zero_add] at ho
        subst ho
        have hc6 : Wx.cell? ⟨g6, 0, none⟩ = some (.slice A4 ln c4) := by rw [(HB6c.out.grown hI.1 (by intro e; injection e; have := HLT.out; omega)).cell]; rfl
        refine .inl ⟨rfl, fun K Q hK => ?_⟩
        simp only [putFrom, Act.put, List.setIfInBounds_toArray, List.set_cons_succ, List.set_cons_zero, Nat.reduceAdd] at hK ⊢
        have HOUT := Lib.hid hK
        clear hK hdep
        go_simp
        exact HOUT.out _ _ _ rfl ⟨.inr ⟨by decide, (Below.refl _ _)⟩, rfl⟩
      rcases jx with _ | jx
      · simp only [List.getElem?_toArray, List.getElem?_cons_succ, List.getElem?_cons_zero, Option.some.injEq, Nat.zero_add] at ho
        subst ho
        have e0 : vs 0 = .slice (some ⟨gp, 0, none⟩) (D + 1) (D + 1) := hdep 0 rfl
        have e2 : vs 2 = .int .i64 (D : Int) := hdep 2 rfl
        have hd2 : (D : Int) < (D : Int) + 1 := by omega
        refine .inl ⟨rfl, fun K Q hK => ?_⟩
        simp only [putFrom, Act.put, List.setIfInBounds_toArray, List.set_cons_succ, List.set_cons_zero, Nat.reduceAdd, e0, e2] at hK ⊢
        have HOUT := Lib.hid hK
        clear hK hdep e0 e2
        go_simp
        exact HOUT.out _ _ _ rfl ⟨.inr ⟨by decide, (Below.refl _ _)⟩, rfl⟩
      rcases jx with _ | jx
      · simp only [List.getElem?_toArray, List.getElem?_cons_succ, List.getElem?_cons_zero, Option.some.injEq, Nat.zero_add] at ho
        subst ho
        have e4 : vs 4 = .pointer (some ⟨gp, D, none⟩) := hdep 4 rfl
        have e3 : vs 3 = .slice A4 ln c4 := hdep 3 rfl
        obtain ⟨rr, hrr, hlr, hse⟩ : ∃ rr, HB Wx gp 31 rr ∧ rr.length = D + 1 ∧ rr.set D (.slice A4 ln c4) = r1 := by
          rcases hI.2 with q | q
          · exact ⟨r0, q, HRL.out.1, HR1.out⟩
          · exact ⟨r1, q, HRL.out.2, HR11.out⟩
        obtain ⟨u, hu⟩ : ∃ u, rr[D]? = some u := ⟨_, List.getElem?_eq_getElem (by omega)⟩
        have hcc : Wx.cell? ⟨gp, D, none⟩ = some u := by rw [hrr.cell]; exact hu
        have hff := hrr.frozen D
        have hfin := hrr.set_ D (.slice A4 ln c4)
        rw [hse] at hfin
        have HFIN := Lib.hid hfin
        clear hrr hlr hse hu hfin
        refine .inl ⟨rfl, fun K Q hK => ?_⟩
        simp only [putFrom, Act.put, List.setIfInBounds_toArray, List.set_cons_succ, List.set_cons_zero, Nat.reduceAdd, e3, e4] at hK ⊢
        have HOUT := Lib.hid hK
        clear hK hdep e3 e4
        go_simp
        exact HOUT.out _ undef _ rfl ⟨.inl ⟨(by first | rfl | trivial), rfl⟩, HFIN.out⟩
      exact absurd ho (by simp)
    · have r5 : HB Wx gp 31 r1 := hR 5 (by decide)
      obtain ⟨hgr, -⟩ := hI
      have e0 : vs 0 = _ := hR 0 (by decide)
      have e1 : vs 1 = _ := hR 1 (by decide)
      have e2 : vs 2 = _ := hR 2 (by decide)
      have e3 : vs 3 = _ := hR 3 (by decide)
      have e4 : vs 4 = _ := hR 4 (by decide)
      simp only [putFrom, Act.put, List.setIfInBounds_toArray, List.set_cons_succ, List.set_cons_zero, Nat.reduceAdd]
      clear hR e0 e1 e2 e3 e4
      generalize vs 0 = q21 at *; generalize vs 1 = q22 at *; generalize vs 2 = q23 at *; generalize vs 3 = q24 at *; generalize vs 4 = q25 at *
      have HGR := Lib.hid hgr
      have HRW := Lib.hid r5
      have a := HLT.out
      have HB5x := Lib.hid (HB5c.out.grown hgr (by intro e; injection e; omega))
      have HB6x := Lib.hid (HB6c.out.grown hgr (by intro e; injection e; omega))
      have HTRx := Lib.hid (HTRc.out.grown hgr (by intro e; injection e; omega))
      have HG7x := Lib.hid (HG7.out.grown hgr (by intro e; injection e; omega))
      have HBWx := Lib.hid (HBWc.out.grown hgr HBWc.out.size (fun g e => by injection e; omega))
      have HSZx := Lib.hid hgr.size
      have HS4x := Lib.hid (HS4c.out.grown hgr (by have := HZC.out; omega) (fun g e => by injection e; omega))
      have htr := HTRx.out
      clear hgr r5 a HB5c HB6c HTRc HBWc HGP HG7
      have hc0t : Wx.cell? ⟨w.heap.size, 0, none⟩ = some (.slice As nt cs) := by rw [htr.cell]; rfl
      have hc1t : Wx.cell? ⟨w.heap.size, 1, none⟩ = some (.slice A3 m c3) := by rw [htr.cell]; rfl
      clear htr
      gi_wp2_with fail
      refine ⟨trivial, (callsIn_wide.2 (out_any Wx As nt cs A3 m c3)).mono ?_⟩
      rintro e wl ⟨rfl, hwl⟩
      have hgb := HB.new Wx 62 [.slice As nt cs, .slice A3 m c3]
      have hBl := below_alloc1 Wx (.cells #[.slice As nt cs, .slice A3 m c3] 62)
      have hzl : (Wx.alloc (.cells #[.slice As nt cs, .slice A3 m c3] 62)).heap.size = Wx.heap.size + 1 := by simp
      rw [← hwl] at hgb hBl hzl
      obtain ⟨gb, hgbn⟩ : ∃ g : Nat, Wx.heap.size = g := ⟨_, rfl⟩
      clear hc0t hc1t hwl
      rw [hgbn] at hgb hzl ⊢
      have hBl' : Below gb Wx wl := hgbn ▸ hBl
      have HLI : Hid (Lists wl wl.heap.size r1 ((List.replicate (D + 1) []).set D (endF E))) := Lib.hid (by
        rw [← HR1.out, ← HR0.out, HLN.out]
        refine (lists_nils wl wl.heap.size (D + 1)).set_ D ?_
        rw [← HLN.out]
        have q := HS4x.out.wide (show gp ≤ Wx.heap.size by have := HSZx.out; have := HZC.out; omega)
        exact (q.below hBl).wide hBl.size)
      have HI0 : Hid (PreI w key D g5 g6 gp (foldP key T E D []) wl) := Lib.hid ⟨HB5x.out.below hBl HB5x.out.lt, HG7x.out.below hBl HG7x.out.lt, ⟨A4, c4, by
          show HB wl g6 31 [.slice A4 (endF E).length c4]
          rw [← HLN.out]
          exact HB6x.out.below hBl HB6x.out.lt, by
          show Slot wl wl.heap.size (.slice A4 (endF E).length c4) (endF E)
          have q := HS4x.out.wide (show gp ≤ Wx.heap.size by have := HSZx.out; have := HZC.out; omega)
          rw [← HLN.out]
          exact (q.below hBl).wide hBl.size⟩, ⟨r1, HRW.out.below hBl HRW.out.lt, HRL.out.2, HLI.out⟩, HBWx.out.trans (hBl.mono HBWx.out.size)⟩
      have HGB := Lib.hid hgb
      have HZL := Lib.hid hzl
      have HBWl := Lib.hid (HBWx.out.trans (hBl.mono HBWx.out.size))
      clear hgb hzl hBl hBl'
      gi_wp2_with fail
      refine wpIn_rangeFunc_ownH (F := Fence.wide) rfl (by omega) (gf := 71) (lb := #[.pointer (some ⟨gb, 0, none⟩)]) rfl trivial (enters_of Tryd.func71 (by kernel_rfl) rfl)
        (w0 := wl) (N := D) (S := fun ys => ys = dn D D) (Sp := fun pre => ∃ k, k ≤ D ∧ pre = dn D k) (encs := encO T D) (Kp := KpO w.heap.size gb)
        (fun l J Jx Wy hW hJ _ hY h0 => out1_any _ l gb w.heap.size D As cs A3 m c3 T HDD.out HTD.out J Jx Wy hJ hY (Nat.le_trans HBWl.out.size hW.size) (by have q := HGB.out.below hW HGB.out.lt; rw [HNT.out] at q; exact q) (by have q := (HS.out.below HBWl.out).below (hW.mono HBWl.out.size); rw [HNT.out] at q; exact q) h0)
        (fun h k => h.trans_ k) (fun Wy l o o' hl h _ _ => ⟨(Below.refl w.heap.size Wy).grown (grownBy_putObj' Wy l o') (by have := (Array.getElem?_eq_some_iff.1 h).1; have := HBWl.out.size; omega) (fun k e => by cases e; have := HBWl.out.size; omega), World.putObj_heap_other (fun e => by have := HZL.out; omega)⟩) (Below.refl _ _) (fun _ => rfl)
        (fun pre Wy => PreI w key D g5 g6 gp (foldP key T E D pre) Wy ∧ gb < Wy.heap.size)
        (fun _ _ _ => False)
        (fun s Wy Wz row hs hg hr => ⟨hs.1.kept hg (fun r e => ⟨by have := (hr r e).1; have := HBWl.out.size; omega, (hr r e).2⟩), Nat.lt_of_lt_of_le hs.2 hg.size⟩)
        (fun _ _ _ _ _ h _ _ => h)
        ⟨HI0.out, HGB.out.lt⟩
        (fun x a' Wy => ∃ g9, HB Wy g9 24 (bys (sibAt T x.val)) ∧ a' = { tmps := #[.agg #[.slice As nt cs, .slice A3 m c3], .agg (bys key).toArray, .pointer (some ⟨w.heap.size, 0, none⟩), .pointer (some ⟨w.heap.size + 1, 0, none⟩), .slice none 0 0, .pointer (some ⟨g5, 0, none⟩), .pointer (some ⟨g6, 0, none⟩), .pointer (some ⟨gp + 1, 0, none⟩), .int .i64 (x.val : Int), .pointer (some ⟨g9, 0, none⟩), undef, undef, q0, q1, q2, q3, .slice A4 ln c4, .agg #[.slice As nt cs, .slice A3 m c3], .int .i64 (D : Int), .int .i64 ((D : Int) + 1), .slice (some ⟨gp, 0, none⟩) (D + 1) (D + 1), q21, q22, q23, q24, q25, .agg #[.slice As nt cs, .slice A3 m c3], .func (.func 71) #[] #[.pointer (some ⟨gb, 0, none⟩)], .int .i64 (x.val : Int), .agg (bys (sibAt T x.val)).toArray, undef, undef, undef, undef, undef, undef, undef, undef, undef, undef, undef, undef, undef, undef, undef, undef, undef], defers := [] })
        (fun x a' _ Wy Wz row hs hg hr => by obtain ⟨g9, h1, h2⟩ := hs; exact ⟨g9, hb_kept h1 hg (fun r e => (hr r e).2), h2⟩) ?assign ?body ?done ?stop
      case assign =>
        intro l pre x Wy K hi hK
        unfold encO
        have hsx := sibAt_len (T := T) (x := x.val) (by have := HTD.out; have := x.isLt; omega)
        have HKK := Lib.hid hK
        have HSX := Lib.hid hsx
        have HIX := Lib.hid hi
        clear hK hi hsx
        obtain ⟨sb, hsb⟩ : ∃ sb, sibAt T x.val = sb := ⟨_, rfl⟩
        have HSB := Lib.hid hsb
        rw [hsb] at HSX ⊢
        clear hsb
        have HI32 := dig_info HSX.out
        have HS32 := dig_size HSX.out
        have HA32 := dig_one sb
        have hz := Tryd.zeroDig
        have hb9 := HB.new Wy 24 zdig
        refine wpIn_seq_k (fun K1 hK1 => ?_)
        refine wpIn_region_round (by kernel_rfl) (by rintro ⟨a, w, h⟩; exact h) ?_
        have HK1 := Lib.hid hK1
        clear hK1
        go_wp2
        refine HK1.out _ _ ?_
        refine wpIn_region_round (by kernel_rfl) (by rintro ⟨a, w, h⟩; exact h) ?_
        go_wp2_with (refine wpList_store_row rfl 24 _ _ rfl Wy.heap.size (bys sb).toArray rfl rfl 24 _ hb9 HI32.out HS32.out HA32.out ?_)
        have hBy : Below Wy.heap.size Wy ((Wy.alloc (.cells zdig.toArray 24)).setRow Wy.heap.size (bys sb).toArray) := Below.setRow_ (below_alloc1 Wy _) (Nat.le_refl _) _
        refine HKK.out _ _ (keeps_of_below hBy) ⟨hBy.mono HIX.out.1.low.size, hBy.block gb HIX.out.2⟩ ⟨HIX.out.1.below hBy, Nat.lt_of_lt_of_le HIX.out.2 hBy.size⟩ ⟨Wy.heap.size, ?_, by rw [HSB.out]; rfl⟩
        · rw [HSB.out]; exact hb9.row _
      case body =>
        rintro l pre x a' Wy hl hrec ⟨hi, hgbl⟩ ⟨g9, hg9, rfl⟩ hlen
        have hsx := sibAt_len (T := T) (x := x.val) (by have := HTD.out; have := x.isLt; omega)
        have hshort := foldP_short key T E D HTD.out (by have := endF_len E HE.out.keys HE.out.short; omega) pre
        have hsnoc := foldP_snoc key T E D pre x
        have HFL := Lib.hid (foldP_len key T E D pre)
        obtain ⟨st, hst⟩ : ∃ st, foldP key T E D pre = st := ⟨_, rfl⟩
        rw [hst] at hi hshort hsnoc HFL
        have HSN := Lib.hid hsnoc
        have HI := Lib.hid hi
        obtain ⟨Ai, ci, hin1, Ai', ci', hin2, hin3, hin4, hin5⟩ := hi.inn
        cases hin2
        have HIN := Lib.hid hin1
        have HSL := Lib.hid hin5
        have HC9 := Lib.hid hg9
        have HGBL := Lib.hid hgbl
        have HCY := Lib.hid (HKC.out.below hi.low HKC.out.2.2)
        obtain ⟨sb, hsb⟩ : ∃ sb, sibAt T x.val = sb := ⟨_, rfl⟩
        have HSB := Lib.hid hsb
        rw [hsb] at HC9 hsx ⊢
        have HSX := Lib.hid hsx
        have HSH := Lib.hid hshort
        have HX256 := Lib.hid (show x.val < 256 by have := x.isLt; have := HDD.out; omega)
        obtain ⟨d1, hd1⟩ : ∃ d, shaF st.1 = d := ⟨_, rfl⟩
        have HD1 := Lib.hid hd1
        have HD1L := Lib.hid (show d1.length = 32 by rw [← hd1]; exact shaF_len _)
        obtain ⟨li, hli⟩ : ∃ n, n = st.1.length := ⟨_, rfl⟩
        rw [← hli] at HIN hin3 HSH
        have HLI2 := Lib.hid hli
        have HSUM : Hid (∀ W, Below Wy.heap.size Wy W → Calls Tryd.prog 34 #[.slice Ai li ci] W (Digs W d1)) := Lib.hid (fun W hW => by
          have := sum_any Wy.heap.size Ai ci st.1 W (HSL.out.below hW) hW.size (by rw [← HLI2.out]; exact hin3) hin4 hshort (HCY.out.below hW HCY.out.2.2)
          rw [← HLI2.out, HD1.out] at this
          exact this)
        clear hsb hst hsnoc hi hin1 hin5 hg9 hgbl hsx hshort hd1 hli hlen hl hrec
        refine wpIn_block ?_
        refine wpIn_seq_k (fun K1 hK1 => ?_)
        have HK1 := Lib.hid hK1
        clear hK1
        obtain ⟨Gy, hGy⟩ : ∃ g : Nat, Wy.heap.size = g := ⟨_, rfl⟩
        rw [hGy] at HSUM
        have HGY := Lib.hid hGy
        refine wpIn_region_iny 47 (PreBR Gy Ai li ci d1 sb) (fun _ => Below Gy Wy) (PreBT Gy Ai li ci d1 sb) (by kernel_rfl) (by rfl) (by kernel_rfl) (by kernel_rfl) (by rintro ⟨a, w, h⟩; exact h) (fun i j vs v W W' hi hij hw hT hR => ?_) (fun i vs v W W' hT hI => ?_) (Below.drew (hGy ▸ Below.refl _ _)) (fun j o ho vs W hI hdep hx _ => ?_) (fun vs W hI hR => ?_)
        · have hi : i < 7 := hi
          match j, hij, hw, hR with
          | 0, hij, hw, hR => exact PreBR.keep0  hi hij  hT hR
          | 1, hij, hw, hR => exact PreBR.keep1  hi hij  hT hR
          | 2, hij, hw, hR => exact PreBR.keep2  hi hij  hT hR
          | 3, hij, hw, hR => exact PreBR.keep3 HD1L.out hi hij  hT hR
          | 4, hij, hw, hR => exact PreBR.keep4 HSX.out hi hij  hT hR
          | 5, hij, hw, hR => exact PreBR.keep5  hi hij (fun e => by subst e; exact absurd (hw _ rfl) (by decide)) hT hR
          | 6, hij, hw, hR => exact PreBR.keep6  hi hij (fun e => by subst e; exact absurd (hw _ rfl) (by decide)) hT hR
          | n + 7, _, _, _ => exact trivial
        · exact hI.trans (PreBT.low hT (by have := hI.size; omega))
        · have hsz : Gy ≤ W.heap.size := by have := hI.size; omega
          clear hGy
          rcases j with _ | j
          · simp only [List.getElem?_toArray, List.getElem?_cons_zero, Option.some.injEq] at ho
            subst ho
            have hc6 : W.cell? ⟨g6, 0, none⟩ = some (.slice Ai li ci) := by rw [(HIN.out.below hI (HGY.out ▸ HIN.out.lt)).cell]; rfl
            refine .inl ⟨rfl, fun K Q hK => ?_⟩
            simp only [putFrom, Act.put, List.setIfInBounds_toArray, List.set_cons_succ, List.set_cons_zero, Nat.reduceAdd] at hK ⊢
            have HOUT := Lib.hid hK
            clear hK hdep hx
            go_simp
            exact HOUT.out _ _ _ rfl ⟨(Below.refl _ _), rfl⟩
          rcases j with _ | j
          · simp only [List.getElem?_toArray, List.getElem?_cons_succ, List.getElem?_cons_zero, Option.some.injEq, Nat.zero_add] at ho
            subst ho
            have e0 : vs 0 = _ := hdep 0 rfl
            have hsm := Lib.hid (HSUM.out W (HGY.out.symm ▸ hI))
            refine .inl ⟨rfl, fun K Q hK => ?_⟩
            simp only [putFrom, Act.put, List.setIfInBounds_toArray, List.set_cons_succ, List.set_cons_zero, Nat.reduceAdd, e0] at hK ⊢
            have HOUT := Lib.hid hK
            clear hK hdep hx e0
            go_simp
            refine hsm.out.mono ?_
            rintro e w5 ⟨rfl, hB5⟩
            go_simp
            exact HOUT.out _ _ _ rfl ⟨hB5, rfl⟩
          rcases j with _ | j
          · simp only [List.getElem?_toArray, List.getElem?_cons_succ, List.getElem?_cons_zero, Option.some.injEq, Nat.zero_add] at ho
            subst ho
            refine .inl ⟨rfl, fun K Q hK => ?_⟩
            simp only [putFrom, Act.put, List.setIfInBounds_toArray, List.set_cons_succ, List.set_cons_zero, Nat.reduceAdd] at hK ⊢
            have HOUT := Lib.hid hK
            clear hK hdep hx
            refine wp_load_mid 24 _ rfl g9 0 rfl (bys sb) _ (HC9.out.below hI (HGY.out ▸ HC9.out.lt)).rngT Tryd.underlying24 rfl (by rw [bys_len, HSX.out]; exact Tryd.infoD) ?_
            simp only [Act.put, List.setIfInBounds_toArray, List.set_cons_succ, List.set_cons_zero]
            exact HOUT.out _ _ _ rfl ⟨(Below.refl _ _), rfl⟩
          rcases j with _ | j
          · simp only [List.getElem?_toArray, List.getElem?_cons_succ, List.getElem?_cons_zero, Option.some.injEq, Nat.zero_add] at ho
            subst ho
            have HV4 := Lib.hid (hx 4)
            have hzd := Tryd.zeroDig
            refine .inl ⟨rfl, fun K Q hK => ?_⟩
            simp only [putFrom, Act.put, List.setIfInBounds_toArray, List.set_cons_succ, List.set_cons_zero, Nat.reduceAdd] at hK ⊢
            have HOUT := Lib.hid hK
            clear hK hdep hx
            go_simp
            refine HOUT.out _ _ _ rfl ⟨⟨rfl, _, rfl⟩, VarN.new (Ns := [vs 4]) hsz zdig zdig_len (fun N hm => by
              simp only [List.mem_cons, List.not_mem_nil, or_false] at hm
              subst hm
              exact vu_of (show vs 4 = undef ∨ VarN _ _ _ _ _ _ from HV4.out))⟩
          rcases j with _ | j
          · simp only [List.getElem?_toArray, List.getElem?_cons_succ, List.getElem?_cons_zero, Option.some.injEq, Nat.zero_add] at ho
            subst ho
            have HV3 := Lib.hid (hx 3)
            have hzd := Tryd.zeroDig
            refine .inl ⟨rfl, fun K Q hK => ?_⟩
            simp only [putFrom, Act.put, List.setIfInBounds_toArray, List.set_cons_succ, List.set_cons_zero, Nat.reduceAdd] at hK ⊢
            have HOUT := Lib.hid hK
            clear hK hdep hx
            go_simp
            refine HOUT.out _ _ _ rfl ⟨⟨rfl, _, rfl⟩, VarN.new (Ns := [vs 3]) hsz zdig zdig_len (fun N hm => by
              simp only [List.mem_cons, List.not_mem_nil, or_false] at hm
              subst hm
              exact vu_of (show vs 3 = undef ∨ VarN _ _ _ _ _ _ from HV3.out))⟩
          rcases j with _ | j
          · simp only [List.getElem?_toArray, List.getElem?_cons_succ, List.getElem?_cons_zero, Option.some.injEq, Nat.zero_add] at ho
            subst ho
            have e1 : vs 1 = _ := hdep 1 rfl
            obtain ⟨g, cs9, e3, hg, hb, hl, ha⟩ := (show VarN _ _ _ _ _ _ from hdep 3 rfl)
            have HVA := Lib.hid (show VarN Gy W (vs 3) 24 (·.length = 32) [vs 4] from ⟨g, cs9, e3, hg, hb, hl, ha⟩)
            have hst : StT Gy (vs 3) 24 (bys d1) W (W.setCells g 0 (bys d1)) := ⟨g, cs9, e3, hg, hb, by rw [hl, bys_len, HD1L.out], rfl⟩
            have HST := Lib.hid hst
            clear hst
            refine .inl ⟨rfl, fun K Q hK => ?_⟩
            simp only [putFrom, Act.put, List.setIfInBounds_toArray, List.set_cons_succ, List.set_cons_zero, Nat.reduceAdd, e1, e3] at hK ⊢
            have HOUT := Lib.hid hK
            clear hK hdep hx e1 e3
            refine wp_store_mid 24 _ _ rfl g 0 (bys d1).toArray rfl rfl (there_hb hb (by rw [hl]; simp [bys_len, HD1L.out])) (dig_info HD1L.out).out (dig_one _).out ?_
            simp only [Act.put]
            exact HOUT.out _ undef _ rfl ⟨HST.out, VarN.self HVA.out HST.out rfl⟩
          rcases j with _ | j
          · simp only [List.getElem?_toArray, List.getElem?_cons_succ, List.getElem?_cons_zero, Option.some.injEq, Nat.zero_add] at ho
            subst ho
            have e2 : vs 2 = _ := hdep 2 rfl
            obtain ⟨g, cs9, e4, hg, hb, hl, ha⟩ := (show VarN _ _ _ _ _ _ from hdep 4 rfl)
            have HVA := Lib.hid (show VarN Gy W (vs 4) 24 (·.length = 32) [vs 3] from ⟨g, cs9, e4, hg, hb, hl, ha⟩)
            have hst : StT Gy (vs 4) 24 (bys sb) W (W.setCells g 0 (bys sb)) := ⟨g, cs9, e4, hg, hb, by rw [hl, bys_len, HSX.out], rfl⟩
            have HST := Lib.hid hst
            clear hst
            refine .inl ⟨rfl, fun K Q hK => ?_⟩
            simp only [putFrom, Act.put, List.setIfInBounds_toArray, List.set_cons_succ, List.set_cons_zero, Nat.reduceAdd, e2, e4] at hK ⊢
            have HOUT := Lib.hid hK
            clear hK hdep hx e2 e4
            refine wp_store_mid 24 _ _ rfl g 0 (bys sb).toArray rfl rfl (there_hb hb (by rw [hl]; simp [bys_len, HSX.out])) (dig_info HSX.out).out (dig_one _).out ?_
            simp only [Act.put]
            exact HOUT.out _ undef _ rfl ⟨HST.out, VarN.self HVA.out HST.out rfl⟩
          exact absurd ho (by simp)
        · have r5 : VarN Gy W (vs 3) 24 (· = bys d1) [vs 4] := hR 5 (by decide)
          have r6 : VarN Gy W (vs 4) 24 (· = bys sb) [vs 3] := hR 6 (by decide)
          obtain ⟨g10, c10, e3, hg10, hb10, rfl, ha10⟩ := r5
          obtain ⟨g11, c11, e4, hg11, hb11, rfl, -⟩ := r6
          change vs 3 = .pointer (some ⟨g10, 0, none⟩) at e3
          change vs 4 = .pointer (some ⟨g11, 0, none⟩) at e4
          have hne : g10 ≠ g11 := ha10 _ (by simp) g11 e4
          simp only [putFrom, Act.put, List.setIfInBounds_toArray, List.set_cons_succ, List.set_cons_zero, Nat.reduceAdd, e3, e4]
          refine HK1.out _ _ ?_
          have H10 := Lib.hid hb10; have H11 := Lib.hid hb11; have HNE1 := Lib.hid hne; have HG10 := Lib.hid hg10; have HG11 := Lib.hid hg11
          have HBW1 : Hid (Below Wy.heap.size Wy W) := Lib.hid (hGy.symm ▸ hI)
          clear hR hI hb10 hb11 hne hg10 hg11 ha10 e3 e4 hGy
          generalize vs 0 = u0 at *; generalize vs 1 = u1 at *; generalize vs 2 = u2 at *
          refine wpIn_seq_k (fun K2 hK2 => ?_)
          have HK2 := Lib.hid hK2
          refine wpIn_seq_k (fun K3 hK3 => ?_)
          have HK3 := Lib.hid hK3
          clear hK2 hK3
          refine wpIn_region_round (by kernel_rfl) (by rintro ⟨a, w, h⟩; exact h) ?_
          have hbit := HI.out.bits.below HBW1.out HI.out.bits.lt
          have HAT := Lib.hid (at_any key HKY.out x.val HX256.out W)
          rcases (by have := kbit_lt key x.val; omega : kbit key x.val = 0 ∨ kbit key x.val = 1) with hkb | hkb
          · have HKB := Lib.hid hkb
            rw [hkb] at HAT
            clear hkb
            go_wp2_with (refine wpList_load_row rfl 95 _ rfl g5 rfl 95 (bys key).toArray (0, 0) _ hbit Tryd.underlying95 rfl HBI.out ?_)
            refine HAT.out.mono ?_
            rintro e w5 ⟨rfl, hB5⟩
            have hBZ := HBW1.out.trans (hB5.mono HBW1.out.size)
            have HZ10 := Lib.hid (H10.out.below hB5 H10.out.lt)
            have HZ11 := Lib.hid (H11.out.below hB5 H11.out.lt)
            have HBZ := Lib.hid hBZ
            clear hBZ hB5 hbit HAT
            go_wp2
            refine HK3.out _ _ ?_
            refine wpIn_cond_false rfl ?_
            refine wpIn_skip ?_
            have HBR : Hid (brT (kbit key x.val) d1 sb = tBranch d1 sb) := Lib.hid (by rw [HKB.out]; rfl)
            have HDA := HD1L; have HDB := HSX
            obtain ⟨Wz, hWz⟩ : ∃ W, w5 = W := ⟨_, rfl⟩
            rw [hWz] at HZ10 HZ11 HBZ ⊢
            clear hWz
            obtain ⟨da, hda⟩ : ∃ d, d1 = d := ⟨_, rfl⟩
            obtain ⟨db, hdb⟩ : ∃ d, sb = d := ⟨_, rfl⟩
            rw [hda] at HZ10 HDA
            rw [hdb] at HZ11 HDB
            have HBR2 : Hid (brT (kbit key x.val) d1 sb = tBranch da db) := Lib.hid (by rw [HBR.out, hda, hdb])
            clear hda hdb
            refine HK2.out _ _ ?_
            refine wpIn_seq_k (fun K4 hK4 => ?_)
            have HK4 := Lib.hid hK4
            clear hK4
            refine wpIn_region_round (by kernel_rfl) (by rintro ⟨a, w, h⟩; exact h) ?_
            have h10 := HZ10.out; have h11 := HZ11.out
            have hi10 := dig_info HDA.out; have hi11 := dig_info HDB.out
            go_wp2_with (first
              | (refine wpList_load_row rfl 24 _ rfl g10 rfl 24 (bys da).toArray (0, 0) _ h10 Tryd.underlying24 rfl hi10.out ?_)
              | (refine wpList_load_row rfl 24 _ rfl g11 rfl 24 (bys db).toArray (0, 0) _ h11 Tryd.underlying24 rfl hi11.out ?_))
            refine (branch_any da db Wz HDA.out HDB.out).mono ?_
            rintro e Wv ⟨v, rfl, hs, hBv⟩
            obtain ⟨Av, cv, rfl, hs1, hs2, hs3, hs4⟩ := hs
            have hBv := HBZ.out.trans (hBv.mono HBZ.out.size)
            have hsl : Slot Wv Wv.heap.size (.slice Av (tBranch da db).length cv) (tBranch da db) := ⟨Av, cv, rfl, hs1, hs2, hs3⟩
            have HIv := HI.out.below hBv
            have h6 := HIN.out.below hBv HIN.out.lt
            have hc6 : Wv.cell? ⟨g6, 0, none⟩ = some (.slice Ai li ci) := by rw [h6.cell]; rfl
            have hf6 := h6.frozen 0
            have HBV := Lib.hid hBv; have HSLV := Lib.hid hsl; have HIV := Lib.hid HIv; have H6 := Lib.hid h6
            obtain ⟨lv, hlv⟩ : ∃ n, n = (tBranch da db).length := ⟨_, rfl⟩
            rw [← hlv] at HSLV ⊢
            have HLV := Lib.hid hlv
            clear hs1 hs2 hs3 hs4 hBv hsl HIv h6 h10 h11 hlv
            go_wp2
            refine HK4.out _ _ ?_
            refine wpIn_region_round (by kernel_rfl) (by rintro ⟨a, w, h⟩; exact h) ?_
            have hn6 : g6 ≠ gp + 1 := by have := HLT.out; omega
            have hn6p : g6 ≠ gp := by have := HLT.out; omega
            have h7 := HIV.out.var.far (p := ⟨g6, 0, none⟩) hn6.symm (.slice Av lv cv)
            have h6' := H6.out.set_ 0 (.slice Av lv cv)
            obtain ⟨vr, hr1, hr2, hr3⟩ := HIV.out.row
            have hrp := hr1.far (p := ⟨g6, 0, none⟩) hn6p.symm (.slice Av lv cv)
            have hxD : x.val < vr.length := by rw [hr2]; have := x.isLt; omega
            obtain ⟨Ar, cr, hv1, -, -, -⟩ := hr3.at_ (k := x.val) (by rw [← hr3.1]; exact hxD)
            have hc7 : (Wv.setCell ⟨g6, 0, none⟩ (.slice Av lv cv)).cell? ⟨gp + 1, 0, none⟩ = some (.slice (some ⟨gp, 0, none⟩) (D + 1) (D + 1)) := by rw [h7.cell]; rfl
            have hc6' : (Wv.setCell ⟨g6, 0, none⟩ (.slice Av lv cv)).cell? ⟨g6, 0, none⟩ = some (.slice Av lv cv) := by rw [h6'.cell]; rfl
            obtain ⟨ur, hur, hus⟩ : ∃ ur, vr[x.val]? = some ur ∧ ∀ k z, ur ≠ Value.int k z := ⟨_, hv1, by intro k z h; cases h⟩
            have hcp : (Wv.setCell ⟨g6, 0, none⟩ (.slice Av lv cv)).cell? ⟨gp, x.val, none⟩ = some ur := by rw [hrp.cell]; exact hur
            have hfp := hrp.frozen x.val
            have hxI : (x.val : Int) < (D : Int) + 1 := by have := x.isLt; omega
            have hxI2 : (x.val : Int) < ((D + 1 : Nat) : Int) := by have := x.isLt; omega
            have hx0 : (0 : Int) ≤ (x.val : Int) := by omega
            have HUS := Lib.hid hus
            have hC6 := Lib.hid hc6; have hCP := Lib.hid hcp; have HRP := Lib.hid hrp; have H7 := Lib.hid h7; have H6' := Lib.hid h6'; have HR3 := Lib.hid hr3; have HR2 := Lib.hid hr2
            clear hr1 hr2 hr3 hrp h7 h6' hv1 hxD hc6 hf6 hus hur
            go_wp2
            show KeepsFrom _ _ _ ∧ KpO _ _ _ _ ∧ _ ∧ _
            have hV : Below Wy.heap.size Wy Wv := HBV.out
            have hwG : w.heap.size ≤ Wy.heap.size := HI.out.low.size
            have hG6 : w.heap.size ≤ g6 ∧ w.heap.size ≤ gp ∧ g5 ≠ g6 ∧ g5 ≠ gp := ⟨by have := HG6.out; have := HQ1.out; omega, by have := HLT.out; omega, HNE.out.symm, by have := HLT.out; omega⟩
            have hgbl : gb ≠ g6 ∧ gb ≠ gp := ⟨by have := HLT.out; have := HSZx.out; have := HZC.out; omega, by have := HLT.out; have := HSZx.out; have := HZC.out; omega⟩
            have hst2 : foldP key T E D (pre ++ [x]) = (tBranch da db, st.2.set x.val (tBranch da db)) := by
              rw [HSN.out]
              show (brT _ _ _, st.2.set _ (brT _ _ _)) = _
              rw [HD1.out, HSB.out, HBR2.out]
            rw [hst2]
            have hs1 : Slot ((Wv.setCell ⟨g6, 0, none⟩ (.slice Av lv cv)).setCell ⟨gp, x.val, none⟩ (.slice Av lv cv)) ((Wv.setCell ⟨g6, 0, none⟩ (.slice Av lv cv)).setCell ⟨gp, x.val, none⟩ (.slice Av lv cv)).heap.size (.slice Av lv cv) (tBranch da db) := by
              refine ((HSLV.out.store hC6.out (by intro k z h; cases h) _).store hCP.out HUS.out _).wide ?_
              simp [World.setCell]
            refine ⟨((keeps_of_below hV).trans ((KeepsOthers.setCell _ _ _).from _)).trans ((KeepsOthers.setCell _ _ _).from _), ⟨((hV.mono hwG).setCell (p := ⟨g6, 0, none⟩) hG6.1 _).setCell (p := ⟨gp, x.val, none⟩) hG6.2.1 _, ?_⟩, ⟨?_, ?_, ?_, ?_, ?_⟩, ?_⟩
            · rw [heap_setCell_other _ _ _ _ hgbl.2, heap_setCell_other _ _ _ _ hgbl.1]
              exact hV.block gb HGBL.out
            · exact (HIV.out.bits.far (p := ⟨g6, 0, none⟩) hG6.2.2.1 _).far (p := ⟨gp, x.val, none⟩) hG6.2.2.2 _
            · exact H7.out.far (p := ⟨gp, x.val, none⟩) (by show gp + 1 ≠ gp; omega) _
            · refine ⟨Av, cv, ?_, ?_⟩
              · show HB _ g6 31 [.slice Av (tBranch da db).length cv]
                rw [← HLV.out]
                exact H6'.out.far (p := ⟨gp, x.val, none⟩) hn6p _
              · show Slot _ _ (.slice Av (tBranch da db).length cv) (tBranch da db)
                rw [← HLV.out]
                exact hs1
            · refine ⟨vr.set x.val (.slice Av lv cv), HRP.out.set_ x.val _, by rw [List.length_set]; exact HR2.out, ?_⟩
              have hL := ((HR3.out.store hC6.out (by intro k z h; cases h) (.slice Av lv cv)).store hCP.out HUS.out (.slice Av lv cv)).wide (B' := ((Wv.setCell ⟨g6, 0, none⟩ (.slice Av lv cv)).setCell ⟨gp, x.val, none⟩ (.slice Av lv cv)).heap.size) (by simp [World.setCell])
              rw [HLV.out] at hs1 ⊢
              rw [HLV.out] at hL
              exact hL.set_ x.val hs1
            · exact ((HIV.out.low).setCell (p := ⟨g6, 0, none⟩) hG6.1 _).setCell (p := ⟨gp, x.val, none⟩) hG6.2.1 _
            · have := HGBL.out; have := hV.size; simp [World.setCell]; omega
          · have HKB := Lib.hid hkb
            rw [hkb] at HAT
            clear hkb
            go_wp2_with (refine wpList_load_row rfl 95 _ rfl g5 rfl 95 (bys key).toArray (0, 0) _ hbit Tryd.underlying95 rfl HBI.out ?_)
            refine HAT.out.mono ?_
            rintro e w5 ⟨rfl, hB5⟩
            have hBZ := HBW1.out.trans (hB5.mono HBW1.out.size)
            have h10 := H10.out.below hB5 H10.out.lt
            have h11 := H11.out.below hB5 H11.out.lt
            have HH10 := Lib.hid h10; have HH11 := Lib.hid h11
            have HBZ0 := Lib.hid hBZ
            clear hBZ hB5 hbit HAT
            go_wp2
            refine HK3.out _ _ ?_
            refine wpIn_cond_true rfl ?_
            refine wpIn_region_round (by kernel_rfl) (by rintro ⟨a, w, h⟩; exact h) ?_
            have hi10 := dig_info HD1L.out; have hi11 := dig_info HSX.out
            have ha10 := dig_one sb; have ha11 := dig_one d1
            have hs10 := dig_size2 HD1L.out HSX.out; have hs11 := dig_size2 HSX.out HD1L.out
            have hmid : HB (w5.setRow g10 (bys sb).toArray) g11 24 (bys sb) := h11.grown (grownBy_setRow _ _ _) (by intro e; injection e with e; exact HNE1.out e.symm)
            go_wp2_with (first
              | (refine wpList_load_row rfl 24 _ rfl g11 rfl 24 (bys sb).toArray (0, 0) _ h11 Tryd.underlying24 rfl hi11.out ?_)
              | (refine wpList_load_row rfl 24 _ rfl g10 rfl 24 (bys d1).toArray (0, 0) _ h10 Tryd.underlying24 rfl hi10.out ?_)
              | (refine wpList_store_row rfl 24 _ _ rfl g10 (bys sb).toArray rfl rfl 24 _ h10 hi11.out hs10.out ha10.out ?_)
              | (refine wpList_store_row rfl 24 _ _ rfl g11 (bys d1).toArray rfl rfl 24 _ hmid hi10.out hs11.out ha11.out ?_))
            have HZ10 : Hid (HB ((w5.setRow g10 (bys sb).toArray).setRow g11 (bys d1).toArray) g10 24 (bys sb)) := Lib.hid ((HH10.out.row (bys sb).toArray).grown (grownBy_setRow _ _ _) (by intro e; injection e with e; exact HNE1.out e))
            have HZ11 : Hid (HB ((w5.setRow g10 (bys sb).toArray).setRow g11 (bys d1).toArray) g11 24 (bys d1)) := Lib.hid (hmid.row (bys d1).toArray)
            have HBZ : Hid (Below Wy.heap.size Wy ((w5.setRow g10 (bys sb).toArray).setRow g11 (bys d1).toArray)) := Lib.hid (Below.setRow_ (Below.setRow_ HBZ0.out (by have := HG10.out; have := HGY.out; omega) _) (by have := HG11.out; have := HGY.out; omega) _)
            have HBR : Hid (brT (kbit key x.val) d1 sb = tBranch sb d1) := Lib.hid (by rw [HKB.out]; rfl)
            have HDA := HSX; have HDB := HD1L
            clear hmid h10 h11 hi10 hi11 ha10 ha11 hs10 hs11
            generalize (w5.setRow g10 (bys sb).toArray).setRow g11 (bys d1).toArray = Wz at *
            obtain ⟨da, hda⟩ : ∃ d, sb = d := ⟨_, rfl⟩
            obtain ⟨db, hdb⟩ : ∃ d, d1 = d := ⟨_, rfl⟩
            rw [hda] at HZ10 HDA
            rw [hdb] at HZ11 HDB
            have HBR2 : Hid (brT (kbit key x.val) d1 sb = tBranch da db) := Lib.hid (by rw [HBR.out, hda, hdb])
            clear hda hdb
            refine HK2.out _ _ ?_
            refine wpIn_seq_k (fun K4 hK4 => ?_)
            have HK4 := Lib.hid hK4
            clear hK4
            refine wpIn_region_round (by kernel_rfl) (by rintro ⟨a, w, h⟩; exact h) ?_
            have h10 := HZ10.out; have h11 := HZ11.out
            have hi10 := dig_info HDA.out; have hi11 := dig_info HDB.out
            go_wp2_with (first
              | (refine wpList_load_row rfl 24 _ rfl g10 rfl 24 (bys da).toArray (0, 0) _ h10 Tryd.underlying24 rfl hi10.out ?_)
              | (refine wpList_load_row rfl 24 _ rfl g11 rfl 24 (bys db).toArray (0, 0) _ h11 Tryd.underlying24 rfl hi11.out ?_))
            refine (branch_any da db Wz HDA.out HDB.out).mono ?_
            rintro e Wv ⟨v, rfl, hs, hBv⟩
            obtain ⟨Av, cv, rfl, hs1, hs2, hs3, hs4⟩ := hs
            have hBv := HBZ.out.trans (hBv.mono HBZ.out.size)
            have hsl : Slot Wv Wv.heap.size (.slice Av (tBranch da db).length cv) (tBranch da db) := ⟨Av, cv, rfl, hs1, hs2, hs3⟩
            have HIv := HI.out.below hBv
            have h6 := HIN.out.below hBv HIN.out.lt
            have hc6 : Wv.cell? ⟨g6, 0, none⟩ = some (.slice Ai li ci) := by rw [h6.cell]; rfl
            have hf6 := h6.frozen 0
            have HBV := Lib.hid hBv; have HSLV := Lib.hid hsl; have HIV := Lib.hid HIv; have H6 := Lib.hid h6
            obtain ⟨lv, hlv⟩ : ∃ n, n = (tBranch da db).length := ⟨_, rfl⟩
            rw [← hlv] at HSLV ⊢
            have HLV := Lib.hid hlv
            clear hs1 hs2 hs3 hs4 hBv hsl HIv h6 h10 h11 hlv
            go_wp2
            refine HK4.out _ _ ?_
            refine wpIn_region_round (by kernel_rfl) (by rintro ⟨a, w, h⟩; exact h) ?_
            have hn6 : g6 ≠ gp + 1 := by have := HLT.out; omega
            have hn6p : g6 ≠ gp := by have := HLT.out; omega
            have h7 := HIV.out.var.far (p := ⟨g6, 0, none⟩) hn6.symm (.slice Av lv cv)
            have h6' := H6.out.set_ 0 (.slice Av lv cv)
            obtain ⟨vr, hr1, hr2, hr3⟩ := HIV.out.row
            have hrp := hr1.far (p := ⟨g6, 0, none⟩) hn6p.symm (.slice Av lv cv)
            have hxD : x.val < vr.length := by rw [hr2]; have := x.isLt; omega
            obtain ⟨Ar, cr, hv1, -, -, -⟩ := hr3.at_ (k := x.val) (by rw [← hr3.1]; exact hxD)
            have hc7 : (Wv.setCell ⟨g6, 0, none⟩ (.slice Av lv cv)).cell? ⟨gp + 1, 0, none⟩ = some (.slice (some ⟨gp, 0, none⟩) (D + 1) (D + 1)) := by rw [h7.cell]; rfl
            have hc6' : (Wv.setCell ⟨g6, 0, none⟩ (.slice Av lv cv)).cell? ⟨g6, 0, none⟩ = some (.slice Av lv cv) := by rw [h6'.cell]; rfl
            obtain ⟨ur, hur, hus⟩ : ∃ ur, vr[x.val]? = some ur ∧ ∀ k z, ur ≠ Value.int k z := ⟨_, hv1, by intro k z h; cases h⟩
            have hcp : (Wv.setCell ⟨g6, 0, none⟩ (.slice Av lv cv)).cell? ⟨gp, x.val, none⟩ = some ur := by rw [hrp.cell]; exact hur
            have hfp := hrp.frozen x.val
            have hxI : (x.val : Int) < (D : Int) + 1 := by have := x.isLt; omega
            have hxI2 : (x.val : Int) < ((D + 1 : Nat) : Int) := by have := x.isLt; omega
            have hx0 : (0 : Int) ≤ (x.val : Int) := by omega
            have HUS := Lib.hid hus
            have hC6 := Lib.hid hc6; have hCP := Lib.hid hcp; have HRP := Lib.hid hrp; have H7 := Lib.hid h7; have H6' := Lib.hid h6'; have HR3 := Lib.hid hr3; have HR2 := Lib.hid hr2
            clear hr1 hr2 hr3 hrp h7 h6' hv1 hxD hc6 hf6 hus hur
            go_wp2
            show KeepsFrom _ _ _ ∧ KpO _ _ _ _ ∧ _ ∧ _
            have hV : Below Wy.heap.size Wy Wv := HBV.out
            have hwG : w.heap.size ≤ Wy.heap.size := HI.out.low.size
            have hG6 : w.heap.size ≤ g6 ∧ w.heap.size ≤ gp ∧ g5 ≠ g6 ∧ g5 ≠ gp := ⟨by have := HG6.out; have := HQ1.out; omega, by have := HLT.out; omega, HNE.out.symm, by have := HLT.out; omega⟩
            have hgbl : gb ≠ g6 ∧ gb ≠ gp := ⟨by have := HLT.out; have := HSZx.out; have := HZC.out; omega, by have := HLT.out; have := HSZx.out; have := HZC.out; omega⟩
            have hst2 : foldP key T E D (pre ++ [x]) = (tBranch da db, st.2.set x.val (tBranch da db)) := by
              rw [HSN.out]
              show (brT _ _ _, st.2.set _ (brT _ _ _)) = _
              rw [HD1.out, HSB.out, HBR2.out]
            rw [hst2]
            have hs1 : Slot ((Wv.setCell ⟨g6, 0, none⟩ (.slice Av lv cv)).setCell ⟨gp, x.val, none⟩ (.slice Av lv cv)) ((Wv.setCell ⟨g6, 0, none⟩ (.slice Av lv cv)).setCell ⟨gp, x.val, none⟩ (.slice Av lv cv)).heap.size (.slice Av lv cv) (tBranch da db) := by
              refine ((HSLV.out.store hC6.out (by intro k z h; cases h) _).store hCP.out HUS.out _).wide ?_
              simp [World.setCell]
            refine ⟨((keeps_of_below hV).trans ((KeepsOthers.setCell _ _ _).from _)).trans ((KeepsOthers.setCell _ _ _).from _), ⟨((hV.mono hwG).setCell (p := ⟨g6, 0, none⟩) hG6.1 _).setCell (p := ⟨gp, x.val, none⟩) hG6.2.1 _, ?_⟩, ⟨?_, ?_, ?_, ?_, ?_⟩, ?_⟩
            · rw [heap_setCell_other _ _ _ _ hgbl.2, heap_setCell_other _ _ _ _ hgbl.1]
              exact hV.block gb HGBL.out
            · exact (HIV.out.bits.far (p := ⟨g6, 0, none⟩) hG6.2.2.1 _).far (p := ⟨gp, x.val, none⟩) hG6.2.2.2 _
            · exact H7.out.far (p := ⟨gp, x.val, none⟩) (by show gp + 1 ≠ gp; omega) _
            · refine ⟨Av, cv, ?_, ?_⟩
              · show HB _ g6 31 [.slice Av (tBranch da db).length cv]
                rw [← HLV.out]
                exact H6'.out.far (p := ⟨gp, x.val, none⟩) hn6p _
              · show Slot _ _ (.slice Av (tBranch da db).length cv) (tBranch da db)
                rw [← HLV.out]
                exact hs1
            · refine ⟨vr.set x.val (.slice Av lv cv), HRP.out.set_ x.val _, by rw [List.length_set]; exact HR2.out, ?_⟩
              have hL := ((HR3.out.store hC6.out (by intro k z h; cases h) (.slice Av lv cv)).store hCP.out HUS.out (.slice Av lv cv)).wide (B' := ((Wv.setCell ⟨g6, 0, none⟩ (.slice Av lv cv)).setCell ⟨gp, x.val, none⟩ (.slice Av lv cv)).heap.size) (by simp [World.setCell])
              rw [HLV.out] at hs1 ⊢
              rw [HLV.out] at hL
              exact hL.set_ x.val hs1
            · exact ((HIV.out.low).setCell (p := ⟨g6, 0, none⟩) hG6.1 _).setCell (p := ⟨gp, x.val, none⟩) hG6.2.1 _
            · have := HGBL.out; have := hV.size; simp [World.setCell]; omega
      case done =>
        rintro Dd ys Wy hDd rfl ⟨hi, -⟩ hKd
        have hc7 : Wy.cell? ⟨gp + 1, 0, none⟩ = some (.slice (some ⟨gp, 0, none⟩) (D + 1) (D + 1)) := by rw [hi.var.cell]; rfl
        have HI := Lib.hid hi
        have HFL := Lib.hid (foldP_len key T E D (dn D D))
        clear hi
        gi_wp2
        refine ⟨by simp, .inl ⟨_, _, rfl, run_takeDeferred hKd, ?_⟩⟩
        have hk := HI.out.kept (grownBy_putObj' Wy Dd (.deferred none)) (fun r e => by cases e; exact ⟨by have := HBWl.out.size; omega, _, hKd, rfl⟩)
        obtain ⟨vr, hr1, hr2, hr3⟩ := hk.row
        refine ⟨_, results_tmp rfl _ _ _, hk.low, ⟨gp, 0, none⟩, D + 1, vr, by rw [HFL.out]; rfl, by rw [HFL.out]; exact Nat.le_refl _, by have := HDD.out; omega, by rw [HFL.out]; exact hr1.sees _ hr1.lt hr2 (fun j u hu => by rw [Nat.zero_add]; exact hu), hr3⟩
      case stop =>
        rintro Dd c pre Wy _ _ h _
        exact h.elim
end Go.Proofs.YtapbaonlboefeaaDoor
