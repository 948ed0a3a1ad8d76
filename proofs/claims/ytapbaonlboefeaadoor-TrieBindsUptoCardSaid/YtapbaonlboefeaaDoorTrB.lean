/- trie: endPreimage, branchPreimage. WRITTEN BY wip/gen/trb.py. -/
import Derived.Test.YtapbaonlboefeaaDoorTrE
import Derived.Test.YtapbaonlboefeaaDoorOf
import Derived.Test.YtapbaonlboefeaaDoorTrA
import Derived.Outline
namespace Go.Proofs.YtapbaonlboefeaaDoor
open Go.RowKit

def tgLeaf : List UInt8 := [108, 101, 97, 102]
def tgBranch : List UInt8 := [98, 114, 97, 110, 99, 104]
def tgEmpty : List UInt8 := [101, 109, 112, 116, 121]
theorem tLeaf_len (k v : List UInt8) (h : k.length = 32) : (tLeaf k v).length = 68 + v.length := by simp [tLeaf, joinF_len, partsOf, part_len, h]; omega
theorem tBranch_len (a b : List UInt8) (ha : a.length = 32) (hb : b.length = 32) : (tBranch a b).length = 102 := by simp [tBranch, joinF_len, partsOf, part_len, ha, hb]
set_option maxRecDepth 20000 in
theorem build_b5 (W : World) (a b c d e : Int) : (Instr.buildSlice 31 5 #[(0, .int .u8 a), (1, .int .u8 b), (2, .int .u8 c), (3, .int .u8 d), (4, .int .u8 e)]).run Tryd.prog W = .ok (.slice (some ⟨W.heap.size, 0, none⟩) 5 5) (W.alloc (.cells #[.int .u8 a, .int .u8 b, .int .u8 c, .int .u8 d, .int .u8 e] 5)) := by
  obtain ⟨i0, hi, hz0, hz1, hz2⟩ := info_parts Tryd.infoByte
  exact run_buildSlice (P := Tryd.prog) W 31 5 5 _ _ i0 (.int .u8 0) Tryd.underlying31 hi hz0 (by rw [hz1]; decide) (by rw [hz1]; decide) (by rw [hz1]; exact Great.fill_flat [.int .u8 a, .int .u8 b, .int .u8 c, .int .u8 d, .int .u8 e] _ (by simp [Value.cells]) (by simp))
set_option maxRecDepth 20000 in
theorem build_b6 (W : World) (a b c d e f : Int) : (Instr.buildSlice 31 6 #[(0, .int .u8 a), (1, .int .u8 b), (2, .int .u8 c), (3, .int .u8 d), (4, .int .u8 e), (5, .int .u8 f)]).run Tryd.prog W = .ok (.slice (some ⟨W.heap.size, 0, none⟩) 6 6) (W.alloc (.cells #[.int .u8 a, .int .u8 b, .int .u8 c, .int .u8 d, .int .u8 e, .int .u8 f] 5)) := by
  obtain ⟨i0, hi, hz0, hz1, hz2⟩ := info_parts Tryd.infoByte
  exact run_buildSlice (P := Tryd.prog) W 31 5 6 _ _ i0 (.int .u8 0) Tryd.underlying31 hi hz0 (by rw [hz1]; decide) (by rw [hz1]; decide) (by rw [hz1]; exact Great.fill_flat [.int .u8 a, .int .u8 b, .int .u8 c, .int .u8 d, .int .u8 e, .int .u8 f] _ (by simp [Value.cells]) (by simp))
/-- A range of bytes as a slice of all of it. -/
theorem rangeSlot {w : World} {B b o n : Nat} {l : List UInt8} (h : w.rangeAt b o (bys l)) (hb : b < B) (hn : l.length = n) (hm : n ≤ 9223372036854775807) : Slot w B (.slice (some ⟨b, o, none⟩) n n) l := by
  subst hn
  refine ⟨some ⟨b, o, none⟩, l.length, rfl, Nat.le_refl _, hm, by simp [bys_len], ?_⟩
  rcases Nat.eq_zero_or_pos l.length with e | e
  · exact .inl e
  · refine .inr ⟨_, rfl, hb, fun j u hu => ?_⟩
    rcases Nat.eq_zero_or_pos j with rfl | hj
    · rw [add_zero]; exact h 0 u hu
    · rw [add_pos _ _ hj]; exact h j u hu
/-- sha.Join of a literal of slices. -/
theorem join_row {W : World} {b n : Nat} {vs : List Value} {ls : List (List UInt8)} (h : RowK W b 31 vs) (hv : vs.length = ls.length) (hn : ls.length = n) (hl : Lists W W.heap.size vs ls) (hT : (joinF ls).length ≤ 140737488355328) :
    Calls Tryd.prog 43 #[.slice (some ⟨b, 0, none⟩) n n] W (WroteF W (joinF ls)) := by
  subst hn
  exact (join_any W.heap.size (some ⟨b, 0, none⟩) ls.length vs ls W (h.sees hv) hl (Nat.le_refl _) hT).mono fun e w' h => Wrote.toF h
theorem _root_.Go.World.rangeAt.belowT {w w' : World} {B b o : Nat} {cs : List Value} (h : w.rangeAt b o cs) (hB : Below B w w') (hb : b < B) : w'.rangeAt b o cs := fun i u hu => (hB.cell (p := ⟨b, o + i, none⟩) hb).trans (h i u hu)
theorem SlotK.wider {w : World} {B B' : Nat} {v : Value} {l : List UInt8} (h : SlotK (· < B) w v l) (hb : B' ≤ B) : SlotK (· < B') w v l := by
  obtain ⟨A, c, h1, h2, h3, h4, h5⟩ := h
  exact ⟨A, c, h1, h2, h3, h4, fun ad e q => h5 ad e (Nat.lt_of_lt_of_le q hb)⟩
def EndR (G b o n c : Nat) (v0 : Value) (l : List UInt8) : Nat → Value → World → Prop
  | 0, v, w => ∃ b, v = .slice (some ⟨b, 0, none⟩) 4 4 ∧ G ≤ b ∧ RowK w b 5 (bys tgLeaf)
  | 1, v, w => SlotK (· < G) w v tgLeaf
  | 2, v, _ => v = .slice (some ⟨b, o, none⟩) n c
  | 3, v, _ => v = .pointer (some ⟨b, o, none⟩)
  | 4, v, _ => v = .pointer (some ⟨b, o, none⟩)
  | 5, v, _ => v = .slice (some ⟨b, o, none⟩) 32 32
  | 6, v, _ => v = .slice (some ⟨b, o, none⟩) n c
  | 7, v, _ => v = .pointer (some ⟨b, o, none⟩)
  | 8, v, _ => v = .pointer (some ⟨b, o + 32, none⟩)
  | 9, v, _ => v = v0
  | 10, v, w => ∃ b' v1, v = .slice (some ⟨b', 0, none⟩) 3 3 ∧ G ≤ b' ∧ RowK w b' 31 [v1, .slice (some ⟨b, o, none⟩) 32 32, v0] ∧ SlotK (· < G) w v1 tgLeaf
  | 11, v, w => SlotK (· < G) w v l
  | 12, v, w => SlotK (· < G) w v l
  | _, _, _ => True
theorem EndR.keep {G b o n c : Nat} {v0 : Value} {l : List UInt8} : ∀ (j : Nat) {v : Value} {w w' : World}, Keep G (· < G) w w' → EndR G b o n c v0 l j v w → EndR G b o n c v0 l j v w'
  | 0, v, w, _, hk, h => (by obtain ⟨b, h1, h2, h3⟩ := h; exact ⟨b, h1, h2, h3.keep hk (by omega)⟩)
  | 1, v, w, _, hk, h => SlotK.keep (show SlotK (· < G) w v tgLeaf from h) hk
  | 2, _, _, _, _, h => h
  | 3, _, _, _, _, h => h
  | 4, _, _, _, _, h => h
  | 5, _, _, _, _, h => h
  | 6, _, _, _, _, h => h
  | 7, _, _, _, _, h => h
  | 8, _, _, _, _, h => h
  | 9, _, _, _, _, h => h
  | 10, v, w, _, hk, h => (by obtain ⟨b', v1, h1, h2, h3, h4⟩ := h; exact ⟨b', v1, h1, h2, h3.keep hk (by omega), h4.keep hk⟩)
  | 11, v, w, _, hk, h => SlotK.keep (show SlotK (· < G) w v l from h) hk
  | 12, v, w, _, hk, h => SlotK.keep (show SlotK (· < G) w v l from h) hk
  | _ + 13, _, _, _, _, _ => trivial

set_option maxRecDepth 20000 in
set_option maxHeartbeats 1600000 in
theorem end0_any (c : Nat) (A : Option Addr) (w : World) :
    Calls Tryd.prog 45 #[.slice A 0 c] w (WroteF w tEmpty) := by
  have hb5 := build_b5
  have kc := fun (w : World) (C : Array Value) (n c : Nat) => Lib.run_convert_bytes_const (P := Tryd.prog) w 31 5 C n c Tryd.underlying31 Tryd.underlying5
  have hb1 := build_1
  have h1 := below_alloc1 w (.cells #[.int .u8 101, .int .u8 109, .int .u8 112, .int .u8 116, .int .u8 121] 5 (5, 6))
  have hr : RowK (w.alloc (.cells #[.int .u8 101, .int .u8 109, .int .u8 112, .int .u8 116, .int .u8 121] 5 (5, 6))) w.heap.size 5 (bys tgEmpty) := RowK.new w _ (bys tgEmpty) _
  have hz1 : (w.alloc (.cells #[.int .u8 101, .int .u8 109, .int .u8 112, .int .u8 116, .int .u8 121] 5 (5, 6))).heap.size = w.heap.size + 1 := by simp
  generalize hw1 : w.alloc (.cells #[.int .u8 101, .int .u8 109, .int .u8 112, .int .u8 116, .int .u8 121] 5 (5, 6)) = w1 at *
  have hsl := (hr.slot (S := fun _ => False) (fun h => h) (by decide) (n := 5) rfl).slot
  have hl : Lists w1 w1.heap.size [.slice (some ⟨w.heap.size, 0, none⟩) 5 5] [tgEmpty] := Lists.cons hsl (Lists.nothing _ _)
  have hj := Lib.hid (join_lit w1 31 _ _ (w.heap.size + 1) 1 hz1 rfl hl (by decide))
  have hB := h1.alloc h1.size (.cells #[.slice (some ⟨w.heap.size, 0, none⟩) 5 5] 31)
  clear hr hsl hl h1
  go_enter Tryd.func45, Tryd.ntmps45
  go_wp2_with fail
  refine hj.out.mono ?_
  rintro e w3 h
  obtain ⟨v3, rfl, hs3, hB3⟩ := Wrote.toF h
  have hsz := hB.size
  have hfin := hB.trans (hB3.mono hsz)
  have hs := hs3.wider hsz
  clear hj hB hB3 hs3 hw1
  go_wp2
  go_ret
  exact ⟨_, rfl, hs, hfin⟩
set_option maxRecDepth 20000 in
set_option maxHeartbeats 1600000 in
theorem end1_any (w : World) (B : Nat) (hBw : B ≤ w.heap.size) (A : Option Addr) (c : Nat) (vs : List Value) (e : Ent) (r : List Ent) (h : EntsW w B A vs (e :: r)) (hc : (e :: r).length ≤ c) (hcm : c ≤ 9223372036854775807) :
    Calls Tryd.prog 45 #[.slice A (e :: r).length c] w (WroteF w (tLeaf e.1 e.2)) := by
  obtain ⟨b, o, v0, rfl, hb, hrg, hcl, hsl⟩ := h.at_ (i := 0) (by simp)
  simp only [List.getElem_cons_zero] at hsl
  obtain ⟨Av, cv, rfl, hcv1, hcv2, hcv3⟩ := hsl
  have hsl : Slot w B (.slice Av e.2.length cv) e.2 := ⟨Av, cv, rfl, hcv1, hcv2, hcv3⟩
  clear hcv1 hcv2 hcv3
  have hk := h.keys e (by simp)
  have hsh := h.short e (by simp)
  simp only [List.getElem_cons_zero, Nat.zero_mul, Nat.add_zero] at hrg hcl
  generalize hn : (e :: r).length = n at *
  have hn1 : (0 : Int) < (n : Int) := by rw [← hn]; simp only [List.length_cons]; omega
  have hn2 : (n : Int) ≤ 9223372036854775807 := by omega
  have hn3 : ((n : Int) == 0) = false := by simp; omega
  have HN := Lib.hid hn1; have HRG := Lib.hid hrg; have HC := Lib.hid hcl; have HV := Lib.hid hsl; have HKL := Lib.hid hk
  have HBB : Hid (b < w.heap.size) := Lib.hid (Nat.lt_of_lt_of_le hb hBw)
  have HBG := Lib.hid hBw
  have HTL : Hid ((tLeaf e.1 e.2).length ≤ 140737488355328) := Lib.hid (by rw [tLeaf_len _ _ hk]; omega)
  clear h hk hsh hrg hcl hsl hn hb hBw hc hcm
  go_enter Tryd.func45, Tryd.ntmps45
  go_wp2_with fail
  obtain ⟨G, hG⟩ : ∃ G : Nat, w.heap.size = G := ⟨_, rfl⟩
  rw [hG] at HBB HBG
  have HG := Lib.hid hG
  refine wp_region_inv 22 (EndR G b o n c (.slice Av e.2.length cv) (tLeaf e.1 e.2)) (Below G w) (fun _ => Keep G (· < G)) (by kernel_rfl) (by rfl) (by kernel_rfl) (fun i j v W W' _ _ _ hT hR => EndR.keep j hT hR) (fun _ W W' hT hI => hI.trans hT.low) (Below.drew (Below.refl _ _)) (fun j ho1 ho vs W hI hdep => ?_) (fun vs W hI hR => ?_)
  · have hsz : G ≤ W.heap.size := by have := hI.size; omega
    clear hG hn1 hn2 hn3
    rcases j with _ | j
    · simp only [List.getElem?_toArray, List.getElem?_cons_zero, Option.some.injEq] at ho
      subst ho
      have hb5 := build_b4
      refine .inl ⟨rfl, fun K Q hK => ?_⟩
      simp only [putFrom, Act.put, List.setIfInBounds_toArray, List.set_cons_succ, List.set_cons_zero, Nat.reduceAdd] at hK ⊢
      have HOUT := Lib.hid hK
      clear hK hdep
      go_simp
      refine HOUT.out _ _ _ rfl ⟨Keep.alloc hsz _, ?_⟩
      exact ⟨_, rfl, hsz, RowK.new W _ (bys tgLeaf) _⟩
    rcases j with _ | j
    · simp only [List.getElem?_toArray, List.getElem?_cons_succ, List.getElem?_cons_zero, Option.some.injEq, Nat.zero_add] at ho
      subst ho
      obtain ⟨b1, e0, hb1, hr1⟩ := hdep 0 rfl
      have hcv := hr1.conv 4 4
      refine .inl ⟨rfl, fun K Q hK => ?_⟩
      simp only [putFrom, Act.put, List.setIfInBounds_toArray, List.set_cons_succ, List.set_cons_zero, Nat.reduceAdd, e0] at hK ⊢
      have HOUT := Lib.hid hK
      clear hK hdep e0
      go_simp
      refine HOUT.out _ _ _ rfl ⟨Keep.freeze (a := ⟨b1, _, none⟩) (show G ≤ b1 from hb1) (show ¬ (b1 < G) by omega) _, ?_⟩
      exact (hr1.freeze _ _).slot (S := (· < G)) (show ¬ (b1 < G) by omega) (by decide) rfl
    rcases j with _ | j
    · simp only [List.getElem?_toArray, List.getElem?_cons_succ, List.getElem?_cons_zero, Option.some.injEq, Nat.zero_add] at ho
      subst ho
      refine .inl ⟨rfl, fun K Q hK => ?_⟩
      simp only [putFrom, Act.put, List.setIfInBounds_toArray, List.set_cons_succ, List.set_cons_zero, Nat.reduceAdd] at hK ⊢
      have HOUT := Lib.hid hK
      clear hK hdep
      go_simp
      refine HOUT.out _ _ _ rfl ⟨Keep.refl _ _ _, ?_⟩
      exact rfl
    rcases j with _ | j
    · simp only [List.getElem?_toArray, List.getElem?_cons_succ, List.getElem?_cons_zero, Option.some.injEq, Nat.zero_add] at ho
      subst ho
      have e2 : vs 2 = _ := hdep 2 rfl
      have hn1 : 0 < n := by have := HN.out; omega
      refine .inl ⟨rfl, fun K Q hK => ?_⟩
      simp only [putFrom, Act.put, List.setIfInBounds_toArray, List.set_cons_succ, List.set_cons_zero, Nat.reduceAdd, e2] at hK ⊢
      have HOUT := Lib.hid hK
      clear hK hdep e2
      go_simp
      refine HOUT.out _ _ _ rfl ⟨Keep.refl _ _ _, ?_⟩
      exact rfl
    rcases j with _ | j
    · simp only [List.getElem?_toArray, List.getElem?_cons_succ, List.getElem?_cons_zero, Option.some.injEq, Nat.zero_add] at ho
      subst ho
      have e3 : vs 3 = _ := hdep 3 rfl
      refine .inl ⟨rfl, fun K Q hK => ?_⟩
      simp only [putFrom, Act.put, List.setIfInBounds_toArray, List.set_cons_succ, List.set_cons_zero, Nat.reduceAdd, e3] at hK ⊢
      have HOUT := Lib.hid hK
      clear hK hdep e3
      go_simp
      refine HOUT.out _ _ _ rfl ⟨Keep.refl _ _ _, ?_⟩
      exact rfl
    rcases j with _ | j
    · simp only [List.getElem?_toArray, List.getElem?_cons_succ, List.getElem?_cons_zero, Option.some.injEq, Nat.zero_add] at ho
      subst ho
      have e4 : vs 4 = _ := hdep 4 rfl
      refine .inl ⟨rfl, fun K Q hK => ?_⟩
      simp only [putFrom, Act.put, List.setIfInBounds_toArray, List.set_cons_succ, List.set_cons_zero, Nat.reduceAdd, e4] at hK ⊢
      have HOUT := Lib.hid hK
      clear hK hdep e4
      go_simp
      refine HOUT.out _ _ _ rfl ⟨Keep.refl _ _ _, ?_⟩
      exact rfl
    rcases j with _ | j
    · simp only [List.getElem?_toArray, List.getElem?_cons_succ, List.getElem?_cons_zero, Option.some.injEq, Nat.zero_add] at ho
      subst ho
      refine .inl ⟨rfl, fun K Q hK => ?_⟩
      simp only [putFrom, Act.put, List.setIfInBounds_toArray, List.set_cons_succ, List.set_cons_zero, Nat.reduceAdd] at hK ⊢
      have HOUT := Lib.hid hK
      clear hK hdep
      go_simp
      refine HOUT.out _ _ _ rfl ⟨Keep.refl _ _ _, ?_⟩
      exact rfl
    rcases j with _ | j
    · simp only [List.getElem?_toArray, List.getElem?_cons_succ, List.getElem?_cons_zero, Option.some.injEq, Nat.zero_add] at ho
      subst ho
      have e6 : vs 6 = _ := hdep 6 rfl
      have hn1 : 0 < n := by have := HN.out; omega
      refine .inl ⟨rfl, fun K Q hK => ?_⟩
      simp only [putFrom, Act.put, List.setIfInBounds_toArray, List.set_cons_succ, List.set_cons_zero, Nat.reduceAdd, e6] at hK ⊢
      have HOUT := Lib.hid hK
      clear hK hdep e6
      go_simp
      refine HOUT.out _ _ _ rfl ⟨Keep.refl _ _ _, ?_⟩
      exact rfl
    rcases j with _ | j
    · simp only [List.getElem?_toArray, List.getElem?_cons_succ, List.getElem?_cons_zero, Option.some.injEq, Nat.zero_add] at ho
      subst ho
      have e7 : vs 7 = _ := hdep 7 rfl
      refine .inl ⟨rfl, fun K Q hK => ?_⟩
      simp only [putFrom, Act.put, List.setIfInBounds_toArray, List.set_cons_succ, List.set_cons_zero, Nat.reduceAdd, e7] at hK ⊢
      have HOUT := Lib.hid hK
      clear hK hdep e7
      go_simp
      refine HOUT.out _ _ _ rfl ⟨Keep.refl _ _ _, ?_⟩
      exact rfl
    rcases j with _ | j
    · simp only [List.getElem?_toArray, List.getElem?_cons_succ, List.getElem?_cons_zero, Option.some.injEq, Nat.zero_add] at ho
      subst ho
      have e8 : vs 8 = _ := hdep 8 rfl
      have hcv : W.cell? ⟨b, o + 32, none⟩ = some (.slice Av e.2.length cv) := (hI.cell HBB.out).trans HC.out
      refine .inl ⟨rfl, fun K Q hK => ?_⟩
      simp only [putFrom, Act.put, List.setIfInBounds_toArray, List.set_cons_succ, List.set_cons_zero, Nat.reduceAdd, e8] at hK ⊢
      have HOUT := Lib.hid hK
      clear hK hdep e8
      go_simp
      refine HOUT.out _ _ _ rfl ⟨Keep.refl _ _ _, ?_⟩
      exact rfl
    rcases j with _ | j
    · simp only [List.getElem?_toArray, List.getElem?_cons_succ, List.getElem?_cons_zero, Option.some.injEq, Nat.zero_add] at ho
      subst ho
      obtain ⟨A1, c1, e1, a1, b1, s1, d1⟩ := hdep 1 rfl
      have e5 : vs 5 = _ := hdep 5 rfl
      have e9 : vs 9 = _ := hdep 9 rfl
      have hb3 := build_3
      refine .inl ⟨rfl, fun K Q hK => ?_⟩
      simp only [putFrom, Act.put, List.setIfInBounds_toArray, List.set_cons_succ, List.set_cons_zero, Nat.reduceAdd, e1, e5, e9] at hK ⊢
      have HOUT := Lib.hid hK
      clear hK hdep e1 e5 e9
      go_simp
      refine HOUT.out _ _ _ rfl ⟨Keep.alloc hsz _, ?_⟩
      exact ⟨_, _, rfl, hsz, RowK.new W _ [_, _, _] _, SlotK.keep ⟨A1, c1, rfl, a1, b1, s1, d1⟩ (Keep.alloc hsz _)⟩
    rcases j with _ | j
    · simp only [List.getElem?_toArray, List.getElem?_cons_succ, List.getElem?_cons_zero, Option.some.injEq, Nat.zero_add] at ho
      subst ho
      obtain ⟨b2, v1, e10, hb2, hr2, hs2⟩ := hdep 10 rfl
      have hl := Lists.cons hs2.slot (Lists.cons (rangeSlot (HRG.out.belowT hI HBB.out) (Nat.lt_of_lt_of_le HBB.out hsz) HKL.out (by omega)) (Lists.cons (((HV.out.below (hI.mono HBG.out)).wide (Nat.le_trans HBG.out hsz))) (Lists.nothing _ _)))
      have hj := Lib.hid (join_row hr2 rfl rfl hl (HTL.out))
      clear hl hs2 hr2
      refine .inl ⟨rfl, fun K Q hK => ?_⟩
      simp only [putFrom, Act.put, List.setIfInBounds_toArray, List.set_cons_succ, List.set_cons_zero, Nat.reduceAdd, e10] at hK ⊢
      have HOUT := Lib.hid hK
      clear hK hdep e10
      go_simp
      refine hj.out.mono ?_
      rintro e w3 ⟨v3, rfl, hs3, hB3⟩
      go_simp
      refine HOUT.out _ _ _ rfl ⟨Keep.of_below hB3 hsz, ?_⟩
      exact hs3.wider hsz
    rcases j with _ | j
    · simp only [List.getElem?_toArray, List.getElem?_cons_succ, List.getElem?_cons_zero, Option.some.injEq, Nat.zero_add] at ho
      subst ho
      obtain ⟨A11, c11, e11, a11, b11, s11, d11⟩ := hdep 11 rfl
      refine .inl ⟨rfl, fun K Q hK => ?_⟩
      simp only [putFrom, Act.put, List.setIfInBounds_toArray, List.set_cons_succ, List.set_cons_zero, Nat.reduceAdd, e11] at hK ⊢
      have HOUT := Lib.hid hK
      clear hK hdep e11
      go_simp
      refine HOUT.out _ _ _ rfl ⟨Keep.refl _ _ _, ?_⟩
      exact ⟨A11, c11, rfl, a11, b11, s11, d11⟩
    exact absurd ho (by simp)
  · have hfin : SlotK (· < G) W (vs 12) (tLeaf e.1 e.2) := hR 12 (by decide)
    simp only [putFrom, Act.put, List.setIfInBounds_toArray, List.set_cons_succ, List.set_cons_zero, Nat.reduceAdd]
    clear hR
    subst hG
    generalize vs 12 = vx at *
    have hB := hI
    clear hI
    go_wp2
    go_ret
    exact ⟨_, rfl, hfin, hB⟩
def BraR (G x y : Nat) (l : List UInt8) : Nat → Value → World → Prop
  | 0, v, w => ∃ b, v = .slice (some ⟨b, 0, none⟩) 6 6 ∧ G ≤ b ∧ RowK w b 5 (bys tgBranch)
  | 1, v, w => SlotK (· < G) w v tgBranch
  | 2, v, _ => v = .slice (some ⟨x, 0, none⟩) 32 32
  | 3, v, _ => v = .slice (some ⟨y, 0, none⟩) 32 32
  | 4, v, w => ∃ b' v1, v = .slice (some ⟨b', 0, none⟩) 3 3 ∧ G ≤ b' ∧ RowK w b' 31 [v1, .slice (some ⟨x, 0, none⟩) 32 32, .slice (some ⟨y, 0, none⟩) 32 32] ∧ SlotK (· < G) w v1 tgBranch
  | 5, v, w => SlotK (· < G) w v l
  | 6, v, w => SlotK (· < G) w v l
  | _, _, _ => True
theorem BraR.keep {G x y : Nat} {l : List UInt8} : ∀ (j : Nat) {v : Value} {w w' : World}, Keep G (· < G) w w' → BraR G x y l j v w → BraR G x y l j v w'
  | 0, v, w, _, hk, h => (by obtain ⟨b, h1, h2, h3⟩ := h; exact ⟨b, h1, h2, h3.keep hk (by omega)⟩)
  | 1, v, w, _, hk, h => SlotK.keep (show SlotK (· < G) w v tgBranch from h) hk
  | 2, _, _, _, _, h => h
  | 3, _, _, _, _, h => h
  | 4, v, w, _, hk, h => (by obtain ⟨b', v1, h1, h2, h3, h4⟩ := h; exact ⟨b', v1, h1, h2, h3.keep hk (by omega), h4.keep hk⟩)
  | 5, v, w, _, hk, h => SlotK.keep (show SlotK (· < G) w v l from h) hk
  | 6, v, w, _, hk, h => SlotK.keep (show SlotK (· < G) w v l from h) hk
  | _ + 7, _, _, _, _, _ => trivial

set_option maxRecDepth 20000 in
set_option maxHeartbeats 1600000 in
theorem branch_any (a b : List UInt8) (w : World) (ha : a.length = 32) (hb : b.length = 32) :
    Calls Tryd.prog 47 #[.agg (bys a).toArray, .agg (bys b).toArray] w (WroteF w (tBranch a b)) := by
  have hb1 := HB.new w 24 (bys a)
  have hB1 := below_alloc1 w (.cells (bys a).toArray 24)
  have hz1 : (w.alloc (.cells (bys a).toArray 24)).heap.size = w.heap.size + 1 := by simp
  generalize hw1 : w.alloc (.cells (bys a).toArray 24) = w1 at *
  have hb1' := hb1.alloc (.cells (bys b).toArray 24)
  have hb2 := HB.new w1 24 (bys b)
  have hB2 := hB1.alloc (by omega) (.cells (bys b).toArray 24)
  have hz2 : (w1.alloc (.cells (bys b).toArray 24)).heap.size = w.heap.size + 2 := by simp; omega
  rw [hz1] at hb2
  generalize hw2 : w1.alloc (.cells (bys b).toArray 24) = w2 at *
  have HRA := Lib.hid hb1'.rngT; have HRB := Lib.hid hb2.rngT; have HBB := Lib.hid hB2; have HZ := Lib.hid hz2
  have HLA := Lib.hid ha; have HLB := Lib.hid hb
  have HTL : Hid ((tBranch a b).length ≤ 140737488355328) := Lib.hid (by rw [tBranch_len _ _ ha hb]; omega)
  clear hb1 hb1' hb2 hB1 hB2 ha hb
  go_enter Tryd.func47, Tryd.ntmps47
  go_wp2_with fail
  clear hw1 hw2 hz1 hz2
  obtain ⟨G, hG⟩ : ∃ G : Nat, w2.heap.size = G := ⟨_, rfl⟩
  have HXY : Hid (w.heap.size < G ∧ w.heap.size + 1 < G) := Lib.hid (by have := HZ.out; omega)
  have HWG : Hid (w.heap.size ≤ G) := Lib.hid (by have := HZ.out; omega)
  clear HZ
  refine wp_region_inv 11 (BraR G w.heap.size (w.heap.size + 1) (tBranch a b)) (Below G w2) (fun _ => Keep G (· < G)) (by kernel_rfl) (by rfl) (by kernel_rfl) (fun i j v W W' _ _ _ hT hR => BraR.keep j hT hR) (fun _ W W' hT hI => hI.trans hT.low) (Below.drew (Below.refl _ _)) (fun j ho1 ho vs W hI hdep => ?_) (fun vs W hI hR => ?_)
  · have hsz : G ≤ W.heap.size := by have := hI.size; omega
    clear hG
    rcases j with _ | j
    · simp only [List.getElem?_toArray, List.getElem?_cons_zero, Option.some.injEq] at ho
      subst ho
      have hb5 := build_b6
      refine .inl ⟨rfl, fun K Q hK => ?_⟩
      simp only [putFrom, Act.put, List.setIfInBounds_toArray, List.set_cons_succ, List.set_cons_zero, Nat.reduceAdd] at hK ⊢
      have HOUT := Lib.hid hK
      clear hK hdep
      go_simp
      refine HOUT.out _ _ _ rfl ⟨Keep.alloc hsz _, ?_⟩
      exact ⟨_, rfl, hsz, RowK.new W _ (bys tgBranch) _⟩
    rcases j with _ | j
    · simp only [List.getElem?_toArray, List.getElem?_cons_succ, List.getElem?_cons_zero, Option.some.injEq, Nat.zero_add] at ho
      subst ho
      obtain ⟨b1, e0, hb1, hr1⟩ := hdep 0 rfl
      have hcv := hr1.conv 6 6
      refine .inl ⟨rfl, fun K Q hK => ?_⟩
      simp only [putFrom, Act.put, List.setIfInBounds_toArray, List.set_cons_succ, List.set_cons_zero, Nat.reduceAdd, e0] at hK ⊢
      have HOUT := Lib.hid hK
      clear hK hdep e0
      go_simp
      refine HOUT.out _ _ _ rfl ⟨Keep.freeze (a := ⟨b1, _, none⟩) (show G ≤ b1 from hb1) (show ¬ (b1 < G) by omega) _, ?_⟩
      exact (hr1.freeze _ _).slot (S := (· < G)) (show ¬ (b1 < G) by omega) (by decide) rfl
    rcases j with _ | j
    · simp only [List.getElem?_toArray, List.getElem?_cons_succ, List.getElem?_cons_zero, Option.some.injEq, Nat.zero_add] at ho
      subst ho
      refine .inl ⟨rfl, fun K Q hK => ?_⟩
      simp only [putFrom, Act.put, List.setIfInBounds_toArray, List.set_cons_succ, List.set_cons_zero, Nat.reduceAdd] at hK ⊢
      have HOUT := Lib.hid hK
      clear hK hdep
      go_simp
      refine HOUT.out _ _ _ rfl ⟨Keep.refl _ _ _, ?_⟩
      exact rfl
    rcases j with _ | j
    · simp only [List.getElem?_toArray, List.getElem?_cons_succ, List.getElem?_cons_zero, Option.some.injEq, Nat.zero_add] at ho
      subst ho
      refine .inl ⟨rfl, fun K Q hK => ?_⟩
      simp only [putFrom, Act.put, List.setIfInBounds_toArray, List.set_cons_succ, List.set_cons_zero, Nat.reduceAdd] at hK ⊢
      have HOUT := Lib.hid hK
      clear hK hdep
      go_simp
      refine HOUT.out _ _ _ rfl ⟨Keep.refl _ _ _, ?_⟩
      exact rfl
    rcases j with _ | j
    · simp only [List.getElem?_toArray, List.getElem?_cons_succ, List.getElem?_cons_zero, Option.some.injEq, Nat.zero_add] at ho
      subst ho
      obtain ⟨A1, c1, e1, a1, b1, s1, d1⟩ := hdep 1 rfl
      have e2 : vs 2 = _ := hdep 2 rfl
      have e3 : vs 3 = _ := hdep 3 rfl
      have hb3 := build_3
      refine .inl ⟨rfl, fun K Q hK => ?_⟩
      simp only [putFrom, Act.put, List.setIfInBounds_toArray, List.set_cons_succ, List.set_cons_zero, Nat.reduceAdd, e1, e2, e3] at hK ⊢
      have HOUT := Lib.hid hK
      clear hK hdep e1 e2 e3
      go_simp
      refine HOUT.out _ _ _ rfl ⟨Keep.alloc hsz _, ?_⟩
      exact ⟨_, _, rfl, hsz, RowK.new W _ [_, _, _] _, SlotK.keep ⟨A1, c1, rfl, a1, b1, s1, d1⟩ (Keep.alloc hsz _)⟩
    rcases j with _ | j
    · simp only [List.getElem?_toArray, List.getElem?_cons_succ, List.getElem?_cons_zero, Option.some.injEq, Nat.zero_add] at ho
      subst ho
      obtain ⟨b2, v1, e4, hb2, hr2, hs2⟩ := hdep 4 rfl
      have hl := Lists.cons hs2.slot (Lists.cons (rangeSlot (HRA.out.belowT hI HXY.out.1) (Nat.lt_of_lt_of_le HXY.out.1 hsz) HLA.out (by omega)) (Lists.cons (rangeSlot (HRB.out.belowT hI HXY.out.2) (Nat.lt_of_lt_of_le HXY.out.2 hsz) HLB.out (by omega)) (Lists.nothing _ _)))
      have hj := Lib.hid (join_row hr2 rfl rfl hl (HTL.out))
      clear hl hs2 hr2
      refine .inl ⟨rfl, fun K Q hK => ?_⟩
      simp only [putFrom, Act.put, List.setIfInBounds_toArray, List.set_cons_succ, List.set_cons_zero, Nat.reduceAdd, e4] at hK ⊢
      have HOUT := Lib.hid hK
      clear hK hdep e4
      go_simp
      refine hj.out.mono ?_
      rintro e w3 ⟨v3, rfl, hs3, hB3⟩
      go_simp
      refine HOUT.out _ _ _ rfl ⟨Keep.of_below hB3 hsz, ?_⟩
      exact hs3.wider hsz
    rcases j with _ | j
    · simp only [List.getElem?_toArray, List.getElem?_cons_succ, List.getElem?_cons_zero, Option.some.injEq, Nat.zero_add] at ho
      subst ho
      obtain ⟨A5, c5, e5, a5, b5, s5, d5⟩ := hdep 5 rfl
      refine .inl ⟨rfl, fun K Q hK => ?_⟩
      simp only [putFrom, Act.put, List.setIfInBounds_toArray, List.set_cons_succ, List.set_cons_zero, Nat.reduceAdd, e5] at hK ⊢
      have HOUT := Lib.hid hK
      clear hK hdep e5
      go_simp
      refine HOUT.out _ _ _ rfl ⟨Keep.refl _ _ _, ?_⟩
      exact ⟨A5, c5, rfl, a5, b5, s5, d5⟩
    exact absurd ho (by simp)
  · have hfin : SlotK (· < w.heap.size) W (vs 6) (tBranch a b) := SlotK.wider (show SlotK (· < G) W (vs 6) (tBranch a b) from hR 6 (by decide)) HWG.out
    simp only [putFrom, Act.put, List.setIfInBounds_toArray, List.set_cons_succ, List.set_cons_zero, Nat.reduceAdd]
    clear hR
    generalize vs 6 = vx at *
    have hB := HBB.out.trans (hI.mono HWG.out)
    clear hI
    go_wp2
    go_ret
    exact ⟨_, rfl, hfin, hB⟩
end Go.Proofs.YtapbaonlboefeaaDoor
