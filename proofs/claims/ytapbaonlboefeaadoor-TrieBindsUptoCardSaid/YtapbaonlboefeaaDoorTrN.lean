/- trie: trail.encode. WRITTEN BY wip/gen/trn.py. -/
import Derived.Test.YtapbaonlboefeaaDoorTrT
namespace Go.Proofs.YtapbaonlboefeaaDoor
open Go.RowKit

theorem join_none (W : World) : Calls Tryd.prog 43 #[.slice none 0 0] W (WroteF W (joinF [])) :=
  (join_any W.heap.size none 0 [] [] W ⟨by simp, .inl rfl⟩ (Lists.nothing _ _) (Nat.le_refl _) (by decide)).mono fun e w' h => Wrote.toF h
/-- A proof. -/
def encF (T : List UInt8) : List Ent → List UInt8
  | [] => joinF [T, joinF []]
  | e :: _ => joinF [T, joinF [e.1, e.2]]
def Enc0R (G g : Nat) (As : Option Addr) (cs : Nat) (T l : List UInt8) : Nat → Value → World → Prop
  | 0, v, _ => v = .pointer (some ⟨g, 0, none⟩)
  | 1, v, _ => v = .slice As T.length cs
  | 2, v, w => SlotK (· < G) w v (joinF [])
  | 3, v, w => ∃ b' v1, v = .slice (some ⟨b', 0, none⟩) 2 2 ∧ G ≤ b' ∧ RowK w b' 31 [.slice As T.length cs, v1] ∧ SlotK (· < G) w v1 (joinF [])
  | 4, v, w => SlotK (· < G) w v l
  | 5, v, w => SlotK (· < G) w v l
  | _, _, _ => True
theorem Enc0R.keep {G g : Nat} {As : Option Addr} {cs : Nat} {T l : List UInt8} : ∀ (j : Nat) {v : Value} {w w' : World}, Keep G (· < G) w w' → Enc0R G g As cs T l j v w → Enc0R G g As cs T l j v w'
  | 0, _, _, _, _, h => h
  | 1, _, _, _, _, h => h
  | 2, v, w, _, hk, h => SlotK.keep (show SlotK (· < G) w v (joinF []) from h) hk
  | 3, v, w, _, hk, h => (by obtain ⟨b', v1, h1, h2, h3, h4⟩ := h; exact ⟨b', v1, h1, h2, h3.keep hk (by omega), h4.keep hk⟩)
  | 4, v, w, _, hk, h => SlotK.keep (show SlotK (· < G) w v l from h) hk
  | 5, v, w, _, hk, h => SlotK.keep (show SlotK (· < G) w v l from h) hk
  | _ + 6, _, _, _, _, _ => trivial
def Enc1R (G g b o n c : Nat) (As : Option Addr) (cs : Nat) (v0 : Value) (T m l : List UInt8) : Nat → Value → World → Prop
  | 0, v, _ => v = .pointer (some ⟨g, 0, none⟩)
  | 1, v, _ => v = .slice As T.length cs
  | 2, v, _ => v = .pointer (some ⟨g, 1, none⟩)
  | 3, v, _ => v = .slice (some ⟨b, o, none⟩) n c
  | 4, v, _ => v = .pointer (some ⟨b, o, none⟩)
  | 5, v, _ => v = .pointer (some ⟨b, o, none⟩)
  | 6, v, _ => v = .slice (some ⟨b, o, none⟩) 32 32
  | 7, v, _ => v = .pointer (some ⟨g, 1, none⟩)
  | 8, v, _ => v = .slice (some ⟨b, o, none⟩) n c
  | 9, v, _ => v = .pointer (some ⟨b, o, none⟩)
  | 10, v, _ => v = .pointer (some ⟨b, o + 32, none⟩)
  | 11, v, _ => v = v0
  | 12, v, w => ∃ b', v = .slice (some ⟨b', 0, none⟩) 2 2 ∧ G ≤ b' ∧ RowK w b' 31 [.slice (some ⟨b, o, none⟩) 32 32, v0]
  | 13, v, w => SlotK (· < G) w v m
  | 14, v, w => ∃ b' v1, v = .slice (some ⟨b', 0, none⟩) 2 2 ∧ G ≤ b' ∧ RowK w b' 31 [.slice As T.length cs, v1] ∧ SlotK (· < G) w v1 m
  | 15, v, w => SlotK (· < G) w v l
  | 16, v, w => SlotK (· < G) w v l
  | _, _, _ => True
theorem Enc1R.keep {G g b o n c : Nat} {As : Option Addr} {cs : Nat} {v0 : Value} {T m l : List UInt8} : ∀ (j : Nat) {v : Value} {w w' : World}, Keep G (· < G) w w' → Enc1R G g b o n c As cs v0 T m l j v w → Enc1R G g b o n c As cs v0 T m l j v w'
  | 0, _, _, _, _, h => h
  | 1, _, _, _, _, h => h
  | 2, _, _, _, _, h => h
  | 3, _, _, _, _, h => h
  | 4, _, _, _, _, h => h
  | 5, _, _, _, _, h => h
  | 6, _, _, _, _, h => h
  | 7, _, _, _, _, h => h
  | 8, _, _, _, _, h => h
  | 9, _, _, _, _, h => h
  | 10, _, _, _, _, h => h
  | 11, _, _, _, _, h => h
  | 12, v, w, _, hk, h => (by obtain ⟨b', h1, h2, h3⟩ := h; exact ⟨b', h1, h2, h3.keep hk (by omega)⟩)
  | 13, v, w, _, hk, h => SlotK.keep (show SlotK (· < G) w v m from h) hk
  | 14, v, w, _, hk, h => (by obtain ⟨b', v1, h1, h2, h3, h4⟩ := h; exact ⟨b', v1, h1, h2, h3.keep hk (by omega), h4.keep hk⟩)
  | 15, v, w, _, hk, h => SlotK.keep (show SlotK (· < G) w v l from h) hk
  | 16, v, w, _, hk, h => SlotK.keep (show SlotK (· < G) w v l from h) hk
  | _ + 17, _, _, _, _, _ => trivial
set_option maxRecDepth 20000 in
set_option maxHeartbeats 1600000 in
theorem enc0_any (w : World) (As : Option Addr) (cs c : Nat) (A : Option Addr) (T : List UInt8) (hS : Slot w w.heap.size (.slice As T.length cs) T) (hT : T.length ≤ 8192) :
    Calls Tryd.prog 28 #[.agg #[.slice As T.length cs, .slice A 0 c]] w (WroteF w (joinF [T, joinF []])) := by
  have HTL : Hid ((joinF [T, joinF []]).length ≤ 140737488355328) := Lib.hid (by simp [joinF_len, partsOf, part_len]; omega)
  have hb1 := HB.new w 62 [.slice As T.length cs, .slice A 0 c]
  have hB1 := below_alloc1 w (.cells #[.slice As T.length cs, .slice A 0 c] 62)
  have hq1 : (w.alloc (.cells #[.slice As T.length cs, .slice A 0 c] 62)).heap.size = w.heap.size + 1 := by simp
  generalize hw1 : w.alloc (.cells #[.slice As T.length cs, .slice A 0 c] 62) = w1 at *
  obtain ⟨G, hG⟩ : ∃ G : Nat, w1.heap.size = G := ⟨_, rfl⟩
  have HGB : Hid (w.heap.size < G) := Lib.hid (by omega)
  have HGW : Hid (w.heap.size ≤ G) := Lib.hid (by omega)
  have HC0 : Hid (w1.cell? ⟨w.heap.size, 0, none⟩ = some (.slice As T.length cs)) := Lib.hid (by rw [hb1.cell]; rfl)
  have HC1 : Hid (w1.cell? ⟨w.heap.size, 1, none⟩ = some (.slice A 0 c)) := Lib.hid (by rw [hb1.cell]; rfl)
  have HS : Hid (Slot w1 G (.slice As T.length cs) T) := Lib.hid ((hS.below (hB1.mono (Nat.le_refl _))).wide (by omega))
  have HB1 := Lib.hid hB1
  have hc1 := HC1.out
  have hh1 : w1.heap.size = G := hG
  clear hS hT hb1 hB1 hq1
  go_enter Tryd.func28, Tryd.ntmps28
  go_wp2_with fail
  refine wp_region_inv 28 (Enc0R G w.heap.size As cs T (joinF [T, joinF []])) (Below G w1) (fun _ => Keep G (· < G)) (by kernel_rfl) (by rfl) (by kernel_rfl) (fun i j v W W' _ _ _ hT hR => Enc0R.keep j hT hR) (fun _ W W' hT hI => hI.trans hT.low) (Below.drew (Below.refl _ _)) (fun j ho1 ho vs W hI hdep => ?_) (fun vs W hI hR => ?_)
  · have hsz : G ≤ W.heap.size := by have := hI.size; omega
    clear hG hh1 hw1 hc1
    rcases j with _ | j
    · simp only [List.getElem?_toArray, List.getElem?_cons_zero, Option.some.injEq] at ho
      subst ho
      refine .inl ⟨rfl, fun K Q hK => ?_⟩
      simp only [putFrom, Act.put, List.setIfInBounds_toArray, List.set_cons_succ, List.set_cons_zero, Nat.reduceAdd] at hK ⊢
      have HOUT := Lib.hid hK
      clear hK hdep
      go_simp
      refine HOUT.out _ _ _ rfl ⟨Keep.refl _ _ _, ?_⟩
      exact rfl
    rcases j with _ | j
    · simp only [List.getElem?_toArray, List.getElem?_cons_succ, List.getElem?_cons_zero, Option.some.injEq, Nat.zero_add] at ho
      subst ho
      have e0 : vs 0 = _ := hdep 0 rfl
      have hc0 : W.cell? ⟨w.heap.size, 0, none⟩ = some (.slice As T.length cs) := (hI.cell HGB.out).trans HC0.out
      refine .inl ⟨rfl, fun K Q hK => ?_⟩
      simp only [putFrom, Act.put, List.setIfInBounds_toArray, List.set_cons_succ, List.set_cons_zero, Nat.reduceAdd, e0] at hK ⊢
      have HOUT := Lib.hid hK
      clear hK hdep e0
      go_simp
      refine HOUT.out _ _ _ rfl ⟨Keep.refl _ _ _, ?_⟩
      exact rfl
    rcases j with _ | j
    · simp only [List.getElem?_toArray, List.getElem?_cons_succ, List.getElem?_cons_zero, Option.some.injEq, Nat.zero_add] at ho
      subst ho
      refine .inl ⟨rfl, fun K Q hK => ?_⟩
      simp only [putFrom, Act.put, List.setIfInBounds_toArray, List.set_cons_succ, List.set_cons_zero, Nat.reduceAdd] at hK ⊢
      have HOUT := Lib.hid hK
      clear hK hdep
      go_simp
      refine (join_none W).mono ?_
      rintro e w3 ⟨v3, rfl, hs3, hB3⟩
      go_simp
      refine HOUT.out _ _ _ rfl ⟨Keep.of_below hB3 hsz, ?_⟩
      exact hs3.wider hsz
    rcases j with _ | j
    · simp only [List.getElem?_toArray, List.getElem?_cons_succ, List.getElem?_cons_zero, Option.some.injEq, Nat.zero_add] at ho
      subst ho
      obtain ⟨A1, c1, e2, a1, b1, s1, d1⟩ := hdep 2 rfl
      have e1 : vs 1 = _ := hdep 1 rfl
      have hb2 := build_2
      refine .inl ⟨rfl, fun K Q hK => ?_⟩
      simp only [putFrom, Act.put, List.setIfInBounds_toArray, List.set_cons_succ, List.set_cons_zero, Nat.reduceAdd, e1, e2] at hK ⊢
      have HOUT := Lib.hid hK
      clear hK hdep e1 e2
      go_simp
      refine HOUT.out _ _ _ rfl ⟨Keep.alloc hsz _, ?_⟩
      exact ⟨_, _, rfl, hsz, RowK.new W _ [_, _] _, SlotK.keep ⟨A1, c1, rfl, a1, b1, s1, d1⟩ (Keep.alloc hsz _)⟩
    rcases j with _ | j
    · simp only [List.getElem?_toArray, List.getElem?_cons_succ, List.getElem?_cons_zero, Option.some.injEq, Nat.zero_add] at ho
      subst ho
      obtain ⟨b2, v1, e3, hb2, hr2, hs2⟩ := hdep 3 rfl
      have hl := Lists.cons ((HS.out.below hI).wide hsz) (Lists.cons hs2.slot (Lists.nothing _ _))
      have hj := Lib.hid (join_row hr2 rfl rfl hl HTL.out)
      clear hl hs2 hr2
      refine .inl ⟨rfl, fun K Q hK => ?_⟩
      simp only [putFrom, Act.put, List.setIfInBounds_toArray, List.set_cons_succ, List.set_cons_zero, Nat.reduceAdd, e3] at hK ⊢
      have HOUT := Lib.hid hK
      clear hK hdep e3
      go_simp
      refine hj.out.mono ?_
      rintro e w3 ⟨v3, rfl, hs3, hB3⟩
      go_simp
      refine HOUT.out _ _ _ rfl ⟨Keep.of_below hB3 hsz, ?_⟩
      exact hs3.wider hsz
    rcases j with _ | j
    · simp only [List.getElem?_toArray, List.getElem?_cons_succ, List.getElem?_cons_zero, Option.some.injEq, Nat.zero_add] at ho
      subst ho
      obtain ⟨A11, c11, e4, a11, b11, s11, d11⟩ := hdep 4 rfl
      refine .inl ⟨rfl, fun K Q hK => ?_⟩
      simp only [putFrom, Act.put, List.setIfInBounds_toArray, List.set_cons_succ, List.set_cons_zero, Nat.reduceAdd, e4] at hK ⊢
      have HOUT := Lib.hid hK
      clear hK hdep e4
      go_simp
      refine HOUT.out _ _ _ rfl ⟨Keep.refl _ _ _, ?_⟩
      exact ⟨A11, c11, rfl, a11, b11, s11, d11⟩
    exact absurd ho (by simp)
  · have hfin : SlotK (· < G) W (vs 5) (joinF [T, joinF []]) := hR 5 (by decide)
    have hB := HB1.out.trans (hI.mono HGW.out)
    have hf2 := hfin.wider HGW.out
    simp only [putFrom, Act.put, List.setIfInBounds_toArray, List.set_cons_succ, List.set_cons_zero, Nat.reduceAdd]
    clear hR hI hfin
    generalize vs 5 = vx at *
    go_wp2
    go_ret
    exact ⟨_, rfl, hf2, hB⟩
set_option maxRecDepth 20000 in
set_option maxHeartbeats 1600000 in
theorem enc1_any (w : World) (As : Option Addr) (cs : Nat) (T : List UInt8) (hS : Slot w w.heap.size (.slice As T.length cs) T) (hT : T.length ≤ 8192) (B : Nat) (hBw : B ≤ w.heap.size) (A : Option Addr) (c : Nat) (vs : List Value) (e : Ent) (r : List Ent) (h : EntsW w B A vs (e :: r)) (hc : (e :: r).length ≤ c) (hcm : c ≤ 9223372036854775807) :
    Calls Tryd.prog 28 #[.agg #[.slice As T.length cs, .slice A (e :: r).length c]] w (WroteF w (joinF [T, joinF [e.1, e.2]])) := by
  obtain ⟨b, o, v0, rfl, hb, hrg, hcl, hsl⟩ := h.at_ (i := 0) (by simp)
  simp only [List.getElem_cons_zero] at hsl
  obtain ⟨Av, cv, rfl, hcv1, hcv2, hcv3⟩ := hsl
  have hsl : Slot w B (.slice Av e.2.length cv) e.2 := ⟨Av, cv, rfl, hcv1, hcv2, hcv3⟩
  clear hcv1 hcv2 hcv3
  have hk := h.keys e (by simp)
  have hsh := h.short e (by simp)
  simp only [List.getElem_cons_zero, Nat.zero_mul, Nat.add_zero] at hrg hcl
  generalize hn : (e :: r).length = n at *
  have hn1 : (0 : Int) < (n : Int) := by rw [← hn]; simp only [List.length_cons]; omega
  have hn2 : (n : Int) ≤ 9223372036854775807 := by omega
  have hn3 : ((n : Int) == 0) = false := by simp; omega
  have HTM : Hid ((joinF [e.1, e.2]).length ≤ 140737488355328) := Lib.hid (by simp [joinF_len, partsOf, part_len, hk]; omega)
  have HTL : Hid ((joinF [T, joinF [e.1, e.2]]).length ≤ 140737488355328) := Lib.hid (by simp [joinF_len, partsOf, part_len, hk]; omega)
  have hb1 := HB.new w 62 [.slice As T.length cs, .slice (some ⟨b, o, none⟩) n c]
  have hB1 := below_alloc1 w (.cells #[.slice As T.length cs, .slice (some ⟨b, o, none⟩) n c] 62)
  have hq1 : (w.alloc (.cells #[.slice As T.length cs, .slice (some ⟨b, o, none⟩) n c] 62)).heap.size = w.heap.size + 1 := by simp
  generalize hw1 : w.alloc (.cells #[.slice As T.length cs, .slice (some ⟨b, o, none⟩) n c] 62) = w1 at *
  obtain ⟨G, hG⟩ : ∃ G : Nat, w1.heap.size = G := ⟨_, rfl⟩
  have HGB : Hid (w.heap.size < G) := Lib.hid (by omega)
  have HGW : Hid (w.heap.size ≤ G) := Lib.hid (by omega)
  have HC0 : Hid (w1.cell? ⟨w.heap.size, 0, none⟩ = some (.slice As T.length cs)) := Lib.hid (by rw [hb1.cell]; rfl)
  have HC1 : Hid (w1.cell? ⟨w.heap.size, 1, none⟩ = some (.slice (some ⟨b, o, none⟩) n c)) := Lib.hid (by rw [hb1.cell]; rfl)
  have HS : Hid (Slot w1 G (.slice As T.length cs) T) := Lib.hid ((hS.below (hB1.mono (Nat.le_refl _))).wide (by omega))
  have HB1 := Lib.hid hB1
  have hc1 := HC1.out
  have hh1 : w1.heap.size = G := hG
  have HN := Lib.hid hn1; have HKL := Lib.hid hk
  have HBB : Hid (b < G) := Lib.hid (by have := hb; omega)
  have HRG := Lib.hid (hrg.belowT hB1 (Nat.lt_of_lt_of_le hb hBw))
  have HC : Hid (w1.cell? ⟨b, o + 32, none⟩ = _) := Lib.hid ((hB1.cell (p := ⟨b, o + 32, none⟩) (Nat.lt_of_lt_of_le hb hBw)).trans hcl)
  have HV := Lib.hid (hsl.below (hB1.mono hBw))
  have HBG : Hid (B ≤ G) := Lib.hid (by omega)
  clear hS hT hb1 hB1 hq1 h hk hsh hrg hcl hsl hn hb hBw hc hcm
  go_enter Tryd.func28, Tryd.ntmps28
  go_wp2_with fail
  refine wp_region_inv 28 (Enc1R G w.heap.size b o n c As cs (.slice Av e.2.length cv) T (joinF [e.1, e.2]) (joinF [T, joinF [e.1, e.2]])) (Below G w1) (fun _ => Keep G (· < G)) (by kernel_rfl) (by rfl) (by kernel_rfl) (fun i j v W W' _ _ _ hT hR => Enc1R.keep j hT hR) (fun _ W W' hT hI => hI.trans hT.low) (Below.drew (Below.refl _ _)) (fun j ho1 ho vs W hI hdep => ?_) (fun vs W hI hR => ?_)
  · have hsz : G ≤ W.heap.size := by have := hI.size; omega
    clear hG hh1 hw1 hc1 hn1 hn2 hn3
    rcases j with _ | j
    · simp only [List.getElem?_toArray, List.getElem?_cons_zero, Option.some.injEq] at ho
      subst ho
      refine .inl ⟨rfl, fun K Q hK => ?_⟩
      simp only [putFrom, Act.put, List.setIfInBounds_toArray, List.set_cons_succ, List.set_cons_zero, Nat.reduceAdd] at hK ⊢
      have HOUT := Lib.hid hK
      clear hK hdep
      go_simp
      refine HOUT.out _ _ _ rfl ⟨Keep.refl _ _ _, ?_⟩
      exact rfl
    rcases j with _ | j
    · simp only [List.getElem?_toArray, List.getElem?_cons_succ, List.getElem?_cons_zero, Option.some.injEq, Nat.zero_add] at ho
      subst ho
      have e0 : vs 0 = _ := hdep 0 rfl
      have hc0 : W.cell? ⟨w.heap.size, 0, none⟩ = some (.slice As T.length cs) := (hI.cell HGB.out).trans HC0.out
      refine .inl ⟨rfl, fun K Q hK => ?_⟩
      simp only [putFrom, Act.put, List.setIfInBounds_toArray, List.set_cons_succ, List.set_cons_zero, Nat.reduceAdd, e0] at hK ⊢
      have HOUT := Lib.hid hK
      clear hK hdep e0
      go_simp
      refine HOUT.out _ _ _ rfl ⟨Keep.refl _ _ _, ?_⟩
      exact rfl
    rcases j with _ | j
    · simp only [List.getElem?_toArray, List.getElem?_cons_succ, List.getElem?_cons_zero, Option.some.injEq, Nat.zero_add] at ho
      subst ho
      refine .inl ⟨rfl, fun K Q hK => ?_⟩
      simp only [putFrom, Act.put, List.setIfInBounds_toArray, List.set_cons_succ, List.set_cons_zero, Nat.reduceAdd] at hK ⊢
      have HOUT := Lib.hid hK
      clear hK hdep
      go_simp
      refine HOUT.out _ _ _ rfl ⟨Keep.refl _ _ _, ?_⟩
      exact rfl
    rcases j with _ | j
    · simp only [List.getElem?_toArray, List.getElem?_cons_succ, List.getElem?_cons_zero, Option.some.injEq, Nat.zero_add] at ho
      subst ho
      have e2 : vs 2 = _ := hdep 2 rfl
      have hc1 : W.cell? ⟨w.heap.size, 1, none⟩ = some (.slice (some ⟨b, o, none⟩) n c) := (hI.cell HGB.out).trans HC1.out
      refine .inl ⟨rfl, fun K Q hK => ?_⟩
      simp only [putFrom, Act.put, List.setIfInBounds_toArray, List.set_cons_succ, List.set_cons_zero, Nat.reduceAdd, e2] at hK ⊢
      have HOUT := Lib.hid hK
      clear hK hdep e2
      go_simp
      refine HOUT.out _ _ _ rfl ⟨Keep.refl _ _ _, ?_⟩
      exact rfl
    rcases j with _ | j
    · simp only [List.getElem?_toArray, List.getElem?_cons_succ, List.getElem?_cons_zero, Option.some.injEq, Nat.zero_add] at ho
      subst ho
      have e3 : vs 3 = _ := hdep 3 rfl
      have hn1 : 0 < n := by have := HN.out; omega
      refine .inl ⟨rfl, fun K Q hK => ?_⟩
      simp only [putFrom, Act.put, List.setIfInBounds_toArray, List.set_cons_succ, List.set_cons_zero, Nat.reduceAdd, e3] at hK ⊢
      have HOUT := Lib.hid hK
      clear hK hdep e3
      go_simp
      refine HOUT.out _ _ _ rfl ⟨Keep.refl _ _ _, ?_⟩
      exact rfl
    rcases j with _ | j
    · simp only [List.getElem?_toArray, List.getElem?_cons_succ, List.getElem?_cons_zero, Option.some.injEq, Nat.zero_add] at ho
      subst ho
      have e4 : vs 4 = _ := hdep 4 rfl
      refine .inl ⟨rfl, fun K Q hK => ?_⟩
      simp only [putFrom, Act.put, List.setIfInBounds_toArray, List.set_cons_succ, List.set_cons_zero, Nat.reduceAdd, e4] at hK ⊢
      have HOUT := Lib.hid hK
      clear hK hdep e4
      go_simp
      refine HOUT.out _ _ _ rfl ⟨Keep.refl _ _ _, ?_⟩
      exact rfl
    rcases j with _ | j
    · simp only [List.getElem?_toArray, List.getElem?_cons_succ, List.getElem?_cons_zero, Option.some.injEq, Nat.zero_add] at ho
      subst ho
      have e5 : vs 5 = _ := hdep 5 rfl
      refine .inl ⟨rfl, fun K Q hK => ?_⟩
      simp only [putFrom, Act.put, List.setIfInBounds_toArray, List.set_cons_succ, List.set_cons_zero, Nat.reduceAdd, e5] at hK ⊢
      have HOUT := Lib.hid hK
      clear hK hdep e5
      go_simp
      refine HOUT.out _ _ _ rfl ⟨Keep.refl _ _ _, ?_⟩
      exact rfl
    rcases j with _ | j
    · simp only [List.getElem?_toArray, List.getElem?_cons_succ, List.getElem?_cons_zero, Option.some.injEq, Nat.zero_add] at ho
      subst ho
      refine .inl ⟨rfl, fun K Q hK => ?_⟩
      simp only [putFrom, Act.put, List.setIfInBounds_toArray, List.set_cons_succ, List.set_cons_zero, Nat.reduceAdd] at hK ⊢
      have HOUT := Lib.hid hK
      clear hK hdep
      go_simp
      refine HOUT.out _ _ _ rfl ⟨Keep.refl _ _ _, ?_⟩
      exact rfl
    rcases j with _ | j
    · simp only [List.getElem?_toArray, List.getElem?_cons_succ, List.getElem?_cons_zero, Option.some.injEq, Nat.zero_add] at ho
      subst ho
      have e7 : vs 7 = _ := hdep 7 rfl
      have hc1 : W.cell? ⟨w.heap.size, 1, none⟩ = some (.slice (some ⟨b, o, none⟩) n c) := (hI.cell HGB.out).trans HC1.out
      refine .inl ⟨rfl, fun K Q hK => ?_⟩
      simp only [putFrom, Act.put, List.setIfInBounds_toArray, List.set_cons_succ, List.set_cons_zero, Nat.reduceAdd, e7] at hK ⊢
      have HOUT := Lib.hid hK
      clear hK hdep e7
      go_simp
      refine HOUT.out _ _ _ rfl ⟨Keep.refl _ _ _, ?_⟩
      exact rfl
    rcases j with _ | j
    · simp only [List.getElem?_toArray, List.getElem?_cons_succ, List.getElem?_cons_zero, Option.some.injEq, Nat.zero_add] at ho
      subst ho
      have e8 : vs 8 = _ := hdep 8 rfl
      have hn1 : 0 < n := by have := HN.out; omega
      refine .inl ⟨rfl, fun K Q hK => ?_⟩
      simp only [putFrom, Act.put, List.setIfInBounds_toArray, List.set_cons_succ, List.set_cons_zero, Nat.reduceAdd, e8] at hK ⊢
      have HOUT := Lib.hid hK
      clear hK hdep e8
      go_simp
      refine HOUT.out _ _ _ rfl ⟨Keep.refl _ _ _, ?_⟩
      exact rfl
    rcases j with _ | j
    · simp only [List.getElem?_toArray, List.getElem?_cons_succ, List.getElem?_cons_zero, Option.some.injEq, Nat.zero_add] at ho
      subst ho
      have e9 : vs 9 = _ := hdep 9 rfl
      refine .inl ⟨rfl, fun K Q hK => ?_⟩
      simp only [putFrom, Act.put, List.setIfInBounds_toArray, List.set_cons_succ, List.set_cons_zero, Nat.reduceAdd, e9] at hK ⊢
      have HOUT := Lib.hid hK
      clear hK hdep e9
      go_simp
      refine HOUT.out _ _ _ rfl ⟨Keep.refl _ _ _, ?_⟩
      exact rfl
    rcases j with _ | j
    · simp only [List.getElem?_toArray, List.getElem?_cons_succ, List.getElem?_cons_zero, Option.some.injEq, Nat.zero_add] at ho
      subst ho
      have e10 : vs 10 = _ := hdep 10 rfl
      have hcv : W.cell? ⟨b, o + 32, none⟩ = some (.slice Av e.2.length cv) := (hI.cell HBB.out).trans HC.out
      refine .inl ⟨rfl, fun K Q hK => ?_⟩
      simp only [putFrom, Act.put, List.setIfInBounds_toArray, List.set_cons_succ, List.set_cons_zero, Nat.reduceAdd, e10] at hK ⊢
      have HOUT := Lib.hid hK
      clear hK hdep e10
      go_simp
      refine HOUT.out _ _ _ rfl ⟨Keep.refl _ _ _, ?_⟩
      exact rfl
    rcases j with _ | j
    · simp only [List.getElem?_toArray, List.getElem?_cons_succ, List.getElem?_cons_zero, Option.some.injEq, Nat.zero_add] at ho
      subst ho
      have e6 : vs 6 = _ := hdep 6 rfl
      have e11 : vs 11 = _ := hdep 11 rfl
      have hb2 := build_2
      refine .inl ⟨rfl, fun K Q hK => ?_⟩
      simp only [putFrom, Act.put, List.setIfInBounds_toArray, List.set_cons_succ, List.set_cons_zero, Nat.reduceAdd, e6, e11] at hK ⊢
      have HOUT := Lib.hid hK
      clear hK hdep e6 e11
      go_simp
      refine HOUT.out _ _ _ rfl ⟨Keep.alloc hsz _, ?_⟩
      exact ⟨_, rfl, hsz, RowK.new W _ [_, _] _⟩
    rcases j with _ | j
    · simp only [List.getElem?_toArray, List.getElem?_cons_succ, List.getElem?_cons_zero, Option.some.injEq, Nat.zero_add] at ho
      subst ho
      obtain ⟨b2, e12, hb2, hr2⟩ := hdep 12 rfl
      have hl := Lists.cons (rangeSlot (HRG.out.belowT hI HBB.out) (Nat.lt_of_lt_of_le HBB.out hsz) HKL.out (by omega)) (Lists.cons ((HV.out.below (hI.mono HBG.out)).wide (Nat.le_trans HBG.out hsz)) (Lists.nothing _ _))
      have hj := Lib.hid (join_row hr2 rfl rfl hl HTM.out)
      clear hl hr2
      refine .inl ⟨rfl, fun K Q hK => ?_⟩
      simp only [putFrom, Act.put, List.setIfInBounds_toArray, List.set_cons_succ, List.set_cons_zero, Nat.reduceAdd, e12] at hK ⊢
      have HOUT := Lib.hid hK
      clear hK hdep e12
      go_simp
      refine hj.out.mono ?_
      rintro e w3 ⟨v3, rfl, hs3, hB3⟩
      go_simp
      refine HOUT.out _ _ _ rfl ⟨Keep.of_below hB3 hsz, ?_⟩
      exact hs3.wider hsz
    rcases j with _ | j
    · simp only [List.getElem?_toArray, List.getElem?_cons_succ, List.getElem?_cons_zero, Option.some.injEq, Nat.zero_add] at ho
      subst ho
      obtain ⟨A1, c1, e13, a1, b1, s1, d1⟩ := hdep 13 rfl
      have e1 : vs 1 = _ := hdep 1 rfl
      have hb2 := build_2
      refine .inl ⟨rfl, fun K Q hK => ?_⟩
      simp only [putFrom, Act.put, List.setIfInBounds_toArray, List.set_cons_succ, List.set_cons_zero, Nat.reduceAdd, e1, e13] at hK ⊢
      have HOUT := Lib.hid hK
      clear hK hdep e1 e13
      go_simp
      refine HOUT.out _ _ _ rfl ⟨Keep.alloc hsz _, ?_⟩
      exact ⟨_, _, rfl, hsz, RowK.new W _ [_, _] _, SlotK.keep ⟨A1, c1, rfl, a1, b1, s1, d1⟩ (Keep.alloc hsz _)⟩
    rcases j with _ | j
    · simp only [List.getElem?_toArray, List.getElem?_cons_succ, List.getElem?_cons_zero, Option.some.injEq, Nat.zero_add] at ho
      subst ho
      obtain ⟨b2, v1, e14, hb2, hr2, hs2⟩ := hdep 14 rfl
      have hl := Lists.cons ((HS.out.below hI).wide hsz) (Lists.cons hs2.slot (Lists.nothing _ _))
      have hj := Lib.hid (join_row hr2 rfl rfl hl HTL.out)
      clear hl hs2 hr2
      refine .inl ⟨rfl, fun K Q hK => ?_⟩
      simp only [putFrom, Act.put, List.setIfInBounds_toArray, List.set_cons_succ, List.set_cons_zero, Nat.reduceAdd, e14] at hK ⊢
      have HOUT := Lib.hid hK
      clear hK hdep e14
      go_simp
      refine hj.out.mono ?_
      rintro e w3 ⟨v3, rfl, hs3, hB3⟩
      go_simp
      refine HOUT.out _ _ _ rfl ⟨Keep.of_below hB3 hsz, ?_⟩
      exact hs3.wider hsz
    rcases j with _ | j
    · simp only [List.getElem?_toArray, List.getElem?_cons_succ, List.getElem?_cons_zero, Option.some.injEq, Nat.zero_add] at ho
      subst ho
      obtain ⟨A11, c11, e15, a11, b11, s11, d11⟩ := hdep 15 rfl
      refine .inl ⟨rfl, fun K Q hK => ?_⟩
      simp only [putFrom, Act.put, List.setIfInBounds_toArray, List.set_cons_succ, List.set_cons_zero, Nat.reduceAdd, e15] at hK ⊢
      have HOUT := Lib.hid hK
      clear hK hdep e15
      go_simp
      refine HOUT.out _ _ _ rfl ⟨Keep.refl _ _ _, ?_⟩
      exact ⟨A11, c11, rfl, a11, b11, s11, d11⟩
    exact absurd ho (by simp)
  · have hfin : SlotK (· < G) W (vs 16) (joinF [T, joinF [e.1, e.2]]) := hR 16 (by decide)
    have hB := HB1.out.trans (hI.mono HGW.out)
    have hf2 := hfin.wider HGW.out
    simp only [putFrom, Act.put, List.setIfInBounds_toArray, List.set_cons_succ, List.set_cons_zero, Nat.reduceAdd]
    clear hR hI hfin
    generalize vs 16 = vx at *
    go_wp2
    go_ret
    exact ⟨_, rfl, hf2, hB⟩
theorem enc_any (w : World) (v : Value) (T : List UInt8) (hS : Slot w w.heap.size v T) (hT : T.length ≤ 8192) (B : Nat) (hBw : B ≤ w.heap.size) (A : Option Addr) (c : Nat) (vs : List Value) (E : List Ent) (h : EntsW w B A vs E) (hc : E.length ≤ c) (hcm : c ≤ 9223372036854775807) :
    Calls Tryd.prog 28 #[.agg #[v, .slice A E.length c]] w (WroteF w (encF T E)) := by
  obtain ⟨As, cs, rfl, h1, h2, h3⟩ := hS
  match E, h, hc with
  | [], _, _ => exact enc0_any w As cs c A T ⟨As, cs, rfl, h1, h2, h3⟩ hT
  | e :: r, h, hc => exact enc1_any w As cs T ⟨As, cs, rfl, h1, h2, h3⟩ hT B hBw A c vs e r h hc hcm
/-- Prove's answer for a valid map. -/
def proofT (L : List Ent) (key : List UInt8) : List UInt8 := encF (sibT key 256 L).flatten (endT key 256 L)
set_option maxRecDepth 20000 in
set_option maxHeartbeats 1600000 in
theorem prove_any (w : World) (B c : Nat) (hBw : B ≤ w.heap.size) (A : Option Addr) (vs : List Value) (L : List Ent) (h : EntsW w B A vs L) (hm : MayP L) (hc : L.length ≤ c) (hcm : c ≤ 9223372036854775807) (hn : L.length ≤ 4611686018427387904) (hk : Consts w) (key : List UInt8) (hkey : key.length = 32) :
    Calls Tryd.prog 15 #[.slice A L.length c, .agg (bys key).toArray] w (WroteF w (proofT L key)) := by
  have hb0 := HB.new w 24 (bys key)
  have hB0 := below_alloc1 w (.cells (bys key).toArray 24)
  generalize hw0 : w.alloc (.cells (bys key).toArray 24) = w0 at *
  have HM := Lib.hid (may_any w0 B c (Nat.le_trans hBw hB0.size) A vs L (h.below (hB0.mono hBw)) hn)
  have HE := Lib.hid h; have HK := Lib.hid hk; have HB0 := Lib.hid hB0; have HBw := Lib.hid hBw
  have HC := Lib.hid hc; have HCM := Lib.hid hcm; have HN := Lib.hid hn; have HMM := Lib.hid hm; have HKY := Lib.hid hkey
  have HK0 := Lib.hid hb0
  have HKL : Hid ((Tryd.prog.info? 24).map (·.size) = some (bys key).length) := Lib.hid (by rw [bys_len, hkey]; kernel_rfl)
  have HDD : Hid (decide (MayP L) = true) := Lib.hid (by simpa using hm)
  obtain ⟨n, hnn⟩ : ∃ n, n = L.length := ⟨_, rfl⟩
  rw [← hnn] at HM ⊢
  have HNN := Lib.hid hnn
  clear h hm hc hcm hn hk hkey hb0 hB0 hBw hnn
  go_enter Tryd.func15, Tryd.ntmps15
  go_wp2_with fail
  clear hw0
  refine HM.out.mono ?_
  rintro e w2 ⟨rfl, hB2⟩
  rw [HDD.out]
  have hk2 := HK0.out.below hB2 HK0.out.lt
  have hBX := HB0.out.trans (hB2.mono HB0.out.size)
  have HT := Lib.hid (trail_any w2 B c (Nat.le_trans HBw.out hBX.size) A vs L (HE.out.below (hBX.mono HBw.out)) HMM.out HC.out HCM.out HN.out (HK.out.below hBX HK.out.2.2) key HKY.out)
  rw [← HNN.out] at HT
  have HBX := Lib.hid hBX
  clear hB2 hBX HM HK0
  go_wp2_with (refine wpList_load_mid rfl 24 _ rfl w.heap.size 0 rfl (bys key) _ hk2.rngT Tryd.underlying24 rfl HKL.out ?_)
  refine HT.out.mono ?_
  rintro e w3 ⟨v3, A3, c3, vs3, rfl, hs3, he3, hc3, hcm3, hB3⟩
  have hT3 := flat_len _ (sibT_len key 256 L).2
  have hr3 := (sibT_len key 256 L).1
  have hB4 := HBX.out.trans (hB3.mono HBX.out.size)
  have HN3 := Lib.hid (enc_any w3 v3 (sibT key 256 L).flatten hs3.slot (by omega) B (Nat.le_trans HBw.out hB4.size) A3 c3 vs3 (endT key 256 L) (he3.below (hB3.mono (Nat.le_trans HBw.out HBX.out.size))) hc3 hcm3)
  have HB4 := Lib.hid hB4
  clear hs3 he3 hc3 hcm3 hB3 hT3 hr3 hB4 HT hk2
  go_wp2_with fail
  refine HN3.out.mono ?_
  rintro e w5 ⟨v5, rfl, hs5, hB5⟩
  have hfin := HB4.out.trans (hB5.mono HB4.out.size)
  have hs := hs5.wider HB4.out.size
  clear hs5 hB5 HN3
  go_wp2
  go_ret
  exact ⟨_, rfl, hs, hfin⟩
end Go.Proofs.YtapbaonlboefeaaDoor
