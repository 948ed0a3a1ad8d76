/- wapentakeref05.Tag. -/
import Derived.Test.YtkhbogccmngmmaaDoorSdT
import Derived.Test.YtkhbogccmngmmaaDoorKp
import Derived.Test.YtkhbogccmngmmaaDoorSgL
namespace Go.Proofs.YtkhbogccmngmmaaDoor
open Go.RowKit

theorem SlotK.txt {S : Nat → Prop} {W w : World} {c : Nat} {t : List UInt8} (h : Txt W w (some ⟨W.heap.size, 0, none⟩) c t) (hS : ∀ b, S b → b < W.heap.size) : SlotK S w (.slice (some ⟨W.heap.size, 0, none⟩) t.length c) t :=
  ⟨_, c, rfl, h.cap, h.max, h.sees, fun ad e hs => by cases e; exact absurd (hS _ hs) (Nat.lt_irrefl _)⟩
theorem u64_nat {k : Nat} (hk : (k : Int) ≤ 9223372036854775807) : IntKind.u64.wrap (k : Int) = (k : Int) := IntWalk.u64_in _ ⟨by omega, by omega⟩
/-- What Tag's operations yield; the result lies in block g, the boxed signing in block b0. -/
def TagR (b0 g : Nat) (k i : Nat) (t d : List UInt8) : Nat → Value → World → Prop
  | 0, v, w => ∃ b, v = .slice (some ⟨b, 0, none⟩) 4 4 ∧ g < b ∧ RowK w b 5 (bys tagSign)
  | 1, v, w => SlotK (· = g) w v tagSign
  | 2, v, _ => v = .pointer (some ⟨b0, 0, none⟩)
  | 3, v, _ => v = .int .i64 (k : Int)
  | 4, v, _ => v = .int .u64 (k : Int)
  | 5, v, w => SlotK (· = g) w v (b8 k)
  | 6, v, _ => v = .pointer (some ⟨b0, 1, none⟩)
  | 7, v, _ => v = .int .i64 (i : Int)
  | 8, v, _ => v = .int .u64 (i : Int)
  | 9, v, w => SlotK (· = g) w v (b8 i)
  | 10, v, _ => v = .pointer (some ⟨b0, 2, none⟩)
  | 11, v, _ => v = .string (strB t)
  | 12, v, w => SlotK (· = g) w v t
  | 13, v, w => ∃ b v0 v1 v2 v3, v = .slice (some ⟨b, 0, none⟩) 4 4 ∧ g < b ∧ RowK w b 31 [v0, v1, v2, v3] ∧ SlotK (· = g) w v0 tagSign ∧ SlotK (· = g) w v1 (b8 k) ∧ SlotK (· = g) w v2 (b8 i) ∧ SlotK (· = g) w v3 t
  | 14, v, _ => v = .agg (bys d).toArray
  | 15, _, w => HB w g 24 (bys d)
  | _, _, _ => True
theorem TagR.keep {b0 g B k i : Nat} {t d : List UInt8} : ∀ (j : Nat), j ≠ 15 → ∀ {v : Value} {w w' : World}, Keep B (· = g) w w' → TagR b0 g k i t d j v w → TagR b0 g k i t d j v w'
  | 0, _, _, _, _, hk, ⟨b, h1, h2, h3⟩ => ⟨b, h1, h2, h3.keep hk (by omega)⟩
  | 1, _, v, w, _, hk, h => SlotK.keep (show SlotK (· = g) w v _ from h) hk
  | 5, _, v, w, _, hk, h => SlotK.keep (show SlotK (· = g) w v _ from h) hk
  | 9, _, v, w, _, hk, h => SlotK.keep (show SlotK (· = g) w v _ from h) hk
  | 12, _, v, w, _, hk, h => SlotK.keep (show SlotK (· = g) w v _ from h) hk
  | 13, _, _, _, _, hk, ⟨b, v0, v1, v2, v3, h1, h2, h3, h4, h5, h6, h7⟩ => ⟨b, v0, v1, v2, v3, h1, h2, h3.keep hk (by omega), h4.keep hk, h5.keep hk, h6.keep hk, h7.keep hk⟩
  | 2, _, _, _, _, _, h => h
  | 3, _, _, _, _, _, h => h
  | 4, _, _, _, _, _, h => h
  | 6, _, _, _, _, _, h => h
  | 7, _, _, _, _, _, h => h
  | 8, _, _, _, _, _, h => h
  | 10, _, _, _, _, _, h => h
  | 11, _, _, _, _, _, h => h
  | 14, _, _, _, _, _, h => h
  | 15, h15, _, _, _, _, _ => absurd rfl h15
  | _ + 16, _, _, _, _, _, _ => trivial

set_option maxRecDepth 20000 in
set_option maxHeartbeats 1600000 in
theorem rtag_any (w : World) (k i : Nat) (t : List UInt8) (hk : (k : Int) ≤ 9223372036854775807) (hi : (i : Int) ≤ 9223372036854775807) (ht : t.length ≤ 140737488351232) :
    Calls Tryd.prog 62 #[.agg (sgC (((k : Int), (i : Int)), t)).toArray] w (Digs w (tagF (((k : Int), (i : Int)), t))) := by
  have hx1 := HB.new w 127 [.int .i64 (k : Int), .int .i64 (i : Int), .string (strB t)]
  have hB1 := below_alloc1 w (.cells [.int .i64 (k : Int), .int .i64 (i : Int), .string (strB t)].toArray 127)
  have hz := Tryd.zeroDig
  go_enter Tryd.func62, Tryd.ntmps62
  go_wp2_with fail
  have e1 : sgC (((k : Int), (i : Int)), t) = [.int .i64 (k : Int), .int .i64 (i : Int), .string (strB t)] := rfl
  rw [e1]
  have hz1 : (w.alloc (.cells [.int .i64 (k : Int), .int .i64 (i : Int), .string (strB t)].toArray 127)).heap.size = w.heap.size + 1 := by simp
  generalize w.alloc (.cells [.int .i64 (k : Int), .int .i64 (i : Int), .string (strB t)].toArray 127) = w1 at *
  have hx2 := hx1.alloc (.cells zdig.toArray 24)
  have hd2 := HB.new w1 24 zdig
  have hB2 := hB1.alloc (by omega) (.cells zdig.toArray 24)
  rw [hz1] at hd2
  have hz2 : (w1.alloc (.cells zdig.toArray 24)).heap.size = w.heap.size + 2 := by simp; omega
  generalize w1.alloc (.cells zdig.toArray 24) = w2 at *
  have HX := Lib.hid hx2; have HD := Lib.hid hd2; have HB2 := Lib.hid hB2; have HZ := Lib.hid hz2
  clear hx1 hx2 hd2 hB1 hB2 hz1 hz2 e1 hz
  refine wp_region_inv 18 (TagR w.heap.size (w.heap.size + 1) k i t (tagF (((k : Int), (i : Int)), t))) (Keep (w.heap.size + 1) (· = w.heap.size + 1) w2) (fun _ => Keep (w.heap.size + 1) (· = w.heap.size + 1)) (by kernel_rfl) (by rfl) (by kernel_rfl) (fun a b v W W' ha hab hr hT hR => ?_) (fun _ W W' hT hI => hI.trans hT) (Keep.drew (by have := HZ.out; omega)) (fun j o ho vs W hI hdep => ?_) (fun vs W hI hR => ?_)
  · by_cases e15 : b = 15
    · subst e15
      have h := hr _ rfl
      replace ha : a < 16 := ha
      clear hr hT HX HD HB2 HZ
      exact absurd h (by
        rcases (by omega : a = 0 ∨ a = 1 ∨ a = 2 ∨ a = 3 ∨ a = 4 ∨ a = 5 ∨ a = 6 ∨ a = 7 ∨ a = 8 ∨ a = 9 ∨ a = 10 ∨ a = 11 ∨ a = 12 ∨ a = 13 ∨ a = 14) with rfl | rfl | rfl | rfl | rfl | rfl | rfl | rfl | rfl | rfl | rfl | rfl | rfl | rfl | rfl <;> decide)
    · exact TagR.keep b e15 hT hR
  · have hsz2 : w.heap.size + 2 ≤ W.heap.size := by have := HZ.out; have := hI.size; omega
    have hsz : w.heap.size + 1 ≤ W.heap.size := by omega
    have hS : ∀ b, b = w.heap.size + 1 → b < W.heap.size := fun b e => by omega
    have hX : HB W w.heap.size _ _ := HX.out.below hI.low (by omega)
    have hc0 : W.cell? ⟨w.heap.size, 0, none⟩ = some (.int .i64 (k : Int)) := by rw [hX.cell]; rfl
    have hc1 : W.cell? ⟨w.heap.size, 1, none⟩ = some (.int .i64 (i : Int)) := by rw [hX.cell]; rfl
    have hc2 : W.cell? ⟨w.heap.size, 2, none⟩ = some (.string (strB t)) := by rw [hX.cell]; rfl
    have hku : IntKind.u64.wrap (k : Int) = (k : Int) := u64_nat hk
    have hiu : IntKind.u64.wrap (i : Int) = (i : Int) := u64_nat hi
    have HC0 := Lib.hid hc0; have HC1 := Lib.hid hc1; have HC2 := Lib.hid hc2; have HKU := Lib.hid hku; have HIU := Lib.hid hiu
    clear hX hc0 hc1 hc2 hku hiu
    rcases j with _ | j
    · simp only [List.getElem?_toArray, List.getElem?_cons_zero, Option.some.injEq] at ho
      subst ho
      refine .inl ⟨rfl, fun K Q hK => ?_⟩
      simp only [putFrom, Act.put, List.setIfInBounds_toArray, List.set_cons_succ, List.set_cons_zero, Nat.reduceAdd] at hK ⊢
      have HK := Lib.hid hK
      clear hK hdep
      go_simp
      refine HK.out _ _ _ rfl ⟨Keep.alloc hsz _, ?_⟩
      exact ⟨_, rfl, by omega, RowK.new W _ (bys tagSign) _⟩
    rcases j with _ | j
    · simp only [List.getElem?_toArray, List.getElem?_cons_succ, List.getElem?_cons_zero, Option.some.injEq, Nat.zero_add] at ho
      subst ho
      obtain ⟨b, e0, hb, hr⟩ := hdep 0 rfl
      have hcv := hr.conv 4 4
      refine .inl ⟨rfl, fun K Q hK => ?_⟩
      simp only [putFrom, Act.put, List.setIfInBounds_toArray, List.set_cons_succ, List.set_cons_zero, Nat.reduceAdd, e0] at hK ⊢
      have HK := Lib.hid hK
      clear hK hdep e0
      go_simp
      refine HK.out _ _ _ rfl ⟨Keep.freeze (a := ⟨b, _, none⟩) (show w.heap.size + 1 ≤ b by omega) (show ¬ (b = w.heap.size + 1) by omega) _, ?_⟩
      exact (hr.freeze _ _).slot (S := (· = w.heap.size + 1)) (show ¬ (b = w.heap.size + 1) by omega) (by decide) rfl
    rcases j with _ | j
    · simp only [List.getElem?_toArray, List.getElem?_cons_succ, List.getElem?_cons_zero, Option.some.injEq, Nat.zero_add] at ho
      subst ho
      refine .inl ⟨rfl, fun K Q hK => ?_⟩
      simp only [putFrom, Act.put, List.setIfInBounds_toArray, List.set_cons_succ, List.set_cons_zero, Nat.reduceAdd] at hK ⊢
      have HK := Lib.hid hK
      clear hK hdep
      go_simp
      refine HK.out _ _ _ rfl ⟨Keep.refl _ _ _, ?_⟩
      exact rfl
    rcases j with _ | j
    · simp only [List.getElem?_toArray, List.getElem?_cons_succ, List.getElem?_cons_zero, Option.some.injEq, Nat.zero_add] at ho
      subst ho
      have e2 : vs 2 = _ := hdep 2 rfl
      have hc := HC0.out
      refine .inl ⟨rfl, fun K Q hK => ?_⟩
      simp only [putFrom, Act.put, List.setIfInBounds_toArray, List.set_cons_succ, List.set_cons_zero, Nat.reduceAdd, e2] at hK ⊢
      have HK := Lib.hid hK
      clear hK hdep e2
      go_simp
      refine HK.out _ _ _ rfl ⟨Keep.refl _ _ _, ?_⟩
      exact rfl
    rcases j with _ | j
    · simp only [List.getElem?_toArray, List.getElem?_cons_succ, List.getElem?_cons_zero, Option.some.injEq, Nat.zero_add] at ho
      subst ho
      have e3 : vs 3 = _ := hdep 3 rfl
      have hu := HKU.out
      refine .inl ⟨rfl, fun K Q hK => ?_⟩
      simp only [putFrom, Act.put, List.setIfInBounds_toArray, List.set_cons_succ, List.set_cons_zero, Nat.reduceAdd, e3] at hK ⊢
      have HK := Lib.hid hK
      clear hK hdep e3
      go_simp
      refine HK.out _ _ _ rfl ⟨Keep.refl _ _ _, ?_⟩
      exact rfl
    rcases j with _ | j
    · simp only [List.getElem?_toArray, List.getElem?_cons_succ, List.getElem?_cons_zero, Option.some.injEq, Nat.zero_add] at ho
      subst ho
      have e4 : vs 4 = _ := hdep 4 rfl
      refine .inl ⟨rfl, fun K Q hK => ?_⟩
      simp only [putFrom, Act.put, List.setIfInBounds_toArray, List.set_cons_succ, List.set_cons_zero, Nat.reduceAdd, e4] at hK ⊢
      have HK := Lib.hid hK
      clear hK hdep e4
      go_simp
      refine (rnum_any k W).mono ?_
      rintro e w3 ⟨v3, rfl, ho3, hB3⟩
      go_simp
      refine HK.out _ _ _ rfl ⟨Keep.of_below hB3 hsz, ?_⟩
      exact SlotK.wrote (by rw [b8_len]; exact ho3) hS
    rcases j with _ | j
    · simp only [List.getElem?_toArray, List.getElem?_cons_succ, List.getElem?_cons_zero, Option.some.injEq, Nat.zero_add] at ho
      subst ho
      refine .inl ⟨rfl, fun K Q hK => ?_⟩
      simp only [putFrom, Act.put, List.setIfInBounds_toArray, List.set_cons_succ, List.set_cons_zero, Nat.reduceAdd] at hK ⊢
      have HK := Lib.hid hK
      clear hK hdep
      go_simp
      refine HK.out _ _ _ rfl ⟨Keep.refl _ _ _, ?_⟩
      exact rfl
    rcases j with _ | j
    · simp only [List.getElem?_toArray, List.getElem?_cons_succ, List.getElem?_cons_zero, Option.some.injEq, Nat.zero_add] at ho
      subst ho
      have e6 : vs 6 = _ := hdep 6 rfl
      have hc := HC1.out
      refine .inl ⟨rfl, fun K Q hK => ?_⟩
      simp only [putFrom, Act.put, List.setIfInBounds_toArray, List.set_cons_succ, List.set_cons_zero, Nat.reduceAdd, e6] at hK ⊢
      have HK := Lib.hid hK
      clear hK hdep e6
      go_simp
      refine HK.out _ _ _ rfl ⟨Keep.refl _ _ _, ?_⟩
      exact rfl
    rcases j with _ | j
    · simp only [List.getElem?_toArray, List.getElem?_cons_succ, List.getElem?_cons_zero, Option.some.injEq, Nat.zero_add] at ho
      subst ho
      have e7 : vs 7 = _ := hdep 7 rfl
      have hu := HIU.out
      refine .inl ⟨rfl, fun K Q hK => ?_⟩
      simp only [putFrom, Act.put, List.setIfInBounds_toArray, List.set_cons_succ, List.set_cons_zero, Nat.reduceAdd, e7] at hK ⊢
      have HK := Lib.hid hK
      clear hK hdep e7
      go_simp
      refine HK.out _ _ _ rfl ⟨Keep.refl _ _ _, ?_⟩
      exact rfl
    rcases j with _ | j
    · simp only [List.getElem?_toArray, List.getElem?_cons_succ, List.getElem?_cons_zero, Option.some.injEq, Nat.zero_add] at ho
      subst ho
      have e8 : vs 8 = _ := hdep 8 rfl
      refine .inl ⟨rfl, fun K Q hK => ?_⟩
      simp only [putFrom, Act.put, List.setIfInBounds_toArray, List.set_cons_succ, List.set_cons_zero, Nat.reduceAdd, e8] at hK ⊢
      have HK := Lib.hid hK
      clear hK hdep e8
      go_simp
      refine (rnum_any i W).mono ?_
      rintro e w3 ⟨v3, rfl, ho3, hB3⟩
      go_simp
      refine HK.out _ _ _ rfl ⟨Keep.of_below hB3 hsz, ?_⟩
      exact SlotK.wrote (by rw [b8_len]; exact ho3) hS
    rcases j with _ | j
    · simp only [List.getElem?_toArray, List.getElem?_cons_succ, List.getElem?_cons_zero, Option.some.injEq, Nat.zero_add] at ho
      subst ho
      refine .inl ⟨rfl, fun K Q hK => ?_⟩
      simp only [putFrom, Act.put, List.setIfInBounds_toArray, List.set_cons_succ, List.set_cons_zero, Nat.reduceAdd] at hK ⊢
      have HK := Lib.hid hK
      clear hK hdep
      go_simp
      refine HK.out _ _ _ rfl ⟨Keep.refl _ _ _, ?_⟩
      exact rfl
    rcases j with _ | j
    · simp only [List.getElem?_toArray, List.getElem?_cons_succ, List.getElem?_cons_zero, Option.some.injEq, Nat.zero_add] at ho
      subst ho
      have e10 : vs 10 = _ := hdep 10 rfl
      have hc := HC2.out
      refine .inl ⟨rfl, fun K Q hK => ?_⟩
      simp only [putFrom, Act.put, List.setIfInBounds_toArray, List.set_cons_succ, List.set_cons_zero, Nat.reduceAdd, e10] at hK ⊢
      have HK := Lib.hid hK
      clear hK hdep e10
      go_simp
      refine HK.out _ _ _ rfl ⟨Keep.refl _ _ _, ?_⟩
      exact rfl
    rcases j with _ | j
    · simp only [List.getElem?_toArray, List.getElem?_cons_succ, List.getElem?_cons_zero, Option.some.injEq, Nat.zero_add] at ho
      subst ho
      have e11 : vs 11 = _ := hdep 11 rfl
      have hcs := conv_str W t
      have hT := txt_str W t ht
      refine .inl ⟨rfl, fun K Q hK => ?_⟩
      simp only [putFrom, Act.put, List.setIfInBounds_toArray, List.set_cons_succ, List.set_cons_zero, Nat.reduceAdd, e11] at hK ⊢
      have HK := Lib.hid hK
      clear hK hdep e11
      go_simp
      refine HK.out _ _ _ rfl ⟨Keep.of_below (below_bytes W _ _) hsz, ?_⟩
      exact SlotK.txt hT hS
    rcases j with _ | j
    · simp only [List.getElem?_toArray, List.getElem?_cons_succ, List.getElem?_cons_zero, Option.some.injEq, Nat.zero_add] at ho
      subst ho
      obtain ⟨A1, c1, e1, a1, b1, s1, d1⟩ := hdep 1 rfl
      obtain ⟨A5, c5, e5, a5, b5, s5, d5⟩ := hdep 5 rfl
      obtain ⟨A9, c9, e9, a9, b9, s9, d9⟩ := hdep 9 rfl
      obtain ⟨A12, c12, e12, a12, b12, s12, d12⟩ := hdep 12 rfl
      have hb4 := build_4
      refine .inl ⟨rfl, fun K Q hK => ?_⟩
      simp only [putFrom, Act.put, List.setIfInBounds_toArray, List.set_cons_succ, List.set_cons_zero, Nat.reduceAdd, e1, e5, e9, e12] at hK ⊢
      have HK := Lib.hid hK
      clear hK hdep e1 e5 e9 e12
      go_simp
      refine HK.out _ _ _ rfl ⟨Keep.alloc hsz _, ?_⟩
      exact ⟨_, _, _, _, _, rfl, by omega, RowK.new W _ [_, _, _, _] _, SlotK.keep ⟨A1, c1, rfl, a1, b1, s1, d1⟩ (Keep.alloc hsz _), SlotK.keep ⟨A5, c5, rfl, a5, b5, s5, d5⟩ (Keep.alloc hsz _), SlotK.keep ⟨A9, c9, rfl, a9, b9, s9, d9⟩ (Keep.alloc hsz _), SlotK.keep ⟨A12, c12, rfl, a12, b12, s12, d12⟩ (Keep.alloc hsz _)⟩
    rcases j with _ | j
    · simp only [List.getElem?_toArray, List.getElem?_cons_succ, List.getElem?_cons_zero, Option.some.injEq, Nat.zero_add] at ho
      subst ho
      obtain ⟨b, v0, v1, v2, v3, e13, hb, hr, h0, h1, h2, h3⟩ := hdep 13 rfl
      have hl := Lists.cons h0.slot (Lists.cons h1.slot (Lists.cons h2.slot (Lists.cons h3.slot (Lists.nothing _ _))))
      have hof := Lib.hid (rof_any W.heap.size (some ⟨b, 0, none⟩) 4 [v0, v1, v2, v3] [tagSign, b8 k, b8 i, t] W (hr.sees rfl) hl (Nat.le_refl _) (by rw [tag_len]; omega))
      clear hl h0 h1 h2 h3
      refine .inl ⟨rfl, fun K Q hK => ?_⟩
      simp only [putFrom, Act.put, List.setIfInBounds_toArray, List.set_cons_succ, List.set_cons_zero, Nat.reduceAdd, e13] at hK ⊢
      have HK := Lib.hid hK
      clear hK hdep e13
      go_simp
      refine hof.out.mono ?_
      rintro e w3 ⟨rfl, hB3⟩
      go_simp
      refine HK.out _ _ _ rfl ⟨Keep.of_below hB3 hsz, ?_⟩
      exact rfl
    rcases j with _ | j
    · simp only [List.getElem?_toArray, List.getElem?_cons_succ, List.getElem?_cons_zero, Option.some.injEq, Nat.zero_add] at ho
      subst ho
      have e14 : vs 14 = _ := hdep 14 rfl
      obtain ⟨cs, hcs, hcl⟩ := hI.hb rfl HD.out
      refine .inl ⟨rfl, fun K Q hK => ?_⟩
      simp only [putFrom, Act.put, List.setIfInBounds_toArray, List.set_cons_succ, List.set_cons_zero, Nat.reduceAdd, e14] at hK ⊢
      have HK := Lib.hid hK
      clear hK hdep e14
      have hl32 := tagF_len (((k : Int), (i : Int)), t)
      have HDI : Hid ((Tryd.prog.info? 24).map (·.size) = some (bys (tagF (((k : Int), (i : Int)), t))).toArray.size) := dig_info hl32
      have HDA := dig_one (tagF (((k : Int), (i : Int)), t))
      have hcl2 : cs.length = (bys (tagF (((k : Int), (i : Int)), t))).length := by rw [hcl, zdig_len, bys_len, hl32]
      generalize tagF (((k : Int), (i : Int)), t) = dg at *
      refine wp_store_mid 24 _ _ rfl (w.heap.size + 1) 0 (bys dg).toArray rfl rfl (there_hb hcs (by rw [hcl2]; simp)) HDI.out HDA.out ?_
      refine HK.out _ undef _ rfl ⟨Keep.setCells (S := (· = w.heap.size + 1)) rfl (Nat.le_refl _) _ _ _, ?_⟩
      exact hb_setAll hcs _ (by rw [hcl2])
    exact absurd ho (by simp)
  · have hfin : HB W (w.heap.size + 1) _ _ := hR 15 (by decide)
    simp only [putFrom, Act.put, List.setIfInBounds_toArray, List.set_cons_succ, List.set_cons_zero, Nat.reduceAdd]
    have hB := HB2.out.trans (hI.low.mono (by omega))
    clear hR
    go_wp2_with fail
    refine bodyPost_ret (v := .agg (bys (tagF (((k : Int), (i : Int)), t))).toArray) (results_cell_row rfl _ _ (w.heap.size + 1) 24 (bys (tagF (((k : Int), (i : Int)), t))).toArray (0, 0) _ rfl hfin Tryd.underlying24 rfl (dig_info (tagF_len _)).out) rfl ?_
    exact ⟨rfl, hB⟩
end Go.Proofs.YtkhbogccmngmmaaDoor
