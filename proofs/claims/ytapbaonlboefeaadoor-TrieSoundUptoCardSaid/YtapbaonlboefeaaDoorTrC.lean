/- trie: halves and what it calls. WRITTEN BY wip/gen/trc.py. -/
import Derived.Test.YtapbaonlboefeaaDoorTrB
import Derived.Test.YtapbaonlboefeaaDoorBuild
namespace Go.Proofs.YtapbaonlboefeaaDoor
open Go.RowKit

/-- A part in block g. -/
def PartB (w : World) (g : Nat) (A : Option Addr) (n c d : Nat) : Prop := HB w g 58 [.slice A n c, .int .i64 (d : Int)]
/-- A literal of a struct. -/
theorem wp_buildTo {P : Program} {o : Oper} {a : Act} {w : World} {K : Act → World → Prop} {Q : Exit → Act → World → Prop} (t : TypeId) (parts : Array (Nat × Operand)) (ho : o.op = .build t parts)
    (cells : Array Value) (hf : P.built t (parts.map fun (i, x) => (i, a.eval x)).toList = some cells) (h : K (a.put o.dst (.agg cells)) w) : o.wp P a w K Q := by
  refine wp_build t parts ho (by rw [hf]; rfl) ?_
  rw [hf]
  exact h
theorem Tryd.zeroBits (W : World) : (zeroValue 95).run Tryd.prog W = .ok (.agg zdig.toArray) W := by kernel_rfl
theorem Tryd.builtBits : ∀ parts, Tryd.prog.built 95 parts = Instr.fill ([(0, 32)].toArray[·]?) zdig.toArray parts := by intro parts; kernel_rfl
theorem built_bits (k : List UInt8) (h : k.length = 32) : Tryd.prog.built 95 [(0, .agg (bys k).toArray)] = some (bys k).toArray := by
  rw [Tryd.builtBits]
  have h2 := fill_fields ([(0, 32)].toArray[·]?) [.agg (bys k).toArray] 0 0 zdig.toArray ⟨by simp [Value.cells, bys_len, h], trivial⟩ (by simp [cellsAll, Value.cells, bys_len, h, zdig_len])
  simpa [cellsAll, Value.cells] using h2

set_option maxRecDepth 20000 in
set_option maxHeartbeats 1600000 in
theorem half_at (w : World) (B g d c : Nat) (hBw : B ≤ w.heap.size) (A : Option Addr) (vs : List Value) (L : List Ent) (h : EntsW w B A vs L) (hP : PartB w g A L.length c d) (hg : g < w.heap.size) (hd : d < 256) (i : Nat) (hi : i < L.length) :
    Calls Tryd.prog 65 #[.int .i64 (i : Int), .pointer (some ⟨g, 0, none⟩)] w fun e w' => e = .returned (.bool (kbit (L[i]'hi).1 d == 1)) ∧ Below w.heap.size w w' := by
  obtain ⟨b, o, v0, rfl, hb, hrg, -, -⟩ := h.at_ hi
  have hk := h.keys _ (List.getElem_mem hi)
  generalize hkk : (L[i]'hi).1 = k at *
  clear h hkk
  generalize hnn : L.length = n at *
  clear hnn
  have HP := Lib.hid hP; have HRG := Lib.hid hrg; have HK := Lib.hid hk
  have HBB : Hid (b < w.heap.size) := Lib.hid (Nat.lt_of_lt_of_le hb hBw)
  have HG := Lib.hid hg
  have HKL : Hid ((Tryd.prog.info? 24).map (·.size) = some (bys k).length) := Lib.hid (by rw [bys_len, hk]; kernel_rfl)
  have HBU := Lib.hid (built_bits k hk)
  have HU : Hid (((kbit k d : Int) == 1) = (kbit k d == 1)) := Lib.hid (by rw [Bool.eq_iff_iff]; simp; omega)
  have hi1 : (0 : Int) ≤ (i : Int) := by omega
  have hi2 : (i : Int) < (n : Int) := by omega
  clear hP hrg hb hk hBw hg
  go_enter Tryd.func65, Tryd.ntmps65
  go_wp2_with fail
  refine wp_region_inv 15 (fun jx v _ => v = ([.pointer (some ⟨g, 0, none⟩), .slice (some ⟨b, o, none⟩) n c, .int .i64 (i : Int), .pointer (some ⟨b, o + i * 33, none⟩), .pointer (some ⟨b, o + i * 33, none⟩), .agg (bys k).toArray, .agg (bys k).toArray, .pointer (some ⟨g, 1, none⟩), .int .i64 (d : Int), .int .u8 (kbit k d : Int), .bool (kbit k d == 1), .bool (kbit k d == 1)] : List Value).getD jx undef) (Below w.heap.size w) (fun _ W1 W2 => Below W1.heap.size W1 W2) (by kernel_rfl) (by rfl) (by kernel_rfl) (fun _ _ _ _ _ _ _ _ _ hR => hR) (fun _ _ _ e h => h.trans (e.mono h.size)) (Below.drew (Below.refl _ _)) (fun jx o ho vs wb hI hdep => ?_) (fun vs w6 hI hR => ?_)
  · rcases jx with _ | jx
    · simp only [List.getElem?_toArray, List.getElem?_cons_zero, Option.some.injEq] at ho
      subst ho
      refine .inl ⟨rfl, fun K Q hK => ?_⟩
      simp only [putFrom, Act.put, List.setIfInBounds_toArray, List.set_cons_succ, List.set_cons_zero, Nat.reduceAdd] at hK ⊢
      have HOUT := Lib.hid hK
      clear hK hdep 
      go_simp
      exact HOUT.out _ _ _ rfl ⟨Below.refl _ _, rfl⟩
    rcases jx with _ | jx
    · simp only [List.getElem?_toArray, List.getElem?_cons_succ, List.getElem?_cons_zero, Option.some.injEq, Nat.zero_add] at ho
      subst ho
      have e0 : vs 0 = .pointer (some ⟨g, 0, none⟩) := hdep 0 rfl
      have hX : HB wb g 58 _ := HP.out.below hI HG.out
      have hc0 : wb.cell? ⟨g, 0, none⟩ = some (.slice (some ⟨b, o, none⟩) n c) := by rw [hX.cell]; rfl
      clear hX
      refine .inl ⟨rfl, fun K Q hK => ?_⟩
      simp only [putFrom, Act.put, List.setIfInBounds_toArray, List.set_cons_succ, List.set_cons_zero, Nat.reduceAdd, e0] at hK ⊢
      have HOUT := Lib.hid hK
      clear hK hdep e0
      go_simp
      exact HOUT.out _ _ _ rfl ⟨Below.refl _ _, rfl⟩
    rcases jx with _ | jx
    · simp only [List.getElem?_toArray, List.getElem?_cons_succ, List.getElem?_cons_zero, Option.some.injEq, Nat.zero_add] at ho
      subst ho
      refine .inl ⟨rfl, fun K Q hK => ?_⟩
      simp only [putFrom, Act.put, List.setIfInBounds_toArray, List.set_cons_succ, List.set_cons_zero, Nat.reduceAdd] at hK ⊢
      have HOUT := Lib.hid hK
      clear hK hdep 
      go_simp
      exact HOUT.out _ _ _ rfl ⟨Below.refl _ _, rfl⟩
    rcases jx with _ | jx
    · simp only [List.getElem?_toArray, List.getElem?_cons_succ, List.getElem?_cons_zero, Option.some.injEq, Nat.zero_add] at ho
      subst ho
      have e1 : vs 1 = .slice (some ⟨b, o, none⟩) n c := hdep 1 rfl
      have e2 : vs 2 = .int .i64 (i : Int) := hdep 2 rfl
      refine .inl ⟨rfl, fun K Q hK => ?_⟩
      simp only [putFrom, Act.put, List.setIfInBounds_toArray, List.set_cons_succ, List.set_cons_zero, Nat.reduceAdd, e1, e2] at hK ⊢
      have HOUT := Lib.hid hK
      clear hK hdep e1 e2
      go_simp
      exact HOUT.out _ _ _ rfl ⟨Below.refl _ _, rfl⟩
    rcases jx with _ | jx
    · simp only [List.getElem?_toArray, List.getElem?_cons_succ, List.getElem?_cons_zero, Option.some.injEq, Nat.zero_add] at ho
      subst ho
      have e3 : vs 3 = .pointer (some ⟨b, o + i * 33, none⟩) := hdep 3 rfl
      refine .inl ⟨rfl, fun K Q hK => ?_⟩
      simp only [putFrom, Act.put, List.setIfInBounds_toArray, List.set_cons_succ, List.set_cons_zero, Nat.reduceAdd, e3] at hK ⊢
      have HOUT := Lib.hid hK
      clear hK hdep e3
      go_simp
      exact HOUT.out _ _ _ rfl ⟨Below.refl _ _, rfl⟩
    rcases jx with _ | jx
    · simp only [List.getElem?_toArray, List.getElem?_cons_succ, List.getElem?_cons_zero, Option.some.injEq, Nat.zero_add] at ho
      subst ho
      have e4 : vs 4 = .pointer (some ⟨b, o + i * 33, none⟩) := hdep 4 rfl
      refine .inl ⟨rfl, fun K Q hK => ?_⟩
      simp only [putFrom, Act.put, List.setIfInBounds_toArray, List.set_cons_succ, List.set_cons_zero, Nat.reduceAdd, e4] at hK ⊢
      have HOUT := Lib.hid hK
      clear hK hdep e4
      refine wp_load_mid 24 _ rfl b (o + i * 33) rfl (bys k) _ (HRG.out.belowT hI HBB.out) Tryd.underlying24 rfl HKL.out ?_
      simp only [Act.put, List.setIfInBounds_toArray, List.set_cons_succ, List.set_cons_zero]
      exact HOUT.out _ _ _ rfl ⟨Below.refl _ _, rfl⟩
    rcases jx with _ | jx
    · simp only [List.getElem?_toArray, List.getElem?_cons_succ, List.getElem?_cons_zero, Option.some.injEq, Nat.zero_add] at ho
      subst ho
      have e5 : vs 5 = .agg (bys k).toArray := hdep 5 rfl
      refine .inl ⟨rfl, fun K Q hK => ?_⟩
      simp only [putFrom, Act.put, List.setIfInBounds_toArray, List.set_cons_succ, List.set_cons_zero, Nat.reduceAdd, e5] at hK ⊢
      have HOUT := Lib.hid hK
      clear hK hdep e5
      have hb := HBU.out
      refine wp_buildTo 95 _ rfl (bys k).toArray (by (simp only [List.map_toArray, List.map_cons, List.map_nil]; exact hb)) ?_
      simp only [Act.put, List.setIfInBounds_toArray, List.set_cons_succ, List.set_cons_zero]
      exact HOUT.out _ _ _ rfl ⟨Below.refl _ _, rfl⟩
    rcases jx with _ | jx
    · simp only [List.getElem?_toArray, List.getElem?_cons_succ, List.getElem?_cons_zero, Option.some.injEq, Nat.zero_add] at ho
      subst ho
      refine .inl ⟨rfl, fun K Q hK => ?_⟩
      simp only [putFrom, Act.put, List.setIfInBounds_toArray, List.set_cons_succ, List.set_cons_zero, Nat.reduceAdd] at hK ⊢
      have HOUT := Lib.hid hK
      clear hK hdep 
      go_simp
      exact HOUT.out _ _ _ rfl ⟨Below.refl _ _, rfl⟩
    rcases jx with _ | jx
    · simp only [List.getElem?_toArray, List.getElem?_cons_succ, List.getElem?_cons_zero, Option.some.injEq, Nat.zero_add] at ho
      subst ho
      have e7 : vs 7 = .pointer (some ⟨g, 1, none⟩) := hdep 7 rfl
      have hX : HB wb g 58 _ := HP.out.below hI HG.out
      have hc1 : wb.cell? ⟨g, 1, none⟩ = some (.int .i64 (d : Int)) := by rw [hX.cell]; rfl
      clear hX
      refine .inl ⟨rfl, fun K Q hK => ?_⟩
      simp only [putFrom, Act.put, List.setIfInBounds_toArray, List.set_cons_succ, List.set_cons_zero, Nat.reduceAdd, e7] at hK ⊢
      have HOUT := Lib.hid hK
      clear hK hdep e7
      go_simp
      exact HOUT.out _ _ _ rfl ⟨Below.refl _ _, rfl⟩
    rcases jx with _ | jx
    · simp only [List.getElem?_toArray, List.getElem?_cons_succ, List.getElem?_cons_zero, Option.some.injEq, Nat.zero_add] at ho
      subst ho
      have e6 : vs 6 = .agg (bys k).toArray := hdep 6 rfl
      have e8 : vs 8 = .int .i64 (d : Int) := hdep 8 rfl
      refine .inl ⟨rfl, fun K Q hK => ?_⟩
      simp only [putFrom, Act.put, List.setIfInBounds_toArray, List.set_cons_succ, List.set_cons_zero, Nat.reduceAdd, e6, e8] at hK ⊢
      have HOUT := Lib.hid hK
      clear hK hdep e6 e8
      go_simp
      refine (at_any k HK.out d (by omega) wb).mono ?_
      rintro e w5 ⟨rfl, hB5⟩
      go_simp
      exact HOUT.out _ _ _ rfl ⟨hB5, rfl⟩
    rcases jx with _ | jx
    · simp only [List.getElem?_toArray, List.getElem?_cons_succ, List.getElem?_cons_zero, Option.some.injEq, Nat.zero_add] at ho
      subst ho
      have e9 : vs 9 = .int .u8 (kbit k d : Int) := hdep 9 rfl
      have hu := HU.out
      refine .inl ⟨rfl, fun K Q hK => ?_⟩
      simp only [putFrom, Act.put, List.setIfInBounds_toArray, List.set_cons_succ, List.set_cons_zero, Nat.reduceAdd, e9] at hK ⊢
      have HOUT := Lib.hid hK
      clear hK hdep e9
      go_simp
      exact HOUT.out _ _ _ rfl ⟨Below.refl _ _, rfl⟩
    rcases jx with _ | jx
    · simp only [List.getElem?_toArray, List.getElem?_cons_succ, List.getElem?_cons_zero, Option.some.injEq, Nat.zero_add] at ho
      subst ho
      have e10 : vs 10 = .bool (kbit k d == 1) := hdep 10 rfl
      refine .inl ⟨rfl, fun K Q hK => ?_⟩
      simp only [putFrom, Act.put, List.setIfInBounds_toArray, List.set_cons_succ, List.set_cons_zero, Nat.reduceAdd, e10] at hK ⊢
      have HOUT := Lib.hid hK
      clear hK hdep e10
      go_simp
      exact HOUT.out _ _ _ rfl ⟨Below.refl _ _, rfl⟩
    exact absurd ho (by simp)
  ·
    have e11 : vs 11 = .bool (kbit k d == 1) := hR 11 (by decide)
    simp only [putFrom, Act.put, List.setIfInBounds_toArray, List.set_cons_succ, List.set_cons_zero, Nat.reduceAdd, e11]
    clear hR e11
    have hB := hI
    clear hI
    go_wp2
    go_ret
    exact ⟨rfl, hB⟩

set_option maxRecDepth 20000 in
set_option maxHeartbeats 1600000 in
/-- sort.Search, where the function is false below z and true from z on. -/
theorem search_any (w : World) (n z g : Nat) (hz : z ≤ n) (hn : n ≤ 4611686018427387904) (hf : ∀ W, Below w.heap.size w W → ∀ i, i < n → Calls Tryd.prog 65 #[.int .i64 (i : Int), .pointer (some ⟨g, 0, none⟩)] W fun e w' => e = .returned (.bool (decide (z ≤ i))) ∧ Below W.heap.size W w') :
    Calls Tryd.prog 64 #[.int .i64 (n : Int), .func (.func 65) #[] #[.pointer (some ⟨g, 0, none⟩)]] w fun e w' => e = .returned (.int .i64 (z : Int)) ∧ Below w.heap.size w w' := by
  have HF := Lib.hid hf
  clear hf
  go_enter Tryd.func64, Tryd.ntmps64
  go_wp2_with fail
  go_loopw [5, 6] (fun a b wr => ∃ i j : Nat, a = .int .i64 (i : Int) ∧ b = .int .i64 (j : Int) ∧ i ≤ z ∧ z ≤ j ∧ j ≤ n ∧ Below w.heap.size w wr) (fun a b _ => (intOf b).toNat - (intOf a).toNat)
  case atStart => exact ⟨0, n, rfl, rfl, by omega, hz, by omega, Below.refl _ _⟩
  case round =>
    obtain ⟨i, j, rfl, rfl, hiz, hzj, hjn, hB⟩ := hrel
    have HBr := Lib.hid hB
    clear hB
    rcases Nat.lt_or_ge i j with hlt | hge
    · have hlt' : (i : Int) < (j : Int) := by omega
      have hj2 : (j : Int) ≤ 4611686018427387904 := by omega
      have hi2 : (0 : Int) ≤ (i : Int) := by omega
      obtain ⟨h, hh⟩ : ∃ h : Nat, h = (i + j) / 2 := ⟨_, rfl⟩
      have hh1 : ((i : Int) + (j : Int)) / 2 = (h : Int) := by omega
      have hih : i ≤ h := by omega
      have hhj : h < j := by omega
      have hhb : (h : Int) ≤ 4611686018427387904 := by omega
      have HS := Lib.hid (HF.out wr HBr.out h (by omega))
      by_cases hzh : z ≤ h
      · have HD : Hid (decide (z ≤ h) = true) := Lib.hid (by simpa using hzh)
        clear hh
        go_wp2_with fail
        refine HS.out.mono ?_
        rintro e w1 ⟨rfl, hB1⟩
        rw [HD.out]
        have HB1 := Lib.hid (HBr.out.trans (hB1.mono HBr.out.size))
        clear hB1 HS
        go_wp2
        go_roundw
        case rel => exact ⟨i, h, rfl, rfl, hiz, hzh, by omega, HB1.out⟩
        case measure => simp [intOf]; omega
      · have HD : Hid (decide (z ≤ h) = false) := Lib.hid (by simpa using hzh)
        clear hh
        go_wp2_with fail
        refine HS.out.mono ?_
        rintro e w1 ⟨rfl, hB1⟩
        rw [HD.out]
        have HB1 := Lib.hid (HBr.out.trans (hB1.mono HBr.out.size))
        clear hB1 HS
        go_wp2
        go_roundw
        case rel => exact ⟨h + 1, j, by go_num, rfl, by omega, hzj, by omega, HB1.out⟩
        case measure => simp [intOf]; omega
    · obtain rfl : i = z := by omega
      have hge' : (j : Int) ≤ (i : Int) := by omega
      have hfin := HBr.out
      go_wp2
      go_ret
      exact ⟨rfl, hfin⟩
end Go.Proofs.YtapbaonlboefeaaDoor
