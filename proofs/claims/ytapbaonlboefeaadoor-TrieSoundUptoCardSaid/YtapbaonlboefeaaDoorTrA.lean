/- trie: bits.at, bits.begins. -/
import Derived.Test.YtapbaonlboefeaaDoorTrP
import Derived.Test.YtapbaonlboefeaaDoorKp
import Derived.IntWalk
import Derived.Laws.ShiftsVar
import Derived.Laws.BitsAllLaws
import Derived.Outline
namespace Go.Proofs.YtapbaonlboefeaaDoor
open Go.RowKit

theorem HB.rngT {w : World} {g : Nat} {t : TypeId} {cs : List Value} (h : HB w g t cs) : w.rangeAt g 0 cs := fun i u hi => by rw [Nat.zero_add, h.cell]; exact hi
theorem and_one_fin : ∀ n : Fin 256, bits .and .u8 (n.val : Int) 1 = ((n.val % 2 : Nat) : Int) := by decide +kernel
theorem and_one (n : Nat) (h : n < 256) : bits .and .u8 (n : Int) 1 = ((n % 2 : Nat) : Int) := and_one_fin ⟨n, h⟩
set_option maxRecDepth 20000 in
set_option maxHeartbeats 1600000 in
theorem at_any (k : List UInt8) (hk : k.length = 32) (i : Nat) (hi : i < 256) (w : World) :
    Calls Tryd.prog 48 #[.agg (bys k).toArray, .int .i64 (i : Int)] w fun e w' => e = .returned (.int .u8 (kbit k i : Int)) ∧ Below w.heap.size w w' := by
  have hb := HB.new w 95 (bys k)
  have hB := below_alloc1 w (.cells (bys k).toArray 95)
  have hq : i / 8 < k.length := by omega
  have hc : (w.alloc (.cells (bys k).toArray 95)).cell? ⟨w.heap.size, i / 8, none⟩ = some (.int .u8 ((k[i / 8]'hq).toNat : Int)) := by
    rw [hb.cell, bys_get, List.getElem?_eq_getElem hq]; rfl
  have e1 : kbit k i = (k[i / 8]'hq).toNat / 2 ^ (7 - i % 8) % 2 := by
    rw [kbit, List.getD_eq_getElem?_getD, List.getElem?_eq_getElem hq, Option.getD_some]
  rw [e1]
  have hlt : (k[i / 8]'hq).toNat < 256 := UInt8.toNat_lt _
  generalize (k[i / 8]'hq).toNat = x at *
  clear e1 hb
  have i1 : (0 : Int) ≤ (i : Int) := by omega
  have i2 : (i : Int) < 256 := by omega
  have i3 : (i : Int) / 8 < 32 := by omega
  have i4 : (0 : Int) ≤ (i : Int) / 8 := by omega
  have i5 : (i : Int) % 8 < 8 := by omega
  have i6 : (0 : Int) ≤ (i : Int) % 8 := by omega
  go_enter Tryd.func48, Tryd.ntmps48
  go_wp2
  go_ret
  refine ⟨?_, hB⟩
  have hd : x / 2 ^ (7 - i % 8) < 256 := Nat.lt_of_le_of_lt (Nat.div_le_self _ _) hlt
  have := and_one (x / 2 ^ (7 - i % 8)) hd
  push_cast at this
  rw [this]
  push_cast
  rfl
/-- A bit as a byte. -/
theorem kbit_u8 (k : List UInt8) (i : Nat) : (kbit k i : Int) = 0 ∨ (kbit k i : Int) = 1 := by have := kbit_lt k i; omega

set_option maxRecDepth 20000 in
set_option maxHeartbeats 3200000 in
theorem begins_any (k q : List UInt8) (hk : k.length = 32) (hq : q.length = 32) (n : Nat) (hn : n ≤ 256) (w : World) :
    Calls Tryd.prog 53 #[.agg (bys k).toArray, .int .i64 (n : Int), .agg (bys q).toArray] w fun e w' => e = .returned (.bool (decide (∀ i, i < n → kbit k i = kbit q i))) ∧ Below w.heap.size w w' := by
  have hb1 := HB.new w 95 (bys k)
  have hB1 := below_alloc1 w (.cells (bys k).toArray 95)
  have hz1 : (w.alloc (.cells (bys k).toArray 95)).heap.size = w.heap.size + 1 := by simp
  generalize hw1 : w.alloc (.cells (bys k).toArray 95) = w1 at *
  have hb1' := hb1.alloc (.cells (bys q).toArray 95)
  have hb2 := HB.new w1 95 (bys q)
  have hB2 := hB1.alloc (by omega) (.cells (bys q).toArray 95)
  rw [hz1] at hb2
  generalize hw2 : w1.alloc (.cells (bys q).toArray 95) = w2 at *
  have HB1 := Lib.hid hb1'; have HB2 := Lib.hid hb2; have HBB := Lib.hid hB2
  have HK := Lib.hid hk; have HQ := Lib.hid hq
  clear hb1 hb1' hb2 hB1 hB2 hk hq
  go_enter Tryd.func53, Tryd.ntmps53
  go_wp2_with fail
  clear hw1 hw2 hz1
  have HSK : Hid ((Tryd.prog.info? 95).map (·.size) = some (bys k).length) := Lib.hid (by rw [bys_len, HK.out]; kernel_rfl)
  have HSQ : Hid ((Tryd.prog.info? 95).map (·.size) = some (bys q).length) := Lib.hid (by rw [bys_len, HQ.out]; kernel_rfl)
  go_loopw [9] (fun t wr => ∃ j : Nat, t = .int .i64 (j : Int) ∧ j ≤ n ∧ (∀ i, i < j → kbit k i = kbit q i) ∧ HB wr w.heap.size 95 (bys k) ∧ HB wr (w.heap.size + 1) 95 (bys q) ∧ Below w.heap.size w wr) (fun t _ => n - (intOf t).toNat)
  case atStart => exact ⟨0, rfl, by omega, fun i h => by omega, HB1.out, HB2.out, HBB.out⟩
  case round =>
    obtain ⟨j, rfl, hj, hall, hb1, hb2, hBr⟩ := hrel
    have HALL := Lib.hid hall
    have HB1r := Lib.hid hb1; have HB2r := Lib.hid hb2; have HBr := Lib.hid hBr
    clear hall hb1 hb2 hBr HB1 HB2 HBB
    have hn' : (n : Int) ≤ 256 := by omega
    rcases Nat.lt_or_ge j n with hlt | hge
    · have hlt' : (j : Int) < (n : Int) := by omega
      by_cases he : kbit k j = kbit q j
      · have HE : Hid (((kbit k j : Int) != (kbit q j : Int)) = false) := Lib.hid (by simp [he])
        have HN := Lib.hid (show ∀ i, i < j + 1 → kbit k i = kbit q i from fun i hi => by
          rcases Nat.lt_or_ge i j with h | h
          · exact HALL.out i h
          · obtain rfl : i = j := by omega
            exact he)
        clear he
        go_wp2_with fail
        refine wp_region_inv 20 (fun jx v _ => v = ([.agg (bys k).toArray, .int .i64 (j : Int), .int .u8 (kbit k j : Int), .agg (bys q).toArray, .int .i64 (j : Int), .int .u8 (kbit q j : Int), .bool false] : List Value).getD jx undef) (Below wr.heap.size wr) (fun _ W1 W2 => Below W1.heap.size W1 W2) (by kernel_rfl) (by rfl) (by kernel_rfl) (fun _ _ _ _ _ _ _ _ _ hR => hR) (fun _ _ _ e h => h.trans (e.mono h.size)) (Below.drew (Below.refl _ _)) (fun jx o ho vs wb hI hdep => ?_) (fun vs w6 hI hR => ?_)
        · rcases jx with _ | jx
          · simp only [List.getElem?_toArray, List.getElem?_cons_zero, Option.some.injEq] at ho
            subst ho
            refine .inl ⟨rfl, fun K Q hK => ?_⟩
            simp only [putFrom, Act.put, List.setIfInBounds_toArray, List.set_cons_succ, List.set_cons_zero, Nat.reduceAdd] at hK ⊢
            have HOUT := Lib.hid hK
            clear hK hdep 
            refine wp_load_mid 95 _ rfl w.heap.size 0 rfl (bys k) _ (HB1r.out.below hI HB1r.out.lt).rngT Tryd.underlying95 rfl HSK.out ?_
            simp only [Act.put, List.setIfInBounds_toArray, List.set_cons_succ, List.set_cons_zero]
            exact HOUT.out _ _ _ rfl ⟨Below.refl _ _, rfl⟩
          rcases jx with _ | jx
          · simp only [List.getElem?_toArray, List.getElem?_cons_succ, List.getElem?_cons_zero, Option.some.injEq, Nat.zero_add] at ho
            subst ho
            refine .inl ⟨rfl, fun K Q hK => ?_⟩
            simp only [putFrom, Act.put, List.setIfInBounds_toArray, List.set_cons_succ, List.set_cons_zero, Nat.reduceAdd] at hK ⊢
            have HOUT := Lib.hid hK
            clear hK hdep 
            go_simp
            exact HOUT.out _ _ _ rfl ⟨Below.refl _ _, rfl⟩
          rcases jx with _ | jx
          · simp only [List.getElem?_toArray, List.getElem?_cons_succ, List.getElem?_cons_zero, Option.some.injEq, Nat.zero_add] at ho
            subst ho
            have e0 : vs 0 = .agg (bys k).toArray := hdep 0 rfl
            have e1 : vs 1 = .int .i64 (j : Int) := hdep 1 rfl
            refine .inl ⟨rfl, fun K Q hK => ?_⟩
            simp only [putFrom, Act.put, List.setIfInBounds_toArray, List.set_cons_succ, List.set_cons_zero, Nat.reduceAdd, e0, e1] at hK ⊢
            have HOUT := Lib.hid hK
            clear hK hdep e0 e1
            go_simp
            refine (at_any k HK.out j (by omega) wb).mono ?_
            rintro e w5 ⟨rfl, hB5⟩
            go_simp
            exact HOUT.out _ _ _ rfl ⟨hB5, rfl⟩
          rcases jx with _ | jx
          · simp only [List.getElem?_toArray, List.getElem?_cons_succ, List.getElem?_cons_zero, Option.some.injEq, Nat.zero_add] at ho
            subst ho
            refine .inl ⟨rfl, fun K Q hK => ?_⟩
            simp only [putFrom, Act.put, List.setIfInBounds_toArray, List.set_cons_succ, List.set_cons_zero, Nat.reduceAdd] at hK ⊢
            have HOUT := Lib.hid hK
            clear hK hdep 
            refine wp_load_mid 95 _ rfl (w.heap.size + 1) 0 rfl (bys q) _ (HB2r.out.below hI HB2r.out.lt).rngT Tryd.underlying95 rfl HSQ.out ?_
            simp only [Act.put, List.setIfInBounds_toArray, List.set_cons_succ, List.set_cons_zero]
            exact HOUT.out _ _ _ rfl ⟨Below.refl _ _, rfl⟩
          rcases jx with _ | jx
          · simp only [List.getElem?_toArray, List.getElem?_cons_succ, List.getElem?_cons_zero, Option.some.injEq, Nat.zero_add] at ho
            subst ho
            refine .inl ⟨rfl, fun K Q hK => ?_⟩
            simp only [putFrom, Act.put, List.setIfInBounds_toArray, List.set_cons_succ, List.set_cons_zero, Nat.reduceAdd] at hK ⊢
            have HOUT := Lib.hid hK
            clear hK hdep 
            go_simp
            exact HOUT.out _ _ _ rfl ⟨Below.refl _ _, rfl⟩
          rcases jx with _ | jx
          · simp only [List.getElem?_toArray, List.getElem?_cons_succ, List.getElem?_cons_zero, Option.some.injEq, Nat.zero_add] at ho
            subst ho
            have e3 : vs 3 = .agg (bys q).toArray := hdep 3 rfl
            have e4 : vs 4 = .int .i64 (j : Int) := hdep 4 rfl
            refine .inl ⟨rfl, fun K Q hK => ?_⟩
            simp only [putFrom, Act.put, List.setIfInBounds_toArray, List.set_cons_succ, List.set_cons_zero, Nat.reduceAdd, e3, e4] at hK ⊢
            have HOUT := Lib.hid hK
            clear hK hdep e3 e4
            go_simp
            refine (at_any q HQ.out j (by omega) wb).mono ?_
            rintro e w5 ⟨rfl, hB5⟩
            go_simp
            exact HOUT.out _ _ _ rfl ⟨hB5, rfl⟩
          rcases jx with _ | jx
          · simp only [List.getElem?_toArray, List.getElem?_cons_succ, List.getElem?_cons_zero, Option.some.injEq, Nat.zero_add] at ho
            subst ho
            have e2 : vs 2 = .int .u8 (kbit k j : Int) := hdep 2 rfl
            have e5 : vs 5 = .int .u8 (kbit q j : Int) := hdep 5 rfl
            have hne := HE.out
            refine .inl ⟨rfl, fun K Q hK => ?_⟩
            simp only [putFrom, Act.put, List.setIfInBounds_toArray, List.set_cons_succ, List.set_cons_zero, Nat.reduceAdd, e2, e5] at hK ⊢
            have HOUT := Lib.hid hK
            clear hK hdep e2 e5
            go_simp
            exact HOUT.out _ _ _ rfl ⟨Below.refl _ _, rfl⟩
          exact absurd ho (by simp)
        ·
          have e6 : vs 6 = .bool false := hR 6 (by decide)
          simp only [putFrom, Act.put, List.setIfInBounds_toArray, List.set_cons_succ, List.set_cons_zero, Nat.reduceAdd, e6]
          clear hR e6
          have h1 := HB1r.out.below hI HB1r.out.lt
          have h2 := HB2r.out.below hI HB2r.out.lt
          have h3 := HBr.out.trans (hI.mono HBr.out.size)
          have H1 := Lib.hid h1; have H2 := Lib.hid h2; have H3 := Lib.hid h3
          clear hI h1 h2 h3
          go_wp2
          go_roundw
          case rel => exact ⟨j + 1, by go_num, by omega, HN.out, H1.out, H2.out, H3.out⟩
          case measure => simp [intOf]; omega
      · have HE : Hid (((kbit k j : Int) != (kbit q j : Int)) = true) := Lib.hid (by simp; omega)
        have HD := Lib.hid (show decide (∀ i, i < n → kbit k i = kbit q i) = false by simpa using ⟨j, hlt, he⟩)
        clear he
        go_wp2_with fail
        refine wp_region_inv 20 (fun jx v _ => v = ([.agg (bys k).toArray, .int .i64 (j : Int), .int .u8 (kbit k j : Int), .agg (bys q).toArray, .int .i64 (j : Int), .int .u8 (kbit q j : Int), .bool true] : List Value).getD jx undef) (Below wr.heap.size wr) (fun _ W1 W2 => Below W1.heap.size W1 W2) (by kernel_rfl) (by rfl) (by kernel_rfl) (fun _ _ _ _ _ _ _ _ _ hR => hR) (fun _ _ _ e h => h.trans (e.mono h.size)) (Below.drew (Below.refl _ _)) (fun jx o ho vs wb hI hdep => ?_) (fun vs w6 hI hR => ?_)
        · rcases jx with _ | jx
          · simp only [List.getElem?_toArray, List.getElem?_cons_zero, Option.some.injEq] at ho
            subst ho
            refine .inl ⟨rfl, fun K Q hK => ?_⟩
            simp only [putFrom, Act.put, List.setIfInBounds_toArray, List.set_cons_succ, List.set_cons_zero, Nat.reduceAdd] at hK ⊢
            have HOUT := Lib.hid hK
            clear hK hdep 
            refine wp_load_mid 95 _ rfl w.heap.size 0 rfl (bys k) _ (HB1r.out.below hI HB1r.out.lt).rngT Tryd.underlying95 rfl HSK.out ?_
            simp only [Act.put, List.setIfInBounds_toArray, List.set_cons_succ, List.set_cons_zero]
            exact HOUT.out _ _ _ rfl ⟨Below.refl _ _, rfl⟩
          rcases jx with _ | jx
          · simp only [List.getElem?_toArray, List.getElem?_cons_succ, List.getElem?_cons_zero, Option.some.injEq, Nat.zero_add] at ho
            subst ho
            refine .inl ⟨rfl, fun K Q hK => ?_⟩
            simp only [putFrom, Act.put, List.setIfInBounds_toArray, List.set_cons_succ, List.set_cons_zero, Nat.reduceAdd] at hK ⊢
            have HOUT := Lib.hid hK
            clear hK hdep 
            go_simp
            exact HOUT.out _ _ _ rfl ⟨Below.refl _ _, rfl⟩
          rcases jx with _ | jx
          · simp only [List.getElem?_toArray, List.getElem?_cons_succ, List.getElem?_cons_zero, Option.some.injEq, Nat.zero_add] at ho
            subst ho
            have e0 : vs 0 = .agg (bys k).toArray := hdep 0 rfl
            have e1 : vs 1 = .int .i64 (j : Int) := hdep 1 rfl
            refine .inl ⟨rfl, fun K Q hK => ?_⟩
            simp only [putFrom, Act.put, List.setIfInBounds_toArray, List.set_cons_succ, List.set_cons_zero, Nat.reduceAdd, e0, e1] at hK ⊢
            have HOUT := Lib.hid hK
            clear hK hdep e0 e1
            go_simp
            refine (at_any k HK.out j (by omega) wb).mono ?_
            rintro e w5 ⟨rfl, hB5⟩
            go_simp
            exact HOUT.out _ _ _ rfl ⟨hB5, rfl⟩
          rcases jx with _ | jx
          · simp only [List.getElem?_toArray, List.getElem?_cons_succ, List.getElem?_cons_zero, Option.some.injEq, Nat.zero_add] at ho
            subst ho
            refine .inl ⟨rfl, fun K Q hK => ?_⟩
            simp only [putFrom, Act.put, List.setIfInBounds_toArray, List.set_cons_succ, List.set_cons_zero, Nat.reduceAdd] at hK ⊢
            have HOUT := Lib.hid hK
            clear hK hdep 
            refine wp_load_mid 95 _ rfl (w.heap.size + 1) 0 rfl (bys q) _ (HB2r.out.below hI HB2r.out.lt).rngT Tryd.underlying95 rfl HSQ.out ?_
            simp only [Act.put, List.setIfInBounds_toArray, List.set_cons_succ, List.set_cons_zero]
            exact HOUT.out _ _ _ rfl ⟨Below.refl _ _, rfl⟩
          rcases jx with _ | jx
          · simp only [List.getElem?_toArray, List.getElem?_cons_succ, List.getElem?_cons_zero, Option.some.injEq, Nat.zero_add] at ho
            subst ho
            refine .inl ⟨rfl, fun K Q hK => ?_⟩
            simp only [putFrom, Act.put, List.setIfInBounds_toArray, List.set_cons_succ, List.set_cons_zero, Nat.reduceAdd] at hK ⊢
            have HOUT := Lib.hid hK
            clear hK hdep 
            go_simp
            exact HOUT.out _ _ _ rfl ⟨Below.refl _ _, rfl⟩
          rcases jx with _ | jx
          · simp only [List.getElem?_toArray, List.getElem?_cons_succ, List.getElem?_cons_zero, Option.some.injEq, Nat.zero_add] at ho
            subst ho
            have e3 : vs 3 = .agg (bys q).toArray := hdep 3 rfl
            have e4 : vs 4 = .int .i64 (j : Int) := hdep 4 rfl
            refine .inl ⟨rfl, fun K Q hK => ?_⟩
            simp only [putFrom, Act.put, List.setIfInBounds_toArray, List.set_cons_succ, List.set_cons_zero, Nat.reduceAdd, e3, e4] at hK ⊢
            have HOUT := Lib.hid hK
            clear hK hdep e3 e4
            go_simp
            refine (at_any q HQ.out j (by omega) wb).mono ?_
            rintro e w5 ⟨rfl, hB5⟩
            go_simp
            exact HOUT.out _ _ _ rfl ⟨hB5, rfl⟩
          rcases jx with _ | jx
          · simp only [List.getElem?_toArray, List.getElem?_cons_succ, List.getElem?_cons_zero, Option.some.injEq, Nat.zero_add] at ho
            subst ho
            have e2 : vs 2 = .int .u8 (kbit k j : Int) := hdep 2 rfl
            have e5 : vs 5 = .int .u8 (kbit q j : Int) := hdep 5 rfl
            have hne := HE.out
            refine .inl ⟨rfl, fun K Q hK => ?_⟩
            simp only [putFrom, Act.put, List.setIfInBounds_toArray, List.set_cons_succ, List.set_cons_zero, Nat.reduceAdd, e2, e5] at hK ⊢
            have HOUT := Lib.hid hK
            clear hK hdep e2 e5
            go_simp
            exact HOUT.out _ _ _ rfl ⟨Below.refl _ _, rfl⟩
          exact absurd ho (by simp)
        ·
          have e6 : vs 6 = .bool true := hR 6 (by decide)
          simp only [putFrom, Act.put, List.setIfInBounds_toArray, List.set_cons_succ, List.set_cons_zero, Nat.reduceAdd, e6]
          clear hR e6
          have h3 := HBr.out.trans (hI.mono HBr.out.size)
          clear hI
          go_wp2
          go_ret
          exact ⟨by rw [HD.out]; rfl, h3⟩
    · obtain rfl : j = n := by omega
      have HD := Lib.hid (show decide (∀ i, i < j → kbit k i = kbit q i) = true by simpa using HALL.out)
      have h3 := HBr.out
      go_wp2
      go_ret
      exact ⟨by rw [HD.out]; rfl, h3⟩
end Go.Proofs.YtapbaonlboefeaaDoor
