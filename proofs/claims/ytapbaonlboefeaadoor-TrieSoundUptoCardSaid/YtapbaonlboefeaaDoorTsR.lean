/- trie: the document's entries in memory; wapentakeref04.May, Get. WRITTEN BY wip/gen/tsr.py. -/
import Derived.Test.YtapbaonlboefeaaDoorTrM
import Derived.Test.YtapbaonlboefeaaDoorCnv
import Derived.Test.YtapbaonlboefeaaDoorTsG
namespace Go.Proofs.YtapbaonlboefeaaDoor
open Go.RowKit

/-- Entries as the document has them. -/
structure EntsR (w : World) (B : Nat) (A : Option Addr) (L : List Ent) : Prop where
  keys : Keys L
  few : L.length ≤ 1048576
  short : ∀ e ∈ L, e.2.length ≤ 1048576
  at_ : ∀ i (h : i < L.length), ∃ b o, A = some ⟨b, o, none⟩ ∧ b < B ∧ w.rangeAt b (o + i * 33) (bys (L[i]'h).1 ++ [.string (strB (L[i]'h).2)])
theorem EntsR.below {w w' : World} {B : Nat} {A : Option Addr} {L : List Ent} (h : EntsR w B A L) (hb : Below B w w') : EntsR w' B A L := ⟨h.keys, h.few, h.short, fun i hi => by
  obtain ⟨b, o, h1, h2, h3⟩ := h.at_ i hi
  exact ⟨b, o, h1, h2, rng_below h3 hb h2⟩⟩
theorem EntsR.wide {w : World} {B B' : Nat} {A : Option Addr} {L : List Ent} (h : EntsR w B A L) (hB : B ≤ B') : EntsR w B' A L := ⟨h.keys, h.few, h.short, fun i hi => by
  obtain ⟨b, o, h1, h2, h3⟩ := h.at_ i hi
  exact ⟨b, o, h1, by omega, h3⟩⟩
theorem rng_sees {w : World} {b o n : Nat} {xs : List Value} (h : w.rangeAt b o xs) (hb : b < w.heap.size) (hn : xs.length = n) : Sees w w.heap.size 1 (some ⟨b, o, none⟩) n xs := ⟨by omega, .inr ⟨_, rfl, hb, fun j u hu => by rw [Addr.add_mid]; exact h j u hu⟩⟩
/-- The order of strings of one length. -/
theorem less_lt : ∀ (a b : List UInt8), a.length = b.length → Op.bytesLess a b = decide (un8 a < un8 b)
  | [], [], _ => by simp [Op.bytesLess]
  | [], _ :: _, h => by simp at h
  | _ :: _, [], h => by simp at h
  | x :: a, y :: b, h => by
    have hl : a.length = b.length := by simpa using h
    have ih := less_lt a b hl
    have hc := cmp_lt (x :: a) (y :: b) h
    have hc2 := cmp_lt a b hl
    unfold Lib.compareBytes at hc
    rw [Op.bytesLess, ih]
    by_cases h1 : x < y
    · rw [if_pos h1] at hc
      simp [h1, hc.1 (by decide)]
    · rw [if_neg h1] at hc
      by_cases h2 : y < x
      · rw [if_pos h2] at hc
        have hne : ¬ x = y := fun e => by subst e; exact h1 h2
        have : ¬ un8 (x :: a) < un8 (y :: b) := fun q => absurd (hc.2 q) (by decide)
        simp [h1, hne, this]
      · rw [if_neg h2] at hc
        have hxy : x = y := UInt8.le_antisymm (UInt8.not_lt.1 h2) (UInt8.not_lt.1 h1)
        have e : (un8 (x :: a) < un8 (y :: b)) ↔ (un8 a < un8 b) := hc.symm.trans hc2
        simp [hxy]
        rw [hxy] at e
        exact e.symm
set_option maxRecDepth 20000 in
set_option maxHeartbeats 3200000 in
theorem rmay_any (w : World) (B c : Nat) (hBw : B ≤ w.heap.size) (A : Option Addr) (L : List Ent) (h : EntsR w B A L) (hn : L.length ≤ 4611686018427387904) :
    Calls Tryd.prog 12 #[.slice A L.length c] w fun e w' => e = .returned (.bool (decide (MayP L))) ∧ Below w.heap.size w w' := by
  have HE := Lib.hid h; have HW := Lib.hid hBw; have HN := Lib.hid hn
  clear h hBw
  obtain ⟨n, hnn⟩ : ∃ n, n = L.length := ⟨_, rfl⟩
  rw [← hnn] at hn ⊢
  have HNN := Lib.hid hnn
  clear hnn
  have hn' : (n : Int) ≤ 4611686018427387904 := by omega
  go_enter Tryd.func12, Tryd.ntmps12
  go_wp2_with fail
  go_loopw [3] (fun t wr => ∃ i : Nat, t = .int .i64 (i : Int) ∧ 1 ≤ i ∧ (∀ j (h : j + 1 < L.length), j + 1 < i → un8 (L[j]'(by omega)).1 < un8 (L[j + 1]'h).1) ∧ Below w.heap.size w wr) (fun t _ => n - (intOf t).toNat)
  case atStart => exact ⟨1, rfl, by omega, fun j _ h => by omega, Below.refl _ _⟩
  case round =>
    obtain ⟨i, rfl, hi, hall, hBr⟩ := hrel
    have HALL := Lib.hid hall
    have HBr := Lib.hid hBr
    clear hall hBr
    rcases Nat.lt_or_ge i n with hlt | hge
    · have hlt' : (i : Int) < (n : Int) := by omega
      obtain ⟨m, rfl⟩ : ∃ m, i = m + 1 := ⟨i - 1, by omega⟩
      have hmi : m + 1 < L.length := by rw [← HNN.out]; exact hlt
      have HMI := Lib.hid hmi
      obtain ⟨b, o, hA, hb, hr1⟩ := (HE.out.below (HBr.out.mono HW.out)).at_ m (show m < L.length by omega)
      obtain ⟨b', o', hA', -, hr2⟩ := (HE.out.below (HBr.out.mono HW.out)).at_ (m + 1) hmi
      have hr1 := rng_left hr1
      have hr2 := rng_left hr2
      rw [hA] at hA'
      injection hA' with hA'
      injection hA' with q1 q2
      subst q1; subst q2
      subst hA
      have k1 := HE.out.keys _ (List.getElem_mem (show m < L.length by omega))
      have k2 := HE.out.keys _ (List.getElem_mem hmi)
      have HBB : Hid (b < wr.heap.size) := Lib.hid (Nat.lt_of_lt_of_le hb (Nat.le_trans HW.out HBr.out.size))
      have hcm := less_lt _ _ (k1.trans k2.symm)
      have HADJ : Hid (∀ (x : un8 (L[m]'(by omega)).1 < un8 (L[m + 1]'hmi).1) j (h : j + 1 < L.length), j + 1 < m + 1 + 1 → un8 (L[j]'(by omega)).1 < un8 (L[j + 1]'h).1) := Lib.hid (fun x j h hj => by
        rcases Nat.lt_or_ge j m with q | q
        · exact HALL.out j h (by omega)
        · obtain rfl : j = m := by omega
          exact x)
      have HNOT : Hid (¬ un8 (L[m]'(by omega)).1 < un8 (L[m + 1]'hmi).1 → ¬ MayP L) := Lib.hid (may_not hmi)
      have HR1 := Lib.hid hr1; have HR2 := Lib.hid hr2; have HK1 := Lib.hid k1; have HK2 := Lib.hid k2
      clear hb hr1 hr2 k1 k2 hi
      generalize (L[m]'(by omega)).1 = K1 at *
      generalize (L[m + 1]'hmi).1 = K2 at *
      obtain ⟨i, hii⟩ : ∃ i, i = m + 1 := ⟨_, rfl⟩
      rw [← hii] at HR2
      have hm1 : (i : Int) - 1 = (m : Int) := by omega
      have hm2 : (0 : Int) ≤ (m : Int) := by omega
      have hm3 : (m : Int) < (n : Int) := by omega
      have hi1 : (0 : Int) ≤ (i : Int) := by omega
      rw [← hii] at hlt' ⊢
      have HII := Lib.hid hii
      have HWM : Hid (IntKind.i64.wrap (m : Int) = (m : Int)) := Lib.hid (IntWalk.i64_in _ ⟨by omega, by omega⟩)
      clear hii
      by_cases hx : un8 K1 < un8 K2
      · have hcx : Op.bytesLess (strB K1).toList (strB K2).toList = true := by rw [strB_list, strB_list, hcm]; simpa using hx
        have HADJ' := Lib.hid (HADJ.out hx)
        have HCX := Lib.hid hcx
        clear hcm hx hcx HADJ HNOT
        go_wp2_with fail
        refine wp_region_inv 24 (fun jx v _ => v = ([.slice (some ⟨b, o, none⟩) n c, .int .i64 (i : Int), .int .i64 (m : Int), .pointer (some ⟨b, o + m * 33, none⟩), .pointer (some ⟨b, o + m * 33, none⟩), .slice (some ⟨b, o + m * 33, none⟩) 32 32, .string (strB K1), .slice (some ⟨b, o, none⟩) n c, .int .i64 (i : Int), .pointer (some ⟨b, o + i * 33, none⟩), .pointer (some ⟨b, o + i * 33, none⟩), .slice (some ⟨b, o + i * 33, none⟩) 32 32, .string (strB K2), .bool false] : List Value).getD jx undef) (Below wr.heap.size wr) (fun _ W1 W2 => Below W1.heap.size W1 W2) (by kernel_rfl) (by rfl) (by kernel_rfl) (fun _ _ _ _ _ _ _ _ _ hR => hR) (fun _ _ _ e h => h.trans (e.mono h.size)) (Below.drew (Below.refl _ _)) (fun jx o ho vs wb hI hdep => ?_) (fun vs w6 hI hR => ?_)
        · rcases jx with _ | jx
          · simp only [List.getElem?_toArray, List.getElem?_cons_zero, Option.some.injEq] at ho
            subst ho
            refine .inl ⟨rfl, fun K Q hK => ?_⟩
            simp only [putFrom, Act.put, List.setIfInBounds_toArray, List.set_cons_succ, List.set_cons_zero, Nat.reduceAdd] at hK ⊢
            have HOUT := Lib.hid hK
            clear hK hdep 
            go_simp
            exact HOUT.out _ _ _ rfl ⟨Below.refl _ _, rfl⟩
          rcases jx with _ | jx
          · simp only [List.getElem?_toArray, List.getElem?_cons_succ, List.getElem?_cons_zero, Option.some.injEq, Nat.zero_add] at ho
            subst ho
            refine .inl ⟨rfl, fun K Q hK => ?_⟩
            simp only [putFrom, Act.put, List.setIfInBounds_toArray, List.set_cons_succ, List.set_cons_zero, Nat.reduceAdd] at hK ⊢
            have HOUT := Lib.hid hK
            clear hK hdep 
            go_simp
            exact HOUT.out _ _ _ rfl ⟨Below.refl _ _, rfl⟩
          rcases jx with _ | jx
          · simp only [List.getElem?_toArray, List.getElem?_cons_succ, List.getElem?_cons_zero, Option.some.injEq, Nat.zero_add] at ho
            subst ho
            have e1 : vs 1 = .int .i64 (i : Int) := hdep 1 rfl
            have hwm := HWM.out
            refine .inl ⟨rfl, fun K Q hK => ?_⟩
            simp only [putFrom, Act.put, List.setIfInBounds_toArray, List.set_cons_succ, List.set_cons_zero, Nat.reduceAdd, e1] at hK ⊢
            have HOUT := Lib.hid hK
            clear hK hdep e1
            go_simp
            exact HOUT.out _ _ _ rfl ⟨Below.refl _ _, rfl⟩
          rcases jx with _ | jx
          · simp only [List.getElem?_toArray, List.getElem?_cons_succ, List.getElem?_cons_zero, Option.some.injEq, Nat.zero_add] at ho
            subst ho
            have e0 : vs 0 = .slice (some ⟨b, o, none⟩) n c := hdep 0 rfl
            have e2 : vs 2 = .int .i64 (m : Int) := hdep 2 rfl
            refine .inl ⟨rfl, fun K Q hK => ?_⟩
            simp only [putFrom, Act.put, List.setIfInBounds_toArray, List.set_cons_succ, List.set_cons_zero, Nat.reduceAdd, e0, e2] at hK ⊢
            have HOUT := Lib.hid hK
            clear hK hdep e0 e2
            go_simp
            exact HOUT.out _ _ _ rfl ⟨Below.refl _ _, rfl⟩
          rcases jx with _ | jx
          · simp only [List.getElem?_toArray, List.getElem?_cons_succ, List.getElem?_cons_zero, Option.some.injEq, Nat.zero_add] at ho
            subst ho
            have e3 : vs 3 = .pointer (some ⟨b, o + m * 33, none⟩) := hdep 3 rfl
            refine .inl ⟨rfl, fun K Q hK => ?_⟩
            simp only [putFrom, Act.put, List.setIfInBounds_toArray, List.set_cons_succ, List.set_cons_zero, Nat.reduceAdd, e3] at hK ⊢
            have HOUT := Lib.hid hK
            clear hK hdep e3
            go_simp
            exact HOUT.out _ _ _ rfl ⟨Below.refl _ _, rfl⟩
          rcases jx with _ | jx
          · simp only [List.getElem?_toArray, List.getElem?_cons_succ, List.getElem?_cons_zero, Option.some.injEq, Nat.zero_add] at ho
            subst ho
            have e4 : vs 4 = .pointer (some ⟨b, o + m * 33, none⟩) := hdep 4 rfl
            refine .inl ⟨rfl, fun K Q hK => ?_⟩
            simp only [putFrom, Act.put, List.setIfInBounds_toArray, List.set_cons_succ, List.set_cons_zero, Nat.reduceAdd, e4] at hK ⊢
            have HOUT := Lib.hid hK
            clear hK hdep e4
            go_simp
            exact HOUT.out _ _ _ rfl ⟨Below.refl _ _, rfl⟩
          rcases jx with _ | jx
          · simp only [List.getElem?_toArray, List.getElem?_cons_succ, List.getElem?_cons_zero, Option.some.injEq, Nat.zero_add] at ho
            subst ho
            have e5 : vs 5 = .slice (some ⟨b, o + m * 33, none⟩) 32 32 := hdep 5 rfl
            have hcv : (convert 31 9 (.slice (some ⟨b, o + m * 33, none⟩) 32 32)).run Tryd.prog wb = .ok (.string (strB K1)) wb := conv_sees 32 (rng_sees (rng_below HR1.out hI HBB.out) (Nat.lt_of_lt_of_le HBB.out hI.size) (by rw [bys_len, HK1.out]))
            refine .inl ⟨rfl, fun K Q hK => ?_⟩
            simp only [putFrom, Act.put, List.setIfInBounds_toArray, List.set_cons_succ, List.set_cons_zero, Nat.reduceAdd, e5] at hK ⊢
            have HOUT := Lib.hid hK
            clear hK hdep e5
            go_simp
            exact HOUT.out _ _ _ rfl ⟨Below.refl _ _, rfl⟩
          rcases jx with _ | jx
          · simp only [List.getElem?_toArray, List.getElem?_cons_succ, List.getElem?_cons_zero, Option.some.injEq, Nat.zero_add] at ho
            subst ho
            refine .inl ⟨rfl, fun K Q hK => ?_⟩
            simp only [putFrom, Act.put, List.setIfInBounds_toArray, List.set_cons_succ, List.set_cons_zero, Nat.reduceAdd] at hK ⊢
            have HOUT := Lib.hid hK
            clear hK hdep 
            go_simp
            exact HOUT.out _ _ _ rfl ⟨Below.refl _ _, rfl⟩
          rcases jx with _ | jx
          · simp only [List.getElem?_toArray, List.getElem?_cons_succ, List.getElem?_cons_zero, Option.some.injEq, Nat.zero_add] at ho
            subst ho
            refine .inl ⟨rfl, fun K Q hK => ?_⟩
            simp only [putFrom, Act.put, List.setIfInBounds_toArray, List.set_cons_succ, List.set_cons_zero, Nat.reduceAdd] at hK ⊢
            have HOUT := Lib.hid hK
            clear hK hdep 
            go_simp
            exact HOUT.out _ _ _ rfl ⟨Below.refl _ _, rfl⟩
          rcases jx with _ | jx
          · simp only [List.getElem?_toArray, List.getElem?_cons_succ, List.getElem?_cons_zero, Option.some.injEq, Nat.zero_add] at ho
            subst ho
            have e7 : vs 7 = .slice (some ⟨b, o, none⟩) n c := hdep 7 rfl
            have e8 : vs 8 = .int .i64 (i : Int) := hdep 8 rfl
            refine .inl ⟨rfl, fun K Q hK => ?_⟩
            simp only [putFrom, Act.put, List.setIfInBounds_toArray, List.set_cons_succ, List.set_cons_zero, Nat.reduceAdd, e7, e8] at hK ⊢
            have HOUT := Lib.hid hK
            clear hK hdep e7 e8
            go_simp
            exact HOUT.out _ _ _ rfl ⟨Below.refl _ _, rfl⟩
          rcases jx with _ | jx
          · simp only [List.getElem?_toArray, List.getElem?_cons_succ, List.getElem?_cons_zero, Option.some.injEq, Nat.zero_add] at ho
            subst ho
            have e9 : vs 9 = .pointer (some ⟨b, o + i * 33, none⟩) := hdep 9 rfl
            refine .inl ⟨rfl, fun K Q hK => ?_⟩
            simp only [putFrom, Act.put, List.setIfInBounds_toArray, List.set_cons_succ, List.set_cons_zero, Nat.reduceAdd, e9] at hK ⊢
            have HOUT := Lib.hid hK
            clear hK hdep e9
            go_simp
            exact HOUT.out _ _ _ rfl ⟨Below.refl _ _, rfl⟩
          rcases jx with _ | jx
          · simp only [List.getElem?_toArray, List.getElem?_cons_succ, List.getElem?_cons_zero, Option.some.injEq, Nat.zero_add] at ho
            subst ho
            have e10 : vs 10 = .pointer (some ⟨b, o + i * 33, none⟩) := hdep 10 rfl
            refine .inl ⟨rfl, fun K Q hK => ?_⟩
            simp only [putFrom, Act.put, List.setIfInBounds_toArray, List.set_cons_succ, List.set_cons_zero, Nat.reduceAdd, e10] at hK ⊢
            have HOUT := Lib.hid hK
            clear hK hdep e10
            go_simp
            exact HOUT.out _ _ _ rfl ⟨Below.refl _ _, rfl⟩
          rcases jx with _ | jx
          · simp only [List.getElem?_toArray, List.getElem?_cons_succ, List.getElem?_cons_zero, Option.some.injEq, Nat.zero_add] at ho
            subst ho
            have e11 : vs 11 = .slice (some ⟨b, o + i * 33, none⟩) 32 32 := hdep 11 rfl
            have hcv : (convert 31 9 (.slice (some ⟨b, o + i * 33, none⟩) 32 32)).run Tryd.prog wb = .ok (.string (strB K2)) wb := conv_sees 32 (rng_sees (rng_below HR2.out hI HBB.out) (Nat.lt_of_lt_of_le HBB.out hI.size) (by rw [bys_len, HK2.out]))
            refine .inl ⟨rfl, fun K Q hK => ?_⟩
            simp only [putFrom, Act.put, List.setIfInBounds_toArray, List.set_cons_succ, List.set_cons_zero, Nat.reduceAdd, e11] at hK ⊢
            have HOUT := Lib.hid hK
            clear hK hdep e11
            go_simp
            exact HOUT.out _ _ _ rfl ⟨Below.refl _ _, rfl⟩
          rcases jx with _ | jx
          · simp only [List.getElem?_toArray, List.getElem?_cons_succ, List.getElem?_cons_zero, Option.some.injEq, Nat.zero_add] at ho
            subst ho
            have e6 : vs 6 = .string (strB K1) := hdep 6 rfl
            have e12 : vs 12 = .string (strB K2) := hdep 12 rfl
            have hcx := HCX.out
            refine .inl ⟨rfl, fun K Q hK => ?_⟩
            simp only [putFrom, Act.put, List.setIfInBounds_toArray, List.set_cons_succ, List.set_cons_zero, Nat.reduceAdd, e6, e12] at hK ⊢
            have HOUT := Lib.hid hK
            clear hK hdep e6 e12
            go_simp
            exact HOUT.out _ _ _ rfl ⟨Below.refl _ _, by rw [hcx]; rfl⟩
          exact absurd ho (by simp)
        ·
          have e13 : vs 13 = .bool false := hR 13 (by decide)
          simp only [putFrom, Act.put, List.setIfInBounds_toArray, List.set_cons_succ, List.set_cons_zero, Nat.reduceAdd, e13]
          clear hR e13
          have hB := HBr.out.trans (hI.mono HBr.out.size)
          have HB := Lib.hid hB
          clear hI hB
          go_wp2
          go_roundw
          case rel => exact ⟨i + 1, by go_num, by omega, by rw [HII.out]; exact HADJ'.out, HB.out⟩
          case measure => simp [intOf]; omega
      · have hcx : Op.bytesLess (strB K1).toList (strB K2).toList = false := by rw [strB_list, strB_list, hcm]; simpa using hx
        have HD : Hid (decide (MayP L) = false) := Lib.hid (by simpa using HNOT.out hx)
        have HCX := Lib.hid hcx
        clear hcm hx hcx HADJ HNOT
        go_wp2_with fail
        refine wp_region_inv 24 (fun jx v _ => v = ([.slice (some ⟨b, o, none⟩) n c, .int .i64 (i : Int), .int .i64 (m : Int), .pointer (some ⟨b, o + m * 33, none⟩), .pointer (some ⟨b, o + m * 33, none⟩), .slice (some ⟨b, o + m * 33, none⟩) 32 32, .string (strB K1), .slice (some ⟨b, o, none⟩) n c, .int .i64 (i : Int), .pointer (some ⟨b, o + i * 33, none⟩), .pointer (some ⟨b, o + i * 33, none⟩), .slice (some ⟨b, o + i * 33, none⟩) 32 32, .string (strB K2), .bool true] : List Value).getD jx undef) (Below wr.heap.size wr) (fun _ W1 W2 => Below W1.heap.size W1 W2) (by kernel_rfl) (by rfl) (by kernel_rfl) (fun _ _ _ _ _ _ _ _ _ hR => hR) (fun _ _ _ e h => h.trans (e.mono h.size)) (Below.drew (Below.refl _ _)) (fun jx o ho vs wb hI hdep => ?_) (fun vs w6 hI hR => ?_)
        · rcases jx with _ | jx
          · simp only [List.getElem?_toArray, List.getElem?_cons_zero, Option.some.injEq] at ho
            subst ho
            refine .inl ⟨rfl, fun K Q hK => ?_⟩
            simp only [putFrom, Act.put, List.setIfInBounds_toArray, List.set_cons_succ, List.set_cons_zero, Nat.reduceAdd] at hK ⊢
            have HOUT := Lib.hid hK
            clear hK hdep 
            go_simp
            exact HOUT.out _ _ _ rfl ⟨Below.refl _ _, rfl⟩
          rcases jx with _ | jx
          · simp only [List.getElem?_toArray, List.getElem?_cons_succ, List.getElem?_cons_zero, Option.some.injEq, Nat.zero_add] at ho
            subst ho
            refine .inl ⟨rfl, fun K Q hK => ?_⟩
            simp only [putFrom, Act.put, List.setIfInBounds_toArray, List.set_cons_succ, List.set_cons_zero, Nat.reduceAdd] at hK ⊢
            have HOUT := Lib.hid hK
            clear hK hdep 
            go_simp
            exact HOUT.out _ _ _ rfl ⟨Below.refl _ _, rfl⟩
          rcases jx with _ | jx
          · simp only [List.getElem?_toArray, List.getElem?_cons_succ, List.getElem?_cons_zero, Option.some.injEq, Nat.zero_add] at ho
            subst ho
            have e1 : vs 1 = .int .i64 (i : Int) := hdep 1 rfl
            have hwm := HWM.out
            refine .inl ⟨rfl, fun K Q hK => ?_⟩
            simp only [putFrom, Act.put, List.setIfInBounds_toArray, List.set_cons_succ, List.set_cons_zero, Nat.reduceAdd, e1] at hK ⊢
            have HOUT := Lib.hid hK
            clear hK hdep e1
            go_simp
            exact HOUT.out _ _ _ rfl ⟨Below.refl _ _, rfl⟩
          rcases jx with _ | jx
          · simp only [List.getElem?_toArray, List.getElem?_cons_succ, List.getElem?_cons_zero, Option.some.injEq, Nat.zero_add] at ho
            subst ho
            have e0 : vs 0 = .slice (some ⟨b, o, none⟩) n c := hdep 0 rfl
            have e2 : vs 2 = .int .i64 (m : Int) := hdep 2 rfl
            refine .inl ⟨rfl, fun K Q hK => ?_⟩
            simp only [putFrom, Act.put, List.setIfInBounds_toArray, List.set_cons_succ, List.set_cons_zero, Nat.reduceAdd, e0, e2] at hK ⊢
            have HOUT := Lib.hid hK
            clear hK hdep e0 e2
            go_simp
            exact HOUT.out _ _ _ rfl ⟨Below.refl _ _, rfl⟩
          rcases jx with _ | jx
          · simp only [List.getElem?_toArray, List.getElem?_cons_succ, List.getElem?_cons_zero, Option.some.injEq, Nat.zero_add] at ho
            subst ho
            have e3 : vs 3 = .pointer (some ⟨b, o + m * 33, none⟩) := hdep 3 rfl
            refine .inl ⟨rfl, fun K Q hK => ?_⟩
            simp only [putFrom, Act.put, List.setIfInBounds_toArray, List.set_cons_succ, List.set_cons_zero, Nat.reduceAdd, e3] at hK ⊢
            have HOUT := Lib.hid hK
            clear hK hdep e3
            go_simp
            exact HOUT.out _ _ _ rfl ⟨Below.refl _ _, rfl⟩
          rcases jx with _ | jx
          · simp only [List.getElem?_toArray, List.getElem?_cons_succ, List.getElem?_cons_zero, Option.some.injEq, Nat.zero_add] at ho
            subst ho
            have e4 : vs 4 = .pointer (some ⟨b, o + m * 33, none⟩) := hdep 4 rfl
            refine .inl ⟨rfl, fun K Q hK => ?_⟩
            simp only [putFrom, Act.put, List.setIfInBounds_toArray, List.set_cons_succ, List.set_cons_zero, Nat.reduceAdd, e4] at hK ⊢
            have HOUT := Lib.hid hK
            clear hK hdep e4
            go_simp
            exact HOUT.out _ _ _ rfl ⟨Below.refl _ _, rfl⟩
          rcases jx with _ | jx
          · simp only [List.getElem?_toArray, List.getElem?_cons_succ, List.getElem?_cons_zero, Option.some.injEq, Nat.zero_add] at ho
            subst ho
            have e5 : vs 5 = .slice (some ⟨b, o + m * 33, none⟩) 32 32 := hdep 5 rfl
            have hcv : (convert 31 9 (.slice (some ⟨b, o + m * 33, none⟩) 32 32)).run Tryd.prog wb = .ok (.string (strB K1)) wb := conv_sees 32 (rng_sees (rng_below HR1.out hI HBB.out) (Nat.lt_of_lt_of_le HBB.out hI.size) (by rw [bys_len, HK1.out]))
            refine .inl ⟨rfl, fun K Q hK => ?_⟩
            simp only [putFrom, Act.put, List.setIfInBounds_toArray, List.set_cons_succ, List.set_cons_zero, Nat.reduceAdd, e5] at hK ⊢
            have HOUT := Lib.hid hK
            clear hK hdep e5
            go_simp
            exact HOUT.out _ _ _ rfl ⟨Below.refl _ _, rfl⟩
          rcases jx with _ | jx
          · simp only [List.getElem?_toArray, List.getElem?_cons_succ, List.getElem?_cons_zero, Option.some.injEq, Nat.zero_add] at ho
            subst ho
            refine .inl ⟨rfl, fun K Q hK => ?_⟩
            simp only [putFrom, Act.put, List.setIfInBounds_toArray, List.set_cons_succ, List.set_cons_zero, Nat.reduceAdd] at hK ⊢
            have HOUT := Lib.hid hK
            clear hK hdep 
            go_simp
            exact HOUT.out _ _ _ rfl ⟨Below.refl _ _, rfl⟩
          rcases jx with _ | jx
          · simp only [List.getElem?_toArray, List.getElem?_cons_succ, List.getElem?_cons_zero, Option.some.injEq, Nat.zero_add] at ho
            subst ho
            refine .inl ⟨rfl, fun K Q hK => ?_⟩
            simp only [putFrom, Act.put, List.setIfInBounds_toArray, List.set_cons_succ, List.set_cons_zero, Nat.reduceAdd] at hK ⊢
            have HOUT := Lib.hid hK
            clear hK hdep 
            go_simp
            exact HOUT.out _ _ _ rfl ⟨Below.refl _ _, rfl⟩
          rcases jx with _ | jx
          · simp only [List.getElem?_toArray, List.getElem?_cons_succ, List.getElem?_cons_zero, Option.some.injEq, Nat.zero_add] at ho
            subst ho
            have e7 : vs 7 = .slice (some ⟨b, o, none⟩) n c := hdep 7 rfl
            have e8 : vs 8 = .int .i64 (i : Int) := hdep 8 rfl
            refine .inl ⟨rfl, fun K Q hK => ?_⟩
            simp only [putFrom, Act.put, List.setIfInBounds_toArray, List.set_cons_succ, List.set_cons_zero, Nat.reduceAdd, e7, e8] at hK ⊢
            have HOUT := Lib.hid hK
            clear hK hdep e7 e8
            go_simp
            exact HOUT.out _ _ _ rfl ⟨Below.refl _ _, rfl⟩
          rcases jx with _ | jx
          · simp only [List.getElem?_toArray, List.getElem?_cons_succ, List.getElem?_cons_zero, Option.some.injEq, Nat.zero_add] at ho
            subst ho
            have e9 : vs 9 = .pointer (some ⟨b, o + i * 33, none⟩) := hdep 9 rfl
            refine .inl ⟨rfl, fun K Q hK => ?_⟩
            simp only [putFrom, Act.put, List.setIfInBounds_toArray, List.set_cons_succ, List.set_cons_zero, Nat.reduceAdd, e9] at hK ⊢
            have HOUT := Lib.hid hK
            clear hK hdep e9
            go_simp
            exact HOUT.out _ _ _ rfl ⟨Below.refl _ _, rfl⟩
          rcases jx with _ | jx
          · simp only [List.getElem?_toArray, List.getElem?_cons_succ, List.getElem?_cons_zero, Option.some.injEq, Nat.zero_add] at ho
            subst ho
            have e10 : vs 10 = .pointer (some ⟨b, o + i * 33, none⟩) := hdep 10 rfl
            refine .inl ⟨rfl, fun K Q hK => ?_⟩
            simp only [putFrom, Act.put, List.setIfInBounds_toArray, List.set_cons_succ, List.set_cons_zero, Nat.reduceAdd, e10] at hK ⊢
            have HOUT := Lib.hid hK
            clear hK hdep e10
            go_simp
            exact HOUT.out _ _ _ rfl ⟨Below.refl _ _, rfl⟩
          rcases jx with _ | jx
          · simp only [List.getElem?_toArray, List.getElem?_cons_succ, List.getElem?_cons_zero, Option.some.injEq, Nat.zero_add] at ho
            subst ho
            have e11 : vs 11 = .slice (some ⟨b, o + i * 33, none⟩) 32 32 := hdep 11 rfl
            have hcv : (convert 31 9 (.slice (some ⟨b, o + i * 33, none⟩) 32 32)).run Tryd.prog wb = .ok (.string (strB K2)) wb := conv_sees 32 (rng_sees (rng_below HR2.out hI HBB.out) (Nat.lt_of_lt_of_le HBB.out hI.size) (by rw [bys_len, HK2.out]))
            refine .inl ⟨rfl, fun K Q hK => ?_⟩
            simp only [putFrom, Act.put, List.setIfInBounds_toArray, List.set_cons_succ, List.set_cons_zero, Nat.reduceAdd, e11] at hK ⊢
            have HOUT := Lib.hid hK
            clear hK hdep e11
            go_simp
            exact HOUT.out _ _ _ rfl ⟨Below.refl _ _, rfl⟩
          rcases jx with _ | jx
          · simp only [List.getElem?_toArray, List.getElem?_cons_succ, List.getElem?_cons_zero, Option.some.injEq, Nat.zero_add] at ho
            subst ho
            have e6 : vs 6 = .string (strB K1) := hdep 6 rfl
            have e12 : vs 12 = .string (strB K2) := hdep 12 rfl
            have hcx := HCX.out
            refine .inl ⟨rfl, fun K Q hK => ?_⟩
            simp only [putFrom, Act.put, List.setIfInBounds_toArray, List.set_cons_succ, List.set_cons_zero, Nat.reduceAdd, e6, e12] at hK ⊢
            have HOUT := Lib.hid hK
            clear hK hdep e6 e12
            go_simp
            exact HOUT.out _ _ _ rfl ⟨Below.refl _ _, by rw [hcx]; rfl⟩
          exact absurd ho (by simp)
        ·
          have e13 : vs 13 = .bool true := hR 13 (by decide)
          simp only [putFrom, Act.put, List.setIfInBounds_toArray, List.set_cons_succ, List.set_cons_zero, Nat.reduceAdd, e13]
          clear hR e13
          have hB := HBr.out.trans (hI.mono HBr.out.size)
          clear hI
          go_wp2
          go_ret
          exact ⟨by rw [HD.out]; rfl, hB⟩
    · have hge' : (n : Int) ≤ (i : Int) := by omega
      have HD : Hid (decide (MayP L) = true) := Lib.hid (by
        simp only [decide_eq_true_eq]
        exact may_adj L (fun j hj => HALL.out j hj (by have := HNN.out; omega)))
      go_wp2
      go_ret
      exact ⟨by rw [HD.out]; rfl, HBr.out⟩
set_option maxRecDepth 20000 in
set_option maxHeartbeats 1600000 in
theorem rget_any (w : World) (B c : Nat) (hBw : B ≤ w.heap.size) (A : Option Addr) (L : List Ent) (h : EntsR w B A L) (key : List UInt8) (hkey : key.length = 32) :
    Calls Tryd.prog 20 #[.slice A L.length c, .agg (bys key).toArray] w fun e w' => e = .returned (.tuple #[.string (strB ((getT L key).getD [])), .bool (getT L key).isSome]) ∧ Below w.heap.size w w' := by
  have hb0 := HB.new w 24 (bys key)
  have hB0 := below_alloc1 w (.cells (bys key).toArray 24)
  have hq0 : (w.alloc (.cells (bys key).toArray 24)).heap.size = w.heap.size + 1 := by simp
  generalize hw0 : w.alloc (.cells (bys key).toArray 24) = w0 at *
  have HK0 := Lib.hid hb0; have HB0 := Lib.hid hB0; have HE := Lib.hid (h.below (hB0.mono hBw)); have HW := Lib.hid hBw; have HKY := Lib.hid hkey
  have HZ := Lib.hid hq0
  have hfew := h.few
  obtain ⟨n, hnn⟩ : ∃ n, n = L.length := ⟨_, rfl⟩
  rw [← hnn] at hfew ⊢
  have HNN := Lib.hid hnn
  clear h hBw hb0 hB0 hkey hnn hq0
  have hn' : (n : Int) ≤ 1048576 := by omega
  obtain ⟨r, hr⟩ : ∃ r, getT L key = r := ⟨_, rfl⟩
  have HR := Lib.hid hr
  rw [hr]
  clear hr
  go_enter Tryd.func20, Tryd.ntmps20
  go_wp2_with fail
  clear hw0
  go_loopw [6] (fun t wr => ∃ i : Nat, t = .int .i64 (i : Int) ∧ i ≤ n ∧ (∀ j (h : j < L.length), j < i → (L[j]'h).1 ≠ key) ∧ Below w0.heap.size w0 wr) (fun t _ => n - (intOf t).toNat)
  case atStart => exact ⟨0, rfl, Nat.zero_le _, fun j _ h => by omega, Below.refl _ _⟩
  case round =>
    obtain ⟨i, rfl, hin, hall, hBr⟩ := hrel
    have HALL := Lib.hid hall
    have HBr := Lib.hid hBr
    clear hall hBr
    rcases Nat.lt_or_ge i n with hlt | hge
    · have hlt' : (i : Int) < (n : Int) := by omega
      have hiL : i < L.length := by rw [← HNN.out]; exact hlt
      obtain ⟨b, o, rfl, hb, hrow⟩ := (HE.out.below (HBr.out.mono (Nat.le_trans HW.out HB0.out.size))).at_ i hiL
      have hkl := HE.out.keys _ (List.getElem_mem hiL)
      have HBB : Hid (b < wr.heap.size) := Lib.hid (Nat.lt_of_lt_of_le hb (Nat.le_trans (Nat.le_trans HW.out HB0.out.size) HBr.out.size))
      have HNEXT : Hid ((L[i]'hiL).1 ≠ key → ∀ j (h : j < L.length), j < i + 1 → (L[j]'h).1 ≠ key) := Lib.hid (fun x j h hj => by
        rcases Nat.lt_or_ge j i with q | q
        · exact HALL.out j h q
        · obtain rfl : j = i := by omega
          exact x)
      have HFIND : Hid ((L[i]'hiL).1 = key → r = some (L[i]'hiL).2) := Lib.hid (fun x => by
        rw [← HR.out, getT]
        have hf : L.find? (fun e => e.1 == key) = some (L[i]'hiL) := List.find?_eq_some_iff_getElem.2 ⟨by simp [x], i, hiL, rfl, fun j hj => by
          have := HALL.out j (by omega) hj
          simpa using this⟩
        rw [hf]; rfl)
      generalize (L[i]'hiL) = en at *
      obtain ⟨k, x⟩ := en
      simp only at hrow hkl HNEXT HFIND
      have HROW := Lib.hid hrow; have HKL := Lib.hid hkl
      clear hrow hkl hb
      obtain ⟨eqk, heqk⟩ : ∃ b : Bool, (k == key) = b := ⟨_, rfl⟩
      have HEQ := Lib.hid heqk
      clear heqk
      have hi0 : (0 : Int) ≤ (i : Int) := by omega
      go_wp2_with fail
      refine wp_region_inv 25 (fun jx v _ => v = ([.slice (some ⟨b, o, none⟩) n c, .int .i64 (i : Int), .pointer (some ⟨b, o + i * 33, none⟩), .pointer (some ⟨b, o + i * 33, none⟩), .agg (bys k).toArray, .agg (bys key).toArray, .bool eqk] : List Value).getD jx undef) (Below wr.heap.size wr) (fun _ W1 W2 => Below W1.heap.size W1 W2) (by kernel_rfl) (by rfl) (by kernel_rfl) (fun _ _ _ _ _ _ _ _ _ hR => hR) (fun _ _ _ e h => h.trans (e.mono h.size)) (Below.drew (Below.refl _ _)) (fun jx o ho vs wb hI hdep => ?_) (fun vs w6 hI hR => ?_)
      · rcases jx with _ | jx
        · simp only [List.getElem?_toArray, List.getElem?_cons_zero, Option.some.injEq] at ho
          subst ho
          refine .inl ⟨rfl, fun K Q hK => ?_⟩
          simp only [putFrom, Act.put, List.setIfInBounds_toArray, List.set_cons_succ, List.set_cons_zero, Nat.reduceAdd] at hK ⊢
          have HOUT := Lib.hid hK
          clear hK hdep 
          go_simp
          exact HOUT.out _ _ _ rfl ⟨Below.refl _ _, rfl⟩
        rcases jx with _ | jx
        · simp only [List.getElem?_toArray, List.getElem?_cons_succ, List.getElem?_cons_zero, Option.some.injEq, Nat.zero_add] at ho
          subst ho
          refine .inl ⟨rfl, fun K Q hK => ?_⟩
          simp only [putFrom, Act.put, List.setIfInBounds_toArray, List.set_cons_succ, List.set_cons_zero, Nat.reduceAdd] at hK ⊢
          have HOUT := Lib.hid hK
          clear hK hdep 
          go_simp
          exact HOUT.out _ _ _ rfl ⟨Below.refl _ _, rfl⟩
        rcases jx with _ | jx
        · simp only [List.getElem?_toArray, List.getElem?_cons_succ, List.getElem?_cons_zero, Option.some.injEq, Nat.zero_add] at ho
          subst ho
          have e0 : vs 0 = .slice (some ⟨b, o, none⟩) n c := hdep 0 rfl
          have e1 : vs 1 = .int .i64 (i : Int) := hdep 1 rfl
          refine .inl ⟨rfl, fun K Q hK => ?_⟩
          simp only [putFrom, Act.put, List.setIfInBounds_toArray, List.set_cons_succ, List.set_cons_zero, Nat.reduceAdd, e0, e1] at hK ⊢
          have HOUT := Lib.hid hK
          clear hK hdep e0 e1
          go_simp
          exact HOUT.out _ _ _ rfl ⟨Below.refl _ _, rfl⟩
        rcases jx with _ | jx
        · simp only [List.getElem?_toArray, List.getElem?_cons_succ, List.getElem?_cons_zero, Option.some.injEq, Nat.zero_add] at ho
          subst ho
          have e2 : vs 2 = .pointer (some ⟨b, o + i * 33, none⟩) := hdep 2 rfl
          refine .inl ⟨rfl, fun K Q hK => ?_⟩
          simp only [putFrom, Act.put, List.setIfInBounds_toArray, List.set_cons_succ, List.set_cons_zero, Nat.reduceAdd, e2] at hK ⊢
          have HOUT := Lib.hid hK
          clear hK hdep e2
          go_simp
          exact HOUT.out _ _ _ rfl ⟨Below.refl _ _, rfl⟩
        rcases jx with _ | jx
        · simp only [List.getElem?_toArray, List.getElem?_cons_succ, List.getElem?_cons_zero, Option.some.injEq, Nat.zero_add] at ho
          subst ho
          have e3 : vs 3 = .pointer (some ⟨b, o + i * 33, none⟩) := hdep 3 rfl
          refine .inl ⟨rfl, fun K Q hK => ?_⟩
          simp only [putFrom, Act.put, List.setIfInBounds_toArray, List.set_cons_succ, List.set_cons_zero, Nat.reduceAdd, e3] at hK ⊢
          have HOUT := Lib.hid hK
          clear hK hdep e3
          refine wp_load_mid 24 _ rfl b (o + i * 33) rfl (bys k) _ (rng_left (rng_below HROW.out hI HBB.out)) Tryd.underlying24 rfl (by rw [bys_len, HKL.out]; exact Tryd.infoD) ?_
          simp only [Act.put, List.setIfInBounds_toArray, List.set_cons_succ, List.set_cons_zero]
          exact HOUT.out _ _ _ rfl ⟨Below.refl _ _, rfl⟩
        rcases jx with _ | jx
        · simp only [List.getElem?_toArray, List.getElem?_cons_succ, List.getElem?_cons_zero, Option.some.injEq, Nat.zero_add] at ho
          subst ho
          refine .inl ⟨rfl, fun K Q hK => ?_⟩
          simp only [putFrom, Act.put, List.setIfInBounds_toArray, List.set_cons_succ, List.set_cons_zero, Nat.reduceAdd] at hK ⊢
          have HOUT := Lib.hid hK
          clear hK hdep 
          refine wp_load_mid 24 _ rfl w.heap.size 0 rfl (bys key) _ ((HK0.out.below HBr.out HK0.out.lt).below hI (Nat.lt_of_lt_of_le HK0.out.lt HBr.out.size)).rngT Tryd.underlying24 rfl (by rw [bys_len, HKY.out]; exact Tryd.infoD) ?_
          simp only [Act.put, List.setIfInBounds_toArray, List.set_cons_succ, List.set_cons_zero]
          exact HOUT.out _ _ _ rfl ⟨Below.refl _ _, rfl⟩
        rcases jx with _ | jx
        · simp only [List.getElem?_toArray, List.getElem?_cons_succ, List.getElem?_cons_zero, Option.some.injEq, Nat.zero_add] at ho
          subst ho
          have e4 : vs 4 = .agg (bys k).toArray := hdep 4 rfl
          have e5 : vs 5 = .agg (bys key).toArray := hdep 5 rfl
          refine .inl ⟨rfl, fun K Q hK => ?_⟩
          simp only [putFrom, Act.put, List.setIfInBounds_toArray, List.set_cons_succ, List.set_cons_zero, Nat.reduceAdd, e4, e5] at hK ⊢
          have HOUT := Lib.hid hK
          clear hK hdep e4 e5
          refine wp_cmp .eql 24 _ _ _ rfl (.agg (bys k).toArray) (.agg (bys key).toArray) (.bool (k == key)) rfl rfl (run_eqGuard_agg _ _ _ _ _ _ _ (by kernel_rfl)) (eql_d wb _ _ HKL.out HKY.out) ?_
          simp only [Act.put, List.setIfInBounds_toArray, List.set_cons_succ, List.set_cons_zero]
          rw [HEQ.out]
          exact HOUT.out _ _ _ rfl ⟨Below.refl _ _, rfl⟩
        exact absurd ho (by simp)
      ·
        have e6 : vs 6 = .bool eqk := hR 6 (by decide)
        simp only [putFrom, Act.put, List.setIfInBounds_toArray, List.set_cons_succ, List.set_cons_zero, Nat.reduceAdd, e6]
        clear hR e6
        have hB := HBr.out.trans (hI.mono HBr.out.size)
        have HB := Lib.hid hB
        have HROW6 := Lib.hid (rng_below HROW.out hI HBB.out)
        clear hI hB
        cases eqk with
        | true =>
          have hkk : k = key := by have := HEQ.out; simpa using this
          have HF := Lib.hid (HFIND.out hkk)
          have hcv : w6.cell? ⟨b, o + i * 33 + 32, none⟩ = some (.string (strB x)) := HROW6.out 32 _ (by rw [List.getElem?_append_right (by rw [bys_len, HKL.out]; omega), bys_len, HKL.out]; rfl)
          clear hkk
          go_wp2
          go_ret2
          rw [HF.out]
          exact ⟨rfl, HB0.out.trans (HB.out.mono HB0.out.size)⟩
        | false =>
          have hkk : k ≠ key := by have := HEQ.out; simpa using this
          have HN := Lib.hid (HNEXT.out hkk)
          clear hkk
          go_wp2
          go_roundw
          case rel => exact ⟨i + 1, by go_num, by omega, HN.out, HB.out⟩
          case measure => simp [intOf]; omega
    · have hge' : (n : Int) ≤ (i : Int) := by omega
      have HNONE : Hid (r = none) := Lib.hid (by
        rw [← HR.out, getT, Option.map_eq_none_iff, List.find?_eq_none]
        intro e he
        obtain ⟨j, hj, rfl⟩ := List.getElem_of_mem he
        have := HALL.out j hj (by have := HNN.out; omega)
        simpa using this)
      go_wp2
      go_ret2
      rw [HNONE.out]
      exact ⟨rfl, HB0.out.trans (HBr.out.mono HB0.out.size)⟩
end Go.Proofs.YtapbaonlboefeaaDoor
