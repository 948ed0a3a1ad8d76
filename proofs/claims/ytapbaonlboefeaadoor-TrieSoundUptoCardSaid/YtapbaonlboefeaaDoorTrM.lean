/- trie: May, Root. WRITTEN BY wip/gen/trm.py. -/
import Derived.Test.YtapbaonlboefeaaDoorTrD
import Derived.Lib.Bytealg
import Derived.Lib.BytesEntry
namespace Go.Proofs.YtapbaonlboefeaaDoor
open Go.RowKit

theorem fold_un8 : ∀ (l : List UInt8) (a : Nat), l.foldl (fun a b => a * 256 + b.toNat) a = a * 256 ^ l.length + un8 l
  | [], a => by simp [un8]
  | x :: l, a => by
    have h1 := fold_un8 l (a * 256 + x.toNat)
    have h2 := fold_un8 l (0 * 256 + x.toNat)
    simp only [un8, List.foldl_cons, List.length_cons, Nat.pow_succ] at h1 h2 ⊢
    rw [h1, h2, Nat.add_mul, Nat.zero_mul, Nat.zero_add, Nat.mul_assoc, Nat.mul_comm 256]
    omega
theorem un8_cons (x : UInt8) (l : List UInt8) : un8 (x :: l) = x.toNat * 256 ^ l.length + un8 l := by
  have := fold_un8 l (0 * 256 + x.toNat)
  simpa [un8] using this
/-- The order of byte strings of one length is that of their numbers. -/
theorem cmp_lt : ∀ (a b : List UInt8), a.length = b.length → (Lib.compareBytes a b < 0 ↔ un8 a < un8 b)
  | [], [], _ => by simp [Lib.compareBytes, un8]
  | [], _ :: _, h => by simp at h
  | _ :: _, [], h => by simp at h
  | x :: a, y :: b, h => by
    have hl : a.length = b.length := by simpa using h
    have ih := cmp_lt a b hl
    rw [un8_cons, un8_cons, hl]
    have h1 := un8_lt a
    have h2 := un8_lt b
    rw [hl] at h1
    unfold Lib.compareBytes
    rcases Nat.lt_trichotomy x.toNat y.toNat with q | q | q
    · have e : x < y := UInt8.lt_iff_toNat_lt.2 q
      rw [if_pos e]
      have : (x.toNat + 1) * 256 ^ b.length ≤ y.toNat * 256 ^ b.length := Nat.mul_le_mul_right _ q
      rw [Nat.add_mul] at this
      exact ⟨fun _ => by omega, fun _ => by omega⟩
    · have e : ¬ x < y := fun e => by have := UInt8.lt_iff_toNat_lt.1 e; omega
      have e' : ¬ y < x := fun e => by have := UInt8.lt_iff_toNat_lt.1 e; omega
      rw [if_neg e, if_neg e', ih, q]
      omega
    · have e : ¬ x < y := fun e => by have := UInt8.lt_iff_toNat_lt.1 e; omega
      have e' : y < x := UInt8.lt_iff_toNat_lt.2 q
      rw [if_neg e, if_pos e']
      have : (y.toNat + 1) * 256 ^ b.length ≤ x.toNat * 256 ^ b.length := Nat.mul_le_mul_right _ q
      rw [Nat.add_mul] at this
      exact ⟨fun _ => by omega, fun _ => by omega⟩
theorem run_loaded {P : Program} (w : World) (b o : Nat) (l : List UInt8) (h : w.rangeAt b o (bys l)) : (Extern.Bytes.loadBytes ⟨b, o, none⟩ l.length .empty).run P w = .ok ⟨l.toArray⟩ w := by
  have hl := Lib.run_loadBytesX (P := P) w (l.map fun x => (x.toNat : Int)) ⟨b, o, none⟩ .empty (fun j x hj => by
    rw [List.getElem?_map] at hj
    obtain ⟨y, hy, rfl⟩ := Option.map_eq_some_iff.1 hj
    have e : (⟨b, o, none⟩ : Addr).add j = ⟨b, o + j, none⟩ := by unfold Addr.add; split <;> simp_all
    rw [e]
    exact h j _ (by rw [bys_get, hy]; rfl))
  rw [List.length_map] at hl
  rw [hl]
  have e : Lib.bytesOf (l.map fun x => (x.toNat : Int)) = l := by
    unfold Lib.bytesOf
    rw [List.map_map]
    conv => rhs; rw [← List.map_id l]
    exact List.map_congr_left (fun x _ => by simp)
  rw [e]
  congr 1
  apply ByteArray.ext
  simp
theorem run_cmp {P : Program} (w : World) (b o n c b' o' n' c' : Nat) (l m : List UInt8) (hn : l.length = n) (hn' : m.length = n') (h : w.rangeAt b o (bys l)) (h' : w.rangeAt b' o' (bys m)) :
    (Extern.BytealgCompare.compare #[.slice (some ⟨b, o, none⟩) n c, .slice (some ⟨b', o', none⟩) n' c']).run P w = .ok (.int .i64 (Lib.compareBytes l m)) w := by
  subst hn; subst hn'
  change Sem.run P (do pure (goInt (Extern.BytealgCompare.cmp (← Extern.Bytes.loadBytes ⟨b, o, none⟩ l.length .empty) (← Extern.Bytes.loadBytes ⟨b', o', none⟩ m.length .empty)))) w = _
  simp only [Sem.run_bind, run_loaded w b o l h, run_loaded w b' o' m h', Sem.run_pure, Result.andThen]
  rw [Lib.cmp_eq]
  rfl
set_option maxRecDepth 20000 in
set_option maxHeartbeats 800000 in
theorem compare_any (w : World) (b o n c b' o' n' c' : Nat) (l m : List UInt8) (hn : l.length = n) (hn' : m.length = n') (h : w.rangeAt b o (bys l)) (h' : w.rangeAt b' o' (bys m)) :
    Calls Tryd.prog 24 #[.slice (some ⟨b, o, none⟩) n c, .slice (some ⟨b', o', none⟩) n' c'] w fun e w' => e = .returned (.int .i64 (Lib.compareBytes l m)) ∧ Below w.heap.size w w' := by
  have hx := @run_callFunc_extern Tryd.prog 44 _ Extern.BytealgCompare.compare Tryd.func44 (by kernel_rfl) (by kernel_rfl) (by kernel_rfl) (by kernel_rfl)
  have hr := run_cmp (P := Tryd.prog) w b o n c b' o' n' c' l m hn hn' h h'
  go_enter Tryd.func24, Tryd.ntmps24
  go_wp2
  go_ret
  exact ⟨rfl, Below.refl _ _⟩

instance (L : List Ent) : Decidable (MayP L) := by unfold MayP; infer_instance
theorem may_adj : ∀ (L : List Ent), (∀ j (h : j + 1 < L.length), un8 (L[j]'(by omega)).1 < un8 (L[j + 1]'h).1) → MayP L
  | [], _ => List.Pairwise.nil
  | [_], _ => by simp [MayP]
  | a :: b :: r, h => by
    have ih := may_adj (b :: r) (fun j hj => h (j + 1) (by simpa using hj))
    have h0 := h 0 (by simp)
    refine List.pairwise_cons.2 ⟨fun x hx => ?_, ih⟩
    rcases List.mem_cons.1 hx with rfl | hx
    · exact h0
    · exact Nat.lt_trans h0 ((List.pairwise_cons.1 ih).1 x hx)
theorem may_not {L : List Ent} {j : Nat} (h : j + 1 < L.length) (hn : ¬ un8 (L[j]'(by omega)).1 < un8 (L[j + 1]'h).1) : ¬ MayP L := fun hm => hn (List.pairwise_iff_getElem.1 hm j (j + 1) (by omega) h (by omega))
set_option maxRecDepth 20000 in
set_option maxHeartbeats 3200000 in
theorem may_any (w : World) (B c : Nat) (hBw : B ≤ w.heap.size) (A : Option Addr) (vs : List Value) (L : List Ent) (h : EntsW w B A vs L) (hn : L.length ≤ 4611686018427387904) :
    Calls Tryd.prog 13 #[.slice A L.length c] w fun e w' => e = .returned (.bool (decide (MayP L))) ∧ Below w.heap.size w w' := by
  have HE := Lib.hid h; have HW := Lib.hid hBw; have HN := Lib.hid hn
  clear h hBw
  obtain ⟨n, hnn⟩ : ∃ n, n = L.length := ⟨_, rfl⟩
  rw [← hnn] at hn ⊢
  have HNN := Lib.hid hnn
  clear hnn
  have hn' : (n : Int) ≤ 4611686018427387904 := by omega
  go_enter Tryd.func13, Tryd.ntmps13
  go_wp2_with fail
  go_loopw [3] (fun t wr => ∃ i : Nat, t = .int .i64 (i : Int) ∧ 1 ≤ i ∧ (∀ j (h : j + 1 < L.length), j + 1 < i → un8 (L[j]'(by omega)).1 < un8 (L[j + 1]'h).1) ∧ Below w.heap.size w wr) (fun t _ => n - (intOf t).toNat)
  case atStart => exact ⟨1, rfl, by omega, fun j _ h => by omega, Below.refl _ _⟩
  case round =>
    obtain ⟨i, rfl, hi, hall, hBr⟩ := hrel
    have HALL := Lib.hid hall
    have HBr := Lib.hid hBr
    clear hall hBr
    rcases Nat.lt_or_ge i n with hlt | hge
    · have hlt' : (i : Int) < (n : Int) := by omega
      obtain ⟨m, rfl⟩ : ∃ m, i = m + 1 := ⟨i - 1, by omega⟩
      have hmi : m + 1 < L.length := by rw [← HNN.out]; exact hlt
      have HMI := Lib.hid hmi
      obtain ⟨b, o, v0, hA, hb, hr1, -, -⟩ := (HE.out.below (HBr.out.mono HW.out)).at_ (show m < L.length by omega)
      obtain ⟨b', o', v1, hA', -, hr2, -, -⟩ := (HE.out.below (HBr.out.mono HW.out)).at_ hmi
      rw [hA] at hA'
      injection hA' with hA'
      injection hA' with q1 q2
      subst q1; subst q2
      subst hA
      have k1 := HE.out.keys _ (List.getElem_mem (show m < L.length by omega))
      have k2 := HE.out.keys _ (List.getElem_mem hmi)
      have HBB : Hid (b < wr.heap.size) := Lib.hid (Nat.lt_of_lt_of_le hb (Nat.le_trans HW.out HBr.out.size))
      have hcm := cmp_lt _ _ (k1.trans k2.symm)
      have HADJ : Hid (∀ (x : un8 (L[m]'(by omega)).1 < un8 (L[m + 1]'hmi).1) j (h : j + 1 < L.length), j + 1 < m + 1 + 1 → un8 (L[j]'(by omega)).1 < un8 (L[j + 1]'h).1) := Lib.hid (fun x j h hj => by
        rcases Nat.lt_or_ge j m with q | q
        · exact HALL.out j h (by omega)
        · obtain rfl : j = m := by omega
          exact x)
      have HNOT : Hid (¬ un8 (L[m]'(by omega)).1 < un8 (L[m + 1]'hmi).1 → ¬ MayP L) := Lib.hid (may_not hmi)
      have HR1 := Lib.hid hr1; have HR2 := Lib.hid hr2; have HK1 := Lib.hid k1; have HK2 := Lib.hid k2
      clear hb hr1 hr2 k1 k2 hi
      generalize (L[m]'(by omega)).1 = K1 at *
      generalize (L[m + 1]'hmi).1 = K2 at *
      obtain ⟨i, hii⟩ : ∃ i, i = m + 1 := ⟨_, rfl⟩
      rw [← hii] at HR2
      have hm1 : (i : Int) - 1 = (m : Int) := by omega
      have hm2 : (0 : Int) ≤ (m : Int) := by omega
      have hm3 : (m : Int) < (n : Int) := by omega
      have hi1 : (0 : Int) ≤ (i : Int) := by omega
      rw [← hii] at hlt' ⊢
      have HII := Lib.hid hii
      have HWM : Hid (IntKind.i64.wrap (m : Int) = (m : Int)) := Lib.hid (IntWalk.i64_in _ ⟨by omega, by omega⟩)
      clear hii
      by_cases hx : un8 K1 < un8 K2
      · have hcx : Lib.compareBytes K1 K2 < 0 := hcm.2 hx
        have HADJ' := Lib.hid (HADJ.out hx)
        have HCX := Lib.hid hcx
        clear hcm hx hcx HADJ HNOT
        go_wp2_with fail
        refine wp_region_inv 23 (fun jx v _ => v = ([.slice (some ⟨b, o, none⟩) n c, .int .i64 (i : Int), .int .i64 (m : Int), .pointer (some ⟨b, o + m * 33, none⟩), .pointer (some ⟨b, o + m * 33, none⟩), .slice (some ⟨b, o + m * 33, none⟩) 32 32, .slice (some ⟨b, o, none⟩) n c, .int .i64 (i : Int), .pointer (some ⟨b, o + i * 33, none⟩), .pointer (some ⟨b, o + i * 33, none⟩), .slice (some ⟨b, o + i * 33, none⟩) 32 32, .int .i64 (Lib.compareBytes K1 K2), .bool false] : List Value).getD jx undef) (Below wr.heap.size wr) (fun _ W1 W2 => Below W1.heap.size W1 W2) (by kernel_rfl) (by rfl) (by kernel_rfl) (fun _ _ _ _ _ _ _ _ _ hR => hR) (fun _ _ _ e h => h.trans (e.mono h.size)) (Below.drew (Below.refl _ _)) (fun jx o ho vs wb hI hdep => ?_) (fun vs w6 hI hR => ?_)
        · rcases jx with _ | jx
          · simp only [List.getElem?_toArray, List.getElem?_cons_zero, Option.some.injEq] at ho
            subst ho
            refine .inl ⟨rfl, fun K Q hK => ?_⟩
            simp only [putFrom, Act.put, List.setIfInBounds_toArray, List.set_cons_succ, List.set_cons_zero, Nat.reduceAdd] at hK ⊢
            have HOUT := Lib.hid hK
            clear hK hdep 
            go_simp
            exact HOUT.out _ _ _ rfl ⟨Below.refl _ _, rfl⟩
          rcases jx with _ | jx
          · simp only [List.getElem?_toArray, List.getElem?_cons_succ, List.getElem?_cons_zero, Option.some.injEq, Nat.zero_add] at ho
            subst ho
            refine .inl ⟨rfl, fun K Q hK => ?_⟩
            simp only [putFrom, Act.put, List.setIfInBounds_toArray, List.set_cons_succ, List.set_cons_zero, Nat.reduceAdd] at hK ⊢
            have HOUT := Lib.hid hK
            clear hK hdep 
            go_simp
            exact HOUT.out _ _ _ rfl ⟨Below.refl _ _, rfl⟩
          rcases jx with _ | jx
          · simp only [List.getElem?_toArray, List.getElem?_cons_succ, List.getElem?_cons_zero, Option.some.injEq, Nat.zero_add] at ho
            subst ho
            have e1 : vs 1 = .int .i64 (i : Int) := hdep 1 rfl
            have hwm := HWM.out
            refine .inl ⟨rfl, fun K Q hK => ?_⟩
            simp only [putFrom, Act.put, List.setIfInBounds_toArray, List.set_cons_succ, List.set_cons_zero, Nat.reduceAdd, e1] at hK ⊢
            have HOUT := Lib.hid hK
            clear hK hdep e1
            go_simp
            exact HOUT.out _ _ _ rfl ⟨Below.refl _ _, rfl⟩
          rcases jx with _ | jx
          · simp only [List.getElem?_toArray, List.getElem?_cons_succ, List.getElem?_cons_zero, Option.some.injEq, Nat.zero_add] at ho
            subst ho
            have e0 : vs 0 = .slice (some ⟨b, o, none⟩) n c := hdep 0 rfl
            have e2 : vs 2 = .int .i64 (m : Int) := hdep 2 rfl
            refine .inl ⟨rfl, fun K Q hK => ?_⟩
            simp only [putFrom, Act.put, List.setIfInBounds_toArray, List.set_cons_succ, List.set_cons_zero, Nat.reduceAdd, e0, e2] at hK ⊢
            have HOUT := Lib.hid hK
            clear hK hdep e0 e2
            go_simp
            exact HOUT.out _ _ _ rfl ⟨Below.refl _ _, rfl⟩
          rcases jx with _ | jx
          · simp only [List.getElem?_toArray, List.getElem?_cons_succ, List.getElem?_cons_zero, Option.some.injEq, Nat.zero_add] at ho
            subst ho
            have e3 : vs 3 = .pointer (some ⟨b, o + m * 33, none⟩) := hdep 3 rfl
            refine .inl ⟨rfl, fun K Q hK => ?_⟩
            simp only [putFrom, Act.put, List.setIfInBounds_toArray, List.set_cons_succ, List.set_cons_zero, Nat.reduceAdd, e3] at hK ⊢
            have HOUT := Lib.hid hK
            clear hK hdep e3
            go_simp
            exact HOUT.out _ _ _ rfl ⟨Below.refl _ _, rfl⟩
          rcases jx with _ | jx
          · simp only [List.getElem?_toArray, List.getElem?_cons_succ, List.getElem?_cons_zero, Option.some.injEq, Nat.zero_add] at ho
            subst ho
            have e4 : vs 4 = .pointer (some ⟨b, o + m * 33, none⟩) := hdep 4 rfl
            refine .inl ⟨rfl, fun K Q hK => ?_⟩
            simp only [putFrom, Act.put, List.setIfInBounds_toArray, List.set_cons_succ, List.set_cons_zero, Nat.reduceAdd, e4] at hK ⊢
            have HOUT := Lib.hid hK
            clear hK hdep e4
            go_simp
            exact HOUT.out _ _ _ rfl ⟨Below.refl _ _, rfl⟩
          rcases jx with _ | jx
          · simp only [List.getElem?_toArray, List.getElem?_cons_succ, List.getElem?_cons_zero, Option.some.injEq, Nat.zero_add] at ho
            subst ho
            refine .inl ⟨rfl, fun K Q hK => ?_⟩
            simp only [putFrom, Act.put, List.setIfInBounds_toArray, List.set_cons_succ, List.set_cons_zero, Nat.reduceAdd] at hK ⊢
            have HOUT := Lib.hid hK
            clear hK hdep 
            go_simp
            exact HOUT.out _ _ _ rfl ⟨Below.refl _ _, rfl⟩
          rcases jx with _ | jx
          · simp only [List.getElem?_toArray, List.getElem?_cons_succ, List.getElem?_cons_zero, Option.some.injEq, Nat.zero_add] at ho
            subst ho
            refine .inl ⟨rfl, fun K Q hK => ?_⟩
            simp only [putFrom, Act.put, List.setIfInBounds_toArray, List.set_cons_succ, List.set_cons_zero, Nat.reduceAdd] at hK ⊢
            have HOUT := Lib.hid hK
            clear hK hdep 
            go_simp
            exact HOUT.out _ _ _ rfl ⟨Below.refl _ _, rfl⟩
          rcases jx with _ | jx
          · simp only [List.getElem?_toArray, List.getElem?_cons_succ, List.getElem?_cons_zero, Option.some.injEq, Nat.zero_add] at ho
            subst ho
            have e6 : vs 6 = .slice (some ⟨b, o, none⟩) n c := hdep 6 rfl
            have e7 : vs 7 = .int .i64 (i : Int) := hdep 7 rfl
            refine .inl ⟨rfl, fun K Q hK => ?_⟩
            simp only [putFrom, Act.put, List.setIfInBounds_toArray, List.set_cons_succ, List.set_cons_zero, Nat.reduceAdd, e6, e7] at hK ⊢
            have HOUT := Lib.hid hK
            clear hK hdep e6 e7
            go_simp
            exact HOUT.out _ _ _ rfl ⟨Below.refl _ _, rfl⟩
          rcases jx with _ | jx
          · simp only [List.getElem?_toArray, List.getElem?_cons_succ, List.getElem?_cons_zero, Option.some.injEq, Nat.zero_add] at ho
            subst ho
            have e8 : vs 8 = .pointer (some ⟨b, o + i * 33, none⟩) := hdep 8 rfl
            refine .inl ⟨rfl, fun K Q hK => ?_⟩
            simp only [putFrom, Act.put, List.setIfInBounds_toArray, List.set_cons_succ, List.set_cons_zero, Nat.reduceAdd, e8] at hK ⊢
            have HOUT := Lib.hid hK
            clear hK hdep e8
            go_simp
            exact HOUT.out _ _ _ rfl ⟨Below.refl _ _, rfl⟩
          rcases jx with _ | jx
          · simp only [List.getElem?_toArray, List.getElem?_cons_succ, List.getElem?_cons_zero, Option.some.injEq, Nat.zero_add] at ho
            subst ho
            have e9 : vs 9 = .pointer (some ⟨b, o + i * 33, none⟩) := hdep 9 rfl
            refine .inl ⟨rfl, fun K Q hK => ?_⟩
            simp only [putFrom, Act.put, List.setIfInBounds_toArray, List.set_cons_succ, List.set_cons_zero, Nat.reduceAdd, e9] at hK ⊢
            have HOUT := Lib.hid hK
            clear hK hdep e9
            go_simp
            exact HOUT.out _ _ _ rfl ⟨Below.refl _ _, rfl⟩
          rcases jx with _ | jx
          · simp only [List.getElem?_toArray, List.getElem?_cons_succ, List.getElem?_cons_zero, Option.some.injEq, Nat.zero_add] at ho
            subst ho
            have e5 : vs 5 = .slice (some ⟨b, o + m * 33, none⟩) 32 32 := hdep 5 rfl
            have e10 : vs 10 = .slice (some ⟨b, o + i * 33, none⟩) 32 32 := hdep 10 rfl
            refine .inl ⟨rfl, fun K Q hK => ?_⟩
            simp only [putFrom, Act.put, List.setIfInBounds_toArray, List.set_cons_succ, List.set_cons_zero, Nat.reduceAdd, e5, e10] at hK ⊢
            have HOUT := Lib.hid hK
            clear hK hdep e5 e10
            go_simp
            refine (compare_any wb b (o + m * 33) 32 32 b (o + i * 33) 32 32 K1 K2 HK1.out HK2.out (HR1.out.belowT hI HBB.out) (HR2.out.belowT hI HBB.out)).mono ?_
            rintro e w5 ⟨rfl, hB5⟩
            go_simp
            exact HOUT.out _ _ _ rfl ⟨hB5, rfl⟩
          rcases jx with _ | jx
          · simp only [List.getElem?_toArray, List.getElem?_cons_succ, List.getElem?_cons_zero, Option.some.injEq, Nat.zero_add] at ho
            subst ho
            have e11 : vs 11 = .int .i64 (Lib.compareBytes K1 K2) := hdep 11 rfl
            have hcx := HCX.out
            have hcd : decide (0 ≤ Lib.compareBytes K1 K2) = false := by simpa using hcx
            refine .inl ⟨rfl, fun K Q hK => ?_⟩
            simp only [putFrom, Act.put, List.setIfInBounds_toArray, List.set_cons_succ, List.set_cons_zero, Nat.reduceAdd, e11] at hK ⊢
            have HOUT := Lib.hid hK
            clear hK hdep e11
            go_simp
            exact HOUT.out _ _ _ rfl ⟨Below.refl _ _, rfl⟩
          exact absurd ho (by simp)
        ·
          have e12 : vs 12 = .bool false := hR 12 (by decide)
          simp only [putFrom, Act.put, List.setIfInBounds_toArray, List.set_cons_succ, List.set_cons_zero, Nat.reduceAdd, e12]
          clear hR e12
          have hB := HBr.out.trans (hI.mono HBr.out.size)
          have HB := Lib.hid hB
          clear hI hB
          go_wp2
          go_roundw
          case rel => exact ⟨i + 1, by go_num, by omega, by rw [HII.out]; exact HADJ'.out, HB.out⟩
          case measure => simp [intOf]; omega
      · have hcx : 0 ≤ Lib.compareBytes K1 K2 := Int.not_lt.1 (fun q => hx (hcm.1 q))
        have HD : Hid (decide (MayP L) = false) := Lib.hid (by simpa using HNOT.out hx)
        have HCX := Lib.hid hcx
        clear hcm hx hcx HADJ HNOT
        go_wp2_with fail
        refine wp_region_inv 23 (fun jx v _ => v = ([.slice (some ⟨b, o, none⟩) n c, .int .i64 (i : Int), .int .i64 (m : Int), .pointer (some ⟨b, o + m * 33, none⟩), .pointer (some ⟨b, o + m * 33, none⟩), .slice (some ⟨b, o + m * 33, none⟩) 32 32, .slice (some ⟨b, o, none⟩) n c, .int .i64 (i : Int), .pointer (some ⟨b, o + i * 33, none⟩), .pointer (some ⟨b, o + i * 33, none⟩), .slice (some ⟨b, o + i * 33, none⟩) 32 32, .int .i64 (Lib.compareBytes K1 K2), .bool true] : List Value).getD jx undef) (Below wr.heap.size wr) (fun _ W1 W2 => Below W1.heap.size W1 W2) (by kernel_rfl) (by rfl) (by kernel_rfl) (fun _ _ _ _ _ _ _ _ _ hR => hR) (fun _ _ _ e h => h.trans (e.mono h.size)) (Below.drew (Below.refl _ _)) (fun jx o ho vs wb hI hdep => ?_) (fun vs w6 hI hR => ?_)
        · rcases jx with _ | jx
          · simp only [List.getElem?_toArray, List.getElem?_cons_zero, Option.some.injEq] at ho
            subst ho
            refine .inl ⟨rfl, fun K Q hK => ?_⟩
            simp only [putFrom, Act.put, List.setIfInBounds_toArray, List.set_cons_succ, List.set_cons_zero, Nat.reduceAdd] at hK ⊢
            have HOUT := Lib.hid hK
            clear hK hdep 
            go_simp
            exact HOUT.out _ _ _ rfl ⟨Below.refl _ _, rfl⟩
          rcases jx with _ | jx
          · simp only [List.getElem?_toArray, List.getElem?_cons_succ, List.getElem?_cons_zero, Option.some.injEq, Nat.zero_add] at ho
            subst ho
            refine .inl ⟨rfl, fun K Q hK => ?_⟩
            simp only [putFrom, Act.put, List.setIfInBounds_toArray, List.set_cons_succ, List.set_cons_zero, Nat.reduceAdd] at hK ⊢
            have HOUT := Lib.hid hK
            clear hK hdep 
            go_simp
            exact HOUT.out _ _ _ rfl ⟨Below.refl _ _, rfl⟩
          rcases jx with _ | jx
          · simp only [List.getElem?_toArray, List.getElem?_cons_succ, List.getElem?_cons_zero, Option.some.injEq, Nat.zero_add] at ho
            subst ho
            have e1 : vs 1 = .int .i64 (i : Int) := hdep 1 rfl
            have hwm := HWM.out
            refine .inl ⟨rfl, fun K Q hK => ?_⟩
            simp only [putFrom, Act.put, List.setIfInBounds_toArray, List.set_cons_succ, List.set_cons_zero, Nat.reduceAdd, e1] at hK ⊢
            have HOUT := Lib.hid hK
            clear hK hdep e1
            go_simp
            exact HOUT.out _ _ _ rfl ⟨Below.refl _ _, rfl⟩
          rcases jx with _ | jx
          · simp only [List.getElem?_toArray, List.getElem?_cons_succ, List.getElem?_cons_zero, Option.some.injEq, Nat.zero_add] at ho
            subst ho
            have e0 : vs 0 = .slice (some ⟨b, o, none⟩) n c := hdep 0 rfl
            have e2 : vs 2 = .int .i64 (m : Int) := hdep 2 rfl
            refine .inl ⟨rfl, fun K Q hK => ?_⟩
            simp only [putFrom, Act.put, List.setIfInBounds_toArray, List.set_cons_succ, List.set_cons_zero, Nat.reduceAdd, e0, e2] at hK ⊢
            have HOUT := Lib.hid hK
            clear hK hdep e0 e2
            go_simp
            exact HOUT.out _ _ _ rfl ⟨Below.refl _ _, rfl⟩
          rcases jx with _ | jx
          · simp only [List.getElem?_toArray, List.getElem?_cons_succ, List.getElem?_cons_zero, Option.some.injEq, Nat.zero_add] at ho
            subst ho
            have e3 : vs 3 = .pointer (some ⟨b, o + m * 33, none⟩) := hdep 3 rfl
            refine .inl ⟨rfl, fun K Q hK => ?_⟩
            simp only [putFrom, Act.put, List.setIfInBounds_toArray, List.set_cons_succ, List.set_cons_zero, Nat.reduceAdd, e3] at hK ⊢
            have HOUT := Lib.hid hK
            clear hK hdep e3
            go_simp
            exact HOUT.out _ _ _ rfl ⟨Below.refl _ _, rfl⟩
          rcases jx with _ | jx
          · simp only [List.getElem?_toArray, List.getElem?_cons_succ, List.getElem?_cons_zero, Option.some.injEq, Nat.zero_add] at ho
            subst ho
            have e4 : vs 4 = .pointer (some ⟨b, o + m * 33, none⟩) := hdep 4 rfl
            refine .inl ⟨rfl, fun K Q hK => ?_⟩
            simp only [putFrom, Act.put, List.setIfInBounds_toArray, List.set_cons_succ, List.set_cons_zero, Nat.reduceAdd, e4] at hK ⊢
            have HOUT := Lib.hid hK
            clear hK hdep e4
            go_simp
            exact HOUT.out _ _ _ rfl ⟨Below.refl _ _, rfl⟩
          rcases jx with _ | jx
          · simp only [List.getElem?_toArray, List.getElem?_cons_succ, List.getElem?_cons_zero, Option.some.injEq, Nat.zero_add] at ho
            subst ho
            refine .inl ⟨rfl, fun K Q hK => ?_⟩
            simp only [putFrom, Act.put, List.setIfInBounds_toArray, List.set_cons_succ, List.set_cons_zero, Nat.reduceAdd] at hK ⊢
            have HOUT := Lib.hid hK
            clear hK hdep 
            go_simp
            exact HOUT.out _ _ _ rfl ⟨Below.refl _ _, rfl⟩
          rcases jx with _ | jx
          · simp only [List.getElem?_toArray, List.getElem?_cons_succ, List.getElem?_cons_zero, Option.some.injEq, Nat.zero_add] at ho
            subst ho
            refine .inl ⟨rfl, fun K Q hK => ?_⟩
            simp only [putFrom, Act.put, List.setIfInBounds_toArray, List.set_cons_succ, List.set_cons_zero, Nat.reduceAdd] at hK ⊢
            have HOUT := Lib.hid hK
            clear hK hdep 
            go_simp
            exact HOUT.out _ _ _ rfl ⟨Below.refl _ _, rfl⟩
          rcases jx with _ | jx
          · simp only [List.getElem?_toArray, List.getElem?_cons_succ, List.getElem?_cons_zero, Option.some.injEq, Nat.zero_add] at ho
            subst ho
            have e6 : vs 6 = .slice (some ⟨b, o, none⟩) n c := hdep 6 rfl
            have e7 : vs 7 = .int .i64 (i : Int) := hdep 7 rfl
            refine .inl ⟨rfl, fun K Q hK => ?_⟩
            simp only [putFrom, Act.put, List.setIfInBounds_toArray, List.set_cons_succ, List.set_cons_zero, Nat.reduceAdd, e6, e7] at hK ⊢
            have HOUT := Lib.hid hK
            clear hK hdep e6 e7
            go_simp
            exact HOUT.out _ _ _ rfl ⟨Below.refl _ _, rfl⟩
          rcases jx with _ | jx
          · simp only [List.getElem?_toArray, List.getElem?_cons_succ, List.getElem?_cons_zero, Option.some.injEq, Nat.zero_add] at ho
            subst ho
            have e8 : vs 8 = .pointer (some ⟨b, o + i * 33, none⟩) := hdep 8 rfl
            refine .inl ⟨rfl, fun K Q hK => ?_⟩
            simp only [putFrom, Act.put, List.setIfInBounds_toArray, List.set_cons_succ, List.set_cons_zero, Nat.reduceAdd, e8] at hK ⊢
            have HOUT := Lib.hid hK
            clear hK hdep e8
            go_simp
            exact HOUT.out _ _ _ rfl ⟨Below.refl _ _, rfl⟩
          rcases jx with _ | jx
          · simp only [List.getElem?_toArray, List.getElem?_cons_succ, List.getElem?_cons_zero, Option.some.injEq, Nat.zero_add] at ho
            subst ho
            have e9 : vs 9 = .pointer (some ⟨b, o + i * 33, none⟩) := hdep 9 rfl
            refine .inl ⟨rfl, fun K Q hK => ?_⟩
            simp only [putFrom, Act.put, List.setIfInBounds_toArray, List.set_cons_succ, List.set_cons_zero, Nat.reduceAdd, e9] at hK ⊢
            have HOUT := Lib.hid hK
            clear hK hdep e9
            go_simp
            exact HOUT.out _ _ _ rfl ⟨Below.refl _ _, rfl⟩
          rcases jx with _ | jx
          · simp only [List.getElem?_toArray, List.getElem?_cons_succ, List.getElem?_cons_zero, Option.some.injEq, Nat.zero_add] at ho
            subst ho
            have e5 : vs 5 = .slice (some ⟨b, o + m * 33, none⟩) 32 32 := hdep 5 rfl
            have e10 : vs 10 = .slice (some ⟨b, o + i * 33, none⟩) 32 32 := hdep 10 rfl
            refine .inl ⟨rfl, fun K Q hK => ?_⟩
            simp only [putFrom, Act.put, List.setIfInBounds_toArray, List.set_cons_succ, List.set_cons_zero, Nat.reduceAdd, e5, e10] at hK ⊢
            have HOUT := Lib.hid hK
            clear hK hdep e5 e10
            go_simp
            refine (compare_any wb b (o + m * 33) 32 32 b (o + i * 33) 32 32 K1 K2 HK1.out HK2.out (HR1.out.belowT hI HBB.out) (HR2.out.belowT hI HBB.out)).mono ?_
            rintro e w5 ⟨rfl, hB5⟩
            go_simp
            exact HOUT.out _ _ _ rfl ⟨hB5, rfl⟩
          rcases jx with _ | jx
          · simp only [List.getElem?_toArray, List.getElem?_cons_succ, List.getElem?_cons_zero, Option.some.injEq, Nat.zero_add] at ho
            subst ho
            have e11 : vs 11 = .int .i64 (Lib.compareBytes K1 K2) := hdep 11 rfl
            have hcx := HCX.out
            refine .inl ⟨rfl, fun K Q hK => ?_⟩
            simp only [putFrom, Act.put, List.setIfInBounds_toArray, List.set_cons_succ, List.set_cons_zero, Nat.reduceAdd, e11] at hK ⊢
            have HOUT := Lib.hid hK
            clear hK hdep e11
            go_simp
            exact HOUT.out _ _ _ rfl ⟨Below.refl _ _, rfl⟩
          exact absurd ho (by simp)
        ·
          have e12 : vs 12 = .bool true := hR 12 (by decide)
          simp only [putFrom, Act.put, List.setIfInBounds_toArray, List.set_cons_succ, List.set_cons_zero, Nat.reduceAdd, e12]
          clear hR e12
          have hB := HBr.out.trans (hI.mono HBr.out.size)
          clear hI
          go_wp2
          go_ret
          exact ⟨by rw [HD.out]; rfl, hB⟩
    · have hge' : (n : Int) ≤ (i : Int) := by omega
      have HD : Hid (decide (MayP L) = true) := Lib.hid (by
        simp only [decide_eq_true_eq]
        exact may_adj L (fun j hj => HALL.out j hj (by have := HNN.out; omega)))
      go_wp2
      go_ret
      exact ⟨by rw [HD.out]; rfl, HBr.out⟩

set_option maxRecDepth 20000 in
set_option maxHeartbeats 800000 in
theorem whole_any (w : World) (A : Option Addr) (n c : Nat) :
    Calls Tryd.prog 25 #[.slice A n c] w fun e w' => e = .returned (.agg #[.slice A n c, .int .i64 0]) ∧ Below w.heap.size w w' := by
  have hzp := Tryd.zeroPart
  have hbp : Tryd.prog.built 58 [(0, .slice A n c), (1, .int .i64 0)] = some #[.slice A n c, .int .i64 0] := by
    rw [Tryd.builtPart]
    have h2 := fill_fields ([(0, 1), (1, 1)].toArray[·]?) [.slice A n c, .int .i64 0] 0 0 #[.slice none 0 0, .int .i64 0] ⟨rfl, rfl, trivial⟩ rfl
    simpa [cellsAll, Value.cells] using h2
  have HBP := Lib.hid hbp
  have hb := HB.new w 58 [.slice none 0 0, .int .i64 0]
  have hB := below_alloc1 w (.cells #[.slice none 0 0, .int .i64 0] 58)
  generalize hw1 : w.alloc (.cells #[.slice none 0 0, .int .i64 0] 58) = w1 at *
  have H1 := Lib.hid hb; have H2 := Lib.hid hB
  clear hb hB hbp
  have hzI : (Tryd.prog.info? 58).map (·.size) = some 2 := by kernel_rfl
  have hfin := Below.setRow_ H2.out (show w.heap.size ≤ w.heap.size from Nat.le_refl _) #[.slice A n c, .int .i64 0]
  have hr := H1.out.row #[.slice A n c, .int .i64 0]
  go_enter Tryd.func25, Tryd.ntmps25
  go_wp2_with first
    | (refine wpList_buildTo rfl 58 _ rfl _ rfl #[.slice A n c, .int .i64 0] (by (simp only [List.map_toArray, List.map_cons, List.map_nil]; exact HBP.out)) ?_)
    | (refine wpList_store_row rfl 58 _ _ rfl w.heap.size #[.slice A n c, .int .i64 0] rfl rfl 58 _ H1.out hzI rfl (by simp [Value.oneCell']) ?_)
  refine bodyPost_ret (v := .agg #[.slice A n c, .int .i64 0]) (results_cell_row rfl _ _ w.heap.size 58 #[.slice A n c, .int .i64 0] (0, 0) _ rfl hr Tryd.underlying58 rfl hzI) rfl ?_
  exact ⟨rfl, hfin⟩
theorem built_zdig : Tryd.prog.built 24 [] = some zdig.toArray := by kernel_rfl
/-- Root of a map: its digest, or the zero digest. -/
def rootT (L : List Ent) : List UInt8 := if MayP L then digT 256 L else List.replicate 32 0
set_option maxRecDepth 20000 in
set_option maxHeartbeats 1600000 in
theorem root_any (w : World) (B c : Nat) (hBw : B ≤ w.heap.size) (A : Option Addr) (vs : List Value) (L : List Ent) (h : EntsW w B A vs L) (hc : L.length ≤ c) (hcm : c ≤ 9223372036854775807) (hn : L.length ≤ 4611686018427387904) (hk : Consts w) :
    Calls Tryd.prog 14 #[.slice A L.length c] w (Digs w (rootT L)) := by
  have hz := Tryd.zeroDig
  have hB1 := below_alloc1 w (.cells zdig.toArray 24)
  have hd1 := HB.new w 24 zdig
  generalize hw1 : w.alloc (.cells zdig.toArray 24) = w1 at *
  have HM := Lib.hid (may_any w1 B c (Nat.le_trans hBw hB1.size) A vs L (h.below (hB1.mono hBw)) hn)
  have HE := Lib.hid (h.below (hB1.mono hBw)); have HK := Lib.hid (hk.below hB1 hk.2.2)
  have HB1 := Lib.hid hB1; have HD1 := Lib.hid hd1
  have HBw := Lib.hid hBw; have HC := Lib.hid hc; have HCM := Lib.hid hcm; have HN := Lib.hid hn
  clear h hk hB1 hd1 hBw
  obtain ⟨n, hnn⟩ : ∃ n, n = L.length := ⟨_, rfl⟩
  rw [← hnn] at HM ⊢
  have HNN := Lib.hid hnn
  clear hnn hc hcm hn
  go_enter Tryd.func14, Tryd.ntmps14
  go_wp2_with fail
  clear hw1
  refine HM.out.mono ?_
  rintro e w2 ⟨rfl, hB2⟩
  have HD2 := Lib.hid (HD1.out.below hB2 HD1.out.lt)
  have HB2 := Lib.hid (HB1.out.trans (hB2.mono HB1.out.size))
  have HE2 := Lib.hid (HE.out.below (hB2.mono (Nat.le_trans HBw.out HB1.out.size)))
  have HK2 := Lib.hid (HK.out.below hB2 HK.out.2.2)
  clear hB2 HM HD1 HB1 HE HK
  by_cases hm : MayP L
  · have HRT : Hid (rootT L = digT 256 L) := Lib.hid (if_pos hm)
    have HDD : Hid (decide (MayP L) = true) := Lib.hid (by simpa using hm)
    have HMM := Lib.hid hm
    clear hm
    rw [HRT.out, HDD.out]
    go_wp2_with fail
    refine (whole_any w2 A n c).mono ?_
    rintro e w3 ⟨rfl, hB3⟩
    have HD3 := Lib.hid (HD2.out.below hB3 HD2.out.lt)
    have HB3 := Lib.hid (HB2.out.trans (hB3.mono HB2.out.size))
    have hbw3 : B ≤ w3.heap.size := Nat.le_trans HBw.out HB3.out.size
    have HDG := Lib.hid (dig_any 256 0 rfl w3 B c hbw3 A vs L (HE2.out.below (hB3.mono (Nat.le_trans HBw.out HB2.out.size))) HMM.out (grp_0 HE2.out.keys) HC.out HCM.out HN.out (HK2.out.below hB3 HK2.out.2.2))
    rw [← HNN.out] at HDG
    clear hB3 HD2 HB2 HE2 HK2 hbw3
    go_wp2_with fail
    refine HDG.out.mono ?_
    rintro e w4 ⟨rfl, hB4⟩
    have hd4 := HD3.out.below hB4 HD3.out.lt
    have HI := dig_info (digT_len 256 L)
    have HZ := dig_size (digT_len 256 L)
    have HA := dig_one (digT 256 L)
    have hr := hd4.row (bys (digT 256 L)).toArray
    have hfin := Below.setRow_ (HB3.out.trans (hB4.mono HB3.out.size)) (show w.heap.size ≤ w.heap.size from Nat.le_refl _) (bys (digT 256 L)).toArray
    clear hB4 HDG HD3 HB3
    generalize digT 256 L = dg at *
    go_wp2_with (refine wpList_store_row rfl 24 _ _ rfl w.heap.size (bys dg).toArray rfl rfl 24 _ hd4 HI.out HZ.out HA.out ?_)
    refine bodyPost_ret (v := .agg (bys dg).toArray) (results_cell_row rfl _ _ w.heap.size 24 (bys dg).toArray (0, 0) _ rfl hr Tryd.underlying24 rfl HI.out) rfl ?_
    exact ⟨by rw [HRT.out], hfin⟩
  · have HRT : Hid (rootT L = List.replicate 32 0) := Lib.hid (if_neg hm)
    have HDD : Hid (decide (MayP L) = false) := Lib.hid (by simpa using hm)
    clear hm
    rw [HRT.out, HDD.out]
    have HZB := Lib.hid built_zdig
    have hdl : (List.replicate 32 (0 : UInt8)).length = 32 := List.length_replicate ..
    have HZE : Hid (zdig = bys (List.replicate 32 0)) := Lib.hid (by kernel_rfl)
    have HI := dig_info hdl
    have HZ := dig_size hdl
    have HA := dig_one (List.replicate 32 (0 : UInt8))
    have hd2 := HD2.out
    rw [HZE.out] at HZB
    clear HZE HD2 hdl
    have hr := hd2.row (bys (List.replicate 32 0)).toArray
    have hfin := Below.setRow_ HB2.out (show w.heap.size ≤ w.heap.size from Nat.le_refl _) (bys (List.replicate 32 0)).toArray
    clear HDD hz
    generalize List.replicate 32 (0 : UInt8) = dg at *
    go_wp2_with first
      | (refine wpList_buildTo rfl 24 _ rfl _ rfl (bys dg).toArray (by (simp only [List.map_toArray, List.map_nil]; exact HZB.out)) ?_)
      | (refine wpList_store_row rfl 24 _ _ rfl w.heap.size (bys dg).toArray rfl rfl 24 _ hd2 HI.out HZ.out HA.out ?_)
    refine bodyPost_ret (v := .agg (bys dg).toArray) (results_cell_row rfl _ _ w.heap.size 24 (bys dg).toArray (0, 0) _ rfl hr Tryd.underlying24 rfl HI.out) rfl ?_
    exact ⟨by rw [HRT.out], hfin⟩
end Go.Proofs.YtapbaonlboefeaaDoor
