/- wapentakeref03.Prove is pathF. -/
import Derived.Test.YthmkdlnocdbhjaaDoorRpA
import Derived.Deep.DeepCutAuto
import Derived.Laws.AppendOwn
import Derived.Great.BuildSlice
namespace Go.Proofs.YthmkdlnocdbhjaaDoor
open Go.RowKit

theorem path_shift (ls ms : List (List UInt8)) : ∀ (d f t g u i : Nat), t - f = d → u - g = d → d < 9223372036854775808 → (∀ j, j < d → ls.getD (f + j) [] = ms.getD (g + j) []) → (sibs f t (f + i)).map (fun p => dig ls p.1 p.2) = (sibs g u (g + i)).map (fun p => dig ms p.1 p.2) := by
  intro d
  induction d using Nat.strongRecOn with
  | ind d ih =>
    intro f t g u i hd hd' h63 hj
    rcases Nat.lt_or_ge d 2 with h2 | h2
    · rw [sibs_one f t _ (by omega), sibs_one g u _ (by omega)]; rfl
    · obtain ⟨k1, k2, -⟩ := half_spec d h2 h63
      have hj2 : ∀ j, j < d - half d → ls.getD (f + half d + j) [] = ms.getD (g + half d + j) [] := fun j h => by
        have h1 := hj (half d + j) (by omega)
        rw [← Nat.add_assoc, ← Nat.add_assoc] at h1
        exact h1
      rcases Nat.lt_or_ge i (half d) with hi | hi
      · rw [sibs_left f t (f + i) (by omega) (by omega) (by rw [hd]; omega), sibs_left g u (g + i) (by omega) (by omega) (by rw [hd']; omega), hd, hd', List.map_append, List.map_append, List.map_singleton, List.map_singleton]
        rw [ih (half d) (by omega) f (f + half d) g (g + half d) i (by omega) (by omega) (by omega) (fun j h => hj j (by omega))]
        simp only
        rw [dig_shift ls ms (d - half d) (f + half d) t (g + half d) u (by omega) (by omega) (by omega) hj2]
      · rw [sibs_right f t (f + i) (by omega) (by omega) (by rw [hd]; omega), sibs_right g u (g + i) (by omega) (by omega) (by rw [hd']; omega), hd, hd', List.map_append, List.map_append, List.map_singleton, List.map_singleton]
        have h := ih (d - half d) (by omega) (f + half d) t (g + half d) u (i - half d) (by omega) (by omega) (by omega) hj2
        rw [show f + half d + (i - half d) = f + i by omega, show g + half d + (i - half d) = g + i by omega] at h
        rw [h]
        simp only
        rw [dig_shift ls ms (half d) f (f + half d) g (g + half d) (by omega) (by omega) (by omega) (fun j h => hj j (by omega))]
theorem pathF_left (ls : List (List UInt8)) (i : Nat) (h2 : 2 ≤ ls.length) (h63 : ls.length < 9223372036854775808) (hi : i < half ls.length) : pathF ls i = pathF (ls.take (half ls.length)) i ++ [dig ls (half ls.length) ls.length] := by
  obtain ⟨k1, k2, -⟩ := half_spec ls.length h2 h63
  have hs := sibs_left 0 ls.length i (by omega) (by omega) (by rw [Nat.sub_zero]; omega)
  rw [Nat.zero_add, Nat.sub_zero] at hs
  have hl : (ls.take (half ls.length)).length = half ls.length := by rw [List.length_take]; omega
  have h := path_shift ls (ls.take (half ls.length)) (half ls.length) 0 (half ls.length) 0 (half ls.length) i (by omega) (by omega) (by omega) (fun j h => by
    rw [Nat.zero_add, List.getD_eq_getElem?_getD, List.getD_eq_getElem?_getD, List.getElem?_take, if_pos h])
  rw [Nat.zero_add] at h
  unfold pathF
  rw [hs, List.map_append, List.map_singleton, hl, h]
theorem pathF_right (ls : List (List UInt8)) (i : Nat) (h2 : 2 ≤ ls.length) (h63 : ls.length < 9223372036854775808) (hi : half ls.length ≤ i) : pathF ls i = pathF (ls.drop (half ls.length)) (i - half ls.length) ++ [dig ls 0 (half ls.length)] := by
  obtain ⟨k1, k2, -⟩ := half_spec ls.length h2 h63
  have hs := sibs_right 0 ls.length i (by omega) (by omega) (by rw [Nat.sub_zero]; omega)
  rw [Nat.zero_add, Nat.sub_zero] at hs
  have hl : (ls.drop (half ls.length)).length = ls.length - half ls.length := List.length_drop
  have h := path_shift ls (ls.drop (half ls.length)) (ls.length - half ls.length) (half ls.length) ls.length 0 (ls.length - half ls.length) (i - half ls.length) (by omega) (by omega) (by omega) (fun j h => by
    rw [Nat.zero_add, List.getD_eq_getElem?_getD, List.getD_eq_getElem?_getD, List.getElem?_drop])
  rw [Nat.zero_add, show half ls.length + (i - half ls.length) = i by omega] at h
  unfold pathF
  rw [hs, List.map_append, List.map_singleton, hl, h]
theorem pathF_one (ls : List (List UInt8)) (i : Nat) (h : ls.length = 1) : pathF ls i = [] := by
  unfold pathF
  rw [sibs_one 0 ls.length i (by omega)]; rfl
/-- Left: an own list of digests. -/
def ProveR (w : World) (ds : List (List UInt8)) (e : Ending) (w' : World) : Prop :=
  ∃ v', e = .returned v' ∧ w'.ownsRow w.heap.size 28 32 v' ds.length (digCells ds) ∧ Below w.heap.size w w'

theorem rprove_1 (A : Option Addr) (c i : Nat) (w : World) : Calls Tryd.prog 16 #[.slice A 1 c, .int .i64 (i : Int)] w (ProveR w []) := by
  go_enter Tryd.func16, Tryd.ntmps16
  go_wp2
  go_ret
  exact ⟨_, rfl, World.ownsRow_nil _ _ _ _, Below.refl _ _⟩

-- STEPS

set_option maxRecDepth 20000 in
set_option maxHeartbeats 1600000 in
theorem rprove_L (B : Nat) (A : Option Addr) (c : Nat) (vs : List Value) (ls : List (List UInt8)) (w : World) (hW : LsW w B A c vs ls) (h2 : 2 ≤ ls.length) (i : Nat) (hi : i < half ls.length) (D : List UInt8) (lD : D.length = 32) (P : List (List UInt8)) (hP : P.length ≤ 63)
    (ih : ∀ W : World, Below w.heap.size w W → Calls Tryd.prog 16 #[.slice A (half ls.length) c, .int .i64 (i : Int)] W (ProveR W P))
    (ht : ∀ W : World, Below w.heap.size w W → Calls Tryd.prog 18 #[.slice (A.map (·.add (half ls.length))) (ls.length - half ls.length) (c - half ls.length)] W (Digs W D)) :
    Calls Tryd.prog 16 #[.slice A ls.length c, .int .i64 (i : Int)] w (ProveR w (P ++ [D])) := by
  have hcap := hW.cap
  obtain ⟨k1, k2, -⟩ := half_spec ls.length h2 (by omega)
  have hhf := Lib.hid (fun W : World => rhalf_any ls.length h2 (by omega) W)
  obtain ⟨ad, hA, -, -⟩ := hW.sees.some_ (by omega)
  subst hA
  obtain ⟨i0, hi0, hz0, hz1, hz2⟩ := Tryd.infoDig
  have HFL := Lib.hid (fill_dig i0 hz1 D lD)
  have HZ1 := Lib.hid hz1
  have HI0 := Lib.hid hi0
  have HZ0 := Lib.hid hz0
  have HZ2 := Lib.hid hz2
  have IH := Lib.hid ih
  have HT := Lib.hid ht
  have LD := Lib.hid lD
  have HP := Lib.hid hP
  have c1 : ls.length ≤ c := hcap.1
  have c2 : c ≤ 9223372036854775807 := by omega
  clear hW hcap ih ht lD hP hi0 hz0 hz1 hz2
  generalize ls.length = n at *
  generalize half n = k at *
  have i1 : (2 : Int) ≤ n := by omega
  have i2 : (0 : Int) < k := by omega
  have i3 : (k : Int) < n := by omega
  have i4 : (n : Int) ≤ c := by omega
  have i5 : (k : Int) ≤ c := by omega
  have i6 : (n : Int) ≤ 9223372036854775807 := by omega
  have i7 : ¬ c = k := by omega
  have i9 : k ≤ n := by omega
  have i8 : (c == k) = false := by simp; omega
  have i10 : (i : Int) < k := by omega
  have i11 : ((n : Int) == 1) = false := by simp; omega
  go_enter Tryd.func16, Tryd.ntmps16
  go_wp2_with fail
  refine (hhf.out _).mono ?_
  rintro e w1 ⟨rfl, rfl⟩
  clear hhf
  go_wp2_with fail
  refine wp_region_held_drew (S := fun _ => True) (by kernel_rfl) trivial (fun hH => ?_)
  try simp only [Act.put, List.getElem_toArray, List.getElem_cons_succ, List.getElem_cons_zero, List.setIfInBounds_toArray, List.set_cons_succ, List.set_cons_zero]
  refine wpAnyH_take (i := 0) (v := ?v1) rfl (by kernel_rfl) (by kernel_rfl) (by kernel_rfl) (fun _ _ _ h => h) (Or.inl ⟨by rfl, ?y1⟩) hH ?_
  case y1 => intro w' hSw; clear hSw; (first | (go_simp; done) | (go_simp; with_reducible rfl))
  try simp only [Act.put, List.getElem_toArray, List.getElem_cons_zero, List.setIfInBounds_toArray, List.set_cons_succ, List.set_cons_zero]
  refine wpAnyH_take (i := 1) (v := ?v2) rfl (by kernel_rfl) (by kernel_rfl) (by kernel_rfl) (fun _ _ _ h => h) (Or.inl ⟨by rfl, ?y2⟩) hH ?_
  case y2 => intro w' hSw; clear hSw; (first | (go_simp; done) | (go_simp; with_reducible rfl))
  try simp only [Act.put, List.getElem_toArray, List.getElem_cons_succ, List.getElem_cons_zero, List.setIfInBounds_toArray, List.set_cons_succ, List.set_cons_zero]
  refine wpAnyH_take (i := 2) (v := ?v3) rfl (by kernel_rfl) (by kernel_rfl) (by kernel_rfl) (fun _ _ _ h => h) (Or.inl ⟨by rfl, ?y3⟩) hH ?_
  case y3 => intro w' hSw; clear hSw; (first | (go_simp; done) | (go_simp; with_reducible rfl))
  try simp only [Act.put, List.getElem_toArray, List.getElem_cons_succ, List.getElem_cons_zero, List.setIfInBounds_toArray, List.set_cons_succ, List.set_cons_zero]
  refine wpAnyH_take (i := 3) (v := ?v4) rfl (by kernel_rfl) (by kernel_rfl) (by kernel_rfl) (fun _ _ _ h => h) (Or.inl ⟨by rfl, ?y4⟩) hH ?_
  case y4 => intro w' hSw; clear hSw; (first | (go_simp; done) | (go_simp; with_reducible rfl))
  try simp only [Act.put, List.getElem_toArray, List.getElem_cons_succ, List.getElem_cons_zero, List.setIfInBounds_toArray, List.set_cons_succ, List.set_cons_zero]
  refine wpAnyH_take (i := 5) (v := ?v5) rfl (by kernel_rfl) (by kernel_rfl) (by kernel_rfl) (fun _ _ _ h => h) (Or.inl ⟨by rfl, ?y5⟩) hH ?_
  case y5 => intro w' hSw; clear hSw; (first | (go_simp; done) | (go_simp; with_reducible rfl))
  try simp only [Act.put, List.getElem_toArray, List.getElem_cons_succ, List.getElem_cons_zero, List.setIfInBounds_toArray, List.set_cons_succ, List.set_cons_zero]
  refine wpAnyH_take (i := 6) (v := ?v6) rfl (by kernel_rfl) (by kernel_rfl) (by kernel_rfl) (fun _ _ _ h => h) (Or.inl ⟨by rfl, ?y6⟩) hH ?_
  case y6 => intro w' hSw; clear hSw; (first | (go_simp; done) | (go_simp; with_reducible rfl))
  try simp only [Act.put, List.getElem_toArray, List.getElem_cons_succ, List.getElem_cons_zero, List.setIfInBounds_toArray, List.set_cons_succ, List.set_cons_zero]
  refine wpAnyH_take (i := 7) (v := ?v7) rfl (by kernel_rfl) (by kernel_rfl) (by kernel_rfl) (fun _ _ _ h => h) (Or.inl ⟨by rfl, ?y7⟩) hH ?_
  case y7 => intro w' hSw; clear hSw; (first | (go_simp; done) | (go_simp; with_reducible rfl))
  try simp only [Act.put, List.getElem_toArray, List.getElem_cons_succ, List.getElem_cons_zero, List.setIfInBounds_toArray, List.set_cons_succ, List.set_cons_zero]
  refine wpAnyH_ready (rs := [4]) (by kernel_rfl) (by simp) ?_
  refine AllReadyH.cons rfl (fun K hK => ?_) AllReadyH.nil
  rw [if_pos (by rfl)]
  go_simp
  refine (IH.out _ (Below.drew (Below.refl _ _))).mono ?_
  rintro e wa ⟨va, rfl, hoa, hBa⟩
  have HOa := Lib.hid hoa
  have HBa := Lib.hid ((Below.drew (Below.refl w.heap.size w)).trans hBa)
  clear hBa hoa
  try dsimp only
  refine hK.out _ _ trivial (fun _ => ?_)
  clear hK K hH
  try simp only [Act.put, List.getElem_toArray, List.getElem_cons_succ, List.getElem_cons_zero, List.setIfInBounds_toArray, List.set_cons_succ, List.set_cons_zero]
  refine wpAnyH_ready (rs := [8]) (by kernel_rfl) (by simp) ?_
  refine AllReadyH.cons rfl (fun K hK => ?_) AllReadyH.nil
  rw [if_pos (by rfl)]
  go_simp
  refine (HT.out _ HBa.out).mono ?_
  rintro e wb ⟨rfl, hBb⟩
  have HOb := Lib.hid (own_below HOa.out hBb)
  have HBb := Lib.hid (HBa.out.trans (hBb.mono HBa.out.size))
  clear hBb HOa
  try dsimp only
  refine hK.out _ _ trivial (fun _ => ?_)
  clear hK K
  try simp only [Act.put, List.getElem_toArray, List.getElem_cons_succ, List.getElem_cons_zero, List.setIfInBounds_toArray, List.set_cons_succ, List.set_cons_zero]
  refine wpAnyH_ready (rs := [9]) (by kernel_rfl) (by simp) ?_
  refine AllReadyH.cons rfl (fun K hK => ?_) AllReadyH.nil
  rw [if_pos (by rfl)]
  refine wp_buildSlice 24 28 1 _ rfl (bys D).toArray i0 (.agg zdig.toArray) Tryd.underlying24 HI0.out HZ0.out (by rw [HZ1.out]; decide) (by rw [HZ1.out]; decide) (by (simp only [List.map_toArray, List.map_cons, List.map_nil]; exact HFL.out)) ?_
  refine hK.out _ _ trivial (fun _ => ?_)
  clear hK K
  try simp only [Act.put, List.getElem_toArray, List.getElem_cons_succ, List.getElem_cons_zero, List.setIfInBounds_toArray, List.set_cons_succ, List.set_cons_zero]
  refine wpAnyH_ready (rs := [10]) (by kernel_rfl) (by simp) ?_
  refine AllReadyH.cons rfl (fun K hK => ?_) AllReadyH.nil
  rw [if_pos (by rfl)]
  refine wp_append_own _ (.tmp 19) (.tmp 24) 24 rfl w.heap.size 28 i0 (.agg zdig.toArray) 32 32 Tryd.underlying24 HI0.out HZ0.out HZ1.out HZ2.out rfl (by decide) va P.length _ rfl (HOb.out.alloc _) ⟨wb.heap.size, 0, none⟩ 1 1 (bys D) rfl ?c0 ?c1 (bys_one D) ?c3 ?c4 ?c5 ?_
  case c0 => rw [bys_len, LD.out]
  case c1 =>
    intro j u hu
    rw [add_at, boxed]; simpa using hu
  case c3 => have := HP.out; unfold maxLen; omega
  case c4 => have := HP.out; omega
  case c5 => have := HBb.out.size; simp; omega
  intro v5 w5 hown5 hg5 _
  have hB5 : Below w.heap.size w w5 := (HBb.out.alloc HBb.out.size _).grown hg5 (Nat.le_trans HBb.out.size (by simp)) (fun g hg => (HOb.out.lt g hg).1)
  have HO5 := Lib.hid hown5
  have HB5 := Lib.hid hB5
  clear hown5 hg5 hB5
  refine hK.out _ _ trivial (fun _ => ?_)
  clear hK K
  try simp only [Act.put, List.getElem_toArray, List.getElem_cons_succ, List.getElem_cons_zero, List.setIfInBounds_toArray, List.set_cons_succ, List.set_cons_zero]
  refine wpAnyH_ready (rs := [11]) (by kernel_rfl) (by simp) ?_
  refine AllReadyH.cons rfl (fun K hK => ?_) AllReadyH.nil
  rw [if_pos (by rfl)]
  go_simp
  refine hK.out _ _ trivial (fun _ => ?_)
  clear hK K
  refine wpAnyH_done (by kernel_rfl) ?_ _
  go_wp2
  go_ret
  refine ⟨_, rfl, ?_, HB5.out⟩
  rw [digCells_snoc, List.length_append, List.length_singleton]
  exact HO5.out

set_option maxRecDepth 20000 in
set_option maxHeartbeats 1600000 in
theorem rprove_R (B : Nat) (A : Option Addr) (c : Nat) (vs : List Value) (ls : List (List UInt8)) (w : World) (hW : LsW w B A c vs ls) (h2 : 2 ≤ ls.length) (i : Nat) (hi : half ls.length ≤ i) (hin : i < ls.length) (D : List UInt8) (lD : D.length = 32) (P : List (List UInt8)) (hP : P.length ≤ 63)
    (ih : ∀ W : World, Below w.heap.size w W → Calls Tryd.prog 16 #[.slice (A.map (·.add (half ls.length))) (ls.length - half ls.length) (c - half ls.length), .int .i64 ((i : Int) - (half ls.length : Int))] W (ProveR W P))
    (ht : ∀ W : World, Below w.heap.size w W → Calls Tryd.prog 18 #[.slice A (half ls.length) c] W (Digs W D)) :
    Calls Tryd.prog 16 #[.slice A ls.length c, .int .i64 (i : Int)] w (ProveR w (P ++ [D])) := by
  have hcap := hW.cap
  obtain ⟨k1, k2, -⟩ := half_spec ls.length h2 (by omega)
  have hhf := Lib.hid (fun W : World => rhalf_any ls.length h2 (by omega) W)
  obtain ⟨ad, hA, -, -⟩ := hW.sees.some_ (by omega)
  subst hA
  obtain ⟨i0, hi0, hz0, hz1, hz2⟩ := Tryd.infoDig
  have HFL := Lib.hid (fill_dig i0 hz1 D lD)
  have HZ1 := Lib.hid hz1
  have HI0 := Lib.hid hi0
  have HZ0 := Lib.hid hz0
  have HZ2 := Lib.hid hz2
  have IH := Lib.hid ih
  have HT := Lib.hid ht
  have LD := Lib.hid lD
  have HP := Lib.hid hP
  have c1 : ls.length ≤ c := hcap.1
  have c2 : c ≤ 9223372036854775807 := by omega
  clear hW hcap ih ht lD hP hi0 hz0 hz1 hz2
  generalize ls.length = n at *
  generalize half n = k at *
  have i1 : (2 : Int) ≤ n := by omega
  have i2 : (0 : Int) < k := by omega
  have i3 : (k : Int) < n := by omega
  have i4 : (n : Int) ≤ c := by omega
  have i5 : (k : Int) ≤ c := by omega
  have i6 : (n : Int) ≤ 9223372036854775807 := by omega
  have i7 : ¬ c = k := by omega
  have i9 : k ≤ n := by omega
  have i8 : (c == k) = false := by simp; omega
  have i10 : (k : Int) ≤ i := by omega
  have i12 : ¬ ((i : Int) < k) := by omega
  have i13 : (i : Int) - k ≤ 9223372036854775807 := by omega
  have i14 : decide ((i : Int) < (k : Int)) = false := by simp; omega
  have i15 : IntKind.i64.wrap ((i : Int) - (k : Int)) = (i : Int) - (k : Int) := by rw [IntKind.wrap_i64]; omega
  have i11 : ((n : Int) == 1) = false := by simp; omega
  go_enter Tryd.func16, Tryd.ntmps16
  go_wp2_with fail
  refine (hhf.out _).mono ?_
  rintro e w1 ⟨rfl, rfl⟩
  clear hhf
  go_wp2_with fail
  refine wp_region_held_drew (S := fun _ => True) (by kernel_rfl) trivial (fun hH => ?_)
  try simp only [Act.put, List.getElem_toArray, List.getElem_cons_succ, List.getElem_cons_zero, List.setIfInBounds_toArray, List.set_cons_succ, List.set_cons_zero]
  refine wpAnyH_take (i := 0) (v := ?v8) rfl (by kernel_rfl) (by kernel_rfl) (by kernel_rfl) (fun _ _ _ h => h) (Or.inl ⟨by rfl, ?y8⟩) hH ?_
  case y8 => intro w' hSw; clear hSw; (first | (go_simp; done) | (go_simp; with_reducible rfl))
  try simp only [Act.put, List.getElem_toArray, List.getElem_cons_zero, List.setIfInBounds_toArray, List.set_cons_succ, List.set_cons_zero]
  refine wpAnyH_take (i := 1) (v := ?v9) rfl (by kernel_rfl) (by kernel_rfl) (by kernel_rfl) (fun _ _ _ h => h) (Or.inl ⟨by rfl, ?y9⟩) hH ?_
  case y9 => intro w' hSw; clear hSw; (first | (go_simp; done) | (go_simp; with_reducible rfl))
  try simp only [Act.put, List.getElem_toArray, List.getElem_cons_succ, List.getElem_cons_zero, List.setIfInBounds_toArray, List.set_cons_succ, List.set_cons_zero]
  refine wpAnyH_take (i := 2) (v := ?v10) rfl (by kernel_rfl) (by kernel_rfl) (by kernel_rfl) (fun _ _ _ h => h) (Or.inl ⟨by rfl, ?y10⟩) hH ?_
  case y10 => intro w' hSw; clear hSw; (first | (go_simp; done) | (go_simp; with_reducible rfl))
  try simp only [Act.put, List.getElem_toArray, List.getElem_cons_succ, List.getElem_cons_zero, List.setIfInBounds_toArray, List.set_cons_succ, List.set_cons_zero]
  refine wpAnyH_take (i := 3) (v := ?v11) rfl (by kernel_rfl) (by kernel_rfl) (by kernel_rfl) (fun _ _ _ h => h) (Or.inl ⟨by rfl, ?y11⟩) hH ?_
  case y11 => intro w' hSw; clear hSw; (first | (go_simp; done) | (go_simp; with_reducible rfl))
  try simp only [Act.put, List.getElem_toArray, List.getElem_cons_succ, List.getElem_cons_zero, List.setIfInBounds_toArray, List.set_cons_succ, List.set_cons_zero]
  refine wpAnyH_take (i := 4) (v := ?v12) rfl (by kernel_rfl) (by kernel_rfl) (by kernel_rfl) (fun _ _ _ h => h) (Or.inl ⟨by rfl, ?y12⟩) hH ?_
  case y12 => intro w' hSw; clear hSw; (first | (go_simp; done) | (go_simp; with_reducible rfl))
  try simp only [Act.put, List.getElem_toArray, List.getElem_cons_succ, List.getElem_cons_zero, List.setIfInBounds_toArray, List.set_cons_succ, List.set_cons_zero]
  refine wpAnyH_take (i := 5) (v := ?v13) rfl (by kernel_rfl) (by kernel_rfl) (by kernel_rfl) (fun _ _ _ h => h) (Or.inl ⟨by rfl, ?y13⟩) hH ?_
  case y13 => intro w' hSw; clear hSw; (first | (go_simp; done) | (go_simp; with_reducible rfl))
  try simp only [Act.put, List.getElem_toArray, List.getElem_cons_succ, List.getElem_cons_zero, List.setIfInBounds_toArray, List.set_cons_succ, List.set_cons_zero]
  refine wpAnyH_take (i := 7) (v := ?v14) rfl (by kernel_rfl) (by kernel_rfl) (by kernel_rfl) (fun _ _ _ h => h) (Or.inl ⟨by rfl, ?y14⟩) hH ?_
  case y14 => intro w' hSw; clear hSw; (first | (go_simp; done) | (go_simp; with_reducible rfl))
  try simp only [Act.put, List.getElem_toArray, List.getElem_cons_succ, List.getElem_cons_zero, List.setIfInBounds_toArray, List.set_cons_succ, List.set_cons_zero]
  refine wpAnyH_take (i := 8) (v := ?v15) rfl (by kernel_rfl) (by kernel_rfl) (by kernel_rfl) (fun _ _ _ h => h) (Or.inl ⟨by rfl, ?y15⟩) hH ?_
  case y15 => intro w' hSw; clear hSw; (first | (go_simp; done) | (go_simp; with_reducible rfl))
  try simp only [Act.put, List.getElem_toArray, List.getElem_cons_succ, List.getElem_cons_zero, List.setIfInBounds_toArray, List.set_cons_succ, List.set_cons_zero]
  refine wpAnyH_take (i := 9) (v := ?v16) rfl (by kernel_rfl) (by kernel_rfl) (by kernel_rfl) (fun _ _ _ h => h) (Or.inl ⟨by rfl, ?y16⟩) hH ?_
  case y16 => intro w' hSw; clear hSw; (first | (go_simp; done) | (go_simp; with_reducible rfl))
  try simp only [Act.put, List.getElem_toArray, List.getElem_cons_succ, List.getElem_cons_zero, List.setIfInBounds_toArray, List.set_cons_succ, List.set_cons_zero]
  refine wpAnyH_ready (rs := [6]) (by kernel_rfl) (by simp) ?_
  refine AllReadyH.cons rfl (fun K hK => ?_) AllReadyH.nil
  rw [if_pos (by rfl)]
  go_simp
  refine (IH.out _ (Below.drew (Below.refl _ _))).mono ?_
  rintro e wa ⟨va, rfl, hoa, hBa⟩
  have HOa := Lib.hid hoa
  have HBa := Lib.hid ((Below.drew (Below.refl w.heap.size w)).trans hBa)
  clear hBa hoa
  try dsimp only
  refine hK.out _ _ trivial (fun _ => ?_)
  clear hK K hH
  try simp only [Act.put, List.getElem_toArray, List.getElem_cons_succ, List.getElem_cons_zero, List.setIfInBounds_toArray, List.set_cons_succ, List.set_cons_zero]
  refine wpAnyH_ready (rs := [10]) (by kernel_rfl) (by simp) ?_
  refine AllReadyH.cons rfl (fun K hK => ?_) AllReadyH.nil
  rw [if_pos (by rfl)]
  go_simp
  refine (HT.out _ HBa.out).mono ?_
  rintro e wb ⟨rfl, hBb⟩
  have HOb := Lib.hid (own_below HOa.out hBb)
  have HBb := Lib.hid (HBa.out.trans (hBb.mono HBa.out.size))
  clear hBb HOa
  try dsimp only
  refine hK.out _ _ trivial (fun _ => ?_)
  clear hK K
  try simp only [Act.put, List.getElem_toArray, List.getElem_cons_succ, List.getElem_cons_zero, List.setIfInBounds_toArray, List.set_cons_succ, List.set_cons_zero]
  refine wpAnyH_ready (rs := [11]) (by kernel_rfl) (by simp) ?_
  refine AllReadyH.cons rfl (fun K hK => ?_) AllReadyH.nil
  rw [if_pos (by rfl)]
  refine wp_buildSlice 24 28 1 _ rfl (bys D).toArray i0 (.agg zdig.toArray) Tryd.underlying24 HI0.out HZ0.out (by rw [HZ1.out]; decide) (by rw [HZ1.out]; decide) (by (simp only [List.map_toArray, List.map_cons, List.map_nil]; exact HFL.out)) ?_
  refine hK.out _ _ trivial (fun _ => ?_)
  clear hK K
  try simp only [Act.put, List.getElem_toArray, List.getElem_cons_succ, List.getElem_cons_zero, List.setIfInBounds_toArray, List.set_cons_succ, List.set_cons_zero]
  refine wpAnyH_ready (rs := [12]) (by kernel_rfl) (by simp) ?_
  refine AllReadyH.cons rfl (fun K hK => ?_) AllReadyH.nil
  rw [if_pos (by rfl)]
  refine wp_append_own _ (.tmp 32) (.tmp 37) 24 rfl w.heap.size 28 i0 (.agg zdig.toArray) 32 32 Tryd.underlying24 HI0.out HZ0.out HZ1.out HZ2.out rfl (by decide) va P.length _ rfl (HOb.out.alloc _) ⟨wb.heap.size, 0, none⟩ 1 1 (bys D) rfl ?c0 ?c1 (bys_one D) ?c3 ?c4 ?c5 ?_
  case c0 => rw [bys_len, LD.out]
  case c1 =>
    intro j u hu
    rw [add_at, boxed]; simpa using hu
  case c3 => have := HP.out; unfold maxLen; omega
  case c4 => have := HP.out; omega
  case c5 => have := HBb.out.size; simp; omega
  intro v5 w5 hown5 hg5 _
  have hB5 : Below w.heap.size w w5 := (HBb.out.alloc HBb.out.size _).grown hg5 (Nat.le_trans HBb.out.size (by simp)) (fun g hg => (HOb.out.lt g hg).1)
  have HO5 := Lib.hid hown5
  have HB5 := Lib.hid hB5
  clear hown5 hg5 hB5
  refine hK.out _ _ trivial (fun _ => ?_)
  clear hK K
  try simp only [Act.put, List.getElem_toArray, List.getElem_cons_succ, List.getElem_cons_zero, List.setIfInBounds_toArray, List.set_cons_succ, List.set_cons_zero]
  refine wpAnyH_ready (rs := [13]) (by kernel_rfl) (by simp) ?_
  refine AllReadyH.cons rfl (fun K hK => ?_) AllReadyH.nil
  rw [if_pos (by rfl)]
  go_simp
  refine hK.out _ _ trivial (fun _ => ?_)
  clear hK K
  refine wpAnyH_done (by kernel_rfl) ?_ _
  go_wp2
  go_ret
  refine ⟨_, rfl, ?_, HB5.out⟩
  rw [digCells_snoc, List.length_append, List.length_singleton]
  exact HO5.out

/-- Prove: the path of any element. -/
theorem rprove_any : ∀ (n B : Nat) (A : Option Addr) (c : Nat) (vs : List Value) (ls : List (List UInt8)) (w : World) (i : Nat), ls.length = n → LsW w B A c vs ls → i < ls.length → Calls Tryd.prog 16 #[.slice A ls.length c, .int .i64 (i : Int)] w (ProveR w (pathF ls i)) := by
  intro n
  induction n using Nat.strongRecOn with
  | ind n ih =>
    intro B A c vs ls w i hn hW hi
    have hcap := hW.cap
    rcases Nat.lt_or_ge n 2 with h2 | h2
    · have hl : ls.length = 1 := by omega
      rw [pathF_one ls i hl, hl]
      exact rprove_1 A c i w
    · obtain ⟨k1, k2, -⟩ := half_spec ls.length (by omega) (by omega)
      have hlt : (ls.take (half ls.length)).length = half ls.length := by rw [List.length_take]; omega
      have hld : (ls.drop (half ls.length)).length = ls.length - half ls.length := List.length_drop
      have hT1 : ∀ W : World, Below w.heap.size w W → Calls Tryd.prog 18 #[.slice A (half ls.length) c] W (Digs W (dig ls 0 (half ls.length))) := fun W hB => by
        have h := top_call ((hW.below hB).front (half ls.length) (by omega))
        rw [dig_take ls _ (by omega) (by omega), hlt] at h
        exact h
      have hT2 : ∀ W : World, Below w.heap.size w W → Calls Tryd.prog 18 #[.slice (A.map (·.add (half ls.length))) (ls.length - half ls.length) (c - half ls.length)] W (Digs W (dig ls (half ls.length) ls.length)) := fun W hB => by
        have h := top_call ((hW.below hB).back (half ls.length) (by omega))
        rw [dig_drop ls _ (by omega) (by omega), hld] at h
        exact h
      rcases Nat.lt_or_ge i (half ls.length) with hk | hk
      · rw [pathF_left ls i (by omega) (by omega) hk]
        have hfew := sibs_few i 63 0 (ls.take (half ls.length)).length (by omega) (by omega)
        refine rprove_L B A c vs ls w hW (by omega) i hk _ (dig_len _ _ _) _ (by rw [pathF_len]; exact hfew) (fun W hB => ?_) hT2
        have h := ih (half ls.length) (by omega) B A c (vs.take (half ls.length)) (ls.take (half ls.length)) W i hlt ((hW.below hB).front _ (by omega)) (by omega)
        rw [hlt] at h
        exact h
      · rw [pathF_right ls i (by omega) (by omega) hk]
        have hfew := sibs_few (i - half ls.length) 63 0 (ls.drop (half ls.length)).length (by omega) (by omega)
        refine rprove_R B A c vs ls w hW (by omega) i hk hi _ (dig_len _ _ _) _ (by rw [pathF_len]; exact hfew) (fun W hB => ?_) hT1
        have h := ih (ls.length - half ls.length) (by omega) B (A.map (·.add (half ls.length))) (c - half ls.length) (vs.drop (half ls.length)) (ls.drop (half ls.length)) W (i - half ls.length) hld ((hW.below hB).back _ (by omega)) (by omega)
        rw [hld, show (((i - half ls.length : Nat) : Nat) : Int) = (i : Int) - (half ls.length : Int) by omega] at h
        exact h
end Go.Proofs.YthmkdlnocdbhjaaDoor
