/- (*sha.Hash).Write: the walk. -/
import Derived.Test.YtapbaonlboefeaaDoorShaH
namespace Go.Proofs.YtapbaonlboefeaaDoor
open Go.RowKit

theorem Tryd.sizeByte : (Tryd.prog.info? 5).map (·.size) = some 1 := by kernel_rfl

set_option maxHeartbeats 3200000 in
set_option maxRecDepth 100000 in
theorem write_none (B g : Nat) (A : Option Addr) (c : Nat) (m b M : List UInt8) (w : World) (hM : M = m ++ b) (hh : HashAt w g m) (hs : Sees w B 1 A b.length (bys b)) (hap : Apart g A b.length) (hB : B ≤ w.heap.size) (hc : b.length ≤ c) (hcm : c ≤ 9223372036854775807) (hm : m.length + b.length ≤ 1152921504606846975) (hk : Consts w) (hg2 : max 2 1 + 1 ≤ g)
    (h0 : m.length % 64 = 0) :
    Calls Tryd.prog 56 #[.pointer (some ⟨g, 0, none⟩), .slice A b.length c] w fun e w' => e = .returned (.tuple #[]) ∧ HashAt w' g M ∧ w.grownBy w' (some g) := by
  obtain ⟨tail, ht, htl, hb⟩ := hh
  have hc72 := (hb.cell 72).trans (hash_len_cell _ tail m.length ht)
  have hf72 := hb.frozen 72
  have hb1 := hb.set_ 72 (.int .u64 ((M.length : Nat) : Int))
  rw [hash_set_len _ tail _ _ ht] at hb1
  have hG1 := grownBy_setCell_ w g 72 (.int .u64 ((M.length : Nat) : Int))
  have hl0 : left_ m = [] := List.eq_nil_of_length_eq_zero (by rw [left_len, h0])
  have hw := whole_append init0 m b
  have hl := left_append m b
  rw [← hM] at hw hl
  rw [hl0, List.nil_append] at hw hl
  have hst : WriteAt w g B M (.slice A b.length c) (w.setCell ⟨g, 72, none⟩ (.int .u64 ((M.length : Nat) : Int))) :=
    ⟨b, A, _, c, whole init0 m, tail, rfl, rfl, hc, hcm, hs.apart hG1 hB hap, hap, hb1, ht, hw.symm, hl.symm, hG1, hk.apart hG1 hg2⟩
  have Hst := Lib.hid hst
  have hlen : (M.length : Int) = (m.length : Int) + b.length := by rw [hM, List.length_append]; push_cast; rfl
  have Hlen := Lib.hid hlen
  have hz : (m.length : Int) % 64 ≤ 0 := by omega
  have hz2 : 0 ≤ (m.length : Int) % 64 := by omega
  clear hst hlen hw hl hl0 hb hb1 hG1 htl hs hM
  have H0 := Lib.hid h0
  clear h0
  go_enter Tryd.func56, Tryd.ntmps56
  go_wp2
  go_loopw [1] (fun r wr => WriteAt w g B M r wr) (fun r _ => lenOf r)
  case atStart => rw [← Hlen.out]; exact Hst.out
  case round =>
    obtain ⟨rem, A1, n1, c1, S, tail, rfl, hn1, hc1, hcm1, hs, hap, hb, ht, hw, hl, hG, hk⟩ := hrel
    have hn1' : rem.length ≤ n1 := by omega
    have hn1'' : n1 ≤ rem.length := by omega
    have HN := Lib.hid hn1
    have HW := Lib.hid hw
    have HL := Lib.hid hl
    have HT := Lib.hid ht
    have hBw : B ≤ wr.heap.size := Nat.le_trans hB hG.size
    clear hn1 hw hl ht
    rcases Nat.lt_or_ge n1 64 with hlt | hge
    · have hsz : 8 + n1 ≤ (hashCells S tail M.length).length := by rw [hash_size _ _ _ HT.out]; omega
      have Hmin := Lib.hid (show n1 = Nat.min n1 64 from (Nat.min_eq_left (by omega)).symm)
      go_wp2_with (refine wpList_copy_hb rfl (.tmp 60) (.tmp 61) 31 31 rfl 5 Tryd.underlying31 Tryd.sizeByte g 8 64 64 A1 n1 c1 rfl rfl _ _ hb B n1 (bys rem) Hmin.out hs hsz (bys_one _) ?_)
      intro w2 hb2 hg2'
      have hfin := Lib.hid (writeAt_end (by omega) HT.out HW.out HL.out hG hb2 hg2')
      go_wp2
      go_end0
      exact ⟨rfl, hfin.out⟩
    · have hs64 : Sees wr B 1 A1 64 (bys (rem.take 64)) := by
        have h := hs.take hge
        rw [Nat.mul_one] at h
        unfold bys at h ⊢
        rw [List.map_take]; exact h
      have hd64 := hs.drop (k := 64) (cap := c1) hge hc1
      rw [Nat.mul_one] at hd64
      have hcap := hap.cut (k := 64) (c := c1)
      have hw' := HW.out
      rw [whole_step _ _ (by omega)] at hw'
      have hl' := HL.out
      rw [left_step _ (by omega)] at hl'
      have HW' := Lib.hid hw'
      have HL' := Lib.hid hl'
      have hlen : (rem.drop 64).length = n1 - 64 := by rw [List.length_drop]; omega
      have HLEN := Lib.hid hlen
      clear hw' hl' hlen hs
      have k1 : 64 ≤ c1 := by omega
      have k2 : (64 : Int) ≤ c1 := by omega
      have k3 : (64 : Int) ≤ n1 := by omega
      go_wp2
      go_still_tail 5, (by kernel_rfl)
      change wpList _ _ _ _ _ wr.drew
      go_wp2_with fail
      refine (mix_any B A1 c1 (rem.take 64) g _ S _ wr.drew hs64 hBw (by omega) hcm1 hb hk).mono ?_
      rintro e w2 ⟨rfl, hb2, hg2'⟩
      have hg3 : wr.grownBy w2 (some g) := World.grownBy.trans (b := wr.drew) ⟨rfl, rfl, rfl, Nat.le_refl _, fun _ _ _ => rfl⟩ hg2'
      have hd2 := hd64.apart hg3 hBw hcap
      have hk2 := hk.apart hg3 hg2
      have hG2 : w.grownBy w2 (some g) := hG.trans hg3
      clear hg3 hs64 hd64 hb hk hG hg2'
      go_wp2
      go_roundw
      case rel =>
        exact ⟨rem.drop 64, _, _, _, _, tail, rfl, HLEN.out.symm, by omega, by omega, by unfold bys at hd2 ⊢; rw [List.map_drop]; exact hd2, hcap, hb2, HT.out, HW'.out, HL'.out, hG2, hk2⟩
      case measure => simp [lenOf]; omega

set_option maxHeartbeats 3200000 in
set_option maxRecDepth 100000 in
theorem write_some (B g : Nat) (A : Option Addr) (c : Nat) (m b M : List UInt8) (w : World) (hM : M = m ++ b) (hh : HashAt w g m) (hs : Sees w B 1 A b.length (bys b)) (hap : Apart g A b.length) (hB : B ≤ w.heap.size) (hc : b.length ≤ c) (hcm : c ≤ 9223372036854775807) (hm : m.length + b.length ≤ 1152921504606846975) (hk : Consts w) (hg2 : max 2 1 + 1 ≤ g)
    (h0 : 0 < m.length % 64) :
    Calls Tryd.prog 56 #[.pointer (some ⟨g, 0, none⟩), .slice A b.length c] w fun e w' => e = .returned (.tuple #[]) ∧ HashAt w' g M ∧ w.grownBy w' (some g) := by
  obtain ⟨tail, ht, htl, hb⟩ := hh
  have hc72 := (hb.cell 72).trans (hash_len_cell _ tail m.length ht)
  have hf72 := hb.frozen 72
  have hb1 := hb.set_ 72 (.int .u64 ((M.length : Nat) : Int))
  rw [hash_set_len _ tail _ _ ht] at hb1
  have hG1 := grownBy_setCell_ w g 72 (.int .u64 ((M.length : Nat) : Int))
  have hs1 := hs.apart hG1 hB hap
  have hk1 := hk.apart hG1 hg2
  have hlen : (M.length : Int) = (m.length : Int) + b.length := by rw [hM, List.length_append]; push_cast; rfl
  rw [hlen] at hb1 hG1 hs1 hk1
  generalize hw1 : w.setCell ⟨g, 72, none⟩ (.int .u64 ((m.length : Int) + b.length)) = w1 at *
  have Hlen := Lib.hid hlen
  have HM := Lib.hid hM
  have HTL := Lib.hid htl
  have HT := Lib.hid ht
  have Hw1 := Lib.hid hw1
  have hheld : m.length % 64 < 64 := Nat.mod_lt _ (by omega)
  clear hlen hM hs hk hb htl ht hw1
  generalize hH : m.length % 64 = H at *
  have HH := Lib.hid hH
  have hHi : (m.length : Int) % 64 = (H : Int) := by omega
  clear hH
  rcases Nat.lt_or_ge b.length (64 - H) with hlt | hge
  · have hsl := slice_rest g 8 H hheld
    have hmin := Lib.hid (show b.length = Nat.min b.length (64 - H) from (Nat.min_eq_left (by omega)).symm)
    have hfit : 8 + H + b.length ≤ (hashCells (whole init0 m) tail M.length).length := by rw [hash_size _ _ _ HT.out]; omega
    have Hb1 := Lib.hid hb1
    have Hfit := Lib.hid hfit
    clear hb1 hfit
    have hsum : (H : Int) + b.length < 64 := by omega
    go_enter Tryd.func56, Tryd.ntmps56
    go_wp2_with (rw [Hw1.out]; refine wpList_copy_hb rfl (.tmp 28) (.tmp 29) 31 31 rfl 5 Tryd.underlying31 Tryd.sizeByte g (8 + H) (64 - H) (64 - H) A b.length c rfl rfl _ _ Hb1.out B b.length (bys b) hmin.out hs1 Hfit.out (bys_one _) ?_)
    intro w2 hb2 hg2'
    have hfin := Lib.hid (small_end HM.out HH.out hlt HT.out HTL.out hb2)
    have hG2 : w.grownBy w2 (some g) := hG1.trans hg2'
    clear hb2 hg2' hk1 hs1
    go_wp2
    exact bodyPost_ret (results_none rfl _ _ _) rfl ⟨rfl, hfin.out, hG2⟩
  · have hsl := slice_rest g 8 H hheld
    have hmin := Lib.hid (show 64 - H = Nat.min b.length (64 - H) from (Nat.min_eq_right hge).symm)
    have hfit : 8 + H + (64 - H) ≤ (hashCells (whole init0 m) tail M.length).length := by rw [hash_size _ _ _ HT.out]; omega
    have Hb1 := Lib.hid hb1
    have Hfit := Lib.hid hfit
    have hst1 : Sees w1 B 1 A (64 - H) (bys (b.take (64 - H))) := by
      have h := hs1.take hge
      rw [Nat.mul_one] at h
      unfold bys at h ⊢
      rw [List.map_take]; exact h
    clear hb1 hfit
    go_enter Tryd.func56, Tryd.ntmps56
    go_wp2_with (rw [Hw1.out]; refine wpList_copy_hb rfl (.tmp 28) (.tmp 29) 31 31 rfl 5 Tryd.underlying31 Tryd.sizeByte g (8 + H) (64 - H) (64 - H) A b.length c rfl rfl _ _ Hb1.out B (64 - H) (bys (b.take (64 - H))) hmin.out hst1 Hfit.out (bys_one _) ?_)
    intro w2 hb2 hg2'
    have hsplice := hash_splice (whole init0 m) tail (b.take (64 - H)) M.length H HT.out (by rw [List.length_take]; omega)
    rw [hsplice, splice_full hge (by omega) HT.out HTL.out] at hb2
    have hl64 : (left_ m ++ b.take (64 - H)).length = 64 := by rw [List.length_append, left_len, HH.out, List.length_take]; omega
    have hs2 := hs1.apart hg2' (Nat.le_trans hB hG1.size) hap
    have hk2 := hk1.apart hg2' hg2
    have hG2 : w.grownBy w2 (some g) := hG1.trans hg2'
    have hse2 := hash_sees hb2 hl64
    have hfs := full_step HM.out HH.out hge
    have HL64 := Lib.hid hl64
    have HF := Lib.hid hfs
    clear hsplice hl64 hfs hs1 hk1 hG1 hg2' hst1
    generalize left_ m ++ b.take (64 - H) = tl at *
    have hnlt : ¬ (H : Int) + ((64 - H : Nat) : Int) < 64 := by omega
    have hcast : (H : Int) + ((64 - H : Nat) : Int) = 64 := by omega
    go_wp2
    go_still_tail 7, (by kernel_rfl)
    change wpList _ _ _ _ _ w2.drew
    go_wp2_with fail
    refine (mix_any w2.heap.size (some ⟨g, 8, none⟩) 64 tl g _ (whole init0 m) _ w2.drew hse2 (Nat.le_refl _) (Nat.le_refl _) (by omega) hb2 hk2).mono ?_
    rintro e w3 ⟨rfl, hb3, hg3'⟩
    have hg3 : w2.grownBy w3 (some g) := World.grownBy.trans (b := w2.drew) ⟨rfl, rfl, rfl, Nat.le_refl _, fun _ _ _ => rfl⟩ hg3'
    have hs3 := hs2.apart hg3 (Nat.le_trans hB hG2.size) hap
    have hk3 := hk2.apart hg3 hg2
    have hG3 : w.grownBy w3 (some g) := hG2.trans hg3
    have hd3 := hs3.drop (k := 64 - H) (cap := c) hge hc
    rw [Nat.mul_one] at hd3
    have hcap := hap.cut (k := 64 - H) (c := c)
    have hld : (b.drop (64 - H)).length = b.length - (64 - H) := List.length_drop ..
    have hst : WriteAt w g B M (.slice (cutA A (64 - H) c) (b.length - (64 - H)) (c - (64 - H))) w3 :=
      ⟨b.drop (64 - H), _, _, _, compress (whole init0 m) tl, tl, rfl, hld.symm, by omega, by omega, by unfold bys at hd3 ⊢; rw [List.map_drop]; exact hd3, hcap, hb3, HL64.out, HF.out.1, HF.out.2, hG3, hk3⟩
    have Hst := Lib.hid hst
    have hcr := fun W => cut_bytes A b.length c (64 - H) hge W
    have hge2 : ((64 - H : Nat) : Int) ≤ b.length := by omega
    clear hst hld hd3 hcap hs3 hs2 hk3 hk2 hb3 hb2 hg3 hg3' hG3 hG2 hse2 hcast
    go_wp2_with fail
    go_loopw [1] (fun r wr => WriteAt w g B M r wr) (fun r _ => lenOf r)
    case atStart => exact Hst.out
    case round =>
      obtain ⟨rem, A1, n1, c1, S, tail, rfl, hn1, hc1, hcm1, hs, hap, hb, ht, hw, hl, hG, hk⟩ := hrel
      have hn1' : rem.length ≤ n1 := by omega
      have hn1'' : n1 ≤ rem.length := by omega
      have HN := Lib.hid hn1
      have HW := Lib.hid hw
      have HL := Lib.hid hl
      have HT := Lib.hid ht
      have hBw : B ≤ wr.heap.size := Nat.le_trans hB hG.size
      clear hn1 hw hl ht
      rcases Nat.lt_or_ge n1 64 with hlt | hge
      · have hsz : 8 + n1 ≤ (hashCells S tail M.length).length := by rw [hash_size _ _ _ HT.out]; omega
        have Hmin := Lib.hid (show n1 = Nat.min n1 64 from (Nat.min_eq_left (by omega)).symm)
        go_wp2_with (refine wpList_copy_hb rfl (.tmp 60) (.tmp 61) 31 31 rfl 5 Tryd.underlying31 Tryd.sizeByte g 8 64 64 A1 n1 c1 rfl rfl _ _ hb B n1 (bys rem) Hmin.out hs hsz (bys_one _) ?_)
        intro w2 hb2 hg2'
        have hfin := Lib.hid (writeAt_end (by omega) HT.out HW.out HL.out hG hb2 hg2')
        go_wp2
        go_end0
        exact ⟨rfl, hfin.out⟩
      · have hs64 : Sees wr B 1 A1 64 (bys (rem.take 64)) := by
          have h := hs.take hge
          rw [Nat.mul_one] at h
          unfold bys at h ⊢
          rw [List.map_take]; exact h
        have hd64 := hs.drop (k := 64) (cap := c1) hge hc1
        rw [Nat.mul_one] at hd64
        have hcap := hap.cut (k := 64) (c := c1)
        have hw' := HW.out
        rw [whole_step _ _ (by omega)] at hw'
        have hl' := HL.out
        rw [left_step _ (by omega)] at hl'
        have HW' := Lib.hid hw'
        have HL' := Lib.hid hl'
        have hlen : (rem.drop 64).length = n1 - 64 := by rw [List.length_drop]; omega
        have HLEN := Lib.hid hlen
        clear hw' hl' hlen hs
        have k1 : 64 ≤ c1 := by omega
        have k2 : (64 : Int) ≤ c1 := by omega
        have k3 : (64 : Int) ≤ n1 := by omega
        go_wp2
        go_still_tail 5, (by kernel_rfl)
        change wpList _ _ _ _ _ wr.drew
        go_wp2_with fail
        refine (mix_any B A1 c1 (rem.take 64) g _ S _ wr.drew hs64 hBw (by omega) hcm1 hb hk).mono ?_
        rintro e w2 ⟨rfl, hb2, hg2'⟩
        have hg3 : wr.grownBy w2 (some g) := World.grownBy.trans (b := wr.drew) ⟨rfl, rfl, rfl, Nat.le_refl _, fun _ _ _ => rfl⟩ hg2'
        have hd2 := hd64.apart hg3 hBw hcap
        have hk2 := hk.apart hg3 hg2
        have hG2 : w.grownBy w2 (some g) := hG.trans hg3
        clear hg3 hs64 hd64 hb hk hG hg2'
        go_wp2
        go_roundw
        case rel =>
          exact ⟨rem.drop 64, _, _, _, _, tail, rfl, HLEN.out.symm, by omega, by omega, by unfold bys at hd2 ⊢; rw [List.map_drop]; exact hd2, hcap, hb2, HT.out, HW'.out, HL'.out, hG2, hk2⟩
        case measure => simp [lenOf]; omega
end Go.Proofs.YtapbaonlboefeaaDoor
