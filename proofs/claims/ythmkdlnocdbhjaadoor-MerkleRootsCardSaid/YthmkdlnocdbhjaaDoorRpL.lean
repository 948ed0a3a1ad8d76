/- wapentakelaw03.MerkleRoots: the law returns true. -/
import Derived.Test.YthmkdlnocdbhjaaDoorRpB
namespace Go.Proofs.YthmkdlnocdbhjaaDoor
open Go.RowKit

set_option maxRecDepth 20000 in
set_option maxHeartbeats 3200000 in
theorem roots_no (haw : ∀ W : World, Consts W → Calls Tryd.prog 11 #[] W fun e w' => e = .returned (.bool true) ∧ Below W.heap.size W w') (w : World) (B : Nat) (A : Option Addr) (c : Nat) (vs : List Value) (ls : List (List UInt8)) (hl : LsW w B A c vs ls) (i : Int) (hi : i < 0 ∨ (ls.length : Int) ≤ i) :
    Calls Tryd.prog 3 #[.slice A ls.length c, .int .i64 i] w (BindR w) := by
  have hAW := Lib.hid (haw w hl.consts)
  have HT := Lib.hid hl
  have HN := Lib.hid (fun W : World => prove_no A ls.length c i hi W)
  have hq : ∀ W : World, (binOp .neq 28 (.agg (bys (rootF ls)).toArray) (.agg (bys (rootF ls)).toArray)).run Tryd.prog W = .ok (.bool false) W := fun W => by
    have h := neq_dg W (rootF ls) (rootF ls) (shaF_len _) (shaF_len _)
    simpa using h
  have HQ := Lib.hid hq
  have hin : (0 ≤ i && decide (i < (ls.length : Int))) = false := by
    simp only [Bool.and_eq_false_iff, decide_eq_false_iff_not]; omega
  clear haw hl hq
  rcases (show decide (0 ≤ i) = false ∨ decide (0 ≤ i) = true ∧ decide (i < (ls.length : Int)) = false by simp only [decide_eq_false_iff_not, decide_eq_true_eq]; omega) with h0 | ⟨h0, h1⟩
  all_goals
    have h0' := h0
    simp only [decide_eq_false_iff_not, decide_eq_true_eq] at h0'
    try (have h1' := h1; simp only [decide_eq_false_iff_not] at h1')
    clear hi hin
    go_enter Tryd.func3, Tryd.ntmps3
    go_wp2_with fail
    refine hAW.out.mono ?_
    rintro en w1 ⟨rfl, hB1⟩
    have HT1 := Lib.hid (HT.out.below hB1)
    have HB1 := Lib.hid hB1
    clear hB1 hAW
    go_wp2_with fail
    refine (HN.out _).mono ?_
    rintro en w2 ⟨rfl, rfl⟩
    have HR1 := Lib.hid (root_call HT1.out)
    have HR2 := Lib.hid (fun (W : World) (h : LsW W B A c vs ls) => rrt_any B A c vs ls W h)
    have hq := HQ.out
    generalize rootF ls = rl at *
    go_wp2_with fail
    refine HR1.out.mono ?_
    rintro en w3 ⟨rfl, hB3⟩
    have HT3 := Lib.hid (HT1.out.below hB3)
    have HB3 := Lib.hid (HB1.out.trans (hB3.mono HB1.out.size))
    clear hB3 HR1
    go_wp2_with fail
    refine (HR2.out _ HT3.out).mono ?_
    rintro en w4 ⟨rfl, hB4⟩
    have hfin := HB3.out.trans (hB4.mono HB3.out.size)
    clear hB4 HR2
    go_wp2
    go_ret
    exact ⟨rfl, hfin⟩

set_option maxRecDepth 20000 in
set_option maxHeartbeats 3200000 in
theorem roots_yes (haw : ∀ W : World, Consts W → Calls Tryd.prog 11 #[] W fun e w' => e = .returned (.bool true) ∧ Below W.heap.size W w') (w : World) (B : Nat) (A : Option Addr) (c : Nat) (vs : List Value) (ls : List (List UInt8)) (hl : LsW w B A c vs ls) (i : Nat) (hi : i < ls.length) :
    Calls Tryd.prog 3 #[.slice A ls.length c, .int .i64 (i : Int)] w (BindR w) := by
  have hcap := hl.cap
  have hfew := sibs_few i 63 0 ls.length (by omega) (by omega)
  have hpl := pathF_len ls i
  have hAW := Lib.hid (haw w hl.consts)
  have HT := Lib.hid hl
  have HPV := Lib.hid (fun (W : World) (h : LsW W B A c vs ls) => prove_yes i B A c vs ls W h hi)
  have HRP := Lib.hid (fun (W : World) (h : LsW W B A c vs ls) => rprove_any ls.length B A c vs ls W i rfl h hi)
  have HR1 := Lib.hid (fun (W : World) (h : LsW W B A c vs ls) => root_call h)
  have HR2 := Lib.hid (fun (W : World) (h : LsW W B A c vs ls) => rrt_any B A c vs ls W h)
  have hq : ∀ W : World, (binOp .neq 28 (.agg (bys (rootF ls)).toArray) (.agg (bys (rootF ls)).toArray)).run Tryd.prog W = .ok (.bool false) W := fun W => by
    have h := neq_dg W (rootF ls) (rootF ls) (shaF_len _) (shaF_len _)
    simpa using h
  have HL := Lib.hid (pathF_32 ls i)
  have hp63 : (pathF ls i).length ≤ 63 := by omega
  clear haw hl hfew hpl
  generalize rootF ls = rl at *
  generalize pathF ls i = ps at *
  have i1 : (0 : Int) ≤ (i : Int) := by omega
  have i2 : (i : Int) < (ls.length : Int) := by omega
  go_enter Tryd.func3, Tryd.ntmps3
  go_wp2_with fail
  refine hAW.out.mono ?_
  rintro en w1 ⟨rfl, hB1⟩
  have HT1 := Lib.hid (HT.out.below hB1)
  have HB1 := Lib.hid hB1
  clear hB1 hAW
  go_wp2_with fail
  refine (HPV.out _ HT1.out).mono ?_
  rintro en w2 ⟨v2, rfl, ho2, hB2⟩
  obtain ⟨A2, c2, rfl, hc2, hcm2, -, -⟩ := own_slice ho2
  have HP2 := Lib.hid (path_own ho2 HL.out (by omega))
  have HT2 := Lib.hid (HT1.out.below hB2)
  have HB2 := Lib.hid (HB1.out.trans (hB2.mono HB1.out.size))
  clear ho2 hB2 HPV
  go_wp2_with fail
  refine (HR1.out _ HT2.out).mono ?_
  rintro en w3 ⟨rfl, hB3⟩
  have HP3 := Lib.hid (HP2.out.below hB3)
  have HT3 := Lib.hid (HT2.out.below hB3)
  have HB3 := Lib.hid (HB2.out.trans (hB3.mono HB2.out.size))
  clear hB3 HR1
  go_wp2_with fail
  refine (HR2.out _ HT3.out).mono ?_
  rintro en w4 ⟨rfl, hB4⟩
  have HP4 := Lib.hid (HP3.out.below hB4)
  have HT4 := Lib.hid (HT3.out.below hB4)
  have HB4 := Lib.hid (HB3.out.trans (hB4.mono HB3.out.size))
  clear hB4 HR2
  go_wp2_with fail
  refine (HRP.out _ HT4.out).mono ?_
  rintro en w5 ⟨v5, rfl, ho5, hB5⟩
  obtain ⟨A5, c5, rfl, hc5, hcm5, -, -⟩ := own_slice ho5
  have HP5 := Lib.hid (path_own ho5 HL.out (by omega))
  have HQ5 := Lib.hid (HP4.out.below hB5)
  have HB5 := Lib.hid (HB4.out.trans (hB5.mono HB4.out.size))
  clear ho5 hB5 HRP
  go_wp2_with fail
  refine (same_any _ A2 c2 _ A5 c5 ps w5 HQ5.out HP5.out).mono ?_
  rintro en w6 ⟨rfl, hB6⟩
  have hfin := HB5.out.trans (hB6.mono HB5.out.size)
  go_wp2
  go_ret
  exact ⟨rfl, hfin⟩

/-- MerkleRoots: any list and place. -/
theorem roots_law (haw : ∀ W : World, Consts W → Calls Tryd.prog 11 #[] W fun e w' => e = .returned (.bool true) ∧ Below W.heap.size W w') (w : World) (B : Nat) (A : Option Addr) (c : Nat) (vs : List Value) (ls : List (List UInt8)) (hl : LsW w B A c vs ls) (i : Int) :
    Calls Tryd.prog 3 #[.slice A ls.length c, .int .i64 i] w (BindR w) := by
  by_cases hi : i < 0 ∨ (ls.length : Int) ≤ i
  · exact roots_no haw w B A c vs ls hl i hi
  · obtain ⟨k, rfl⟩ := Int.eq_ofNat_of_zero_le (show 0 ≤ i by omega)
    exact roots_yes haw w B A c vs ls hl k (by omega)
end Go.Proofs.YthmkdlnocdbhjaaDoor
