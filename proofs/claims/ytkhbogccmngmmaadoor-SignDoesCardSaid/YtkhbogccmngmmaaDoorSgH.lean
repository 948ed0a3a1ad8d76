/- sign: has, Made, Reused. -/
import Derived.Test.YtkhbogccmngmmaaDoorSgR
import Derived.IntWalk
namespace Go.Proofs.YtkhbogccmngmmaaDoor
open Go.RowKit

section
variable {f : Foot} {nk : Nat} {bud : Int} {L : List Sg} {U : List (Int × Int)} {w : World}
theorem RingW.c0 (h : RingW w f nk bud L U) : w.cell? ⟨f.r, 0, none⟩ = some (.int .i64 bud) := by rw [h.ring.cell]; rfl
theorem RingW.c1 (h : RingW w f nk bud L U) : w.cell? ⟨f.r, 1, none⟩ = some (.slice (some ⟨f.K, 0, none⟩) nk nk) := by rw [h.ring.cell]; rfl
theorem RingW.c2 (h : RingW w f nk bud L U) : w.cell? ⟨f.r, 2, none⟩ = some (.map (some f.T)) := by rw [h.ring.cell]; rfl
theorem RingW.c3 (h : RingW w f nk bud L U) : w.cell? ⟨f.r, 3, none⟩ = some (.map (some f.U)) := by rw [h.ring.cell]; rfl
theorem RingW.tL (h : RingW w f nk bud L U) {k : Nat} (hk : k < nk) : w.cell? ⟨f.K, k * 2, none⟩ = some (.int .i64 (cntL L k : Int)) := by rw [Nat.mul_comm, h.tally.cell, talV_L L U hk]
theorem RingW.tU (h : RingW w f nk bud L U) {k : Nat} (hk : k < nk) : w.cell? ⟨f.K, k * 2 + 1, none⟩ = some (.int .i64 (cntU U k : Int)) := by rw [Nat.mul_comm, h.tally.cell, talV_U L U hk]
end
theorem cnt_le (L : List Sg) (U : List (Int × Int)) (k : Nat) : cntL L k ≤ L.length ∧ cntU U k ≤ U.length := ⟨List.countP_le_length, List.countP_le_length⟩

theorem has_yes {f : Foot} {nk : Nat} {bud : Int} {L : List Sg} {U : List (Int × Int)} (w : World) (h : RingW w f nk bud L U) (k : Nat) (hk : k < nk) :
    Calls Tryd.prog 58 #[.pointer (some ⟨f.r, 0, none⟩), .int .i64 (k : Int)] w fun e w' => e = .returned (.bool true) ∧ w = w' := by
  have h1 := h.c1
  have hk2 : (k : Int) < (nk : Int) := by omega
  clear h hk
  go_enter Tryd.func58, Tryd.ntmps58
  go_wp2
  go_ret
  exact ⟨rfl, rfl⟩
theorem has_no {f : Foot} {nk : Nat} {bud : Int} {L : List Sg} {U : List (Int × Int)} (w : World) (h : RingW w f nk bud L U) (k : Int) (hk : k < 0 ∨ nk ≤ k) :
    Calls Tryd.prog 58 #[.pointer (some ⟨f.r, 0, none⟩), .int .i64 k] w fun e w' => e = .returned (.bool false) ∧ w = w' := by
  have h1 := h.c1
  clear h
  by_cases h0 : k < 0
  · clear hk
    go_enter Tryd.func58, Tryd.ntmps58
    go_wp2
    go_ret
    exact ⟨rfl, rfl⟩
  · have h2 : 0 ≤ k := by omega
    have h3 : decide (k < (nk : Int)) = false := by simp; omega
    clear hk h0
    go_enter Tryd.func58, Tryd.ntmps58
    go_wp2
    go_ret
    exact ⟨rfl, rfl⟩
theorem has_yes_q {f : Foot} {nk : Nat} {bud : Int} {L : List Sg} {U : List (Int × Int)} (w : World) (h : RingW w f nk bud L U) (k : Nat) (hk : k < nk) :
    Calls Tryd.prog 58 #[.pointer (some ⟨f.r, 0, none⟩), .int .i64 (k : Int)] w fun e w' => e = .returned (.bool true) ∧ w' = w :=
  (has_yes w h k hk).mono fun _ _ h => ⟨h.1, h.2.symm⟩
theorem has_no_q {f : Foot} {nk : Nat} {bud : Int} {L : List Sg} {U : List (Int × Int)} (w : World) (h : RingW w f nk bud L U) (k : Int) (hk : k < 0 ∨ nk ≤ k) :
    Calls Tryd.prog 58 #[.pointer (some ⟨f.r, 0, none⟩), .int .i64 k] w fun e w' => e = .returned (.bool false) ∧ w' = w :=
  (has_no w h k hk).mono fun _ _ h => ⟨h.1, h.2.symm⟩
theorem made_yes {f : Foot} {nk : Nat} {bud : Int} {L : List Sg} {U : List (Int × Int)} (w : World) (h : RingW w f nk bud L U) (k : Nat) (hk : k < nk) :
    Calls Tryd.prog 36 #[.pointer (some ⟨f.r, 0, none⟩), .int .i64 (k : Int)] w fun e w' => e = .returned (.int .i64 (cntL L k : Int)) ∧ w = w' := by
  have h1 := h.c1
  have hh := Lib.hid (has_yes w h k hk)
  have ht := h.tL hk
  have hk2 : (k : Int) < (nk : Int) := by omega
  clear h hk
  go_enter Tryd.func36, Tryd.ntmps36
  go_wp2_with fail
  refine hh.out.mono ?_
  rintro e w' ⟨rfl, rfl⟩
  go_wp2
  go_ret
  exact ⟨rfl, rfl⟩
theorem made_no {f : Foot} {nk : Nat} {bud : Int} {L : List Sg} {U : List (Int × Int)} (w : World) (h : RingW w f nk bud L U) (k : Int) (hk : k < 0 ∨ nk ≤ k) :
    Calls Tryd.prog 36 #[.pointer (some ⟨f.r, 0, none⟩), .int .i64 k] w fun e w' => e = .returned (.int .i64 0) ∧ w = w' := by
  have hh := Lib.hid (has_no w h k hk)
  clear h hk
  go_enter Tryd.func36, Tryd.ntmps36
  go_wp2_with fail
  refine hh.out.mono ?_
  rintro e w' ⟨rfl, rfl⟩
  go_wp2
  go_ret
  exact ⟨rfl, rfl⟩
def reuB (L : List Sg) (U : List (Int × Int)) (k : Nat) : Bool := decide (cntU U k < cntL L k)
theorem reused_no {f : Foot} {nk : Nat} {bud : Int} {L : List Sg} {U : List (Int × Int)} (w : World) (h : RingW w f nk bud L U) (k : Int) (hk : k < 0 ∨ nk ≤ k) :
    Calls Tryd.prog 34 #[.pointer (some ⟨f.r, 0, none⟩), .int .i64 k] w fun e w' => e = .returned (.bool false) ∧ ∃ n, w' = w.drewN n := by
  have hh := Lib.hid fun n => (has_no_q (w.drewN n) (h.drewN n) k hk)
  clear h hk
  go_enter Tryd.func34, Tryd.ntmps34
  go_wp2_with fail
  go_quiet ((go_at_call 58; exact Calls.quiet_of_same (hh.out _)))
  go_wp2
  go_ret
  exact ⟨rfl, _, rfl⟩
theorem reused_yes {f : Foot} {nk : Nat} {bud : Int} {L : List Sg} {U : List (Int × Int)} (w : World) (h : RingW w f nk bud L U) (k : Nat) (hk : k < nk) :
    Calls Tryd.prog 34 #[.pointer (some ⟨f.r, 0, none⟩), .int .i64 (k : Int)] w fun e w' => e = .returned (.bool (reuB L U k)) ∧ ∃ n, w' = w.drewN n := by
  have hh := Lib.hid fun n => (has_yes_q (w.drewN n) (h.drewN n) k hk)
  have h1 := h.c1
  have hl := h.tL hk
  have hu := h.tU hk
  have hk2 : (k : Int) < (nk : Int) := by omega
  have hb : decide (((cntU U k : Nat) : Int) < ((cntL L k : Nat) : Int)) = reuB L U k := by unfold reuB; simp
  have hb2 : decide (cntU U k < cntL L k) = reuB L U k := rfl
  clear h hk
  go_enter Tryd.func34, Tryd.ntmps34
  go_wp2_with fail
  go_quiet ((go_at_call 58; exact Calls.quiet_of_same (hh.out _)))
  go_wp2
  go_ret
  exact ⟨rfl, _, rfl⟩
end Go.Proofs.YtkhbogccmngmmaaDoor
