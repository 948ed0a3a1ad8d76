/- Signers: (*sign.Ring).Signer, (*sign.Signer).Next. -/
import Derived.Test.YtkhbogccmngmmaaDoorSgS
namespace Go.Proofs.YtkhbogccmngmmaaDoor
open Go.RowKit

/-- A signer in block g. -/
def SigW (w : World) (g : Nat) (f : Foot) (k : Nat) (n : Int) : Prop := HB w g 131 [.pointer (some ⟨f.r, 0, none⟩), .int .i64 (k : Int), .int .i64 n]
theorem next_any (w : World) (g : Nat) (f : Foot) (k : Nat) (n : Int) (h : SigW w g f k n) :
    Calls Tryd.prog 33 #[.pointer (some ⟨g, 0, none⟩)] w fun e w' => e = .returned (.int .i64 n) ∧ w = w' := by
  have h2 : w.cell? ⟨g, 2, none⟩ = some (.int .i64 n) := by rw [h.cell]; rfl
  clear h
  go_enter Tryd.func33, Tryd.ntmps33
  go_wp2
  go_ret
  exact ⟨rfl, rfl⟩
def NewS (w : World) (f : Foot) (k : Nat) (n : Int) (e : Ending) (w' : World) : Prop :=
  ∃ g, e = .returned (.pointer (some ⟨g, 0, none⟩)) ∧ SigW w' g f k n ∧ Below w.heap.size w w' ∧ w.heap.size ≤ g
theorem signer_no {f : Foot} {nk : Nat} {bud : Int} {L : List Sg} {U : List (Int × Int)} (w : World) (h : RingW w f nk bud L U) (k : Int) (hk : k < 0 ∨ nk ≤ k) (n : Int) :
    Calls Tryd.prog 31 #[.pointer (some ⟨f.r, 0, none⟩), .int .i64 k, .int .i64 n] w fun e w' => e = .returned (.pointer none) ∧ w = w' := by
  have hh := Lib.hid (has_no w h k hk)
  clear h hk
  go_enter Tryd.func31, Tryd.ntmps31
  go_wp2_with fail
  refine hh.out.mono ?_
  rintro e w' ⟨rfl, rfl⟩
  go_wp2
  go_ret
  exact ⟨rfl, rfl⟩
theorem signer_ok {f : Foot} {nk : Nat} {bud : Int} {L : List Sg} {U : List (Int × Int)} (w : World) (h : RingW w f nk bud L U) (k : Nat) (hk : k < nk) (n : Int) :
    Calls Tryd.prog 31 #[.pointer (some ⟨f.r, 0, none⟩), .int .i64 (k : Int), .int .i64 n] w (NewS w f k (max n 0)) := by
  have hh := Lib.hid (has_yes w h k hk)
  clear h hk
  go_enter Tryd.func31, Tryd.ntmps31
  go_wp2_with fail
  refine hh.out.mono ?_
  rintro e w' ⟨rfl, rfl⟩
  go_wp2
  all_goals
    go_ret
    refine ⟨w.heap.size, rfl, ?_, below_alloc1 w _, Nat.le_refl _⟩
    first
      | (rw [Int.max_eq_right (by omega)]; exact HB.new w _ [.pointer (some ⟨f.r, 0, none⟩), .int .i64 (k : Int), .int .i64 0])
      | (rw [Int.max_eq_left (by omega)]; exact HB.new w _ [.pointer (some ⟨f.r, 0, none⟩), .int .i64 (k : Int), .int .i64 n])
end Go.Proofs.YtkhbogccmngmmaaDoor
