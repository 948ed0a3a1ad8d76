/- merkle.climb. -/
import Derived.Test.YthmkdlnocdbhjaaDoorMkX
import Derived.Deep.Cut
import Derived.Deep.CutRange
import Derived.Deep.DeepCutAuto
import Derived.Deep.LoopGhost
namespace Go.Proofs.YthmkdlnocdbhjaaDoor
open Go.RowKit

theorem climb_no (n i : Int) (A : Option Addr) (m c : Nat) (B : Option Addr) (k d : Nat) (hi : i < 0 ∨ n ≤ i) (w : World) :
    Calls Tryd.prog 49 #[.int .i64 n, .int .i64 i, .slice A m c, .slice B k d] w fun e w' => e = .returned (.tuple #[.slice none 0 0, .bool false]) ∧ w' = w := by
  rcases Int.lt_or_le i 0 with h | h
  · go_enter Tryd.func49, Tryd.ntmps49
    go_wp2
    go_ret2
    exact ⟨rfl, rfl⟩
  · have h2 : n ≤ i := by omega
    clear hi
    go_enter Tryd.func49, Tryd.ntmps49
    go_wp2
    go_ret2
    exact ⟨rfl, rfl⟩
/-- A path of another length. -/
theorem climb_len (n i : Nat) (hi : i < n) (hn : n < 9223372036854775808) (A : Option Addr) (m c : Nat) (B : Option Addr) (k d : Nat) (hk : k ≠ (sibs 0 n i).length) (w : World) :
    Calls Tryd.prog 49 #[.int .i64 (n : Int), .int .i64 (i : Int), .slice A m c, .slice B k d] w fun e w' => e = .returned (.tuple #[.slice none 0 0, .bool false]) ∧ Below w.heap.size w w' := by
  have hsb := Lib.hid (siblings_any n i hi hn w)
  have hfew := sibs_few i 63 0 n (by omega) (by omega)
  generalize sibs 0 n i = S at *
  have b1 : 0 ≤ (i : Int) := by omega
  have b2 : (i : Int) < n := by omega
  have hne : ((S.length : Int) != (k : Int)) = true := by simp; omega
  have hne2 : ((S.length : Int) == (k : Int)) = false := by simp; omega
  clear hk hi
  go_enter Tryd.func49, Tryd.ntmps49
  go_wp2_with fail
  refine hsb.out.mono ?_
  rintro e w1 ⟨v1, rfl, ho1, hB1⟩
  obtain ⟨A1, c1, rfl, -⟩ := own_slice ho1
  clear ho1 hsb
  go_wp2
  go_ret2
  exact ⟨rfl, hB1⟩
end Go.Proofs.YthmkdlnocdbhjaaDoor
