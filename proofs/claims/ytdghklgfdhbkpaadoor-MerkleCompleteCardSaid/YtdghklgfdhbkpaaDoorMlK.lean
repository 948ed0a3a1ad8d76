/-
  For every list of byte strings the law MerkleComplete returns true and the list reads as before: what the program proves of any element (up to the two hundredth) it takes as an element of that list's root, with no premise on digests.
  Conditions: the package-level variables that the row lists (SHA-256's two tables) start as the program's text lays them (the card ties them).
-/
import Derived.Test.YtdghklgfdhbkpaaDoorMlH
import Derived.Test.YtdghklgfdhbkpaaDoorMaA
import Derived.Test.YtdghklgfdhbkpaaDoorTie
import Derived.Test.YtdghklgfdhbkpaaDoorCards
import Derived.SevenTiedAt
namespace Go.Proofs.YtdghklgfdhbkpaaDoor
open Go

theorem complete_plain (f : FuncId) (fn : Func) (hf : Tryd.pinned.checked.prog.funcNamed "wapentake/wapentakelaw03.MerkleComplete" = some f) (hfn : Tryd.pinned.checked.prog.funcs[f]? = some fn) :
    false = Tryd.pinned.checked.prog.looks [] ∧ ∀ (j : Nat) t, fn.params[j]? = some t → Tryd.pinned.checked.prog.wantsStandIn t = false := by
  obtain rfl : f = 5 := Option.some.inj ((show Tryd.prog.funcNamed "wapentake/wapentakelaw03.MerkleComplete" = some 5 by kernel_rfl).symm.trans hf) |>.symm
  obtain rfl : fn = Tryd.f5 := (Option.some.inj (Tryd.func5.symm.trans hfn)).symm
  refine ⟨by kernel_rfl, fun j t ht => ?_⟩
  rw [Tryd.params5] at ht
  obtain rfl : t = 22 := by simpa using Array.mem_of_getElem? ht
  exact (show Tryd.prog.wantsStandIn 22 = false by kernel_rfl)

theorem merkleComplete_card : Rows.MerkleCompleteCardSaid :=
  Claim7.holds_tied_plain_at .later [] _ _ _ _ (complete_said fun W hk => awake_any W hk) (fun _ h => by cases h) (by kernel_rfl) (fun _ h => by cases h) merkleComplete_row_tie rfl ⟨rfl, rfl⟩ (by kernel_rfl) rfl complete_plain (by kernel_rfl)
end Go.Proofs.YtdghklgfdhbkpaaDoor
