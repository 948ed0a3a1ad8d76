/-
  For every root, number, place, element and path the law MerkleVerifies returns true and all arguments read as before: what the program takes is just what the document's own Verify takes.
  Conditions: the package-level variables that the row lists (SHA-256's two tables) start as the program's text lays them (the card ties them).
-/
import Derived.Test.YtdjbaigfpmibnaaDoorRvH
import Derived.Test.YtdjbaigfpmibnaaDoorMaA
import Derived.Test.YtdjbaigfpmibnaaDoorTie
import Derived.Test.YtdjbaigfpmibnaaDoorCards
import Derived.SevenTiedAt
namespace Go.Proofs.YtdjbaigfpmibnaaDoor
open Go

theorem row_plain (f : FuncId) (fn : Func) (hf : Tryd.pinned.checked.prog.funcNamed "wapentake/wapentakelaw03.MerkleVerifies" = some f) (hfn : Tryd.pinned.checked.prog.funcs[f]? = some fn) :
    false = Tryd.pinned.checked.prog.looks [] ∧ ∀ (j : Nat) t, fn.params[j]? = some t → Tryd.pinned.checked.prog.wantsStandIn t = false := by
  obtain rfl : f = 4 := Option.some.inj ((show Tryd.prog.funcNamed "wapentake/wapentakelaw03.MerkleVerifies" = some 4 by kernel_rfl).symm.trans hf) |>.symm
  obtain rfl : fn = Tryd.f4 := (Option.some.inj (Tryd.func4.symm.trans hfn)).symm
  refine ⟨by kernel_rfl, fun j t ht => ?_⟩
  rw [Tryd.params4] at ht
  have hm := Array.mem_of_getElem? ht
  simp only [List.mem_toArray, List.mem_cons, List.not_mem_nil, or_false] at hm
  rcases hm with rfl | rfl | rfl | rfl | rfl
  · exact (show Tryd.prog.wantsStandIn 28 = false by kernel_rfl)
  · exact (show Tryd.prog.wantsStandIn 3 = false by kernel_rfl)
  · exact (show Tryd.prog.wantsStandIn 3 = false by kernel_rfl)
  · exact (show Tryd.prog.wantsStandIn 33 = false by kernel_rfl)
  · exact (show Tryd.prog.wantsStandIn 24 = false by kernel_rfl)

theorem merkleVerifies_card : Rows.MerkleVerifiesCardSaid :=
  Claim7.holds_tied_plain_at .later [] _ _ _ _ (row_said fun W hk => awake_any W hk) (fun _ h => by cases h) (by kernel_rfl) (fun _ h => by cases h) merkleVerifies_row_tie rfl ⟨rfl, rfl⟩ (by kernel_rfl) rfl row_plain (by kernel_rfl)
end Go.Proofs.YtdjbaigfpmibnaaDoor
