/-
  For every list of byte strings, place, element and path the law MerkleClash returns true and all arguments read as before: two texts are told only where they are unlike and have one digest by the document's own SHA-256, and what a list proves of itself has none.
  Conditions: the package-level variables that the row lists (SHA-256's two tables) start as the program's text lays them (the card ties them).
-/
import Derived.Test.YtdjbaigfpmibnaaDoorMcH
import Derived.Test.YtdjbaigfpmibnaaDoorMaA
import Derived.Test.YtdjbaigfpmibnaaDoorTie
import Derived.Test.YtdjbaigfpmibnaaDoorCards
import Derived.SevenTiedAt
namespace Go.Proofs.YtdjbaigfpmibnaaDoor
open Go

theorem row_plain (f : FuncId) (fn : Func) (hf : Tryd.pinned.checked.prog.funcNamed "wapentake/wapentakelaw03.MerkleClash" = some f) (hfn : Tryd.pinned.checked.prog.funcs[f]? = some fn) :
    false = Tryd.pinned.checked.prog.looks [] ∧ ∀ (j : Nat) t, fn.params[j]? = some t → Tryd.pinned.checked.prog.wantsStandIn t = false := by
  obtain rfl : f = 6 := Option.some.inj ((show Tryd.prog.funcNamed "wapentake/wapentakelaw03.MerkleClash" = some 6 by kernel_rfl).symm.trans hf) |>.symm
  obtain rfl : fn = Tryd.f6 := (Option.some.inj (Tryd.func6.symm.trans hfn)).symm
  refine ⟨by kernel_rfl, fun j t ht => ?_⟩
  rw [Tryd.params6] at ht
  have hm := Array.mem_of_getElem? ht
  simp only [List.mem_toArray, List.mem_cons, List.not_mem_nil, or_false] at hm
  rcases hm with rfl | rfl | rfl | rfl
  · exact (show Tryd.prog.wantsStandIn 22 = false by kernel_rfl)
  · exact (show Tryd.prog.wantsStandIn 3 = false by kernel_rfl)
  · exact (show Tryd.prog.wantsStandIn 33 = false by kernel_rfl)
  · exact (show Tryd.prog.wantsStandIn 24 = false by kernel_rfl)

theorem merkleClash_card : Rows.MerkleClashCardSaid :=
  Claim7.holds_tied_plain_at .later [] _ _ _ _ (row_said fun W hk => awake_any W hk) (fun _ h => by cases h) (by kernel_rfl) (fun _ h => by cases h) merkleClash_row_tie rfl ⟨rfl, rfl⟩ (by kernel_rfl) rfl row_plain (by kernel_rfl)
end Go.Proofs.YtdjbaigfpmibnaaDoor
