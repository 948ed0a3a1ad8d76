/-
  For every list of entries and every key the law TrieComplete returns true and all arguments read as before: where the document's own May accepts the entries, Verify answers, of Prove's proof against Root's digest, what the document's own Get finds.
  Conditions: what the law reads is of bulk at most 1048576 (the row's own bound); the package-level variables that the row lists (SHA-256's two tables) start as the program's text lays them (the card ties them).
-/
import Derived.Test.YtapbaonlboefeaaDoorTcH
import Derived.Test.YtapbaonlboefeaaDoorTsP
import Derived.Test.YtapbaonlboefeaaDoorTie
import Derived.Test.YtapbaonlboefeaaDoorCards
import Derived.SevenTiedAt
namespace Go.Proofs.YtapbaonlboefeaaDoor
open Go

theorem row_plain (f : FuncId) (fn : Func) (hf : Tryd.pinned.checked.prog.funcNamed "wapentake/wapentakelaw04.TrieComplete" = some f) (hfn : Tryd.pinned.checked.prog.funcs[f]? = some fn) :
    false = Tryd.pinned.checked.prog.looks [] ∧ ∀ (j : Nat) t, fn.params[j]? = some t → Tryd.pinned.checked.prog.wantsStandIn t = false := by
  obtain rfl : f = 5 := Option.some.inj ((show Tryd.prog.funcNamed "wapentake/wapentakelaw04.TrieComplete" = some 5 by kernel_rfl).symm.trans hf) |>.symm
  obtain rfl : fn = Tryd.f5 := (Option.some.inj (Tryd.func5.symm.trans hfn)).symm
  refine ⟨by kernel_rfl, fun j t ht => ?_⟩
  rw [Tryd.params5] at ht
  have hm := Array.mem_of_getElem? ht
  simp only [List.mem_toArray, List.mem_cons, List.not_mem_nil, or_false] at hm
  rcases hm with rfl | rfl
  · exact (show Tryd.prog.wantsStandIn 22 = false by kernel_rfl)
  · exact (show Tryd.prog.wantsStandIn 24 = false by kernel_rfl)

theorem trieCompleteUpto_card : Rows.TrieCompleteUptoCardSaid :=
  Claim7.holds_tied_plain_at .later [] _ _ _ _ (row_said fun W hk => awake_any W hk) (fun _ h => by cases h) (by kernel_rfl) (fun _ h => by cases h) trieCompleteUpto_row_tie rfl ⟨rfl, rfl⟩ (by kernel_rfl) rfl row_plain (by kernel_rfl)
end Go.Proofs.YtapbaonlboefeaaDoor
