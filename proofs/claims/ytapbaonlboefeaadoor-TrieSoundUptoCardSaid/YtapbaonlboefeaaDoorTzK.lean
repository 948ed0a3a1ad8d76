/-
  For every list of entries that May accepts, every key and every proof the law TrieSound returns true and all arguments read as before: what Verify takes against Root's digest is what the document's own Get finds, or Clash tells two unlike texts of one digest (by the document's own SHA-256).
  Conditions: what the law reads is of bulk at most 1048576 (the row's own bound); the package-level variables that the row lists (SHA-256's two tables) start as the program's text lays them (the card ties them).
-/
import Derived.Test.YtapbaonlboefeaaDoorTzH
import Derived.Test.YtapbaonlboefeaaDoorTsP
import Derived.Test.YtapbaonlboefeaaDoorTie
import Derived.Test.YtapbaonlboefeaaDoorCards
import Derived.SevenTiedAt
namespace Go.Proofs.YtapbaonlboefeaaDoor
open Go

theorem row_plain (f : FuncId) (fn : Func) (hf : Tryd.pinned.checked.prog.funcNamed "wapentake/wapentakelaw04.TrieSound" = some f) (hfn : Tryd.pinned.checked.prog.funcs[f]? = some fn) :
    false = Tryd.pinned.checked.prog.looks [] ∧ ∀ (j : Nat) t, fn.params[j]? = some t → Tryd.pinned.checked.prog.wantsStandIn t = false := by
  obtain rfl : f = 6 := Option.some.inj ((show Tryd.prog.funcNamed "wapentake/wapentakelaw04.TrieSound" = some 6 by kernel_rfl).symm.trans hf) |>.symm
  obtain rfl : fn = Tryd.f6 := (Option.some.inj (Tryd.func6.symm.trans hfn)).symm
  refine ⟨by kernel_rfl, fun j t ht => ?_⟩
  rw [Tryd.params6] at ht
  have hm := Array.mem_of_getElem? ht
  simp only [List.mem_toArray, List.mem_cons, List.not_mem_nil, or_false] at hm
  rcases hm with rfl | rfl | rfl
  · exact (show Tryd.prog.wantsStandIn 22 = false by kernel_rfl)
  · exact (show Tryd.prog.wantsStandIn 24 = false by kernel_rfl)
  · exact (show Tryd.prog.wantsStandIn 31 = false by kernel_rfl)

theorem trieSoundUpto_card : Rows.TrieSoundUptoCardSaid :=
  Claim7.holds_tied_plain_at .later [] _ _ _ _ (row_said fun W hk => awake_any W hk) (fun _ h => by cases h) (by kernel_rfl) (fun _ h => by cases h) trieSoundUpto_row_tie rfl ⟨rfl, rfl⟩ (by kernel_rfl) rfl row_plain (by kernel_rfl)
end Go.Proofs.YtapbaonlboefeaaDoor
