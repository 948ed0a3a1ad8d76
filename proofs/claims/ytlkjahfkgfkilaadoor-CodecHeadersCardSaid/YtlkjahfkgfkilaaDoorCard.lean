/-
  For every two headers the law CodecHeaders returns true and both headers read as before: the program's bytes of a header are the document's, it is read back as it was, and unlike headers have unlike bytes.
  Conditions: the package-level variables that the row lists start as the program's text lays them (the card ties them).
-/
import Derived.Test.YtlkjahfkgfkilaaDoorHold
import Derived.Test.YtlkjahfkgfkilaaDoorTie
import Derived.Test.YtlkjahfkgfkilaaDoorCards
import Derived.SevenTiedAt
namespace Go.Proofs.YtlkjahfkgfkilaaDoor
open Go

theorem codecHeaders_card : Rows.CodecHeadersCardSaid :=
  Claim7.holds_tied_plain_at .later [] [.data, .data, .data, .handle, .sentinel, .sentinel, .sentinel, .sentinel, .sentinel, .sentinel] true (true, "b1cd8c1dfcd05c7d934ee67036a7b7837be85848c604aa8b145b6fc27f9a82cd") true
    holds (fun _ h => by cases h) (by kernel_rfl) (fun _ h => by cases h) codecHeaders_row_tie rfl ⟨rfl, rfl⟩ (by kernel_rfl) rfl
    (fun f fn hf hfn => by
      obtain rfl : f = 3 := Option.some.inj ((show Tryd.prog.funcNamed "wapentake/wapentakelaw02.CodecHeaders" = some 3 by kernel_rfl).symm.trans hf) |>.symm
      obtain rfl : fn = Tryd.f3 := (Option.some.inj (Tryd.func3.symm.trans hfn)).symm
      exact ⟨by kernel_rfl, fun j t ht => by
        rw [Tryd.params3] at ht
        have hm : t ∈ [25, 25] := by simpa using Array.mem_of_getElem? ht
        have hall : ([25, 25].all fun u => !Tryd.prog.wantsStandIn u) = true := by kernel_rfl
        exact (show Tryd.prog.wantsStandIn t = false by simpa using List.all_eq_true.1 hall t hm)⟩)
    (by kernel_rfl)
end Go.Proofs.YtlkjahfkgfkilaaDoor
