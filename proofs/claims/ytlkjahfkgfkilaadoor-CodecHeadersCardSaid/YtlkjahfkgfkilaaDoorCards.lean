/-
  DERIVED. GIVEN WITH THE SEED: THE CARDS: each row of YtlkjahfkgfkilaaDoorRows.lean that lists a variable, with what it lists TIED to the program's text (the seventh form; the later family's looks); each row that meets fmt, with fmt's text TOLD by the authors' own Lean function (tested against real Go, not proved from fmt's source: count such statements apart). THE CARD IS WHAT COUNTS. Prove the row's statement (the work); the ties are given (YtlkjahfkgfkilaaDoorTie.lean); close each card by the builder's one call (the guide's Derived/Test/ToyasCard.lean, 'card_holds'). Laid BY PROGRAM, IN A SANDBOX (cutbox-door.mjs). By AI agents, Wed Nov 11 2026. No macro, syntax, notation, axiom, sorry.
-/
import Derived.Test.YtlkjahfkgfkilaaDoorRows
import GoSem.ClaimSeven
namespace Go.Proofs.YtlkjahfkgfkilaaDoor
namespace Rows

/-- THE TIED CARD OF 'wapentakelaw02.CodecHeaders'. -/
def codecHeadersCard : Claim7 := { stood := { row := codecHeadersRow, standIns := [], harness := (true, "b1cd8c1dfcd05c7d934ee67036a7b7837be85848c604aa8b145b6fc27f9a82cd"), looks := true }, kinds := [], alts := [], laidByText := true, laidKinds := [.data, .data, .data, .handle, .sentinel, .sentinel, .sentinel, .sentinel, .sentinel, .sentinel], laidTests := true, laidLooks := .later }
def CodecHeadersCardSaid : Prop := Claim7.holds Tryd.pinned (.plain (OpenSpec.ofChange codecHeadersSpec)) codecHeadersCard

/-- THE SECOND FORM's CARD OF 'wapentakelaw02.CodecHeaders'. -/
def codecHeadersUptoCard : Claim7 := { stood := { row := codecHeadersUptoRow, standIns := [], harness := (true, "b1cd8c1dfcd05c7d934ee67036a7b7837be85848c604aa8b145b6fc27f9a82cd"), looks := true }, kinds := [], alts := [], laidByText := true, laidKinds := [.data, .data, .data, .handle, .sentinel, .sentinel, .sentinel, .sentinel, .sentinel, .sentinel], laidTests := true, laidLooks := .later }
def CodecHeadersUptoCardSaid : Prop := Claim7.holds Tryd.pinned (.plain (OpenSpec.upto codecHeadersSpec)) codecHeadersUptoCard
end Rows
end Go.Proofs.YtlkjahfkgfkilaaDoor
