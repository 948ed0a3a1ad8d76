/-
  DERIVED. GIVEN WITH THE SEED: THE CARDS: each row of YthmkdlnocdbhjaaDoorRows.lean that lists a variable, with what it lists TIED to the program's text (the seventh form; the later family's looks); each row that meets fmt, with fmt's text TOLD by the authors' own Lean function (tested against real Go, not proved from fmt's source: count such statements apart). THE CARD IS WHAT COUNTS. Prove the row's statement (the work); the ties are given (YthmkdlnocdbhjaaDoorTie.lean); close each card by the builder's one call (the guide's Derived/Test/ToyasCard.lean, 'card_holds'). Laid BY PROGRAM, IN A SANDBOX (cutbox-door.mjs). By AI agents, Wed Nov 11 2026. No macro, syntax, notation, axiom, sorry.
-/
import Derived.Test.YthmkdlnocdbhjaaDoorRows
import GoSem.ClaimSeven
namespace Go.Proofs.YthmkdlnocdbhjaaDoor
namespace Rows

/-- THE TIED CARD OF 'wapentakelaw03.MerkleRoots'. -/
def merkleRootsCard : Claim7 := { stood := { row := merkleRootsRow, standIns := [], harness := (true, "0d6056b06dbf311604ae75bee02f73002a96bdeb434e6440c94c31aedbb10449"), looks := false }, kinds := [], alts := [], laidByText := true, laidKinds := [.data, .data], laidTests := true, laidLooks := .later }
def MerkleRootsCardSaid : Prop := Claim7.holds Tryd.pinned (.plain (OpenSpec.ofChange merkleRootsSpec)) merkleRootsCard

/-- THE TIED CARD OF 'wapentakelaw03.MerkleBinds'. -/
def merkleBindsCard : Claim7 := { stood := { row := merkleBindsRow, standIns := [], harness := (true, "0d6056b06dbf311604ae75bee02f73002a96bdeb434e6440c94c31aedbb10449"), looks := false }, kinds := [], alts := [], laidByText := true, laidKinds := [.data, .data], laidTests := true, laidLooks := .later }
def MerkleBindsCardSaid : Prop := Claim7.holds Tryd.pinned (.plain (OpenSpec.ofChange merkleBindsSpec)) merkleBindsCard

/-- THE TIED CARD OF 'wapentakelaw05.SignDoes'. -/
def signDoesCard : Claim7 := { stood := { row := signDoesRow, standIns := [], harness := (true, "0d6056b06dbf311604ae75bee02f73002a96bdeb434e6440c94c31aedbb10449"), looks := false }, kinds := [], alts := [], laidByText := true, laidKinds := [.data, .data], laidTests := true, laidLooks := .later }
def SignDoesCardSaid : Prop := Claim7.holds Tryd.pinned (.plain (OpenSpec.ofChange signDoesSpec)) signDoesCard

/-- THE TIED CARD OF 'wapentakelaw05.SignRight'. -/
def signRightCard : Claim7 := { stood := { row := signRightRow, standIns := [], harness := (true, "0d6056b06dbf311604ae75bee02f73002a96bdeb434e6440c94c31aedbb10449"), looks := false }, kinds := [], alts := [], laidByText := true, laidKinds := [.data, .data], laidTests := true, laidLooks := .later }
def SignRightCardSaid : Prop := Claim7.holds Tryd.pinned (.plain (OpenSpec.ofChange signRightSpec)) signRightCard

/-- THE TIED CARD OF 'wapentakelaw05.SignOnce'. -/
def signOnceCard : Claim7 := { stood := { row := signOnceRow, standIns := [], harness := (true, "0d6056b06dbf311604ae75bee02f73002a96bdeb434e6440c94c31aedbb10449"), looks := false }, kinds := [], alts := [], laidByText := true, laidKinds := [.data, .data], laidTests := true, laidLooks := .later }
def SignOnceCardSaid : Prop := Claim7.holds Tryd.pinned (.plain (OpenSpec.ofChange signOnceSpec)) signOnceCard

/-- THE TIED CARD OF 'wapentakelaw05.SignReuse'. -/
def signReuseCard : Claim7 := { stood := { row := signReuseRow, standIns := [], harness := (true, "0d6056b06dbf311604ae75bee02f73002a96bdeb434e6440c94c31aedbb10449"), looks := false }, kinds := [], alts := [], laidByText := true, laidKinds := [.data, .data], laidTests := true, laidLooks := .later }
def SignReuseCardSaid : Prop := Claim7.holds Tryd.pinned (.plain (OpenSpec.ofChange signReuseSpec)) signReuseCard

/-- THE TIED CARD OF 'wapentakelaw05.SignApart'. -/
def signApartCard : Claim7 := { stood := { row := signApartRow, standIns := [], harness := (true, "0d6056b06dbf311604ae75bee02f73002a96bdeb434e6440c94c31aedbb10449"), looks := false }, kinds := [], alts := [], laidByText := true, laidKinds := [.data, .data], laidTests := true, laidLooks := .later }
def SignApartCardSaid : Prop := Claim7.holds Tryd.pinned (.plain (OpenSpec.ofChange signApartSpec)) signApartCard

/-- THE TIED CARD OF 'wapentakelaw05.SignBudget'. -/
def signBudgetCard : Claim7 := { stood := { row := signBudgetRow, standIns := [], harness := (true, "0d6056b06dbf311604ae75bee02f73002a96bdeb434e6440c94c31aedbb10449"), looks := false }, kinds := [], alts := [], laidByText := true, laidKinds := [.data, .data], laidTests := true, laidLooks := .later }
def SignBudgetCardSaid : Prop := Claim7.holds Tryd.pinned (.plain (OpenSpec.ofChange signBudgetSpec)) signBudgetCard

/-- THE SECOND FORM's CARD OF 'wapentakelaw03.MerkleRoots'. -/
def merkleRootsUptoCard : Claim7 := { stood := { row := merkleRootsUptoRow, standIns := [], harness := (true, "0d6056b06dbf311604ae75bee02f73002a96bdeb434e6440c94c31aedbb10449"), looks := false }, kinds := [], alts := [], laidByText := true, laidKinds := [.data, .data], laidTests := true, laidLooks := .later }
def MerkleRootsUptoCardSaid : Prop := Claim7.holds Tryd.pinned (.plain (OpenSpec.upto merkleRootsSpec)) merkleRootsUptoCard

/-- THE SECOND FORM's CARD OF 'wapentakelaw03.MerkleBinds'. -/
def merkleBindsUptoCard : Claim7 := { stood := { row := merkleBindsUptoRow, standIns := [], harness := (true, "0d6056b06dbf311604ae75bee02f73002a96bdeb434e6440c94c31aedbb10449"), looks := false }, kinds := [], alts := [], laidByText := true, laidKinds := [.data, .data], laidTests := true, laidLooks := .later }
def MerkleBindsUptoCardSaid : Prop := Claim7.holds Tryd.pinned (.plain (OpenSpec.upto merkleBindsSpec)) merkleBindsUptoCard

/-- THE SECOND FORM's CARD OF 'wapentakelaw05.SignDoes'. -/
def signDoesUptoCard : Claim7 := { stood := { row := signDoesUptoRow, standIns := [], harness := (true, "0d6056b06dbf311604ae75bee02f73002a96bdeb434e6440c94c31aedbb10449"), looks := false }, kinds := [], alts := [], laidByText := true, laidKinds := [.data, .data], laidTests := true, laidLooks := .later }
def SignDoesUptoCardSaid : Prop := Claim7.holds Tryd.pinned (.plain (OpenSpec.upto signDoesSpec)) signDoesUptoCard

/-- THE SECOND FORM's CARD OF 'wapentakelaw05.SignRight'. -/
def signRightUptoCard : Claim7 := { stood := { row := signRightUptoRow, standIns := [], harness := (true, "0d6056b06dbf311604ae75bee02f73002a96bdeb434e6440c94c31aedbb10449"), looks := false }, kinds := [], alts := [], laidByText := true, laidKinds := [.data, .data], laidTests := true, laidLooks := .later }
def SignRightUptoCardSaid : Prop := Claim7.holds Tryd.pinned (.plain (OpenSpec.upto signRightSpec)) signRightUptoCard

/-- THE SECOND FORM's CARD OF 'wapentakelaw05.SignOnce'. -/
def signOnceUptoCard : Claim7 := { stood := { row := signOnceUptoRow, standIns := [], harness := (true, "0d6056b06dbf311604ae75bee02f73002a96bdeb434e6440c94c31aedbb10449"), looks := false }, kinds := [], alts := [], laidByText := true, laidKinds := [.data, .data], laidTests := true, laidLooks := .later }
def SignOnceUptoCardSaid : Prop := Claim7.holds Tryd.pinned (.plain (OpenSpec.upto signOnceSpec)) signOnceUptoCard

/-- THE SECOND FORM's CARD OF 'wapentakelaw05.SignReuse'. -/
def signReuseUptoCard : Claim7 := { stood := { row := signReuseUptoRow, standIns := [], harness := (true, "0d6056b06dbf311604ae75bee02f73002a96bdeb434e6440c94c31aedbb10449"), looks := false }, kinds := [], alts := [], laidByText := true, laidKinds := [.data, .data], laidTests := true, laidLooks := .later }
def SignReuseUptoCardSaid : Prop := Claim7.holds Tryd.pinned (.plain (OpenSpec.upto signReuseSpec)) signReuseUptoCard

/-- THE SECOND FORM's CARD OF 'wapentakelaw05.SignApart'. -/
def signApartUptoCard : Claim7 := { stood := { row := signApartUptoRow, standIns := [], harness := (true, "0d6056b06dbf311604ae75bee02f73002a96bdeb434e6440c94c31aedbb10449"), looks := false }, kinds := [], alts := [], laidByText := true, laidKinds := [.data, .data], laidTests := true, laidLooks := .later }
def SignApartUptoCardSaid : Prop := Claim7.holds Tryd.pinned (.plain (OpenSpec.upto signApartSpec)) signApartUptoCard

/-- THE SECOND FORM's CARD OF 'wapentakelaw05.SignBudget'. -/
def signBudgetUptoCard : Claim7 := { stood := { row := signBudgetUptoRow, standIns := [], harness := (true, "0d6056b06dbf311604ae75bee02f73002a96bdeb434e6440c94c31aedbb10449"), looks := false }, kinds := [], alts := [], laidByText := true, laidKinds := [.data, .data], laidTests := true, laidLooks := .later }
def SignBudgetUptoCardSaid : Prop := Claim7.holds Tryd.pinned (.plain (OpenSpec.upto signBudgetSpec)) signBudgetUptoCard
end Rows
end Go.Proofs.YthmkdlnocdbhjaaDoor
