/-
  DERIVED. GIVEN WITH THE SEED: THE CARDS: each row of YtapbaonlboefeaaDoorRows.lean that lists a variable, with what it lists TIED to the program's text (the seventh form; the later family's looks); each row that meets fmt, with fmt's text TOLD by the authors' own Lean function (tested against real Go, not proved from fmt's source: count such statements apart). THE CARD IS WHAT COUNTS. Prove the row's statement (the work); the ties are given (YtapbaonlboefeaaDoorTie.lean); close each card by the builder's one call (the guide's Derived/Test/ToyasCard.lean, 'card_holds'). Laid BY PROGRAM, IN A SANDBOX (cutbox-door.mjs). By AI agents, Wed Nov 11 2026. No macro, syntax, notation, axiom, sorry.
-/
import Derived.Test.YtapbaonlboefeaaDoorRows
import GoSem.ClaimSeven
namespace Go.Proofs.YtapbaonlboefeaaDoor
namespace Rows

/-- THE TIED CARD OF 'wapentakelaw04.TrieRoots'. -/
def trieRootsCard : Claim7 := { stood := { row := trieRootsRow, standIns := [], harness := (true, "182a54616c49e0c2473ed32be58a1f93448a5de85d913476eb460c8fe3e0b945"), looks := false }, kinds := [], alts := [], laidByText := true, laidKinds := [.data, .data], laidTests := true, laidLooks := .later }
def TrieRootsCardSaid : Prop := Claim7.holds Tryd.pinned (.plain (OpenSpec.ofChange trieRootsSpec)) trieRootsCard

/-- THE TIED CARD OF 'wapentakelaw04.TrieVerifies'. -/
def trieVerifiesCard : Claim7 := { stood := { row := trieVerifiesRow, standIns := [], harness := (true, "182a54616c49e0c2473ed32be58a1f93448a5de85d913476eb460c8fe3e0b945"), looks := false }, kinds := [], alts := [], laidByText := true, laidKinds := [.data, .data], laidTests := true, laidLooks := .later }
def TrieVerifiesCardSaid : Prop := Claim7.holds Tryd.pinned (.plain (OpenSpec.ofChange trieVerifiesSpec)) trieVerifiesCard

/-- THE TIED CARD OF 'wapentakelaw04.TrieComplete'. -/
def trieCompleteCard : Claim7 := { stood := { row := trieCompleteRow, standIns := [], harness := (true, "182a54616c49e0c2473ed32be58a1f93448a5de85d913476eb460c8fe3e0b945"), looks := false }, kinds := [], alts := [], laidByText := true, laidKinds := [.data, .data], laidTests := true, laidLooks := .later }
def TrieCompleteCardSaid : Prop := Claim7.holds Tryd.pinned (.plain (OpenSpec.ofChange trieCompleteSpec)) trieCompleteCard

/-- THE TIED CARD OF 'wapentakelaw04.TrieSound'. -/
def trieSoundCard : Claim7 := { stood := { row := trieSoundRow, standIns := [], harness := (true, "182a54616c49e0c2473ed32be58a1f93448a5de85d913476eb460c8fe3e0b945"), looks := false }, kinds := [], alts := [], laidByText := true, laidKinds := [.data, .data], laidTests := true, laidLooks := .later }
def TrieSoundCardSaid : Prop := Claim7.holds Tryd.pinned (.plain (OpenSpec.ofChange trieSoundSpec)) trieSoundCard

/-- THE TIED CARD OF 'wapentakelaw04.TrieClash'. -/
def trieClashCard : Claim7 := { stood := { row := trieClashRow, standIns := [], harness := (true, "182a54616c49e0c2473ed32be58a1f93448a5de85d913476eb460c8fe3e0b945"), looks := false }, kinds := [], alts := [], laidByText := true, laidKinds := [.data, .data], laidTests := true, laidLooks := .later }
def TrieClashCardSaid : Prop := Claim7.holds Tryd.pinned (.plain (OpenSpec.ofChange trieClashSpec)) trieClashCard

/-- THE TIED CARD OF 'wapentakelaw04.TrieBinds'. -/
def trieBindsCard : Claim7 := { stood := { row := trieBindsRow, standIns := [], harness := (true, "182a54616c49e0c2473ed32be58a1f93448a5de85d913476eb460c8fe3e0b945"), looks := false }, kinds := [], alts := [], laidByText := true, laidKinds := [.data, .data], laidTests := true, laidLooks := .later }
def TrieBindsCardSaid : Prop := Claim7.holds Tryd.pinned (.plain (OpenSpec.ofChange trieBindsSpec)) trieBindsCard

/-- THE TIED CARD OF 'wapentakelaw04.TrieApart'. -/
def trieApartCard : Claim7 := { stood := { row := trieApartRow, standIns := [], harness := (true, "182a54616c49e0c2473ed32be58a1f93448a5de85d913476eb460c8fe3e0b945"), looks := false }, kinds := [], alts := [], laidByText := true, laidKinds := [.data, .data], laidTests := true, laidLooks := .later }
def TrieApartCardSaid : Prop := Claim7.holds Tryd.pinned (.plain (OpenSpec.ofChange trieApartSpec)) trieApartCard

/-- THE SECOND FORM's CARD OF 'wapentakelaw04.TrieRoots'. -/
def trieRootsUptoCard : Claim7 := { stood := { row := trieRootsUptoRow, standIns := [], harness := (true, "182a54616c49e0c2473ed32be58a1f93448a5de85d913476eb460c8fe3e0b945"), looks := false }, kinds := [], alts := [], laidByText := true, laidKinds := [.data, .data], laidTests := true, laidLooks := .later }
def TrieRootsUptoCardSaid : Prop := Claim7.holds Tryd.pinned (.plain (OpenSpec.upto trieRootsSpec)) trieRootsUptoCard

/-- THE SECOND FORM's CARD OF 'wapentakelaw04.TrieVerifies'. -/
def trieVerifiesUptoCard : Claim7 := { stood := { row := trieVerifiesUptoRow, standIns := [], harness := (true, "182a54616c49e0c2473ed32be58a1f93448a5de85d913476eb460c8fe3e0b945"), looks := false }, kinds := [], alts := [], laidByText := true, laidKinds := [.data, .data], laidTests := true, laidLooks := .later }
def TrieVerifiesUptoCardSaid : Prop := Claim7.holds Tryd.pinned (.plain (OpenSpec.upto trieVerifiesSpec)) trieVerifiesUptoCard

/-- THE SECOND FORM's CARD OF 'wapentakelaw04.TrieComplete'. -/
def trieCompleteUptoCard : Claim7 := { stood := { row := trieCompleteUptoRow, standIns := [], harness := (true, "182a54616c49e0c2473ed32be58a1f93448a5de85d913476eb460c8fe3e0b945"), looks := false }, kinds := [], alts := [], laidByText := true, laidKinds := [.data, .data], laidTests := true, laidLooks := .later }
def TrieCompleteUptoCardSaid : Prop := Claim7.holds Tryd.pinned (.plain (OpenSpec.upto trieCompleteSpec)) trieCompleteUptoCard

/-- THE SECOND FORM's CARD OF 'wapentakelaw04.TrieSound'. -/
def trieSoundUptoCard : Claim7 := { stood := { row := trieSoundUptoRow, standIns := [], harness := (true, "182a54616c49e0c2473ed32be58a1f93448a5de85d913476eb460c8fe3e0b945"), looks := false }, kinds := [], alts := [], laidByText := true, laidKinds := [.data, .data], laidTests := true, laidLooks := .later }
def TrieSoundUptoCardSaid : Prop := Claim7.holds Tryd.pinned (.plain (OpenSpec.upto trieSoundSpec)) trieSoundUptoCard

/-- THE SECOND FORM's CARD OF 'wapentakelaw04.TrieClash'. -/
def trieClashUptoCard : Claim7 := { stood := { row := trieClashUptoRow, standIns := [], harness := (true, "182a54616c49e0c2473ed32be58a1f93448a5de85d913476eb460c8fe3e0b945"), looks := false }, kinds := [], alts := [], laidByText := true, laidKinds := [.data, .data], laidTests := true, laidLooks := .later }
def TrieClashUptoCardSaid : Prop := Claim7.holds Tryd.pinned (.plain (OpenSpec.upto trieClashSpec)) trieClashUptoCard

/-- THE SECOND FORM's CARD OF 'wapentakelaw04.TrieBinds'. -/
def trieBindsUptoCard : Claim7 := { stood := { row := trieBindsUptoRow, standIns := [], harness := (true, "182a54616c49e0c2473ed32be58a1f93448a5de85d913476eb460c8fe3e0b945"), looks := false }, kinds := [], alts := [], laidByText := true, laidKinds := [.data, .data], laidTests := true, laidLooks := .later }
def TrieBindsUptoCardSaid : Prop := Claim7.holds Tryd.pinned (.plain (OpenSpec.upto trieBindsSpec)) trieBindsUptoCard

/-- THE SECOND FORM's CARD OF 'wapentakelaw04.TrieApart'. -/
def trieApartUptoCard : Claim7 := { stood := { row := trieApartUptoRow, standIns := [], harness := (true, "182a54616c49e0c2473ed32be58a1f93448a5de85d913476eb460c8fe3e0b945"), looks := false }, kinds := [], alts := [], laidByText := true, laidKinds := [.data, .data], laidTests := true, laidLooks := .later }
def TrieApartUptoCardSaid : Prop := Claim7.holds Tryd.pinned (.plain (OpenSpec.upto trieApartSpec)) trieApartUptoCard
end Rows
end Go.Proofs.YtapbaonlboefeaaDoor
