/-
  DERIVED. GIVEN WITH THE SEED: THE CARDS: each row of YtdjbaigfpmibnaaDoorRows.lean that lists a variable, with what it lists TIED to the program's text (the seventh form; the later family's looks); each row that meets fmt, with fmt's text TOLD by the authors' own Lean function (tested against real Go, not proved from fmt's source: count such statements apart). THE CARD IS WHAT COUNTS. Prove the row's statement (the work); the ties are given (YtdjbaigfpmibnaaDoorTie.lean); close each card by the builder's one call (the guide's Derived/Test/ToyasCard.lean, 'card_holds'). Laid BY PROGRAM, IN A SANDBOX (cutbox-door.mjs). By AI agents, Wed Nov 11 2026. No macro, syntax, notation, axiom, sorry.
-/
import Derived.Test.YtdjbaigfpmibnaaDoorRows
import GoSem.ClaimSeven
namespace Go.Proofs.YtdjbaigfpmibnaaDoor
namespace Rows

/-- THE TIED CARD OF 'wapentakelaw03.MerkleRoots'. -/
def merkleRootsCard : Claim7 := { stood := { row := merkleRootsRow, standIns := [], harness := (true, "ff6d51277f0415bfca54e5445263fb3846fd8b1ab11b91f12be059c09ed9496b"), looks := false }, kinds := [], alts := [], laidByText := true, laidKinds := [.data, .data], laidTests := true, laidLooks := .later }
def MerkleRootsCardSaid : Prop := Claim7.holds Tryd.pinned (.plain (OpenSpec.ofChange merkleRootsSpec)) merkleRootsCard

/-- THE TIED CARD OF 'wapentakelaw03.MerkleVerifies'. -/
def merkleVerifiesCard : Claim7 := { stood := { row := merkleVerifiesRow, standIns := [], harness := (true, "ff6d51277f0415bfca54e5445263fb3846fd8b1ab11b91f12be059c09ed9496b"), looks := false }, kinds := [], alts := [], laidByText := true, laidKinds := [.data, .data], laidTests := true, laidLooks := .later }
def MerkleVerifiesCardSaid : Prop := Claim7.holds Tryd.pinned (.plain (OpenSpec.ofChange merkleVerifiesSpec)) merkleVerifiesCard

/-- THE TIED CARD OF 'wapentakelaw03.MerkleSound'. -/
def merkleSoundCard : Claim7 := { stood := { row := merkleSoundRow, standIns := [], harness := (true, "ff6d51277f0415bfca54e5445263fb3846fd8b1ab11b91f12be059c09ed9496b"), looks := false }, kinds := [], alts := [], laidByText := true, laidKinds := [.data, .data], laidTests := true, laidLooks := .later }
def MerkleSoundCardSaid : Prop := Claim7.holds Tryd.pinned (.plain (OpenSpec.ofChange merkleSoundSpec)) merkleSoundCard

/-- THE TIED CARD OF 'wapentakelaw03.MerkleClash'. -/
def merkleClashCard : Claim7 := { stood := { row := merkleClashRow, standIns := [], harness := (true, "ff6d51277f0415bfca54e5445263fb3846fd8b1ab11b91f12be059c09ed9496b"), looks := false }, kinds := [], alts := [], laidByText := true, laidKinds := [.data, .data], laidTests := true, laidLooks := .later }
def MerkleClashCardSaid : Prop := Claim7.holds Tryd.pinned (.plain (OpenSpec.ofChange merkleClashSpec)) merkleClashCard

/-- THE TIED CARD OF 'wapentakelaw03.MerkleBinds'. -/
def merkleBindsCard : Claim7 := { stood := { row := merkleBindsRow, standIns := [], harness := (true, "ff6d51277f0415bfca54e5445263fb3846fd8b1ab11b91f12be059c09ed9496b"), looks := false }, kinds := [], alts := [], laidByText := true, laidKinds := [.data, .data], laidTests := true, laidLooks := .later }
def MerkleBindsCardSaid : Prop := Claim7.holds Tryd.pinned (.plain (OpenSpec.ofChange merkleBindsSpec)) merkleBindsCard

/-- THE TIED CARD OF 'wapentakelaw04.TrieRoots'. -/
def trieRootsCard : Claim7 := { stood := { row := trieRootsRow, standIns := [], harness := (true, "ff6d51277f0415bfca54e5445263fb3846fd8b1ab11b91f12be059c09ed9496b"), looks := false }, kinds := [], alts := [], laidByText := true, laidKinds := [.data, .data], laidTests := true, laidLooks := .later }
def TrieRootsCardSaid : Prop := Claim7.holds Tryd.pinned (.plain (OpenSpec.ofChange trieRootsSpec)) trieRootsCard

/-- THE TIED CARD OF 'wapentakelaw04.TrieVerifies'. -/
def trieVerifiesCard : Claim7 := { stood := { row := trieVerifiesRow, standIns := [], harness := (true, "ff6d51277f0415bfca54e5445263fb3846fd8b1ab11b91f12be059c09ed9496b"), looks := false }, kinds := [], alts := [], laidByText := true, laidKinds := [.data, .data], laidTests := true, laidLooks := .later }
def TrieVerifiesCardSaid : Prop := Claim7.holds Tryd.pinned (.plain (OpenSpec.ofChange trieVerifiesSpec)) trieVerifiesCard

/-- THE TIED CARD OF 'wapentakelaw04.TrieComplete'. -/
def trieCompleteCard : Claim7 := { stood := { row := trieCompleteRow, standIns := [], harness := (true, "ff6d51277f0415bfca54e5445263fb3846fd8b1ab11b91f12be059c09ed9496b"), looks := false }, kinds := [], alts := [], laidByText := true, laidKinds := [.data, .data], laidTests := true, laidLooks := .later }
def TrieCompleteCardSaid : Prop := Claim7.holds Tryd.pinned (.plain (OpenSpec.ofChange trieCompleteSpec)) trieCompleteCard

/-- THE TIED CARD OF 'wapentakelaw04.TrieSound'. -/
def trieSoundCard : Claim7 := { stood := { row := trieSoundRow, standIns := [], harness := (true, "ff6d51277f0415bfca54e5445263fb3846fd8b1ab11b91f12be059c09ed9496b"), looks := false }, kinds := [], alts := [], laidByText := true, laidKinds := [.data, .data], laidTests := true, laidLooks := .later }
def TrieSoundCardSaid : Prop := Claim7.holds Tryd.pinned (.plain (OpenSpec.ofChange trieSoundSpec)) trieSoundCard

/-- THE TIED CARD OF 'wapentakelaw04.TrieClash'. -/
def trieClashCard : Claim7 := { stood := { row := trieClashRow, standIns := [], harness := (true, "ff6d51277f0415bfca54e5445263fb3846fd8b1ab11b91f12be059c09ed9496b"), looks := false }, kinds := [], alts := [], laidByText := true, laidKinds := [.data, .data], laidTests := true, laidLooks := .later }
def TrieClashCardSaid : Prop := Claim7.holds Tryd.pinned (.plain (OpenSpec.ofChange trieClashSpec)) trieClashCard

/-- THE TIED CARD OF 'wapentakelaw04.TrieBinds'. -/
def trieBindsCard : Claim7 := { stood := { row := trieBindsRow, standIns := [], harness := (true, "ff6d51277f0415bfca54e5445263fb3846fd8b1ab11b91f12be059c09ed9496b"), looks := false }, kinds := [], alts := [], laidByText := true, laidKinds := [.data, .data], laidTests := true, laidLooks := .later }
def TrieBindsCardSaid : Prop := Claim7.holds Tryd.pinned (.plain (OpenSpec.ofChange trieBindsSpec)) trieBindsCard

/-- THE TIED CARD OF 'wapentakelaw04.TrieApart'. -/
def trieApartCard : Claim7 := { stood := { row := trieApartRow, standIns := [], harness := (true, "ff6d51277f0415bfca54e5445263fb3846fd8b1ab11b91f12be059c09ed9496b"), looks := false }, kinds := [], alts := [], laidByText := true, laidKinds := [.data, .data], laidTests := true, laidLooks := .later }
def TrieApartCardSaid : Prop := Claim7.holds Tryd.pinned (.plain (OpenSpec.ofChange trieApartSpec)) trieApartCard

/-- THE SECOND FORM's CARD OF 'wapentakelaw03.MerkleRoots'. -/
def merkleRootsUptoCard : Claim7 := { stood := { row := merkleRootsUptoRow, standIns := [], harness := (true, "ff6d51277f0415bfca54e5445263fb3846fd8b1ab11b91f12be059c09ed9496b"), looks := false }, kinds := [], alts := [], laidByText := true, laidKinds := [.data, .data], laidTests := true, laidLooks := .later }
def MerkleRootsUptoCardSaid : Prop := Claim7.holds Tryd.pinned (.plain (OpenSpec.upto merkleRootsSpec)) merkleRootsUptoCard

/-- THE SECOND FORM's CARD OF 'wapentakelaw03.MerkleVerifies'. -/
def merkleVerifiesUptoCard : Claim7 := { stood := { row := merkleVerifiesUptoRow, standIns := [], harness := (true, "ff6d51277f0415bfca54e5445263fb3846fd8b1ab11b91f12be059c09ed9496b"), looks := false }, kinds := [], alts := [], laidByText := true, laidKinds := [.data, .data], laidTests := true, laidLooks := .later }
def MerkleVerifiesUptoCardSaid : Prop := Claim7.holds Tryd.pinned (.plain (OpenSpec.upto merkleVerifiesSpec)) merkleVerifiesUptoCard

/-- THE SECOND FORM's CARD OF 'wapentakelaw03.MerkleSound'. -/
def merkleSoundUptoCard : Claim7 := { stood := { row := merkleSoundUptoRow, standIns := [], harness := (true, "ff6d51277f0415bfca54e5445263fb3846fd8b1ab11b91f12be059c09ed9496b"), looks := false }, kinds := [], alts := [], laidByText := true, laidKinds := [.data, .data], laidTests := true, laidLooks := .later }
def MerkleSoundUptoCardSaid : Prop := Claim7.holds Tryd.pinned (.plain (OpenSpec.upto merkleSoundSpec)) merkleSoundUptoCard

/-- THE SECOND FORM's CARD OF 'wapentakelaw03.MerkleClash'. -/
def merkleClashUptoCard : Claim7 := { stood := { row := merkleClashUptoRow, standIns := [], harness := (true, "ff6d51277f0415bfca54e5445263fb3846fd8b1ab11b91f12be059c09ed9496b"), looks := false }, kinds := [], alts := [], laidByText := true, laidKinds := [.data, .data], laidTests := true, laidLooks := .later }
def MerkleClashUptoCardSaid : Prop := Claim7.holds Tryd.pinned (.plain (OpenSpec.upto merkleClashSpec)) merkleClashUptoCard

/-- THE SECOND FORM's CARD OF 'wapentakelaw03.MerkleBinds'. -/
def merkleBindsUptoCard : Claim7 := { stood := { row := merkleBindsUptoRow, standIns := [], harness := (true, "ff6d51277f0415bfca54e5445263fb3846fd8b1ab11b91f12be059c09ed9496b"), looks := false }, kinds := [], alts := [], laidByText := true, laidKinds := [.data, .data], laidTests := true, laidLooks := .later }
def MerkleBindsUptoCardSaid : Prop := Claim7.holds Tryd.pinned (.plain (OpenSpec.upto merkleBindsSpec)) merkleBindsUptoCard

/-- THE SECOND FORM's CARD OF 'wapentakelaw04.TrieRoots'. -/
def trieRootsUptoCard : Claim7 := { stood := { row := trieRootsUptoRow, standIns := [], harness := (true, "ff6d51277f0415bfca54e5445263fb3846fd8b1ab11b91f12be059c09ed9496b"), looks := false }, kinds := [], alts := [], laidByText := true, laidKinds := [.data, .data], laidTests := true, laidLooks := .later }
def TrieRootsUptoCardSaid : Prop := Claim7.holds Tryd.pinned (.plain (OpenSpec.upto trieRootsSpec)) trieRootsUptoCard

/-- THE SECOND FORM's CARD OF 'wapentakelaw04.TrieVerifies'. -/
def trieVerifiesUptoCard : Claim7 := { stood := { row := trieVerifiesUptoRow, standIns := [], harness := (true, "ff6d51277f0415bfca54e5445263fb3846fd8b1ab11b91f12be059c09ed9496b"), looks := false }, kinds := [], alts := [], laidByText := true, laidKinds := [.data, .data], laidTests := true, laidLooks := .later }
def TrieVerifiesUptoCardSaid : Prop := Claim7.holds Tryd.pinned (.plain (OpenSpec.upto trieVerifiesSpec)) trieVerifiesUptoCard

/-- THE SECOND FORM's CARD OF 'wapentakelaw04.TrieComplete'. -/
def trieCompleteUptoCard : Claim7 := { stood := { row := trieCompleteUptoRow, standIns := [], harness := (true, "ff6d51277f0415bfca54e5445263fb3846fd8b1ab11b91f12be059c09ed9496b"), looks := false }, kinds := [], alts := [], laidByText := true, laidKinds := [.data, .data], laidTests := true, laidLooks := .later }
def TrieCompleteUptoCardSaid : Prop := Claim7.holds Tryd.pinned (.plain (OpenSpec.upto trieCompleteSpec)) trieCompleteUptoCard

/-- THE SECOND FORM's CARD OF 'wapentakelaw04.TrieSound'. -/
def trieSoundUptoCard : Claim7 := { stood := { row := trieSoundUptoRow, standIns := [], harness := (true, "ff6d51277f0415bfca54e5445263fb3846fd8b1ab11b91f12be059c09ed9496b"), looks := false }, kinds := [], alts := [], laidByText := true, laidKinds := [.data, .data], laidTests := true, laidLooks := .later }
def TrieSoundUptoCardSaid : Prop := Claim7.holds Tryd.pinned (.plain (OpenSpec.upto trieSoundSpec)) trieSoundUptoCard

/-- THE SECOND FORM's CARD OF 'wapentakelaw04.TrieClash'. -/
def trieClashUptoCard : Claim7 := { stood := { row := trieClashUptoRow, standIns := [], harness := (true, "ff6d51277f0415bfca54e5445263fb3846fd8b1ab11b91f12be059c09ed9496b"), looks := false }, kinds := [], alts := [], laidByText := true, laidKinds := [.data, .data], laidTests := true, laidLooks := .later }
def TrieClashUptoCardSaid : Prop := Claim7.holds Tryd.pinned (.plain (OpenSpec.upto trieClashSpec)) trieClashUptoCard

/-- THE SECOND FORM's CARD OF 'wapentakelaw04.TrieBinds'. -/
def trieBindsUptoCard : Claim7 := { stood := { row := trieBindsUptoRow, standIns := [], harness := (true, "ff6d51277f0415bfca54e5445263fb3846fd8b1ab11b91f12be059c09ed9496b"), looks := false }, kinds := [], alts := [], laidByText := true, laidKinds := [.data, .data], laidTests := true, laidLooks := .later }
def TrieBindsUptoCardSaid : Prop := Claim7.holds Tryd.pinned (.plain (OpenSpec.upto trieBindsSpec)) trieBindsUptoCard

/-- THE SECOND FORM's CARD OF 'wapentakelaw04.TrieApart'. -/
def trieApartUptoCard : Claim7 := { stood := { row := trieApartUptoRow, standIns := [], harness := (true, "ff6d51277f0415bfca54e5445263fb3846fd8b1ab11b91f12be059c09ed9496b"), looks := false }, kinds := [], alts := [], laidByText := true, laidKinds := [.data, .data], laidTests := true, laidLooks := .later }
def TrieApartUptoCardSaid : Prop := Claim7.holds Tryd.pinned (.plain (OpenSpec.upto trieApartSpec)) trieApartUptoCard
end Rows
end Go.Proofs.YtdjbaigfpmibnaaDoor
