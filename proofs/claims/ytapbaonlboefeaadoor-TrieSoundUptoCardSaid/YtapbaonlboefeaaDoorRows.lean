/-
  NARROWER THAN 'FOR EVERY INPUT', by the rows' own cells (each row's printed sentence says how): TrieRoots: laid · TrieVerifies: laid · TrieComplete: laid · TrieSound: laid · TrieClash: laid · TrieBinds: laid · TrieApart: laid.
  DERIVED. THE GIVEN ROWS OF THIS SEAT. 7 by the template 'for every input the law returns true; each argument reads behind the call as it read before'; 0 by the template 'total and deterministic' (their statements: YtapbaonlboefeaaDoorTotals.lean).
  GIVEN WITH THE SEED: the statements are not yours to turn. If you find one false, say at which input.
  Laid BY PROGRAM, IN A SANDBOX (cutbox-rows.mjs): the forced cells as the released guide's own fill.sh prints them over the translation 774dd6bb97bc45b9… (all of the seat's roots in one cut). By AI agents, Wed Nov 11 2026. No macro, syntax, notation, axiom, sorry.
-/
import Derived.Test.YtapbaonlboefeaaDoorChecked
import GoSem.Claim
import GoSem.ClaimJoined
import GoSem.ClaimMapViews
import Derived.JoinedTies
import Derived.KernelRfl
namespace Go.Proofs.YtapbaonlboefeaaDoor
/- THE CELL 'sum', in the pinned program and in every row, IS THE sha256 OF THE DUMP (.gsa) THAT YtapbaonlboefeaaDoorProg.lean LOADS. Nothing in Lean hashes anything: it is a label: what it is worth is what the hold of that sum in a sandbox is worth. -/
noncomputable def Tryd.pinned : Pinned := { name := "ytapbaonlboefeaadoor", sum := "774dd6bb97bc45b92c08b41b59378149a4c9533ef0f44e6ee394847c9bd6e45b", checked := Tryd.checked }
namespace Rows
def none {H : Type} : Left H := { results := [], args := [] }

/- WHAT THE LISTED PACKAGE-LEVEL VARIABLES READ AS WHEN THE CALL BEGINS. Each datum BY PROGRAM (the guide's laid-datum.mjs) off the statement by which the dump's own 'gosem.cut.vars' lays the variable. In a bare row this is a premise. The card (YtapbaonlboefeaaDoorCards.lean) ties it to the program's text. -/
def laid_wapentake_sha_initials {H : Type} : DataW H := .agg [.lit (.int .u32 1779033703), .lit (.int .u32 3144134277), .lit (.int .u32 1013904242), .lit (.int .u32 2773480762), .lit (.int .u32 1359893119), .lit (.int .u32 2600822924), .lit (.int .u32 528734635), .lit (.int .u32 1541459225)]
def laid_wapentake_sha_constants {H : Type} : DataW H := .agg [.lit (.int .u32 1116352408), .lit (.int .u32 1899447441), .lit (.int .u32 3049323471), .lit (.int .u32 3921009573), .lit (.int .u32 961987163), .lit (.int .u32 1508970993), .lit (.int .u32 2453635748), .lit (.int .u32 2870763221), .lit (.int .u32 3624381080), .lit (.int .u32 310598401), .lit (.int .u32 607225278), .lit (.int .u32 1426881987), .lit (.int .u32 1925078388), .lit (.int .u32 2162078206), .lit (.int .u32 2614888103), .lit (.int .u32 3248222580), .lit (.int .u32 3835390401), .lit (.int .u32 4022224774), .lit (.int .u32 264347078), .lit (.int .u32 604807628), .lit (.int .u32 770255983), .lit (.int .u32 1249150122), .lit (.int .u32 1555081692), .lit (.int .u32 1996064986), .lit (.int .u32 2554220882), .lit (.int .u32 2821834349), .lit (.int .u32 2952996808), .lit (.int .u32 3210313671), .lit (.int .u32 3336571891), .lit (.int .u32 3584528711), .lit (.int .u32 113926993), .lit (.int .u32 338241895), .lit (.int .u32 666307205), .lit (.int .u32 773529912), .lit (.int .u32 1294757372), .lit (.int .u32 1396182291), .lit (.int .u32 1695183700), .lit (.int .u32 1986661051), .lit (.int .u32 2177026350), .lit (.int .u32 2456956037), .lit (.int .u32 2730485921), .lit (.int .u32 2820302411), .lit (.int .u32 3259730800), .lit (.int .u32 3345764771), .lit (.int .u32 3516065817), .lit (.int .u32 3600352804), .lit (.int .u32 4094571909), .lit (.int .u32 275423344), .lit (.int .u32 430227734), .lit (.int .u32 506948616), .lit (.int .u32 659060556), .lit (.int .u32 883997877), .lit (.int .u32 958139571), .lit (.int .u32 1322822218), .lit (.int .u32 1537002063), .lit (.int .u32 1747873779), .lit (.int .u32 1955562222), .lit (.int .u32 2024104815), .lit (.int .u32 2227730452), .lit (.int .u32 2361852424), .lit (.int .u32 2428436474), .lit (.int .u32 2756734187), .lit (.int .u32 3204031479), .lit (.int .u32 3329325298)]

/-- 'wapentakelaw04.TrieRoots': WHATEVER THE INPUT: true; the input reads as it did. -/
def trieRootsSpec : ChangeSpec := { name := "trieRoots", fn := fun _ => fun
  | [d1, d2] => { results := [.lit (.bool true)], args := [d1, d2] }
  | _ => none }
def trieRootsRow : OpenClaim := { program := "ytapbaonlboefeaadoor", sum := "774dd6bb97bc45b92c08b41b59378149a4c9533ef0f44e6ee394847c9bd6e45b", func := "wapentake/wapentakelaw04.TrieRoots", spec := "trieRoots", inPlace := ["internal/bytealg.Compare"], unfollowed := true, recurses := true, named := ["wapentake/sha.initials", "wapentake/sha.constants"], apart := false, laid := [("wapentake/sha.initials", laid_wapentake_sha_initials), ("wapentake/sha.constants", laid_wapentake_sha_constants)] }
def TrieRootsSaid : Prop := trieRootsRow.holds Tryd.pinned (OpenSpec.ofChange trieRootsSpec)

/-- ITS FALSE NEIGHBOUR: 'it returns false'. Refute it at one input. -/
def trieRootsWrong : ChangeSpec := { name := "trieRoots", fn := fun _ => fun
  | [d1, d2] => { results := [.lit (.bool false)], args := [d1, d2] }
  | _ => none }
def TrieRootsWrongFalsely : Prop := trieRootsRow.holds Tryd.pinned (OpenSpec.ofChange trieRootsWrong)

/-- 'wapentakelaw04.TrieVerifies': WHATEVER THE INPUT: true; the input reads as it did. -/
def trieVerifiesSpec : ChangeSpec := { name := "trieVerifies", fn := fun _ => fun
  | [d1, d2, d3] => { results := [.lit (.bool true)], args := [d1, d2, d3] }
  | _ => none }
def trieVerifiesRow : OpenClaim := { program := "ytapbaonlboefeaadoor", sum := "774dd6bb97bc45b92c08b41b59378149a4c9533ef0f44e6ee394847c9bd6e45b", func := "wapentake/wapentakelaw04.TrieVerifies", spec := "trieVerifies", inPlace := ["internal/bytealg.Compare"], unfollowed := true, recurses := true, named := ["wapentake/sha.initials", "wapentake/sha.constants"], apart := false, laid := [("wapentake/sha.initials", laid_wapentake_sha_initials), ("wapentake/sha.constants", laid_wapentake_sha_constants)] }
def TrieVerifiesSaid : Prop := trieVerifiesRow.holds Tryd.pinned (OpenSpec.ofChange trieVerifiesSpec)

/-- ITS FALSE NEIGHBOUR: 'it returns false'. Refute it at one input. -/
def trieVerifiesWrong : ChangeSpec := { name := "trieVerifies", fn := fun _ => fun
  | [d1, d2, d3] => { results := [.lit (.bool false)], args := [d1, d2, d3] }
  | _ => none }
def TrieVerifiesWrongFalsely : Prop := trieVerifiesRow.holds Tryd.pinned (OpenSpec.ofChange trieVerifiesWrong)

/-- 'wapentakelaw04.TrieComplete': WHATEVER THE INPUT: true; the input reads as it did. -/
def trieCompleteSpec : ChangeSpec := { name := "trieComplete", fn := fun _ => fun
  | [d1, d2] => { results := [.lit (.bool true)], args := [d1, d2] }
  | _ => none }
def trieCompleteRow : OpenClaim := { program := "ytapbaonlboefeaadoor", sum := "774dd6bb97bc45b92c08b41b59378149a4c9533ef0f44e6ee394847c9bd6e45b", func := "wapentake/wapentakelaw04.TrieComplete", spec := "trieComplete", inPlace := ["internal/bytealg.Compare"], unfollowed := true, recurses := true, named := ["wapentake/sha.initials", "wapentake/sha.constants"], apart := false, laid := [("wapentake/sha.initials", laid_wapentake_sha_initials), ("wapentake/sha.constants", laid_wapentake_sha_constants)] }
def TrieCompleteSaid : Prop := trieCompleteRow.holds Tryd.pinned (OpenSpec.ofChange trieCompleteSpec)

/-- ITS FALSE NEIGHBOUR: 'it returns false'. Refute it at one input. -/
def trieCompleteWrong : ChangeSpec := { name := "trieComplete", fn := fun _ => fun
  | [d1, d2] => { results := [.lit (.bool false)], args := [d1, d2] }
  | _ => none }
def TrieCompleteWrongFalsely : Prop := trieCompleteRow.holds Tryd.pinned (OpenSpec.ofChange trieCompleteWrong)

/-- 'wapentakelaw04.TrieSound': WHATEVER THE INPUT: true; the input reads as it did. -/
def trieSoundSpec : ChangeSpec := { name := "trieSound", fn := fun _ => fun
  | [d1, d2, d3] => { results := [.lit (.bool true)], args := [d1, d2, d3] }
  | _ => none }
def trieSoundRow : OpenClaim := { program := "ytapbaonlboefeaadoor", sum := "774dd6bb97bc45b92c08b41b59378149a4c9533ef0f44e6ee394847c9bd6e45b", func := "wapentake/wapentakelaw04.TrieSound", spec := "trieSound", inPlace := ["internal/bytealg.Compare"], unfollowed := true, recurses := true, named := ["wapentake/sha.initials", "wapentake/sha.constants"], apart := false, laid := [("wapentake/sha.initials", laid_wapentake_sha_initials), ("wapentake/sha.constants", laid_wapentake_sha_constants)] }
def TrieSoundSaid : Prop := trieSoundRow.holds Tryd.pinned (OpenSpec.ofChange trieSoundSpec)

/-- ITS FALSE NEIGHBOUR: 'it returns false'. Refute it at one input. -/
def trieSoundWrong : ChangeSpec := { name := "trieSound", fn := fun _ => fun
  | [d1, d2, d3] => { results := [.lit (.bool false)], args := [d1, d2, d3] }
  | _ => none }
def TrieSoundWrongFalsely : Prop := trieSoundRow.holds Tryd.pinned (OpenSpec.ofChange trieSoundWrong)

/-- 'wapentakelaw04.TrieClash': WHATEVER THE INPUT: true; the input reads as it did. -/
def trieClashSpec : ChangeSpec := { name := "trieClash", fn := fun _ => fun
  | [d1, d2, d3] => { results := [.lit (.bool true)], args := [d1, d2, d3] }
  | _ => none }
def trieClashRow : OpenClaim := { program := "ytapbaonlboefeaadoor", sum := "774dd6bb97bc45b92c08b41b59378149a4c9533ef0f44e6ee394847c9bd6e45b", func := "wapentake/wapentakelaw04.TrieClash", spec := "trieClash", inPlace := ["internal/bytealg.Compare"], unfollowed := true, recurses := true, named := ["wapentake/sha.initials", "wapentake/sha.constants"], apart := false, laid := [("wapentake/sha.initials", laid_wapentake_sha_initials), ("wapentake/sha.constants", laid_wapentake_sha_constants)] }
def TrieClashSaid : Prop := trieClashRow.holds Tryd.pinned (OpenSpec.ofChange trieClashSpec)

/-- ITS FALSE NEIGHBOUR: 'it returns false'. Refute it at one input. -/
def trieClashWrong : ChangeSpec := { name := "trieClash", fn := fun _ => fun
  | [d1, d2, d3] => { results := [.lit (.bool false)], args := [d1, d2, d3] }
  | _ => none }
def TrieClashWrongFalsely : Prop := trieClashRow.holds Tryd.pinned (OpenSpec.ofChange trieClashWrong)

/-- 'wapentakelaw04.TrieBinds': WHATEVER THE INPUT: true; the input reads as it did. -/
def trieBindsSpec : ChangeSpec := { name := "trieBinds", fn := fun _ => fun
  | [d1, d2] => { results := [.lit (.bool true)], args := [d1, d2] }
  | _ => none }
def trieBindsRow : OpenClaim := { program := "ytapbaonlboefeaadoor", sum := "774dd6bb97bc45b92c08b41b59378149a4c9533ef0f44e6ee394847c9bd6e45b", func := "wapentake/wapentakelaw04.TrieBinds", spec := "trieBinds", inPlace := ["internal/bytealg.Compare"], unfollowed := true, recurses := true, named := ["wapentake/sha.initials", "wapentake/sha.constants"], apart := false, laid := [("wapentake/sha.initials", laid_wapentake_sha_initials), ("wapentake/sha.constants", laid_wapentake_sha_constants)] }
def TrieBindsSaid : Prop := trieBindsRow.holds Tryd.pinned (OpenSpec.ofChange trieBindsSpec)

/-- ITS FALSE NEIGHBOUR: 'it returns false'. Refute it at one input. -/
def trieBindsWrong : ChangeSpec := { name := "trieBinds", fn := fun _ => fun
  | [d1, d2] => { results := [.lit (.bool false)], args := [d1, d2] }
  | _ => none }
def TrieBindsWrongFalsely : Prop := trieBindsRow.holds Tryd.pinned (OpenSpec.ofChange trieBindsWrong)

/-- 'wapentakelaw04.TrieApart': WHATEVER THE INPUT: true; the input reads as it did. -/
def trieApartSpec : ChangeSpec := { name := "trieApart", fn := fun _ => fun
  | [d1, d2, d3] => { results := [.lit (.bool true)], args := [d1, d2, d3] }
  | _ => none }
def trieApartRow : OpenClaim := { program := "ytapbaonlboefeaadoor", sum := "774dd6bb97bc45b92c08b41b59378149a4c9533ef0f44e6ee394847c9bd6e45b", func := "wapentake/wapentakelaw04.TrieApart", spec := "trieApart", inPlace := ["internal/bytealg.Compare"], unfollowed := true, recurses := true, named := ["wapentake/sha.initials", "wapentake/sha.constants"], apart := false, laid := [("wapentake/sha.initials", laid_wapentake_sha_initials), ("wapentake/sha.constants", laid_wapentake_sha_constants)] }
def TrieApartSaid : Prop := trieApartRow.holds Tryd.pinned (OpenSpec.ofChange trieApartSpec)

/-- ITS FALSE NEIGHBOUR: 'it returns false'. Refute it at one input. -/
def trieApartWrong : ChangeSpec := { name := "trieApart", fn := fun _ => fun
  | [d1, d2, d3] => { results := [.lit (.bool false)], args := [d1, d2, d3] }
  | _ => none }
def TrieApartWrongFalsely : Prop := trieApartRow.holds Tryd.pinned (OpenSpec.ofChange trieApartWrong)

/- THE SECOND FORM. 'bulk': how many values and letters a reading holds, each counted each time it is reached (what is shared counts as often as it is met; a slice's spare places count too). A statement '..UptoSaid' is the law's where the arguments, and the package variables that the reading takes, are together of bulk at most 1048576: NARROWER than '..Said'. Prove '..Said' where nothing that the law and all that it calls make is longer than what came in: it says more and counts as full. Else prove '..UptoSaid'. A law counts once. -/
mutual
def uptoBulk {H : Type} : DataW H → Nat
  | .lit (.string bytes) => bytes.length + 1
  | .lit _ => 1
  | .nil => 1
  | .ptr d => uptoBulk d + 1
  | .slice elems spare => uptoBulkAll elems + uptoBulkAll spare + 1
  | .agg parts => uptoBulkAll parts + 1
  | .iface _ d => uptoBulk d + 1
  | .map entries => uptoBulkEntries entries + 1
  | .held _ => 1
def uptoBulkAll {H : Type} : List (DataW H) → Nat
  | [] => 0
  | d :: r => uptoBulk d + uptoBulkAll r
def uptoBulkEntries {H : Type} : List (Lit × DataW H) → Nat
  | [] => 0
  | x :: r => uptoBulkEntry x + uptoBulkEntries r
def uptoBulkEntry {H : Type} : Lit × DataW H → Nat
  | (.string bytes, d) => bytes.length + uptoBulk d + 1
  | (_, d) => uptoBulk d + 1
 end
def uptoSmall : (H : Type) → List (DataW H) → Bool := fun _ ds => decide (uptoBulkAll ds ≤ 1048576)
def OpenSpec.upto (s : _root_.Go.ChangeSpec) : _root_.Go.OpenSpec := { _root_.Go.OpenSpec.ofChange s with cond := some uptoSmall }

/-- 'wapentakelaw04.TrieRoots', WHERE WHAT IT READS IS OF BULK AT MOST 1048576: true; the input reads as it did. -/
def trieRootsUptoRow : OpenClaim := { program := "ytapbaonlboefeaadoor", sum := "774dd6bb97bc45b92c08b41b59378149a4c9533ef0f44e6ee394847c9bd6e45b", func := "wapentake/wapentakelaw04.TrieRoots", spec := "trieRoots", inPlace := ["internal/bytealg.Compare"], unfollowed := true, recurses := true, named := ["wapentake/sha.initials", "wapentake/sha.constants"], apart := false, laid := [("wapentake/sha.initials", laid_wapentake_sha_initials), ("wapentake/sha.constants", laid_wapentake_sha_constants)], narrowed := true }
def TrieRootsUptoSaid : Prop := trieRootsUptoRow.holds Tryd.pinned (OpenSpec.upto trieRootsSpec)

/-- 'wapentakelaw04.TrieVerifies', WHERE WHAT IT READS IS OF BULK AT MOST 1048576: true; the input reads as it did. -/
def trieVerifiesUptoRow : OpenClaim := { program := "ytapbaonlboefeaadoor", sum := "774dd6bb97bc45b92c08b41b59378149a4c9533ef0f44e6ee394847c9bd6e45b", func := "wapentake/wapentakelaw04.TrieVerifies", spec := "trieVerifies", inPlace := ["internal/bytealg.Compare"], unfollowed := true, recurses := true, named := ["wapentake/sha.initials", "wapentake/sha.constants"], apart := false, laid := [("wapentake/sha.initials", laid_wapentake_sha_initials), ("wapentake/sha.constants", laid_wapentake_sha_constants)], narrowed := true }
def TrieVerifiesUptoSaid : Prop := trieVerifiesUptoRow.holds Tryd.pinned (OpenSpec.upto trieVerifiesSpec)

/-- 'wapentakelaw04.TrieComplete', WHERE WHAT IT READS IS OF BULK AT MOST 1048576: true; the input reads as it did. -/
def trieCompleteUptoRow : OpenClaim := { program := "ytapbaonlboefeaadoor", sum := "774dd6bb97bc45b92c08b41b59378149a4c9533ef0f44e6ee394847c9bd6e45b", func := "wapentake/wapentakelaw04.TrieComplete", spec := "trieComplete", inPlace := ["internal/bytealg.Compare"], unfollowed := true, recurses := true, named := ["wapentake/sha.initials", "wapentake/sha.constants"], apart := false, laid := [("wapentake/sha.initials", laid_wapentake_sha_initials), ("wapentake/sha.constants", laid_wapentake_sha_constants)], narrowed := true }
def TrieCompleteUptoSaid : Prop := trieCompleteUptoRow.holds Tryd.pinned (OpenSpec.upto trieCompleteSpec)

/-- 'wapentakelaw04.TrieSound', WHERE WHAT IT READS IS OF BULK AT MOST 1048576: true; the input reads as it did. -/
def trieSoundUptoRow : OpenClaim := { program := "ytapbaonlboefeaadoor", sum := "774dd6bb97bc45b92c08b41b59378149a4c9533ef0f44e6ee394847c9bd6e45b", func := "wapentake/wapentakelaw04.TrieSound", spec := "trieSound", inPlace := ["internal/bytealg.Compare"], unfollowed := true, recurses := true, named := ["wapentake/sha.initials", "wapentake/sha.constants"], apart := false, laid := [("wapentake/sha.initials", laid_wapentake_sha_initials), ("wapentake/sha.constants", laid_wapentake_sha_constants)], narrowed := true }
def TrieSoundUptoSaid : Prop := trieSoundUptoRow.holds Tryd.pinned (OpenSpec.upto trieSoundSpec)

/-- 'wapentakelaw04.TrieClash', WHERE WHAT IT READS IS OF BULK AT MOST 1048576: true; the input reads as it did. -/
def trieClashUptoRow : OpenClaim := { program := "ytapbaonlboefeaadoor", sum := "774dd6bb97bc45b92c08b41b59378149a4c9533ef0f44e6ee394847c9bd6e45b", func := "wapentake/wapentakelaw04.TrieClash", spec := "trieClash", inPlace := ["internal/bytealg.Compare"], unfollowed := true, recurses := true, named := ["wapentake/sha.initials", "wapentake/sha.constants"], apart := false, laid := [("wapentake/sha.initials", laid_wapentake_sha_initials), ("wapentake/sha.constants", laid_wapentake_sha_constants)], narrowed := true }
def TrieClashUptoSaid : Prop := trieClashUptoRow.holds Tryd.pinned (OpenSpec.upto trieClashSpec)

/-- 'wapentakelaw04.TrieBinds', WHERE WHAT IT READS IS OF BULK AT MOST 1048576: true; the input reads as it did. -/
def trieBindsUptoRow : OpenClaim := { program := "ytapbaonlboefeaadoor", sum := "774dd6bb97bc45b92c08b41b59378149a4c9533ef0f44e6ee394847c9bd6e45b", func := "wapentake/wapentakelaw04.TrieBinds", spec := "trieBinds", inPlace := ["internal/bytealg.Compare"], unfollowed := true, recurses := true, named := ["wapentake/sha.initials", "wapentake/sha.constants"], apart := false, laid := [("wapentake/sha.initials", laid_wapentake_sha_initials), ("wapentake/sha.constants", laid_wapentake_sha_constants)], narrowed := true }
def TrieBindsUptoSaid : Prop := trieBindsUptoRow.holds Tryd.pinned (OpenSpec.upto trieBindsSpec)

/-- 'wapentakelaw04.TrieApart', WHERE WHAT IT READS IS OF BULK AT MOST 1048576: true; the input reads as it did. -/
def trieApartUptoRow : OpenClaim := { program := "ytapbaonlboefeaadoor", sum := "774dd6bb97bc45b92c08b41b59378149a4c9533ef0f44e6ee394847c9bd6e45b", func := "wapentake/wapentakelaw04.TrieApart", spec := "trieApart", inPlace := ["internal/bytealg.Compare"], unfollowed := true, recurses := true, named := ["wapentake/sha.initials", "wapentake/sha.constants"], apart := false, laid := [("wapentake/sha.initials", laid_wapentake_sha_initials), ("wapentake/sha.constants", laid_wapentake_sha_constants)], narrowed := true }
def TrieApartUptoSaid : Prop := trieApartUptoRow.holds Tryd.pinned (OpenSpec.upto trieApartSpec)

end Rows
end Go.Proofs.YtapbaonlboefeaaDoor
