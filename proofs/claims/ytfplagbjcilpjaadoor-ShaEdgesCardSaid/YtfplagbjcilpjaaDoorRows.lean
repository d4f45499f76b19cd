/-
  NARROWER THAN 'FOR EVERY INPUT', by the rows' own cells (each row's printed sentence says how): MerkleSums: laid · MerkleRoots: laid · MerkleProofs: laid · MerkleChecks: laid · MerkleWays: laid · MerkleBack: laid · MerkleHalves: laid · ShaEdges: laid · KdfKeys: laid.
  DERIVED. THE GIVEN ROWS OF THIS SEAT. 9 by the template 'for every input the law returns true; each argument reads behind the call as it read before'; 0 by the template 'total and deterministic' (their statements: YtfplagbjcilpjaaDoorTotals.lean).
  GIVEN WITH THE SEED: the statements are not yours to turn. If you find one false, say at which input.
  Laid BY PROGRAM, IN A SANDBOX (cutbox-rows.mjs): the forced cells as the released guide's own fill.sh prints them over the translation 80fba7380d4747eb… (all of the seat's roots in one cut). By AI agents, Wed Nov 11 2026. No macro, syntax, notation, axiom, sorry.
-/
import Derived.Test.YtfplagbjcilpjaaDoorChecked
import GoSem.Claim
import GoSem.ClaimJoined
import GoSem.ClaimMapViews
import Derived.JoinedTies
import Derived.KernelRfl
namespace Go.Proofs.YtfplagbjcilpjaaDoor
/- THE CELL 'sum', in the pinned program and in every row, IS THE sha256 OF THE DUMP (.gsa) THAT YtfplagbjcilpjaaDoorProg.lean LOADS. Nothing in Lean hashes anything: it is a label: what it is worth is what the hold of that sum in a sandbox is worth. -/
noncomputable def Tryd.pinned : Pinned := { name := "ytfplagbjcilpjaadoor", sum := "80fba7380d4747eb8b6729074a6a085ef438a4ca476cf41ec65a62284587d3f8", checked := Tryd.checked }
namespace Rows
def none {H : Type} : Left H := { results := [], args := [] }

/- WHAT THE LISTED PACKAGE-LEVEL VARIABLES READ AS WHEN THE CALL BEGINS. Each datum BY PROGRAM (the guide's laid-datum.mjs) off the statement by which the dump's own 'gosem.cut.vars' lays the variable. In a bare row this is a premise. The card (YtfplagbjcilpjaaDoorCards.lean) ties it to the program's text. -/
def laid_sledge_sha_roundWords {H : Type} : DataW H := .agg [.lit (.int .u32 1116352408), .lit (.int .u32 1899447441), .lit (.int .u32 3049323471), .lit (.int .u32 3921009573), .lit (.int .u32 961987163), .lit (.int .u32 1508970993), .lit (.int .u32 2453635748), .lit (.int .u32 2870763221), .lit (.int .u32 3624381080), .lit (.int .u32 310598401), .lit (.int .u32 607225278), .lit (.int .u32 1426881987), .lit (.int .u32 1925078388), .lit (.int .u32 2162078206), .lit (.int .u32 2614888103), .lit (.int .u32 3248222580), .lit (.int .u32 3835390401), .lit (.int .u32 4022224774), .lit (.int .u32 264347078), .lit (.int .u32 604807628), .lit (.int .u32 770255983), .lit (.int .u32 1249150122), .lit (.int .u32 1555081692), .lit (.int .u32 1996064986), .lit (.int .u32 2554220882), .lit (.int .u32 2821834349), .lit (.int .u32 2952996808), .lit (.int .u32 3210313671), .lit (.int .u32 3336571891), .lit (.int .u32 3584528711), .lit (.int .u32 113926993), .lit (.int .u32 338241895), .lit (.int .u32 666307205), .lit (.int .u32 773529912), .lit (.int .u32 1294757372), .lit (.int .u32 1396182291), .lit (.int .u32 1695183700), .lit (.int .u32 1986661051), .lit (.int .u32 2177026350), .lit (.int .u32 2456956037), .lit (.int .u32 2730485921), .lit (.int .u32 2820302411), .lit (.int .u32 3259730800), .lit (.int .u32 3345764771), .lit (.int .u32 3516065817), .lit (.int .u32 3600352804), .lit (.int .u32 4094571909), .lit (.int .u32 275423344), .lit (.int .u32 430227734), .lit (.int .u32 506948616), .lit (.int .u32 659060556), .lit (.int .u32 883997877), .lit (.int .u32 958139571), .lit (.int .u32 1322822218), .lit (.int .u32 1537002063), .lit (.int .u32 1747873779), .lit (.int .u32 1955562222), .lit (.int .u32 2024104815), .lit (.int .u32 2227730452), .lit (.int .u32 2361852424), .lit (.int .u32 2428436474), .lit (.int .u32 2756734187), .lit (.int .u32 3204031479), .lit (.int .u32 3329325298)]

/-- 'sledgelaw15.MerkleSums': WHATEVER THE INPUT: true; the input reads as it did. -/
def merkleSumsSpec : ChangeSpec := { name := "merkleSums", fn := fun _ => fun
  | [d1, d2, d3] => { results := [.lit (.bool true)], args := [d1, d2, d3] }
  | _ => none }
def merkleSumsRow : OpenClaim := { program := "ytfplagbjcilpjaadoor", sum := "80fba7380d4747eb8b6729074a6a085ef438a4ca476cf41ec65a62284587d3f8", func := "sledge/sledgelaw15.MerkleSums", spec := "merkleSums", unfollowed := true, recurses := true, named := ["sledge/sha.roundWords"], apart := false, laid := [("sledge/sha.roundWords", laid_sledge_sha_roundWords)] }
def MerkleSumsSaid : Prop := merkleSumsRow.holds Tryd.pinned (OpenSpec.ofChange merkleSumsSpec)

/-- ITS FALSE NEIGHBOUR: 'it returns false'. Refute it at one input. -/
def merkleSumsWrong : ChangeSpec := { name := "merkleSums", fn := fun _ => fun
  | [d1, d2, d3] => { results := [.lit (.bool false)], args := [d1, d2, d3] }
  | _ => none }
def MerkleSumsWrongFalsely : Prop := merkleSumsRow.holds Tryd.pinned (OpenSpec.ofChange merkleSumsWrong)

/-- 'sledgelaw15.MerkleRoots': WHATEVER THE INPUT: true; the input reads as it did. -/
def merkleRootsSpec : ChangeSpec := { name := "merkleRoots", fn := fun _ => fun
  | [d1, d2, d3] => { results := [.lit (.bool true)], args := [d1, d2, d3] }
  | _ => none }
def merkleRootsRow : OpenClaim := { program := "ytfplagbjcilpjaadoor", sum := "80fba7380d4747eb8b6729074a6a085ef438a4ca476cf41ec65a62284587d3f8", func := "sledge/sledgelaw15.MerkleRoots", spec := "merkleRoots", unfollowed := true, recurses := true, named := ["sledge/sha.roundWords"], apart := false, laid := [("sledge/sha.roundWords", laid_sledge_sha_roundWords)] }
def MerkleRootsSaid : Prop := merkleRootsRow.holds Tryd.pinned (OpenSpec.ofChange merkleRootsSpec)

/-- ITS FALSE NEIGHBOUR: 'it returns false'. Refute it at one input. -/
def merkleRootsWrong : ChangeSpec := { name := "merkleRoots", fn := fun _ => fun
  | [d1, d2, d3] => { results := [.lit (.bool false)], args := [d1, d2, d3] }
  | _ => none }
def MerkleRootsWrongFalsely : Prop := merkleRootsRow.holds Tryd.pinned (OpenSpec.ofChange merkleRootsWrong)

/-- 'sledgelaw15.MerkleProofs': WHATEVER THE INPUT: true; the input reads as it did. -/
def merkleProofsSpec : ChangeSpec := { name := "merkleProofs", fn := fun _ => fun
  | [d1, d2, d3] => { results := [.lit (.bool true)], args := [d1, d2, d3] }
  | _ => none }
def merkleProofsRow : OpenClaim := { program := "ytfplagbjcilpjaadoor", sum := "80fba7380d4747eb8b6729074a6a085ef438a4ca476cf41ec65a62284587d3f8", func := "sledge/sledgelaw15.MerkleProofs", spec := "merkleProofs", unfollowed := true, recurses := true, named := ["sledge/sha.roundWords"], apart := false, laid := [("sledge/sha.roundWords", laid_sledge_sha_roundWords)] }
def MerkleProofsSaid : Prop := merkleProofsRow.holds Tryd.pinned (OpenSpec.ofChange merkleProofsSpec)

/-- ITS FALSE NEIGHBOUR: 'it returns false'. Refute it at one input. -/
def merkleProofsWrong : ChangeSpec := { name := "merkleProofs", fn := fun _ => fun
  | [d1, d2, d3] => { results := [.lit (.bool false)], args := [d1, d2, d3] }
  | _ => none }
def MerkleProofsWrongFalsely : Prop := merkleProofsRow.holds Tryd.pinned (OpenSpec.ofChange merkleProofsWrong)

/-- 'sledgelaw15.MerkleChecks': WHATEVER THE INPUT: true; the input reads as it did. -/
def merkleChecksSpec : ChangeSpec := { name := "merkleChecks", fn := fun _ => fun
  | [d1, d2, d3, d4, d5, d6] => { results := [.lit (.bool true)], args := [d1, d2, d3, d4, d5, d6] }
  | _ => none }
def merkleChecksRow : OpenClaim := { program := "ytfplagbjcilpjaadoor", sum := "80fba7380d4747eb8b6729074a6a085ef438a4ca476cf41ec65a62284587d3f8", func := "sledge/sledgelaw15.MerkleChecks", spec := "merkleChecks", unfollowed := true, recurses := true, named := ["sledge/sha.roundWords"], apart := false, laid := [("sledge/sha.roundWords", laid_sledge_sha_roundWords)] }
def MerkleChecksSaid : Prop := merkleChecksRow.holds Tryd.pinned (OpenSpec.ofChange merkleChecksSpec)

/-- ITS FALSE NEIGHBOUR: 'it returns false'. Refute it at one input. -/
def merkleChecksWrong : ChangeSpec := { name := "merkleChecks", fn := fun _ => fun
  | [d1, d2, d3, d4, d5, d6] => { results := [.lit (.bool false)], args := [d1, d2, d3, d4, d5, d6] }
  | _ => none }
def MerkleChecksWrongFalsely : Prop := merkleChecksRow.holds Tryd.pinned (OpenSpec.ofChange merkleChecksWrong)

/-- 'sledgelaw15.MerkleWays': WHATEVER THE INPUT: true; the input reads as it did. -/
def merkleWaysSpec : ChangeSpec := { name := "merkleWays", fn := fun _ => fun
  | [d1, d2] => { results := [.lit (.bool true)], args := [d1, d2] }
  | _ => none }
def merkleWaysRow : OpenClaim := { program := "ytfplagbjcilpjaadoor", sum := "80fba7380d4747eb8b6729074a6a085ef438a4ca476cf41ec65a62284587d3f8", func := "sledge/sledgelaw15.MerkleWays", spec := "merkleWays", unfollowed := true, recurses := true, named := ["sledge/sha.roundWords"], apart := false, laid := [("sledge/sha.roundWords", laid_sledge_sha_roundWords)] }
def MerkleWaysSaid : Prop := merkleWaysRow.holds Tryd.pinned (OpenSpec.ofChange merkleWaysSpec)

/-- ITS FALSE NEIGHBOUR: 'it returns false'. Refute it at one input. -/
def merkleWaysWrong : ChangeSpec := { name := "merkleWays", fn := fun _ => fun
  | [d1, d2] => { results := [.lit (.bool false)], args := [d1, d2] }
  | _ => none }
def MerkleWaysWrongFalsely : Prop := merkleWaysRow.holds Tryd.pinned (OpenSpec.ofChange merkleWaysWrong)

/-- 'sledgelaw15.MerkleBack': WHATEVER THE INPUT: true; the input reads as it did. -/
def merkleBackSpec : ChangeSpec := { name := "merkleBack", fn := fun _ => fun
  | [d1, d2, d3] => { results := [.lit (.bool true)], args := [d1, d2, d3] }
  | _ => none }
def merkleBackRow : OpenClaim := { program := "ytfplagbjcilpjaadoor", sum := "80fba7380d4747eb8b6729074a6a085ef438a4ca476cf41ec65a62284587d3f8", func := "sledge/sledgelaw15.MerkleBack", spec := "merkleBack", unfollowed := true, recurses := true, named := ["sledge/sha.roundWords"], apart := false, laid := [("sledge/sha.roundWords", laid_sledge_sha_roundWords)] }
def MerkleBackSaid : Prop := merkleBackRow.holds Tryd.pinned (OpenSpec.ofChange merkleBackSpec)

/-- ITS FALSE NEIGHBOUR: 'it returns false'. Refute it at one input. -/
def merkleBackWrong : ChangeSpec := { name := "merkleBack", fn := fun _ => fun
  | [d1, d2, d3] => { results := [.lit (.bool false)], args := [d1, d2, d3] }
  | _ => none }
def MerkleBackWrongFalsely : Prop := merkleBackRow.holds Tryd.pinned (OpenSpec.ofChange merkleBackWrong)

/-- 'sledgelaw15.MerkleHalves': WHATEVER THE INPUT: true; the input reads as it did. -/
def merkleHalvesSpec : ChangeSpec := { name := "merkleHalves", fn := fun _ => fun
  | [d1, d2, d3] => { results := [.lit (.bool true)], args := [d1, d2, d3] }
  | _ => none }
def merkleHalvesRow : OpenClaim := { program := "ytfplagbjcilpjaadoor", sum := "80fba7380d4747eb8b6729074a6a085ef438a4ca476cf41ec65a62284587d3f8", func := "sledge/sledgelaw15.MerkleHalves", spec := "merkleHalves", unfollowed := true, recurses := true, named := ["sledge/sha.roundWords"], apart := false, laid := [("sledge/sha.roundWords", laid_sledge_sha_roundWords)] }
def MerkleHalvesSaid : Prop := merkleHalvesRow.holds Tryd.pinned (OpenSpec.ofChange merkleHalvesSpec)

/-- ITS FALSE NEIGHBOUR: 'it returns false'. Refute it at one input. -/
def merkleHalvesWrong : ChangeSpec := { name := "merkleHalves", fn := fun _ => fun
  | [d1, d2, d3] => { results := [.lit (.bool false)], args := [d1, d2, d3] }
  | _ => none }
def MerkleHalvesWrongFalsely : Prop := merkleHalvesRow.holds Tryd.pinned (OpenSpec.ofChange merkleHalvesWrong)

/-- 'sledgelaw02.ShaEdges': WHATEVER THE INPUT: true; the input reads as it did. -/
def shaEdgesSpec : ChangeSpec := { name := "shaEdges", fn := fun _ => fun
  | [d1, d2, d3] => { results := [.lit (.bool true)], args := [d1, d2, d3] }
  | _ => none }
def shaEdgesRow : OpenClaim := { program := "ytfplagbjcilpjaadoor", sum := "80fba7380d4747eb8b6729074a6a085ef438a4ca476cf41ec65a62284587d3f8", func := "sledge/sledgelaw02.ShaEdges", spec := "shaEdges", named := ["sledge/sha.roundWords"], apart := false, laid := [("sledge/sha.roundWords", laid_sledge_sha_roundWords)] }
def ShaEdgesSaid : Prop := shaEdgesRow.holds Tryd.pinned (OpenSpec.ofChange shaEdgesSpec)

/-- ITS FALSE NEIGHBOUR: 'it returns false'. Refute it at one input. -/
def shaEdgesWrong : ChangeSpec := { name := "shaEdges", fn := fun _ => fun
  | [d1, d2, d3] => { results := [.lit (.bool false)], args := [d1, d2, d3] }
  | _ => none }
def ShaEdgesWrongFalsely : Prop := shaEdgesRow.holds Tryd.pinned (OpenSpec.ofChange shaEdgesWrong)

/-- 'sledgelaw05.KdfKeys': WHATEVER THE INPUT: true; the input reads as it did. -/
def kdfKeysSpec : ChangeSpec := { name := "kdfKeys", fn := fun _ => fun
  | [d1, d2, d3] => { results := [.lit (.bool true)], args := [d1, d2, d3] }
  | _ => none }
def kdfKeysRow : OpenClaim := { program := "ytfplagbjcilpjaadoor", sum := "80fba7380d4747eb8b6729074a6a085ef438a4ca476cf41ec65a62284587d3f8", func := "sledge/sledgelaw05.KdfKeys", spec := "kdfKeys", named := ["sledge/sha.roundWords"], apart := false, laid := [("sledge/sha.roundWords", laid_sledge_sha_roundWords)] }
def KdfKeysSaid : Prop := kdfKeysRow.holds Tryd.pinned (OpenSpec.ofChange kdfKeysSpec)

/-- ITS FALSE NEIGHBOUR: 'it returns false'. Refute it at one input. -/
def kdfKeysWrong : ChangeSpec := { name := "kdfKeys", fn := fun _ => fun
  | [d1, d2, d3] => { results := [.lit (.bool false)], args := [d1, d2, d3] }
  | _ => none }
def KdfKeysWrongFalsely : Prop := kdfKeysRow.holds Tryd.pinned (OpenSpec.ofChange kdfKeysWrong)

/- THE SECOND FORM. 'bulk': how many values and letters a reading holds, each counted each time it is reached (what is shared counts as often as it is met; a slice's spare places count too). A statement '..UptoSaid' is the law's where the arguments, and the package variables that the reading takes, are together of bulk at most 1048576: NARROWER than '..Said'. Prove '..Said' where nothing that the law and all that it calls make is longer than what came in: it says more and counts as full. Else prove '..UptoSaid'. A law counts once. -/
mutual
def uptoBulk {H : Type} : DataW H → Nat
  | .lit (.string bytes) => bytes.length + 1
  | .lit _ => 1
  | .nil => 1
  | .ptr d => uptoBulk d + 1
  | .slice elems spare => uptoBulkAll elems + uptoBulkAll spare + 1
  | .agg parts => uptoBulkAll parts + 1
  | .iface _ d => uptoBulk d + 1
  | .map entries => uptoBulkEntries entries + 1
  | .held _ => 1
def uptoBulkAll {H : Type} : List (DataW H) → Nat
  | [] => 0
  | d :: r => uptoBulk d + uptoBulkAll r
def uptoBulkEntries {H : Type} : List (Lit × DataW H) → Nat
  | [] => 0
  | x :: r => uptoBulkEntry x + uptoBulkEntries r
def uptoBulkEntry {H : Type} : Lit × DataW H → Nat
  | (.string bytes, d) => bytes.length + uptoBulk d + 1
  | (_, d) => uptoBulk d + 1
 end
def uptoSmall : (H : Type) → List (DataW H) → Bool := fun _ ds => decide (uptoBulkAll ds ≤ 1048576)
def OpenSpec.upto (s : _root_.Go.ChangeSpec) : _root_.Go.OpenSpec := { _root_.Go.OpenSpec.ofChange s with cond := some uptoSmall }

/-- 'sledgelaw15.MerkleSums', WHERE WHAT IT READS IS OF BULK AT MOST 1048576: true; the input reads as it did. -/
def merkleSumsUptoRow : OpenClaim := { program := "ytfplagbjcilpjaadoor", sum := "80fba7380d4747eb8b6729074a6a085ef438a4ca476cf41ec65a62284587d3f8", func := "sledge/sledgelaw15.MerkleSums", spec := "merkleSums", unfollowed := true, recurses := true, named := ["sledge/sha.roundWords"], apart := false, laid := [("sledge/sha.roundWords", laid_sledge_sha_roundWords)], narrowed := true }
def MerkleSumsUptoSaid : Prop := merkleSumsUptoRow.holds Tryd.pinned (OpenSpec.upto merkleSumsSpec)

/-- 'sledgelaw15.MerkleRoots', WHERE WHAT IT READS IS OF BULK AT MOST 1048576: true; the input reads as it did. -/
def merkleRootsUptoRow : OpenClaim := { program := "ytfplagbjcilpjaadoor", sum := "80fba7380d4747eb8b6729074a6a085ef438a4ca476cf41ec65a62284587d3f8", func := "sledge/sledgelaw15.MerkleRoots", spec := "merkleRoots", unfollowed := true, recurses := true, named := ["sledge/sha.roundWords"], apart := false, laid := [("sledge/sha.roundWords", laid_sledge_sha_roundWords)], narrowed := true }
def MerkleRootsUptoSaid : Prop := merkleRootsUptoRow.holds Tryd.pinned (OpenSpec.upto merkleRootsSpec)

/-- 'sledgelaw15.MerkleProofs', WHERE WHAT IT READS IS OF BULK AT MOST 1048576: true; the input reads as it did. -/
def merkleProofsUptoRow : OpenClaim := { program := "ytfplagbjcilpjaadoor", sum := "80fba7380d4747eb8b6729074a6a085ef438a4ca476cf41ec65a62284587d3f8", func := "sledge/sledgelaw15.MerkleProofs", spec := "merkleProofs", unfollowed := true, recurses := true, named := ["sledge/sha.roundWords"], apart := false, laid := [("sledge/sha.roundWords", laid_sledge_sha_roundWords)], narrowed := true }
def MerkleProofsUptoSaid : Prop := merkleProofsUptoRow.holds Tryd.pinned (OpenSpec.upto merkleProofsSpec)

/-- 'sledgelaw15.MerkleChecks', WHERE WHAT IT READS IS OF BULK AT MOST 1048576: true; the input reads as it did. -/
def merkleChecksUptoRow : OpenClaim := { program := "ytfplagbjcilpjaadoor", sum := "80fba7380d4747eb8b6729074a6a085ef438a4ca476cf41ec65a62284587d3f8", func := "sledge/sledgelaw15.MerkleChecks", spec := "merkleChecks", unfollowed := true, recurses := true, named := ["sledge/sha.roundWords"], apart := false, laid := [("sledge/sha.roundWords", laid_sledge_sha_roundWords)], narrowed := true }
def MerkleChecksUptoSaid : Prop := merkleChecksUptoRow.holds Tryd.pinned (OpenSpec.upto merkleChecksSpec)

/-- 'sledgelaw15.MerkleWays', WHERE WHAT IT READS IS OF BULK AT MOST 1048576: true; the input reads as it did. -/
def merkleWaysUptoRow : OpenClaim := { program := "ytfplagbjcilpjaadoor", sum := "80fba7380d4747eb8b6729074a6a085ef438a4ca476cf41ec65a62284587d3f8", func := "sledge/sledgelaw15.MerkleWays", spec := "merkleWays", unfollowed := true, recurses := true, named := ["sledge/sha.roundWords"], apart := false, laid := [("sledge/sha.roundWords", laid_sledge_sha_roundWords)], narrowed := true }
def MerkleWaysUptoSaid : Prop := merkleWaysUptoRow.holds Tryd.pinned (OpenSpec.upto merkleWaysSpec)

/-- 'sledgelaw15.MerkleBack', WHERE WHAT IT READS IS OF BULK AT MOST 1048576: true; the input reads as it did. -/
def merkleBackUptoRow : OpenClaim := { program := "ytfplagbjcilpjaadoor", sum := "80fba7380d4747eb8b6729074a6a085ef438a4ca476cf41ec65a62284587d3f8", func := "sledge/sledgelaw15.MerkleBack", spec := "merkleBack", unfollowed := true, recurses := true, named := ["sledge/sha.roundWords"], apart := false, laid := [("sledge/sha.roundWords", laid_sledge_sha_roundWords)], narrowed := true }
def MerkleBackUptoSaid : Prop := merkleBackUptoRow.holds Tryd.pinned (OpenSpec.upto merkleBackSpec)

/-- 'sledgelaw15.MerkleHalves', WHERE WHAT IT READS IS OF BULK AT MOST 1048576: true; the input reads as it did. -/
def merkleHalvesUptoRow : OpenClaim := { program := "ytfplagbjcilpjaadoor", sum := "80fba7380d4747eb8b6729074a6a085ef438a4ca476cf41ec65a62284587d3f8", func := "sledge/sledgelaw15.MerkleHalves", spec := "merkleHalves", unfollowed := true, recurses := true, named := ["sledge/sha.roundWords"], apart := false, laid := [("sledge/sha.roundWords", laid_sledge_sha_roundWords)], narrowed := true }
def MerkleHalvesUptoSaid : Prop := merkleHalvesUptoRow.holds Tryd.pinned (OpenSpec.upto merkleHalvesSpec)

/-- 'sledgelaw02.ShaEdges', WHERE WHAT IT READS IS OF BULK AT MOST 1048576: true; the input reads as it did. -/
def shaEdgesUptoRow : OpenClaim := { program := "ytfplagbjcilpjaadoor", sum := "80fba7380d4747eb8b6729074a6a085ef438a4ca476cf41ec65a62284587d3f8", func := "sledge/sledgelaw02.ShaEdges", spec := "shaEdges", named := ["sledge/sha.roundWords"], apart := false, laid := [("sledge/sha.roundWords", laid_sledge_sha_roundWords)], narrowed := true }
def ShaEdgesUptoSaid : Prop := shaEdgesUptoRow.holds Tryd.pinned (OpenSpec.upto shaEdgesSpec)

/-- 'sledgelaw05.KdfKeys', WHERE WHAT IT READS IS OF BULK AT MOST 1048576: true; the input reads as it did. -/
def kdfKeysUptoRow : OpenClaim := { program := "ytfplagbjcilpjaadoor", sum := "80fba7380d4747eb8b6729074a6a085ef438a4ca476cf41ec65a62284587d3f8", func := "sledge/sledgelaw05.KdfKeys", spec := "kdfKeys", named := ["sledge/sha.roundWords"], apart := false, laid := [("sledge/sha.roundWords", laid_sledge_sha_roundWords)], narrowed := true }
def KdfKeysUptoSaid : Prop := kdfKeysUptoRow.holds Tryd.pinned (OpenSpec.upto kdfKeysSpec)

end Rows
end Go.Proofs.YtfplagbjcilpjaaDoor
