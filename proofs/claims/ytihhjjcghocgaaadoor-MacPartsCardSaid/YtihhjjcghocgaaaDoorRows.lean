/-
  NARROWER THAN 'FOR EVERY INPUT', by the rows' own cells (each row's printed sentence says how): ShaParts: laid · ShaWrites: laid · ShaNone: laid · ShaEdges: laid · MacParts: laid · MacEquals: laid · MacSteps: laid · KdfExpands: laid · KdfExtracts: laid · KdfBegins: laid · KdfKeys: laid · KdfMost: laid.
  DERIVED. THE GIVEN ROWS OF THIS SEAT. 12 by the template 'for every input the law returns true; each argument reads behind the call as it read before'; 0 by the template 'total and deterministic' (their statements: YtihhjjcghocgaaaDoorTotals.lean).
  GIVEN WITH THE SEED: the statements are not yours to turn. If you find one false, say at which input.
  Laid BY PROGRAM, IN A SANDBOX (cutbox-rows.mjs): the forced cells as the released guide's own fill.sh prints them over the translation b3fc434f48321a48… (all of the seat's roots in one cut). By AI agents, Wed Nov 11 2026. No macro, syntax, notation, axiom, sorry.
-/
import Derived.Test.YtihhjjcghocgaaaDoorChecked
import GoSem.Claim
import GoSem.ClaimJoined
import GoSem.ClaimMapViews
import Derived.JoinedTies
import Derived.KernelRfl
namespace Go.Proofs.YtihhjjcghocgaaaDoor
/- THE CELL 'sum', in the pinned program and in every row, IS THE sha256 OF THE DUMP (.gsa) THAT YtihhjjcghocgaaaDoorProg.lean LOADS. Nothing in Lean hashes anything: it is a label: what it is worth is what the hold of that sum in a sandbox is worth. -/
noncomputable def Tryd.pinned : Pinned := { name := "ytihhjjcghocgaaadoor", sum := "b3fc434f48321a48e3baf6cf5c8c473fdba1eb3c20230d656afdfb982b2540ad", checked := Tryd.checked }
namespace Rows
def none {H : Type} : Left H := { results := [], args := [] }

/- WHAT THE LISTED PACKAGE-LEVEL VARIABLES READ AS WHEN THE CALL BEGINS. Each datum BY PROGRAM (the guide's laid-datum.mjs) off the statement by which the dump's own 'gosem.cut.vars' lays the variable. In a bare row this is a premise. The card (YtihhjjcghocgaaaDoorCards.lean) ties it to the program's text. -/
def laid_sledge_sha_roundWords {H : Type} : DataW H := .agg [.lit (.int .u32 1116352408), .lit (.int .u32 1899447441), .lit (.int .u32 3049323471), .lit (.int .u32 3921009573), .lit (.int .u32 961987163), .lit (.int .u32 1508970993), .lit (.int .u32 2453635748), .lit (.int .u32 2870763221), .lit (.int .u32 3624381080), .lit (.int .u32 310598401), .lit (.int .u32 607225278), .lit (.int .u32 1426881987), .lit (.int .u32 1925078388), .lit (.int .u32 2162078206), .lit (.int .u32 2614888103), .lit (.int .u32 3248222580), .lit (.int .u32 3835390401), .lit (.int .u32 4022224774), .lit (.int .u32 264347078), .lit (.int .u32 604807628), .lit (.int .u32 770255983), .lit (.int .u32 1249150122), .lit (.int .u32 1555081692), .lit (.int .u32 1996064986), .lit (.int .u32 2554220882), .lit (.int .u32 2821834349), .lit (.int .u32 2952996808), .lit (.int .u32 3210313671), .lit (.int .u32 3336571891), .lit (.int .u32 3584528711), .lit (.int .u32 113926993), .lit (.int .u32 338241895), .lit (.int .u32 666307205), .lit (.int .u32 773529912), .lit (.int .u32 1294757372), .lit (.int .u32 1396182291), .lit (.int .u32 1695183700), .lit (.int .u32 1986661051), .lit (.int .u32 2177026350), .lit (.int .u32 2456956037), .lit (.int .u32 2730485921), .lit (.int .u32 2820302411), .lit (.int .u32 3259730800), .lit (.int .u32 3345764771), .lit (.int .u32 3516065817), .lit (.int .u32 3600352804), .lit (.int .u32 4094571909), .lit (.int .u32 275423344), .lit (.int .u32 430227734), .lit (.int .u32 506948616), .lit (.int .u32 659060556), .lit (.int .u32 883997877), .lit (.int .u32 958139571), .lit (.int .u32 1322822218), .lit (.int .u32 1537002063), .lit (.int .u32 1747873779), .lit (.int .u32 1955562222), .lit (.int .u32 2024104815), .lit (.int .u32 2227730452), .lit (.int .u32 2361852424), .lit (.int .u32 2428436474), .lit (.int .u32 2756734187), .lit (.int .u32 3204031479), .lit (.int .u32 3329325298)]

/-- 'sledgelaw02.ShaParts': WHATEVER THE INPUT: true; the input reads as it did. -/
def shaPartsSpec : ChangeSpec := { name := "shaParts", fn := fun _ => fun
  | [d] => { results := [.lit (.bool true)], args := [d] }
  | _ => none }
def shaPartsRow : OpenClaim := { program := "ytihhjjcghocgaaadoor", sum := "b3fc434f48321a48e3baf6cf5c8c473fdba1eb3c20230d656afdfb982b2540ad", func := "sledge/sledgelaw02.ShaParts", spec := "shaParts", named := ["sledge/sha.roundWords"], apart := false, laid := [("sledge/sha.roundWords", laid_sledge_sha_roundWords)] }
def ShaPartsSaid : Prop := shaPartsRow.holds Tryd.pinned (OpenSpec.ofChange shaPartsSpec)

/-- ITS FALSE NEIGHBOUR: 'it returns false'. Refute it at one input. -/
def shaPartsWrong : ChangeSpec := { name := "shaParts", fn := fun _ => fun
  | [d] => { results := [.lit (.bool false)], args := [d] }
  | _ => none }
def ShaPartsWrongFalsely : Prop := shaPartsRow.holds Tryd.pinned (OpenSpec.ofChange shaPartsWrong)

/-- 'sledgelaw02.ShaWrites': WHATEVER THE INPUT: true; the input reads as it did. -/
def shaWritesSpec : ChangeSpec := { name := "shaWrites", fn := fun _ => fun
  | [d] => { results := [.lit (.bool true)], args := [d] }
  | _ => none }
def shaWritesRow : OpenClaim := { program := "ytihhjjcghocgaaadoor", sum := "b3fc434f48321a48e3baf6cf5c8c473fdba1eb3c20230d656afdfb982b2540ad", func := "sledge/sledgelaw02.ShaWrites", spec := "shaWrites", named := ["sledge/sha.roundWords"], apart := false, laid := [("sledge/sha.roundWords", laid_sledge_sha_roundWords)] }
def ShaWritesSaid : Prop := shaWritesRow.holds Tryd.pinned (OpenSpec.ofChange shaWritesSpec)

/-- ITS FALSE NEIGHBOUR: 'it returns false'. Refute it at one input. -/
def shaWritesWrong : ChangeSpec := { name := "shaWrites", fn := fun _ => fun
  | [d] => { results := [.lit (.bool false)], args := [d] }
  | _ => none }
def ShaWritesWrongFalsely : Prop := shaWritesRow.holds Tryd.pinned (OpenSpec.ofChange shaWritesWrong)

/-- 'sledgelaw02.ShaNone': WHATEVER THE INPUT: true; the input reads as it did. -/
def shaNoneSpec : ChangeSpec := { name := "shaNone", fn := fun _ => fun
  | [d] => { results := [.lit (.bool true)], args := [d] }
  | _ => none }
def shaNoneRow : OpenClaim := { program := "ytihhjjcghocgaaadoor", sum := "b3fc434f48321a48e3baf6cf5c8c473fdba1eb3c20230d656afdfb982b2540ad", func := "sledge/sledgelaw02.ShaNone", spec := "shaNone", named := ["sledge/sha.roundWords"], apart := false, laid := [("sledge/sha.roundWords", laid_sledge_sha_roundWords)] }
def ShaNoneSaid : Prop := shaNoneRow.holds Tryd.pinned (OpenSpec.ofChange shaNoneSpec)

/-- ITS FALSE NEIGHBOUR: 'it returns false'. Refute it at one input. -/
def shaNoneWrong : ChangeSpec := { name := "shaNone", fn := fun _ => fun
  | [d] => { results := [.lit (.bool false)], args := [d] }
  | _ => none }
def ShaNoneWrongFalsely : Prop := shaNoneRow.holds Tryd.pinned (OpenSpec.ofChange shaNoneWrong)

/-- 'sledgelaw02.ShaEdges': WHATEVER THE INPUT: true; the input reads as it did. -/
def shaEdgesSpec : ChangeSpec := { name := "shaEdges", fn := fun _ => fun
  | [d1, d2, d3] => { results := [.lit (.bool true)], args := [d1, d2, d3] }
  | _ => none }
def shaEdgesRow : OpenClaim := { program := "ytihhjjcghocgaaadoor", sum := "b3fc434f48321a48e3baf6cf5c8c473fdba1eb3c20230d656afdfb982b2540ad", func := "sledge/sledgelaw02.ShaEdges", spec := "shaEdges", named := ["sledge/sha.roundWords"], apart := false, laid := [("sledge/sha.roundWords", laid_sledge_sha_roundWords)] }
def ShaEdgesSaid : Prop := shaEdgesRow.holds Tryd.pinned (OpenSpec.ofChange shaEdgesSpec)

/-- ITS FALSE NEIGHBOUR: 'it returns false'. Refute it at one input. -/
def shaEdgesWrong : ChangeSpec := { name := "shaEdges", fn := fun _ => fun
  | [d1, d2, d3] => { results := [.lit (.bool false)], args := [d1, d2, d3] }
  | _ => none }
def ShaEdgesWrongFalsely : Prop := shaEdgesRow.holds Tryd.pinned (OpenSpec.ofChange shaEdgesWrong)

/-- 'sledgelaw03.MacParts': WHATEVER THE INPUT: true; the input reads as it did. -/
def macPartsSpec : ChangeSpec := { name := "macParts", fn := fun _ => fun
  | [d1, d2] => { results := [.lit (.bool true)], args := [d1, d2] }
  | _ => none }
def macPartsRow : OpenClaim := { program := "ytihhjjcghocgaaadoor", sum := "b3fc434f48321a48e3baf6cf5c8c473fdba1eb3c20230d656afdfb982b2540ad", func := "sledge/sledgelaw03.MacParts", spec := "macParts", named := ["sledge/sha.roundWords"], apart := false, laid := [("sledge/sha.roundWords", laid_sledge_sha_roundWords)] }
def MacPartsSaid : Prop := macPartsRow.holds Tryd.pinned (OpenSpec.ofChange macPartsSpec)

/-- ITS FALSE NEIGHBOUR: 'it returns false'. Refute it at one input. -/
def macPartsWrong : ChangeSpec := { name := "macParts", fn := fun _ => fun
  | [d1, d2] => { results := [.lit (.bool false)], args := [d1, d2] }
  | _ => none }
def MacPartsWrongFalsely : Prop := macPartsRow.holds Tryd.pinned (OpenSpec.ofChange macPartsWrong)

/-- 'sledgelaw03.MacEquals': WHATEVER THE INPUT: true; the input reads as it did. -/
def macEqualsSpec : ChangeSpec := { name := "macEquals", fn := fun _ => fun
  | [d1, d2] => { results := [.lit (.bool true)], args := [d1, d2] }
  | _ => none }
def macEqualsRow : OpenClaim := { program := "ytihhjjcghocgaaadoor", sum := "b3fc434f48321a48e3baf6cf5c8c473fdba1eb3c20230d656afdfb982b2540ad", func := "sledge/sledgelaw03.MacEquals", spec := "macEquals", named := ["sledge/sha.roundWords"], apart := false, laid := [("sledge/sha.roundWords", laid_sledge_sha_roundWords)] }
def MacEqualsSaid : Prop := macEqualsRow.holds Tryd.pinned (OpenSpec.ofChange macEqualsSpec)

/-- ITS FALSE NEIGHBOUR: 'it returns false'. Refute it at one input. -/
def macEqualsWrong : ChangeSpec := { name := "macEquals", fn := fun _ => fun
  | [d1, d2] => { results := [.lit (.bool false)], args := [d1, d2] }
  | _ => none }
def MacEqualsWrongFalsely : Prop := macEqualsRow.holds Tryd.pinned (OpenSpec.ofChange macEqualsWrong)

/-- 'sledgelaw03.MacSteps': WHATEVER THE INPUT: true; the input reads as it did. -/
def macStepsSpec : ChangeSpec := { name := "macSteps", fn := fun _ => fun
  | [d1, d2, d3] => { results := [.lit (.bool true)], args := [d1, d2, d3] }
  | _ => none }
def macStepsRow : OpenClaim := { program := "ytihhjjcghocgaaadoor", sum := "b3fc434f48321a48e3baf6cf5c8c473fdba1eb3c20230d656afdfb982b2540ad", func := "sledge/sledgelaw03.MacSteps", spec := "macSteps", named := ["sledge/sha.roundWords"], apart := false, laid := [("sledge/sha.roundWords", laid_sledge_sha_roundWords)] }
def MacStepsSaid : Prop := macStepsRow.holds Tryd.pinned (OpenSpec.ofChange macStepsSpec)

/-- ITS FALSE NEIGHBOUR: 'it returns false'. Refute it at one input. -/
def macStepsWrong : ChangeSpec := { name := "macSteps", fn := fun _ => fun
  | [d1, d2, d3] => { results := [.lit (.bool false)], args := [d1, d2, d3] }
  | _ => none }
def MacStepsWrongFalsely : Prop := macStepsRow.holds Tryd.pinned (OpenSpec.ofChange macStepsWrong)

/-- 'sledgelaw05.KdfExpands': WHATEVER THE INPUT: true; the input reads as it did. -/
def kdfExpandsSpec : ChangeSpec := { name := "kdfExpands", fn := fun _ => fun
  | [d1, d2, d3] => { results := [.lit (.bool true)], args := [d1, d2, d3] }
  | _ => none }
def kdfExpandsRow : OpenClaim := { program := "ytihhjjcghocgaaadoor", sum := "b3fc434f48321a48e3baf6cf5c8c473fdba1eb3c20230d656afdfb982b2540ad", func := "sledge/sledgelaw05.KdfExpands", spec := "kdfExpands", named := ["sledge/sha.roundWords"], apart := false, laid := [("sledge/sha.roundWords", laid_sledge_sha_roundWords)] }
def KdfExpandsSaid : Prop := kdfExpandsRow.holds Tryd.pinned (OpenSpec.ofChange kdfExpandsSpec)

/-- ITS FALSE NEIGHBOUR: 'it returns false'. Refute it at one input. -/
def kdfExpandsWrong : ChangeSpec := { name := "kdfExpands", fn := fun _ => fun
  | [d1, d2, d3] => { results := [.lit (.bool false)], args := [d1, d2, d3] }
  | _ => none }
def KdfExpandsWrongFalsely : Prop := kdfExpandsRow.holds Tryd.pinned (OpenSpec.ofChange kdfExpandsWrong)

/-- 'sledgelaw05.KdfExtracts': WHATEVER THE INPUT: true; the input reads as it did. -/
def kdfExtractsSpec : ChangeSpec := { name := "kdfExtracts", fn := fun _ => fun
  | [d1, d2] => { results := [.lit (.bool true)], args := [d1, d2] }
  | _ => none }
def kdfExtractsRow : OpenClaim := { program := "ytihhjjcghocgaaadoor", sum := "b3fc434f48321a48e3baf6cf5c8c473fdba1eb3c20230d656afdfb982b2540ad", func := "sledge/sledgelaw05.KdfExtracts", spec := "kdfExtracts", named := ["sledge/sha.roundWords"], apart := false, laid := [("sledge/sha.roundWords", laid_sledge_sha_roundWords)] }
def KdfExtractsSaid : Prop := kdfExtractsRow.holds Tryd.pinned (OpenSpec.ofChange kdfExtractsSpec)

/-- ITS FALSE NEIGHBOUR: 'it returns false'. Refute it at one input. -/
def kdfExtractsWrong : ChangeSpec := { name := "kdfExtracts", fn := fun _ => fun
  | [d1, d2] => { results := [.lit (.bool false)], args := [d1, d2] }
  | _ => none }
def KdfExtractsWrongFalsely : Prop := kdfExtractsRow.holds Tryd.pinned (OpenSpec.ofChange kdfExtractsWrong)

/-- 'sledgelaw05.KdfBegins': WHATEVER THE INPUT: true; the input reads as it did. -/
def kdfBeginsSpec : ChangeSpec := { name := "kdfBegins", fn := fun _ => fun
  | [d1, d2, d3, d4] => { results := [.lit (.bool true)], args := [d1, d2, d3, d4] }
  | _ => none }
def kdfBeginsRow : OpenClaim := { program := "ytihhjjcghocgaaadoor", sum := "b3fc434f48321a48e3baf6cf5c8c473fdba1eb3c20230d656afdfb982b2540ad", func := "sledge/sledgelaw05.KdfBegins", spec := "kdfBegins", named := ["sledge/sha.roundWords"], apart := false, laid := [("sledge/sha.roundWords", laid_sledge_sha_roundWords)] }
def KdfBeginsSaid : Prop := kdfBeginsRow.holds Tryd.pinned (OpenSpec.ofChange kdfBeginsSpec)

/-- ITS FALSE NEIGHBOUR: 'it returns false'. Refute it at one input. -/
def kdfBeginsWrong : ChangeSpec := { name := "kdfBegins", fn := fun _ => fun
  | [d1, d2, d3, d4] => { results := [.lit (.bool false)], args := [d1, d2, d3, d4] }
  | _ => none }
def KdfBeginsWrongFalsely : Prop := kdfBeginsRow.holds Tryd.pinned (OpenSpec.ofChange kdfBeginsWrong)

/-- 'sledgelaw05.KdfKeys': WHATEVER THE INPUT: true; the input reads as it did. -/
def kdfKeysSpec : ChangeSpec := { name := "kdfKeys", fn := fun _ => fun
  | [d1, d2, d3] => { results := [.lit (.bool true)], args := [d1, d2, d3] }
  | _ => none }
def kdfKeysRow : OpenClaim := { program := "ytihhjjcghocgaaadoor", sum := "b3fc434f48321a48e3baf6cf5c8c473fdba1eb3c20230d656afdfb982b2540ad", func := "sledge/sledgelaw05.KdfKeys", spec := "kdfKeys", named := ["sledge/sha.roundWords"], apart := false, laid := [("sledge/sha.roundWords", laid_sledge_sha_roundWords)] }
def KdfKeysSaid : Prop := kdfKeysRow.holds Tryd.pinned (OpenSpec.ofChange kdfKeysSpec)

/-- ITS FALSE NEIGHBOUR: 'it returns false'. Refute it at one input. -/
def kdfKeysWrong : ChangeSpec := { name := "kdfKeys", fn := fun _ => fun
  | [d1, d2, d3] => { results := [.lit (.bool false)], args := [d1, d2, d3] }
  | _ => none }
def KdfKeysWrongFalsely : Prop := kdfKeysRow.holds Tryd.pinned (OpenSpec.ofChange kdfKeysWrong)

/-- 'sledgelaw05.KdfMost': WHATEVER THE INPUT: true; the input reads as it did. -/
def kdfMostSpec : ChangeSpec := { name := "kdfMost", fn := fun _ => fun
  | [d1, d2] => { results := [.lit (.bool true)], args := [d1, d2] }
  | _ => none }
def kdfMostRow : OpenClaim := { program := "ytihhjjcghocgaaadoor", sum := "b3fc434f48321a48e3baf6cf5c8c473fdba1eb3c20230d656afdfb982b2540ad", func := "sledge/sledgelaw05.KdfMost", spec := "kdfMost", named := ["sledge/sha.roundWords"], apart := false, laid := [("sledge/sha.roundWords", laid_sledge_sha_roundWords)] }
def KdfMostSaid : Prop := kdfMostRow.holds Tryd.pinned (OpenSpec.ofChange kdfMostSpec)

/-- ITS FALSE NEIGHBOUR: 'it returns false'. Refute it at one input. -/
def kdfMostWrong : ChangeSpec := { name := "kdfMost", fn := fun _ => fun
  | [d1, d2] => { results := [.lit (.bool false)], args := [d1, d2] }
  | _ => none }
def KdfMostWrongFalsely : Prop := kdfMostRow.holds Tryd.pinned (OpenSpec.ofChange kdfMostWrong)

/- THE SECOND FORM. 'bulk': how many values and letters a reading holds, each counted each time it is reached (what is shared counts as often as it is met; a slice's spare places count too). A statement '..UptoSaid' is the law's where the arguments, and the package variables that the reading takes, are together of bulk at most 1048576: NARROWER than '..Said'. Prove '..Said' where nothing that the law and all that it calls make is longer than what came in: it says more and counts as full. Else prove '..UptoSaid'. A law counts once. -/
mutual
def uptoBulk {H : Type} : DataW H → Nat
  | .lit (.string bytes) => bytes.length + 1
  | .lit _ => 1
  | .nil => 1
  | .ptr d => uptoBulk d + 1
  | .slice elems spare => uptoBulkAll elems + uptoBulkAll spare + 1
  | .agg parts => uptoBulkAll parts + 1
  | .iface _ d => uptoBulk d + 1
  | .map entries => uptoBulkEntries entries + 1
  | .held _ => 1
def uptoBulkAll {H : Type} : List (DataW H) → Nat
  | [] => 0
  | d :: r => uptoBulk d + uptoBulkAll r
def uptoBulkEntries {H : Type} : List (Lit × DataW H) → Nat
  | [] => 0
  | x :: r => uptoBulkEntry x + uptoBulkEntries r
def uptoBulkEntry {H : Type} : Lit × DataW H → Nat
  | (.string bytes, d) => bytes.length + uptoBulk d + 1
  | (_, d) => uptoBulk d + 1
 end
def uptoSmall : (H : Type) → List (DataW H) → Bool := fun _ ds => decide (uptoBulkAll ds ≤ 1048576)
def OpenSpec.upto (s : _root_.Go.ChangeSpec) : _root_.Go.OpenSpec := { _root_.Go.OpenSpec.ofChange s with cond := some uptoSmall }

/-- 'sledgelaw02.ShaParts', WHERE WHAT IT READS IS OF BULK AT MOST 1048576: true; the input reads as it did. -/
def shaPartsUptoRow : OpenClaim := { program := "ytihhjjcghocgaaadoor", sum := "b3fc434f48321a48e3baf6cf5c8c473fdba1eb3c20230d656afdfb982b2540ad", func := "sledge/sledgelaw02.ShaParts", spec := "shaParts", named := ["sledge/sha.roundWords"], apart := false, laid := [("sledge/sha.roundWords", laid_sledge_sha_roundWords)], narrowed := true }
def ShaPartsUptoSaid : Prop := shaPartsUptoRow.holds Tryd.pinned (OpenSpec.upto shaPartsSpec)

/-- 'sledgelaw02.ShaWrites', WHERE WHAT IT READS IS OF BULK AT MOST 1048576: true; the input reads as it did. -/
def shaWritesUptoRow : OpenClaim := { program := "ytihhjjcghocgaaadoor", sum := "b3fc434f48321a48e3baf6cf5c8c473fdba1eb3c20230d656afdfb982b2540ad", func := "sledge/sledgelaw02.ShaWrites", spec := "shaWrites", named := ["sledge/sha.roundWords"], apart := false, laid := [("sledge/sha.roundWords", laid_sledge_sha_roundWords)], narrowed := true }
def ShaWritesUptoSaid : Prop := shaWritesUptoRow.holds Tryd.pinned (OpenSpec.upto shaWritesSpec)

/-- 'sledgelaw02.ShaNone', WHERE WHAT IT READS IS OF BULK AT MOST 1048576: true; the input reads as it did. -/
def shaNoneUptoRow : OpenClaim := { program := "ytihhjjcghocgaaadoor", sum := "b3fc434f48321a48e3baf6cf5c8c473fdba1eb3c20230d656afdfb982b2540ad", func := "sledge/sledgelaw02.ShaNone", spec := "shaNone", named := ["sledge/sha.roundWords"], apart := false, laid := [("sledge/sha.roundWords", laid_sledge_sha_roundWords)], narrowed := true }
def ShaNoneUptoSaid : Prop := shaNoneUptoRow.holds Tryd.pinned (OpenSpec.upto shaNoneSpec)

/-- 'sledgelaw02.ShaEdges', WHERE WHAT IT READS IS OF BULK AT MOST 1048576: true; the input reads as it did. -/
def shaEdgesUptoRow : OpenClaim := { program := "ytihhjjcghocgaaadoor", sum := "b3fc434f48321a48e3baf6cf5c8c473fdba1eb3c20230d656afdfb982b2540ad", func := "sledge/sledgelaw02.ShaEdges", spec := "shaEdges", named := ["sledge/sha.roundWords"], apart := false, laid := [("sledge/sha.roundWords", laid_sledge_sha_roundWords)], narrowed := true }
def ShaEdgesUptoSaid : Prop := shaEdgesUptoRow.holds Tryd.pinned (OpenSpec.upto shaEdgesSpec)

/-- 'sledgelaw03.MacParts', WHERE WHAT IT READS IS OF BULK AT MOST 1048576: true; the input reads as it did. -/
def macPartsUptoRow : OpenClaim := { program := "ytihhjjcghocgaaadoor", sum := "b3fc434f48321a48e3baf6cf5c8c473fdba1eb3c20230d656afdfb982b2540ad", func := "sledge/sledgelaw03.MacParts", spec := "macParts", named := ["sledge/sha.roundWords"], apart := false, laid := [("sledge/sha.roundWords", laid_sledge_sha_roundWords)], narrowed := true }
def MacPartsUptoSaid : Prop := macPartsUptoRow.holds Tryd.pinned (OpenSpec.upto macPartsSpec)

/-- 'sledgelaw03.MacEquals', WHERE WHAT IT READS IS OF BULK AT MOST 1048576: true; the input reads as it did. -/
def macEqualsUptoRow : OpenClaim := { program := "ytihhjjcghocgaaadoor", sum := "b3fc434f48321a48e3baf6cf5c8c473fdba1eb3c20230d656afdfb982b2540ad", func := "sledge/sledgelaw03.MacEquals", spec := "macEquals", named := ["sledge/sha.roundWords"], apart := false, laid := [("sledge/sha.roundWords", laid_sledge_sha_roundWords)], narrowed := true }
def MacEqualsUptoSaid : Prop := macEqualsUptoRow.holds Tryd.pinned (OpenSpec.upto macEqualsSpec)

/-- 'sledgelaw03.MacSteps', WHERE WHAT IT READS IS OF BULK AT MOST 1048576: true; the input reads as it did. -/
def macStepsUptoRow : OpenClaim := { program := "ytihhjjcghocgaaadoor", sum := "b3fc434f48321a48e3baf6cf5c8c473fdba1eb3c20230d656afdfb982b2540ad", func := "sledge/sledgelaw03.MacSteps", spec := "macSteps", named := ["sledge/sha.roundWords"], apart := false, laid := [("sledge/sha.roundWords", laid_sledge_sha_roundWords)], narrowed := true }
def MacStepsUptoSaid : Prop := macStepsUptoRow.holds Tryd.pinned (OpenSpec.upto macStepsSpec)

/-- 'sledgelaw05.KdfExpands', WHERE WHAT IT READS IS OF BULK AT MOST 1048576: true; the input reads as it did. -/
def kdfExpandsUptoRow : OpenClaim := { program := "ytihhjjcghocgaaadoor", sum := "b3fc434f48321a48e3baf6cf5c8c473fdba1eb3c20230d656afdfb982b2540ad", func := "sledge/sledgelaw05.KdfExpands", spec := "kdfExpands", named := ["sledge/sha.roundWords"], apart := false, laid := [("sledge/sha.roundWords", laid_sledge_sha_roundWords)], narrowed := true }
def KdfExpandsUptoSaid : Prop := kdfExpandsUptoRow.holds Tryd.pinned (OpenSpec.upto kdfExpandsSpec)

/-- 'sledgelaw05.KdfExtracts', WHERE WHAT IT READS IS OF BULK AT MOST 1048576: true; the input reads as it did. -/
def kdfExtractsUptoRow : OpenClaim := { program := "ytihhjjcghocgaaadoor", sum := "b3fc434f48321a48e3baf6cf5c8c473fdba1eb3c20230d656afdfb982b2540ad", func := "sledge/sledgelaw05.KdfExtracts", spec := "kdfExtracts", named := ["sledge/sha.roundWords"], apart := false, laid := [("sledge/sha.roundWords", laid_sledge_sha_roundWords)], narrowed := true }
def KdfExtractsUptoSaid : Prop := kdfExtractsUptoRow.holds Tryd.pinned (OpenSpec.upto kdfExtractsSpec)

/-- 'sledgelaw05.KdfBegins', WHERE WHAT IT READS IS OF BULK AT MOST 1048576: true; the input reads as it did. -/
def kdfBeginsUptoRow : OpenClaim := { program := "ytihhjjcghocgaaadoor", sum := "b3fc434f48321a48e3baf6cf5c8c473fdba1eb3c20230d656afdfb982b2540ad", func := "sledge/sledgelaw05.KdfBegins", spec := "kdfBegins", named := ["sledge/sha.roundWords"], apart := false, laid := [("sledge/sha.roundWords", laid_sledge_sha_roundWords)], narrowed := true }
def KdfBeginsUptoSaid : Prop := kdfBeginsUptoRow.holds Tryd.pinned (OpenSpec.upto kdfBeginsSpec)

/-- 'sledgelaw05.KdfKeys', WHERE WHAT IT READS IS OF BULK AT MOST 1048576: true; the input reads as it did. -/
def kdfKeysUptoRow : OpenClaim := { program := "ytihhjjcghocgaaadoor", sum := "b3fc434f48321a48e3baf6cf5c8c473fdba1eb3c20230d656afdfb982b2540ad", func := "sledge/sledgelaw05.KdfKeys", spec := "kdfKeys", named := ["sledge/sha.roundWords"], apart := false, laid := [("sledge/sha.roundWords", laid_sledge_sha_roundWords)], narrowed := true }
def KdfKeysUptoSaid : Prop := kdfKeysUptoRow.holds Tryd.pinned (OpenSpec.upto kdfKeysSpec)

/-- 'sledgelaw05.KdfMost', WHERE WHAT IT READS IS OF BULK AT MOST 1048576: true; the input reads as it did. -/
def kdfMostUptoRow : OpenClaim := { program := "ytihhjjcghocgaaadoor", sum := "b3fc434f48321a48e3baf6cf5c8c473fdba1eb3c20230d656afdfb982b2540ad", func := "sledge/sledgelaw05.KdfMost", spec := "kdfMost", named := ["sledge/sha.roundWords"], apart := false, laid := [("sledge/sha.roundWords", laid_sledge_sha_roundWords)], narrowed := true }
def KdfMostUptoSaid : Prop := kdfMostUptoRow.holds Tryd.pinned (OpenSpec.upto kdfMostSpec)

end Rows
end Go.Proofs.YtihhjjcghocgaaaDoor
