/-
  NARROWER THAN 'FOR EVERY INPUT', by the rows' own cells (each row's printed sentence says how): HeaderSigns: laid · HeaderTags: laid · BlockSeals: laid · BlockOpens: laid · BlockBack: laid · BlockTags: laid · BlockBytes: laid · KdfKeys: laid.
  DERIVED. THE GIVEN ROWS OF THIS SEAT. 8 by the template 'for every input the law returns true; each argument reads behind the call as it read before'; 0 by the template 'total and deterministic' (their statements: YtabeehljpdehcaaDoorTotals.lean).
  GIVEN WITH THE SEED: the statements are not yours to turn. If you find one false, say at which input.
  Laid BY PROGRAM, IN A SANDBOX (cutbox-rows.mjs): the forced cells as the released guide's own fill.sh prints them over the translation d4f4a73bcc362882… (all of the seat's roots in one cut). By AI agents, Wed Nov 11 2026. No macro, syntax, notation, axiom, sorry.
-/
import Derived.Test.YtabeehljpdehcaaDoorChecked
import GoSem.Claim
import GoSem.ClaimJoined
import GoSem.ClaimMapViews
import Derived.JoinedTies
import Derived.KernelRfl
namespace Go.Proofs.YtabeehljpdehcaaDoor
/- THE CELL 'sum', in the pinned program and in every row, IS THE sha256 OF THE DUMP (.gsa) THAT YtabeehljpdehcaaDoorProg.lean LOADS. Nothing in Lean hashes anything: it is a label: what it is worth is what the hold of that sum in a sandbox is worth. -/
noncomputable def Tryd.pinned : Pinned := { name := "ytabeehljpdehcaadoor", sum := "d4f4a73bcc362882538c19d69a11c81c6d38b059584b120c62a8731fa6d3ee79", checked := Tryd.checked }
namespace Rows
def none {H : Type} : Left H := { results := [], args := [] }

/- WHAT THE LISTED PACKAGE-LEVEL VARIABLES READ AS WHEN THE CALL BEGINS. Each datum BY PROGRAM (the guide's laid-datum.mjs) off the statement by which the dump's own 'gosem.cut.vars' lays the variable. In a bare row this is a premise. The card (YtabeehljpdehcaaDoorCards.lean) ties it to the program's text. -/
def laid_sledge_sha_roundWords {H : Type} : DataW H := .agg [.lit (.int .u32 1116352408), .lit (.int .u32 1899447441), .lit (.int .u32 3049323471), .lit (.int .u32 3921009573), .lit (.int .u32 961987163), .lit (.int .u32 1508970993), .lit (.int .u32 2453635748), .lit (.int .u32 2870763221), .lit (.int .u32 3624381080), .lit (.int .u32 310598401), .lit (.int .u32 607225278), .lit (.int .u32 1426881987), .lit (.int .u32 1925078388), .lit (.int .u32 2162078206), .lit (.int .u32 2614888103), .lit (.int .u32 3248222580), .lit (.int .u32 3835390401), .lit (.int .u32 4022224774), .lit (.int .u32 264347078), .lit (.int .u32 604807628), .lit (.int .u32 770255983), .lit (.int .u32 1249150122), .lit (.int .u32 1555081692), .lit (.int .u32 1996064986), .lit (.int .u32 2554220882), .lit (.int .u32 2821834349), .lit (.int .u32 2952996808), .lit (.int .u32 3210313671), .lit (.int .u32 3336571891), .lit (.int .u32 3584528711), .lit (.int .u32 113926993), .lit (.int .u32 338241895), .lit (.int .u32 666307205), .lit (.int .u32 773529912), .lit (.int .u32 1294757372), .lit (.int .u32 1396182291), .lit (.int .u32 1695183700), .lit (.int .u32 1986661051), .lit (.int .u32 2177026350), .lit (.int .u32 2456956037), .lit (.int .u32 2730485921), .lit (.int .u32 2820302411), .lit (.int .u32 3259730800), .lit (.int .u32 3345764771), .lit (.int .u32 3516065817), .lit (.int .u32 3600352804), .lit (.int .u32 4094571909), .lit (.int .u32 275423344), .lit (.int .u32 430227734), .lit (.int .u32 506948616), .lit (.int .u32 659060556), .lit (.int .u32 883997877), .lit (.int .u32 958139571), .lit (.int .u32 1322822218), .lit (.int .u32 1537002063), .lit (.int .u32 1747873779), .lit (.int .u32 1955562222), .lit (.int .u32 2024104815), .lit (.int .u32 2227730452), .lit (.int .u32 2361852424), .lit (.int .u32 2428436474), .lit (.int .u32 2756734187), .lit (.int .u32 3204031479), .lit (.int .u32 3329325298)]

/-- 'sledgelaw18.HeaderSigns': WHATEVER THE INPUT: true; the input reads as it did. -/
def headerSignsSpec : ChangeSpec := { name := "headerSigns", fn := fun _ => fun
  | [d1, d2] => { results := [.lit (.bool true)], args := [d1, d2] }
  | _ => none }
def headerSignsRow : OpenClaim := { program := "ytabeehljpdehcaadoor", sum := "d4f4a73bcc362882538c19d69a11c81c6d38b059584b120c62a8731fa6d3ee79", func := "sledge/sledgelaw18.HeaderSigns", spec := "headerSigns", named := ["sledge/sha.roundWords"], apart := false, laid := [("sledge/sha.roundWords", laid_sledge_sha_roundWords)] }
def HeaderSignsSaid : Prop := headerSignsRow.holds Tryd.pinned (OpenSpec.ofChange headerSignsSpec)

/-- ITS FALSE NEIGHBOUR: 'it returns false'. Refute it at one input. -/
def headerSignsWrong : ChangeSpec := { name := "headerSigns", fn := fun _ => fun
  | [d1, d2] => { results := [.lit (.bool false)], args := [d1, d2] }
  | _ => none }
def HeaderSignsWrongFalsely : Prop := headerSignsRow.holds Tryd.pinned (OpenSpec.ofChange headerSignsWrong)

/-- 'sledgelaw18.HeaderTags': WHATEVER THE INPUT: true; the input reads as it did. -/
def headerTagsSpec : ChangeSpec := { name := "headerTags", fn := fun _ => fun
  | [d1, d2, d3, d4] => { results := [.lit (.bool true)], args := [d1, d2, d3, d4] }
  | _ => none }
def headerTagsRow : OpenClaim := { program := "ytabeehljpdehcaadoor", sum := "d4f4a73bcc362882538c19d69a11c81c6d38b059584b120c62a8731fa6d3ee79", func := "sledge/sledgelaw18.HeaderTags", spec := "headerTags", named := ["sledge/sha.roundWords"], apart := false, laid := [("sledge/sha.roundWords", laid_sledge_sha_roundWords)] }
def HeaderTagsSaid : Prop := headerTagsRow.holds Tryd.pinned (OpenSpec.ofChange headerTagsSpec)

/-- ITS FALSE NEIGHBOUR: 'it returns false'. Refute it at one input. -/
def headerTagsWrong : ChangeSpec := { name := "headerTags", fn := fun _ => fun
  | [d1, d2, d3, d4] => { results := [.lit (.bool false)], args := [d1, d2, d3, d4] }
  | _ => none }
def HeaderTagsWrongFalsely : Prop := headerTagsRow.holds Tryd.pinned (OpenSpec.ofChange headerTagsWrong)

/-- 'sledgelaw14.BlockSeals': WHATEVER THE INPUT: true; the input reads as it did. -/
def blockSealsSpec : ChangeSpec := { name := "blockSeals", fn := fun _ => fun
  | [d1, d2, d3] => { results := [.lit (.bool true)], args := [d1, d2, d3] }
  | _ => none }
def blockSealsRow : OpenClaim := { program := "ytabeehljpdehcaadoor", sum := "d4f4a73bcc362882538c19d69a11c81c6d38b059584b120c62a8731fa6d3ee79", func := "sledge/sledgelaw14.BlockSeals", spec := "blockSeals", named := ["sledge/sha.roundWords"], apart := false, laid := [("sledge/sha.roundWords", laid_sledge_sha_roundWords)] }
def BlockSealsSaid : Prop := blockSealsRow.holds Tryd.pinned (OpenSpec.ofChange blockSealsSpec)

/-- ITS FALSE NEIGHBOUR: 'it returns false'. Refute it at one input. -/
def blockSealsWrong : ChangeSpec := { name := "blockSeals", fn := fun _ => fun
  | [d1, d2, d3] => { results := [.lit (.bool false)], args := [d1, d2, d3] }
  | _ => none }
def BlockSealsWrongFalsely : Prop := blockSealsRow.holds Tryd.pinned (OpenSpec.ofChange blockSealsWrong)

/-- 'sledgelaw14.BlockOpens': WHATEVER THE INPUT: true; the input reads as it did. -/
def blockOpensSpec : ChangeSpec := { name := "blockOpens", fn := fun _ => fun
  | [d1, d2, d3] => { results := [.lit (.bool true)], args := [d1, d2, d3] }
  | _ => none }
def blockOpensRow : OpenClaim := { program := "ytabeehljpdehcaadoor", sum := "d4f4a73bcc362882538c19d69a11c81c6d38b059584b120c62a8731fa6d3ee79", func := "sledge/sledgelaw14.BlockOpens", spec := "blockOpens", named := ["sledge/sha.roundWords"], apart := false, laid := [("sledge/sha.roundWords", laid_sledge_sha_roundWords)] }
def BlockOpensSaid : Prop := blockOpensRow.holds Tryd.pinned (OpenSpec.ofChange blockOpensSpec)

/-- ITS FALSE NEIGHBOUR: 'it returns false'. Refute it at one input. -/
def blockOpensWrong : ChangeSpec := { name := "blockOpens", fn := fun _ => fun
  | [d1, d2, d3] => { results := [.lit (.bool false)], args := [d1, d2, d3] }
  | _ => none }
def BlockOpensWrongFalsely : Prop := blockOpensRow.holds Tryd.pinned (OpenSpec.ofChange blockOpensWrong)

/-- 'sledgelaw14.BlockBack': WHATEVER THE INPUT: true; the input reads as it did. -/
def blockBackSpec : ChangeSpec := { name := "blockBack", fn := fun _ => fun
  | [d1, d2, d3] => { results := [.lit (.bool true)], args := [d1, d2, d3] }
  | _ => none }
def blockBackRow : OpenClaim := { program := "ytabeehljpdehcaadoor", sum := "d4f4a73bcc362882538c19d69a11c81c6d38b059584b120c62a8731fa6d3ee79", func := "sledge/sledgelaw14.BlockBack", spec := "blockBack", named := ["sledge/sha.roundWords"], apart := false, laid := [("sledge/sha.roundWords", laid_sledge_sha_roundWords)] }
def BlockBackSaid : Prop := blockBackRow.holds Tryd.pinned (OpenSpec.ofChange blockBackSpec)

/-- ITS FALSE NEIGHBOUR: 'it returns false'. Refute it at one input. -/
def blockBackWrong : ChangeSpec := { name := "blockBack", fn := fun _ => fun
  | [d1, d2, d3] => { results := [.lit (.bool false)], args := [d1, d2, d3] }
  | _ => none }
def BlockBackWrongFalsely : Prop := blockBackRow.holds Tryd.pinned (OpenSpec.ofChange blockBackWrong)

/-- 'sledgelaw14.BlockTags': WHATEVER THE INPUT: true; the input reads as it did. -/
def blockTagsSpec : ChangeSpec := { name := "blockTags", fn := fun _ => fun
  | [d1, d2, d3, d4, d5] => { results := [.lit (.bool true)], args := [d1, d2, d3, d4, d5] }
  | _ => none }
def blockTagsRow : OpenClaim := { program := "ytabeehljpdehcaadoor", sum := "d4f4a73bcc362882538c19d69a11c81c6d38b059584b120c62a8731fa6d3ee79", func := "sledge/sledgelaw14.BlockTags", spec := "blockTags", named := ["sledge/sha.roundWords"], apart := false, laid := [("sledge/sha.roundWords", laid_sledge_sha_roundWords)] }
def BlockTagsSaid : Prop := blockTagsRow.holds Tryd.pinned (OpenSpec.ofChange blockTagsSpec)

/-- ITS FALSE NEIGHBOUR: 'it returns false'. Refute it at one input. -/
def blockTagsWrong : ChangeSpec := { name := "blockTags", fn := fun _ => fun
  | [d1, d2, d3, d4, d5] => { results := [.lit (.bool false)], args := [d1, d2, d3, d4, d5] }
  | _ => none }
def BlockTagsWrongFalsely : Prop := blockTagsRow.holds Tryd.pinned (OpenSpec.ofChange blockTagsWrong)

/-- 'sledgelaw14.BlockBytes': WHATEVER THE INPUT: true; the input reads as it did. -/
def blockBytesSpec : ChangeSpec := { name := "blockBytes", fn := fun _ => fun
  | [d1, d2, d3, d4] => { results := [.lit (.bool true)], args := [d1, d2, d3, d4] }
  | _ => none }
def blockBytesRow : OpenClaim := { program := "ytabeehljpdehcaadoor", sum := "d4f4a73bcc362882538c19d69a11c81c6d38b059584b120c62a8731fa6d3ee79", func := "sledge/sledgelaw14.BlockBytes", spec := "blockBytes", named := ["sledge/sha.roundWords"], apart := false, laid := [("sledge/sha.roundWords", laid_sledge_sha_roundWords)] }
def BlockBytesSaid : Prop := blockBytesRow.holds Tryd.pinned (OpenSpec.ofChange blockBytesSpec)

/-- ITS FALSE NEIGHBOUR: 'it returns false'. Refute it at one input. -/
def blockBytesWrong : ChangeSpec := { name := "blockBytes", fn := fun _ => fun
  | [d1, d2, d3, d4] => { results := [.lit (.bool false)], args := [d1, d2, d3, d4] }
  | _ => none }
def BlockBytesWrongFalsely : Prop := blockBytesRow.holds Tryd.pinned (OpenSpec.ofChange blockBytesWrong)

/-- 'sledgelaw05.KdfKeys': WHATEVER THE INPUT: true; the input reads as it did. -/
def kdfKeysSpec : ChangeSpec := { name := "kdfKeys", fn := fun _ => fun
  | [d1, d2, d3] => { results := [.lit (.bool true)], args := [d1, d2, d3] }
  | _ => none }
def kdfKeysRow : OpenClaim := { program := "ytabeehljpdehcaadoor", sum := "d4f4a73bcc362882538c19d69a11c81c6d38b059584b120c62a8731fa6d3ee79", func := "sledge/sledgelaw05.KdfKeys", spec := "kdfKeys", named := ["sledge/sha.roundWords"], apart := false, laid := [("sledge/sha.roundWords", laid_sledge_sha_roundWords)] }
def KdfKeysSaid : Prop := kdfKeysRow.holds Tryd.pinned (OpenSpec.ofChange kdfKeysSpec)

/-- ITS FALSE NEIGHBOUR: 'it returns false'. Refute it at one input. -/
def kdfKeysWrong : ChangeSpec := { name := "kdfKeys", fn := fun _ => fun
  | [d1, d2, d3] => { results := [.lit (.bool false)], args := [d1, d2, d3] }
  | _ => none }
def KdfKeysWrongFalsely : Prop := kdfKeysRow.holds Tryd.pinned (OpenSpec.ofChange kdfKeysWrong)

/- THE SECOND FORM. 'bulk': how many values and letters a reading holds, each counted each time it is reached (what is shared counts as often as it is met; a slice's spare places count too). A statement '..UptoSaid' is the law's where the arguments, and the package variables that the reading takes, are together of bulk at most 1048576: NARROWER than '..Said'. Prove '..Said' where nothing that the law and all that it calls make is longer than what came in: it says more and counts as full. Else prove '..UptoSaid'. A law counts once. -/
mutual
def uptoBulk {H : Type} : DataW H → Nat
  | .lit (.string bytes) => bytes.length + 1
  | .lit _ => 1
  | .nil => 1
  | .ptr d => uptoBulk d + 1
  | .slice elems spare => uptoBulkAll elems + uptoBulkAll spare + 1
  | .agg parts => uptoBulkAll parts + 1
  | .iface _ d => uptoBulk d + 1
  | .map entries => uptoBulkEntries entries + 1
  | .held _ => 1
def uptoBulkAll {H : Type} : List (DataW H) → Nat
  | [] => 0
  | d :: r => uptoBulk d + uptoBulkAll r
def uptoBulkEntries {H : Type} : List (Lit × DataW H) → Nat
  | [] => 0
  | x :: r => uptoBulkEntry x + uptoBulkEntries r
def uptoBulkEntry {H : Type} : Lit × DataW H → Nat
  | (.string bytes, d) => bytes.length + uptoBulk d + 1
  | (_, d) => uptoBulk d + 1
 end
def uptoSmall : (H : Type) → List (DataW H) → Bool := fun _ ds => decide (uptoBulkAll ds ≤ 1048576)
def OpenSpec.upto (s : _root_.Go.ChangeSpec) : _root_.Go.OpenSpec := { _root_.Go.OpenSpec.ofChange s with cond := some uptoSmall }

/-- 'sledgelaw18.HeaderSigns', WHERE WHAT IT READS IS OF BULK AT MOST 1048576: true; the input reads as it did. -/
def headerSignsUptoRow : OpenClaim := { program := "ytabeehljpdehcaadoor", sum := "d4f4a73bcc362882538c19d69a11c81c6d38b059584b120c62a8731fa6d3ee79", func := "sledge/sledgelaw18.HeaderSigns", spec := "headerSigns", named := ["sledge/sha.roundWords"], apart := false, laid := [("sledge/sha.roundWords", laid_sledge_sha_roundWords)], narrowed := true }
def HeaderSignsUptoSaid : Prop := headerSignsUptoRow.holds Tryd.pinned (OpenSpec.upto headerSignsSpec)

/-- 'sledgelaw18.HeaderTags', WHERE WHAT IT READS IS OF BULK AT MOST 1048576: true; the input reads as it did. -/
def headerTagsUptoRow : OpenClaim := { program := "ytabeehljpdehcaadoor", sum := "d4f4a73bcc362882538c19d69a11c81c6d38b059584b120c62a8731fa6d3ee79", func := "sledge/sledgelaw18.HeaderTags", spec := "headerTags", named := ["sledge/sha.roundWords"], apart := false, laid := [("sledge/sha.roundWords", laid_sledge_sha_roundWords)], narrowed := true }
def HeaderTagsUptoSaid : Prop := headerTagsUptoRow.holds Tryd.pinned (OpenSpec.upto headerTagsSpec)

/-- 'sledgelaw14.BlockSeals', WHERE WHAT IT READS IS OF BULK AT MOST 1048576: true; the input reads as it did. -/
def blockSealsUptoRow : OpenClaim := { program := "ytabeehljpdehcaadoor", sum := "d4f4a73bcc362882538c19d69a11c81c6d38b059584b120c62a8731fa6d3ee79", func := "sledge/sledgelaw14.BlockSeals", spec := "blockSeals", named := ["sledge/sha.roundWords"], apart := false, laid := [("sledge/sha.roundWords", laid_sledge_sha_roundWords)], narrowed := true }
def BlockSealsUptoSaid : Prop := blockSealsUptoRow.holds Tryd.pinned (OpenSpec.upto blockSealsSpec)

/-- 'sledgelaw14.BlockOpens', WHERE WHAT IT READS IS OF BULK AT MOST 1048576: true; the input reads as it did. -/
def blockOpensUptoRow : OpenClaim := { program := "ytabeehljpdehcaadoor", sum := "d4f4a73bcc362882538c19d69a11c81c6d38b059584b120c62a8731fa6d3ee79", func := "sledge/sledgelaw14.BlockOpens", spec := "blockOpens", named := ["sledge/sha.roundWords"], apart := false, laid := [("sledge/sha.roundWords", laid_sledge_sha_roundWords)], narrowed := true }
def BlockOpensUptoSaid : Prop := blockOpensUptoRow.holds Tryd.pinned (OpenSpec.upto blockOpensSpec)

/-- 'sledgelaw14.BlockBack', WHERE WHAT IT READS IS OF BULK AT MOST 1048576: true; the input reads as it did. -/
def blockBackUptoRow : OpenClaim := { program := "ytabeehljpdehcaadoor", sum := "d4f4a73bcc362882538c19d69a11c81c6d38b059584b120c62a8731fa6d3ee79", func := "sledge/sledgelaw14.BlockBack", spec := "blockBack", named := ["sledge/sha.roundWords"], apart := false, laid := [("sledge/sha.roundWords", laid_sledge_sha_roundWords)], narrowed := true }
def BlockBackUptoSaid : Prop := blockBackUptoRow.holds Tryd.pinned (OpenSpec.upto blockBackSpec)

/-- 'sledgelaw14.BlockTags', WHERE WHAT IT READS IS OF BULK AT MOST 1048576: true; the input reads as it did. -/
def blockTagsUptoRow : OpenClaim := { program := "ytabeehljpdehcaadoor", sum := "d4f4a73bcc362882538c19d69a11c81c6d38b059584b120c62a8731fa6d3ee79", func := "sledge/sledgelaw14.BlockTags", spec := "blockTags", named := ["sledge/sha.roundWords"], apart := false, laid := [("sledge/sha.roundWords", laid_sledge_sha_roundWords)], narrowed := true }
def BlockTagsUptoSaid : Prop := blockTagsUptoRow.holds Tryd.pinned (OpenSpec.upto blockTagsSpec)

/-- 'sledgelaw14.BlockBytes', WHERE WHAT IT READS IS OF BULK AT MOST 1048576: true; the input reads as it did. -/
def blockBytesUptoRow : OpenClaim := { program := "ytabeehljpdehcaadoor", sum := "d4f4a73bcc362882538c19d69a11c81c6d38b059584b120c62a8731fa6d3ee79", func := "sledge/sledgelaw14.BlockBytes", spec := "blockBytes", named := ["sledge/sha.roundWords"], apart := false, laid := [("sledge/sha.roundWords", laid_sledge_sha_roundWords)], narrowed := true }
def BlockBytesUptoSaid : Prop := blockBytesUptoRow.holds Tryd.pinned (OpenSpec.upto blockBytesSpec)

/-- 'sledgelaw05.KdfKeys', WHERE WHAT IT READS IS OF BULK AT MOST 1048576: true; the input reads as it did. -/
def kdfKeysUptoRow : OpenClaim := { program := "ytabeehljpdehcaadoor", sum := "d4f4a73bcc362882538c19d69a11c81c6d38b059584b120c62a8731fa6d3ee79", func := "sledge/sledgelaw05.KdfKeys", spec := "kdfKeys", named := ["sledge/sha.roundWords"], apart := false, laid := [("sledge/sha.roundWords", laid_sledge_sha_roundWords)], narrowed := true }
def KdfKeysUptoSaid : Prop := kdfKeysUptoRow.holds Tryd.pinned (OpenSpec.upto kdfKeysSpec)

end Rows
end Go.Proofs.YtabeehljpdehcaaDoor
