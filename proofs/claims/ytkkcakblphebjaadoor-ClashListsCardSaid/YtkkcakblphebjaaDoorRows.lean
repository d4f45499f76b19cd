/-
  NARROWER THAN 'FOR EVERY INPUT', by the rows' own cells (each row's printed sentence says how): ClashValid: laid · ClashLists: laid · ClashFinds: laid · ClashClaims: laid · ClashProves: laid · CatalogTakes: laid.
  DERIVED. THE GIVEN ROWS OF THIS SEAT. 6 by the template 'for every input the law returns true; each argument reads behind the call as it read before'; 0 by the template 'total and deterministic' (their statements: YtkkcakblphebjaaDoorTotals.lean).
  GIVEN WITH THE SEED: the statements are not yours to turn. If you find one false, say at which input.
  Laid BY PROGRAM, IN A SANDBOX (cutbox-rows.mjs): the forced cells as the released guide's own fill.sh prints them over the translation 086d266650061090… (all of the seat's roots in one cut). By AI agents, Wed Nov 11 2026. No macro, syntax, notation, axiom, sorry.
-/
import Derived.Test.YtkkcakblphebjaaDoorChecked
import GoSem.PinnedTables
import GoSem.Claim
import GoSem.ClaimJoined
import GoSem.ClaimMapViews
import Derived.JoinedTies
import Derived.KernelRfl
namespace Go.Proofs.YtkkcakblphebjaaDoor
/- THE CELL 'sum', in the pinned program and in every row, IS THE sha256 OF THE DUMP (.gsa) THAT YtkkcakblphebjaaDoorProg.lean LOADS. Nothing in Lean hashes anything: it is a label: what it is worth is what the hold of that sum in a sandbox is worth. -/
noncomputable def Tryd.pinned : Pinned := { name := "ytkkcakblphebjaadoor", sum := "086d2666500610900b49bb4ee57d89abe79b89d2b45ac81ce59b3be6ebe6e65b", checked := Tryd.checked }
namespace Rows
def none {H : Type} : Left H := { results := [], args := [] }

/- WHAT THE LISTED PACKAGE-LEVEL VARIABLES READ AS WHEN THE CALL BEGINS. Each datum BY PROGRAM (the guide's laid-datum.mjs) off the statement by which the dump's own 'gosem.cut.vars' lays the variable. In a bare row this is a premise. The card (YtkkcakblphebjaaDoorCards.lean) ties it to the program's text. -/
def laid_sledge_sha_roundWords {H : Type} : DataW H := .agg [.lit (.int .u32 1116352408), .lit (.int .u32 1899447441), .lit (.int .u32 3049323471), .lit (.int .u32 3921009573), .lit (.int .u32 961987163), .lit (.int .u32 1508970993), .lit (.int .u32 2453635748), .lit (.int .u32 2870763221), .lit (.int .u32 3624381080), .lit (.int .u32 310598401), .lit (.int .u32 607225278), .lit (.int .u32 1426881987), .lit (.int .u32 1925078388), .lit (.int .u32 2162078206), .lit (.int .u32 2614888103), .lit (.int .u32 3248222580), .lit (.int .u32 3835390401), .lit (.int .u32 4022224774), .lit (.int .u32 264347078), .lit (.int .u32 604807628), .lit (.int .u32 770255983), .lit (.int .u32 1249150122), .lit (.int .u32 1555081692), .lit (.int .u32 1996064986), .lit (.int .u32 2554220882), .lit (.int .u32 2821834349), .lit (.int .u32 2952996808), .lit (.int .u32 3210313671), .lit (.int .u32 3336571891), .lit (.int .u32 3584528711), .lit (.int .u32 113926993), .lit (.int .u32 338241895), .lit (.int .u32 666307205), .lit (.int .u32 773529912), .lit (.int .u32 1294757372), .lit (.int .u32 1396182291), .lit (.int .u32 1695183700), .lit (.int .u32 1986661051), .lit (.int .u32 2177026350), .lit (.int .u32 2456956037), .lit (.int .u32 2730485921), .lit (.int .u32 2820302411), .lit (.int .u32 3259730800), .lit (.int .u32 3345764771), .lit (.int .u32 3516065817), .lit (.int .u32 3600352804), .lit (.int .u32 4094571909), .lit (.int .u32 275423344), .lit (.int .u32 430227734), .lit (.int .u32 506948616), .lit (.int .u32 659060556), .lit (.int .u32 883997877), .lit (.int .u32 958139571), .lit (.int .u32 1322822218), .lit (.int .u32 1537002063), .lit (.int .u32 1747873779), .lit (.int .u32 1955562222), .lit (.int .u32 2024104815), .lit (.int .u32 2227730452), .lit (.int .u32 2361852424), .lit (.int .u32 2428436474), .lit (.int .u32 2756734187), .lit (.int .u32 3204031479), .lit (.int .u32 3329325298)]
def laid_unicode_utf8_acceptRanges {H : Type} : DataW H := .agg [.agg [.lit (.int .u8 128), .lit (.int .u8 191)], .agg [.lit (.int .u8 160), .lit (.int .u8 191)], .agg [.lit (.int .u8 128), .lit (.int .u8 159)], .agg [.lit (.int .u8 144), .lit (.int .u8 191)], .agg [.lit (.int .u8 128), .lit (.int .u8 143)], .agg [.lit (.int .u8 0), .lit (.int .u8 0)], .agg [.lit (.int .u8 0), .lit (.int .u8 0)], .agg [.lit (.int .u8 0), .lit (.int .u8 0)], .agg [.lit (.int .u8 0), .lit (.int .u8 0)], .agg [.lit (.int .u8 0), .lit (.int .u8 0)], .agg [.lit (.int .u8 0), .lit (.int .u8 0)], .agg [.lit (.int .u8 0), .lit (.int .u8 0)], .agg [.lit (.int .u8 0), .lit (.int .u8 0)], .agg [.lit (.int .u8 0), .lit (.int .u8 0)], .agg [.lit (.int .u8 0), .lit (.int .u8 0)], .agg [.lit (.int .u8 0), .lit (.int .u8 0)]]
/-- One of Go's own tables, pinned by name: the form's constant. -/
def laid_unicode_utf8_first : DataW Unit := Go.Pinned.utf8First

/-- 'sledgelaw17.ClashValid': WHATEVER THE INPUT: true; the input reads as it did. -/
def clashValidSpec : ChangeSpec := { name := "clashValid", fn := fun _ => fun
  | [d1, d2, d3] => { results := [.lit (.bool true)], args := [d1, d2, d3] }
  | _ => none }
def clashValidRow : OpenClaim := { program := "ytkkcakblphebjaadoor", sum := "086d2666500610900b49bb4ee57d89abe79b89d2b45ac81ce59b3be6ebe6e65b", func := "sledge/sledgelaw17.ClashValid", spec := "clashValid", recurses := true, named := ["sledge/sha.roundWords"], apart := false, laid := [("sledge/sha.roundWords", laid_sledge_sha_roundWords)] }
def ClashValidSaid : Prop := clashValidRow.holds Tryd.pinned (OpenSpec.ofChange clashValidSpec)

/-- ITS FALSE NEIGHBOUR: 'it returns false'. Refute it at one input. -/
def clashValidWrong : ChangeSpec := { name := "clashValid", fn := fun _ => fun
  | [d1, d2, d3] => { results := [.lit (.bool false)], args := [d1, d2, d3] }
  | _ => none }
def ClashValidWrongFalsely : Prop := clashValidRow.holds Tryd.pinned (OpenSpec.ofChange clashValidWrong)

/-- 'sledgelaw17.ClashLists': WHATEVER THE INPUT: true; the input reads as it did. -/
def clashListsSpec : ChangeSpec := { name := "clashLists", fn := fun _ => fun
  | [d1, d2, d3] => { results := [.lit (.bool true)], args := [d1, d2, d3] }
  | _ => none }
def clashListsRow : OpenClaim := { program := "ytkkcakblphebjaadoor", sum := "086d2666500610900b49bb4ee57d89abe79b89d2b45ac81ce59b3be6ebe6e65b", func := "sledge/sledgelaw17.ClashLists", spec := "clashLists", recurses := true, named := ["sledge/sha.roundWords"], apart := false, laid := [("sledge/sha.roundWords", laid_sledge_sha_roundWords)] }
def ClashListsSaid : Prop := clashListsRow.holds Tryd.pinned (OpenSpec.ofChange clashListsSpec)

/-- ITS FALSE NEIGHBOUR: 'it returns false'. Refute it at one input. -/
def clashListsWrong : ChangeSpec := { name := "clashLists", fn := fun _ => fun
  | [d1, d2, d3] => { results := [.lit (.bool false)], args := [d1, d2, d3] }
  | _ => none }
def ClashListsWrongFalsely : Prop := clashListsRow.holds Tryd.pinned (OpenSpec.ofChange clashListsWrong)

/-- 'sledgelaw17.ClashFinds': WHATEVER THE INPUT: true; the input reads as it did. -/
def clashFindsSpec : ChangeSpec := { name := "clashFinds", fn := fun _ => fun
  | [d1, d2, d3] => { results := [.lit (.bool true)], args := [d1, d2, d3] }
  | _ => none }
def clashFindsRow : OpenClaim := { program := "ytkkcakblphebjaadoor", sum := "086d2666500610900b49bb4ee57d89abe79b89d2b45ac81ce59b3be6ebe6e65b", func := "sledge/sledgelaw17.ClashFinds", spec := "clashFinds", recurses := true, named := ["sledge/sha.roundWords"], apart := false, laid := [("sledge/sha.roundWords", laid_sledge_sha_roundWords)] }
def ClashFindsSaid : Prop := clashFindsRow.holds Tryd.pinned (OpenSpec.ofChange clashFindsSpec)

/-- ITS FALSE NEIGHBOUR: 'it returns false'. Refute it at one input. -/
def clashFindsWrong : ChangeSpec := { name := "clashFinds", fn := fun _ => fun
  | [d1, d2, d3] => { results := [.lit (.bool false)], args := [d1, d2, d3] }
  | _ => none }
def ClashFindsWrongFalsely : Prop := clashFindsRow.holds Tryd.pinned (OpenSpec.ofChange clashFindsWrong)

/-- 'sledgelaw17.ClashClaims': WHATEVER THE INPUT: true; the input reads as it did. -/
def clashClaimsSpec : ChangeSpec := { name := "clashClaims", fn := fun _ => fun
  | [d1, d2, d3, d4, d5, d6, d7] => { results := [.lit (.bool true)], args := [d1, d2, d3, d4, d5, d6, d7] }
  | _ => none }
def clashClaimsRow : OpenClaim := { program := "ytkkcakblphebjaadoor", sum := "086d2666500610900b49bb4ee57d89abe79b89d2b45ac81ce59b3be6ebe6e65b", func := "sledge/sledgelaw17.ClashClaims", spec := "clashClaims", recurses := true, named := ["sledge/sha.roundWords"], apart := false, laid := [("sledge/sha.roundWords", laid_sledge_sha_roundWords)] }
def ClashClaimsSaid : Prop := clashClaimsRow.holds Tryd.pinned (OpenSpec.ofChange clashClaimsSpec)

/-- ITS FALSE NEIGHBOUR: 'it returns false'. Refute it at one input. -/
def clashClaimsWrong : ChangeSpec := { name := "clashClaims", fn := fun _ => fun
  | [d1, d2, d3, d4, d5, d6, d7] => { results := [.lit (.bool false)], args := [d1, d2, d3, d4, d5, d6, d7] }
  | _ => none }
def ClashClaimsWrongFalsely : Prop := clashClaimsRow.holds Tryd.pinned (OpenSpec.ofChange clashClaimsWrong)

/-- 'sledgelaw17.ClashProves': WHATEVER THE INPUT: true; the input reads as it did. -/
def clashProvesSpec : ChangeSpec := { name := "clashProves", fn := fun _ => fun
  | [d1, d2, d3, d4, d5] => { results := [.lit (.bool true)], args := [d1, d2, d3, d4, d5] }
  | _ => none }
def clashProvesRow : OpenClaim := { program := "ytkkcakblphebjaadoor", sum := "086d2666500610900b49bb4ee57d89abe79b89d2b45ac81ce59b3be6ebe6e65b", func := "sledge/sledgelaw17.ClashProves", spec := "clashProves", recurses := true, named := ["sledge/sha.roundWords"], apart := false, laid := [("sledge/sha.roundWords", laid_sledge_sha_roundWords)] }
def ClashProvesSaid : Prop := clashProvesRow.holds Tryd.pinned (OpenSpec.ofChange clashProvesSpec)

/-- ITS FALSE NEIGHBOUR: 'it returns false'. Refute it at one input. -/
def clashProvesWrong : ChangeSpec := { name := "clashProves", fn := fun _ => fun
  | [d1, d2, d3, d4, d5] => { results := [.lit (.bool false)], args := [d1, d2, d3, d4, d5] }
  | _ => none }
def ClashProvesWrongFalsely : Prop := clashProvesRow.holds Tryd.pinned (OpenSpec.ofChange clashProvesWrong)

/-- 'sledgelaw24.CatalogTakes': WHATEVER THE INPUT: true; the input reads as it did. -/
def catalogTakesSpec : ChangeSpec := { name := "catalogTakes", fn := fun _ => fun
  | [d] => { results := [.lit (.bool true)], args := [d] }
  | _ => none }
def catalogTakesRow : OpenClaim := { program := "ytkkcakblphebjaadoor", sum := "086d2666500610900b49bb4ee57d89abe79b89d2b45ac81ce59b3be6ebe6e65b", func := "sledge/sledgelaw24.CatalogTakes", spec := "catalogTakes", inPlace := ["internal/bytealg.IndexByteString", "internal/bytealg.IndexString"], unfollowed := true, recurses := true, named := ["unicode/utf8.first", "unicode/utf8.acceptRanges", "internal/bytealg.MaxLen"], apart := false, laid := [("unicode/utf8.acceptRanges", laid_unicode_utf8_acceptRanges), ("unicode/utf8.first", laid_unicode_utf8_first)] }
def CatalogTakesSaid : Prop := catalogTakesRow.holds Tryd.pinned (OpenSpec.ofChange catalogTakesSpec)

/-- ITS FALSE NEIGHBOUR: 'it returns false'. Refute it at one input. -/
def catalogTakesWrong : ChangeSpec := { name := "catalogTakes", fn := fun _ => fun
  | [d] => { results := [.lit (.bool false)], args := [d] }
  | _ => none }
def CatalogTakesWrongFalsely : Prop := catalogTakesRow.holds Tryd.pinned (OpenSpec.ofChange catalogTakesWrong)

/- THE SECOND FORM. 'bulk': how many values and letters a reading holds, each counted each time it is reached (what is shared counts as often as it is met; a slice's spare places count too). A statement '..UptoSaid' is the law's where the arguments, and the package variables that the reading takes, are together of bulk at most 1048576: NARROWER than '..Said'. Prove '..Said' where nothing that the law and all that it calls make is longer than what came in: it says more and counts as full. Else prove '..UptoSaid'. A law counts once. -/
mutual
def uptoBulk {H : Type} : DataW H → Nat
  | .lit (.string bytes) => bytes.length + 1
  | .lit _ => 1
  | .nil => 1
  | .ptr d => uptoBulk d + 1
  | .slice elems spare => uptoBulkAll elems + uptoBulkAll spare + 1
  | .agg parts => uptoBulkAll parts + 1
  | .iface _ d => uptoBulk d + 1
  | .map entries => uptoBulkEntries entries + 1
  | .held _ => 1
def uptoBulkAll {H : Type} : List (DataW H) → Nat
  | [] => 0
  | d :: r => uptoBulk d + uptoBulkAll r
def uptoBulkEntries {H : Type} : List (Lit × DataW H) → Nat
  | [] => 0
  | x :: r => uptoBulkEntry x + uptoBulkEntries r
def uptoBulkEntry {H : Type} : Lit × DataW H → Nat
  | (.string bytes, d) => bytes.length + uptoBulk d + 1
  | (_, d) => uptoBulk d + 1
 end
def uptoSmall : (H : Type) → List (DataW H) → Bool := fun _ ds => decide (uptoBulkAll ds ≤ 1048576)
def OpenSpec.upto (s : _root_.Go.ChangeSpec) : _root_.Go.OpenSpec := { _root_.Go.OpenSpec.ofChange s with cond := some uptoSmall }

/-- 'sledgelaw17.ClashValid', WHERE WHAT IT READS IS OF BULK AT MOST 1048576: true; the input reads as it did. -/
def clashValidUptoRow : OpenClaim := { program := "ytkkcakblphebjaadoor", sum := "086d2666500610900b49bb4ee57d89abe79b89d2b45ac81ce59b3be6ebe6e65b", func := "sledge/sledgelaw17.ClashValid", spec := "clashValid", recurses := true, named := ["sledge/sha.roundWords"], apart := false, laid := [("sledge/sha.roundWords", laid_sledge_sha_roundWords)], narrowed := true }
def ClashValidUptoSaid : Prop := clashValidUptoRow.holds Tryd.pinned (OpenSpec.upto clashValidSpec)

/-- 'sledgelaw17.ClashLists', WHERE WHAT IT READS IS OF BULK AT MOST 1048576: true; the input reads as it did. -/
def clashListsUptoRow : OpenClaim := { program := "ytkkcakblphebjaadoor", sum := "086d2666500610900b49bb4ee57d89abe79b89d2b45ac81ce59b3be6ebe6e65b", func := "sledge/sledgelaw17.ClashLists", spec := "clashLists", recurses := true, named := ["sledge/sha.roundWords"], apart := false, laid := [("sledge/sha.roundWords", laid_sledge_sha_roundWords)], narrowed := true }
def ClashListsUptoSaid : Prop := clashListsUptoRow.holds Tryd.pinned (OpenSpec.upto clashListsSpec)

/-- 'sledgelaw17.ClashFinds', WHERE WHAT IT READS IS OF BULK AT MOST 1048576: true; the input reads as it did. -/
def clashFindsUptoRow : OpenClaim := { program := "ytkkcakblphebjaadoor", sum := "086d2666500610900b49bb4ee57d89abe79b89d2b45ac81ce59b3be6ebe6e65b", func := "sledge/sledgelaw17.ClashFinds", spec := "clashFinds", recurses := true, named := ["sledge/sha.roundWords"], apart := false, laid := [("sledge/sha.roundWords", laid_sledge_sha_roundWords)], narrowed := true }
def ClashFindsUptoSaid : Prop := clashFindsUptoRow.holds Tryd.pinned (OpenSpec.upto clashFindsSpec)

/-- 'sledgelaw17.ClashClaims', WHERE WHAT IT READS IS OF BULK AT MOST 1048576: true; the input reads as it did. -/
def clashClaimsUptoRow : OpenClaim := { program := "ytkkcakblphebjaadoor", sum := "086d2666500610900b49bb4ee57d89abe79b89d2b45ac81ce59b3be6ebe6e65b", func := "sledge/sledgelaw17.ClashClaims", spec := "clashClaims", recurses := true, named := ["sledge/sha.roundWords"], apart := false, laid := [("sledge/sha.roundWords", laid_sledge_sha_roundWords)], narrowed := true }
def ClashClaimsUptoSaid : Prop := clashClaimsUptoRow.holds Tryd.pinned (OpenSpec.upto clashClaimsSpec)

/-- 'sledgelaw17.ClashProves', WHERE WHAT IT READS IS OF BULK AT MOST 1048576: true; the input reads as it did. -/
def clashProvesUptoRow : OpenClaim := { program := "ytkkcakblphebjaadoor", sum := "086d2666500610900b49bb4ee57d89abe79b89d2b45ac81ce59b3be6ebe6e65b", func := "sledge/sledgelaw17.ClashProves", spec := "clashProves", recurses := true, named := ["sledge/sha.roundWords"], apart := false, laid := [("sledge/sha.roundWords", laid_sledge_sha_roundWords)], narrowed := true }
def ClashProvesUptoSaid : Prop := clashProvesUptoRow.holds Tryd.pinned (OpenSpec.upto clashProvesSpec)

/-- 'sledgelaw24.CatalogTakes', WHERE WHAT IT READS IS OF BULK AT MOST 1048576: true; the input reads as it did. -/
def catalogTakesUptoRow : OpenClaim := { program := "ytkkcakblphebjaadoor", sum := "086d2666500610900b49bb4ee57d89abe79b89d2b45ac81ce59b3be6ebe6e65b", func := "sledge/sledgelaw24.CatalogTakes", spec := "catalogTakes", inPlace := ["internal/bytealg.IndexByteString", "internal/bytealg.IndexString"], unfollowed := true, recurses := true, named := ["unicode/utf8.first", "unicode/utf8.acceptRanges", "internal/bytealg.MaxLen"], apart := false, laid := [("unicode/utf8.acceptRanges", laid_unicode_utf8_acceptRanges), ("unicode/utf8.first", laid_unicode_utf8_first)], narrowed := true }
def CatalogTakesUptoSaid : Prop := catalogTakesUptoRow.holds Tryd.pinned (OpenSpec.upto catalogTakesSpec)

end Rows
end Go.Proofs.YtkkcakblphebjaaDoor
