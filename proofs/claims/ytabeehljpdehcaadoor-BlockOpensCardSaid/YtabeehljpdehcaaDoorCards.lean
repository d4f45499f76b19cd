/-
  DERIVED. GIVEN WITH THE SEED: THE CARDS: each row of YtabeehljpdehcaaDoorRows.lean that lists a variable, with what it lists TIED to the program's text (the seventh form; the later family's looks); each row that meets fmt, with fmt's text TOLD by the authors' own Lean function (tested against real Go, not proved from fmt's source: count such statements apart). THE CARD IS WHAT COUNTS. Prove the row's statement (the work); the ties are given (YtabeehljpdehcaaDoorTie.lean); close each card by the builder's one call (the guide's Derived/Test/ToyasCard.lean, 'card_holds'). Laid BY PROGRAM, IN A SANDBOX (cutbox-door.mjs). By AI agents, Wed Nov 11 2026. No macro, syntax, notation, axiom, sorry.
-/
import Derived.Test.YtabeehljpdehcaaDoorRows
import GoSem.ClaimSeven
namespace Go.Proofs.YtabeehljpdehcaaDoor
namespace Rows

/-- THE TIED CARD OF 'sledgelaw18.HeaderSigns'. -/
def headerSignsCard : Claim7 := { stood := { row := headerSignsRow, standIns := [], harness := (true, "4cf2b0f6c1b73c425f09ce92a721fa549a281469a044d08004848f292fbf532b"), looks := false }, kinds := [], alts := [], laidByText := true, laidKinds := [.data], laidTests := true, laidLooks := .later }
def HeaderSignsCardSaid : Prop := Claim7.holds Tryd.pinned (.plain (OpenSpec.ofChange headerSignsSpec)) headerSignsCard

/-- THE TIED CARD OF 'sledgelaw18.HeaderTags'. -/
def headerTagsCard : Claim7 := { stood := { row := headerTagsRow, standIns := [], harness := (true, "4cf2b0f6c1b73c425f09ce92a721fa549a281469a044d08004848f292fbf532b"), looks := false }, kinds := [], alts := [], laidByText := true, laidKinds := [.data], laidTests := true, laidLooks := .later }
def HeaderTagsCardSaid : Prop := Claim7.holds Tryd.pinned (.plain (OpenSpec.ofChange headerTagsSpec)) headerTagsCard

/-- THE TIED CARD OF 'sledgelaw14.BlockSeals'. -/
def blockSealsCard : Claim7 := { stood := { row := blockSealsRow, standIns := [], harness := (true, "4cf2b0f6c1b73c425f09ce92a721fa549a281469a044d08004848f292fbf532b"), looks := false }, kinds := [], alts := [], laidByText := true, laidKinds := [.data], laidTests := true, laidLooks := .later }
def BlockSealsCardSaid : Prop := Claim7.holds Tryd.pinned (.plain (OpenSpec.ofChange blockSealsSpec)) blockSealsCard

/-- THE TIED CARD OF 'sledgelaw14.BlockOpens'. -/
def blockOpensCard : Claim7 := { stood := { row := blockOpensRow, standIns := [], harness := (true, "4cf2b0f6c1b73c425f09ce92a721fa549a281469a044d08004848f292fbf532b"), looks := false }, kinds := [], alts := [], laidByText := true, laidKinds := [.data], laidTests := true, laidLooks := .later }
def BlockOpensCardSaid : Prop := Claim7.holds Tryd.pinned (.plain (OpenSpec.ofChange blockOpensSpec)) blockOpensCard

/-- THE TIED CARD OF 'sledgelaw14.BlockBack'. -/
def blockBackCard : Claim7 := { stood := { row := blockBackRow, standIns := [], harness := (true, "4cf2b0f6c1b73c425f09ce92a721fa549a281469a044d08004848f292fbf532b"), looks := false }, kinds := [], alts := [], laidByText := true, laidKinds := [.data], laidTests := true, laidLooks := .later }
def BlockBackCardSaid : Prop := Claim7.holds Tryd.pinned (.plain (OpenSpec.ofChange blockBackSpec)) blockBackCard

/-- THE TIED CARD OF 'sledgelaw14.BlockTags'. -/
def blockTagsCard : Claim7 := { stood := { row := blockTagsRow, standIns := [], harness := (true, "4cf2b0f6c1b73c425f09ce92a721fa549a281469a044d08004848f292fbf532b"), looks := false }, kinds := [], alts := [], laidByText := true, laidKinds := [.data], laidTests := true, laidLooks := .later }
def BlockTagsCardSaid : Prop := Claim7.holds Tryd.pinned (.plain (OpenSpec.ofChange blockTagsSpec)) blockTagsCard

/-- THE TIED CARD OF 'sledgelaw14.BlockBytes'. -/
def blockBytesCard : Claim7 := { stood := { row := blockBytesRow, standIns := [], harness := (true, "4cf2b0f6c1b73c425f09ce92a721fa549a281469a044d08004848f292fbf532b"), looks := false }, kinds := [], alts := [], laidByText := true, laidKinds := [.data], laidTests := true, laidLooks := .later }
def BlockBytesCardSaid : Prop := Claim7.holds Tryd.pinned (.plain (OpenSpec.ofChange blockBytesSpec)) blockBytesCard

/-- THE TIED CARD OF 'sledgelaw05.KdfKeys'. -/
def kdfKeysCard : Claim7 := { stood := { row := kdfKeysRow, standIns := [], harness := (true, "4cf2b0f6c1b73c425f09ce92a721fa549a281469a044d08004848f292fbf532b"), looks := false }, kinds := [], alts := [], laidByText := true, laidKinds := [.data], laidTests := true, laidLooks := .later }
def KdfKeysCardSaid : Prop := Claim7.holds Tryd.pinned (.plain (OpenSpec.ofChange kdfKeysSpec)) kdfKeysCard

/-- THE SECOND FORM's CARD OF 'sledgelaw18.HeaderSigns'. -/
def headerSignsUptoCard : Claim7 := { stood := { row := headerSignsUptoRow, standIns := [], harness := (true, "4cf2b0f6c1b73c425f09ce92a721fa549a281469a044d08004848f292fbf532b"), looks := false }, kinds := [], alts := [], laidByText := true, laidKinds := [.data], laidTests := true, laidLooks := .later }
def HeaderSignsUptoCardSaid : Prop := Claim7.holds Tryd.pinned (.plain (OpenSpec.upto headerSignsSpec)) headerSignsUptoCard

/-- THE SECOND FORM's CARD OF 'sledgelaw18.HeaderTags'. -/
def headerTagsUptoCard : Claim7 := { stood := { row := headerTagsUptoRow, standIns := [], harness := (true, "4cf2b0f6c1b73c425f09ce92a721fa549a281469a044d08004848f292fbf532b"), looks := false }, kinds := [], alts := [], laidByText := true, laidKinds := [.data], laidTests := true, laidLooks := .later }
def HeaderTagsUptoCardSaid : Prop := Claim7.holds Tryd.pinned (.plain (OpenSpec.upto headerTagsSpec)) headerTagsUptoCard

/-- THE SECOND FORM's CARD OF 'sledgelaw14.BlockSeals'. -/
def blockSealsUptoCard : Claim7 := { stood := { row := blockSealsUptoRow, standIns := [], harness := (true, "4cf2b0f6c1b73c425f09ce92a721fa549a281469a044d08004848f292fbf532b"), looks := false }, kinds := [], alts := [], laidByText := true, laidKinds := [.data], laidTests := true, laidLooks := .later }
def BlockSealsUptoCardSaid : Prop := Claim7.holds Tryd.pinned (.plain (OpenSpec.upto blockSealsSpec)) blockSealsUptoCard

/-- THE SECOND FORM's CARD OF 'sledgelaw14.BlockOpens'. -/
def blockOpensUptoCard : Claim7 := { stood := { row := blockOpensUptoRow, standIns := [], harness := (true, "4cf2b0f6c1b73c425f09ce92a721fa549a281469a044d08004848f292fbf532b"), looks := false }, kinds := [], alts := [], laidByText := true, laidKinds := [.data], laidTests := true, laidLooks := .later }
def BlockOpensUptoCardSaid : Prop := Claim7.holds Tryd.pinned (.plain (OpenSpec.upto blockOpensSpec)) blockOpensUptoCard

/-- THE SECOND FORM's CARD OF 'sledgelaw14.BlockBack'. -/
def blockBackUptoCard : Claim7 := { stood := { row := blockBackUptoRow, standIns := [], harness := (true, "4cf2b0f6c1b73c425f09ce92a721fa549a281469a044d08004848f292fbf532b"), looks := false }, kinds := [], alts := [], laidByText := true, laidKinds := [.data], laidTests := true, laidLooks := .later }
def BlockBackUptoCardSaid : Prop := Claim7.holds Tryd.pinned (.plain (OpenSpec.upto blockBackSpec)) blockBackUptoCard

/-- THE SECOND FORM's CARD OF 'sledgelaw14.BlockTags'. -/
def blockTagsUptoCard : Claim7 := { stood := { row := blockTagsUptoRow, standIns := [], harness := (true, "4cf2b0f6c1b73c425f09ce92a721fa549a281469a044d08004848f292fbf532b"), looks := false }, kinds := [], alts := [], laidByText := true, laidKinds := [.data], laidTests := true, laidLooks := .later }
def BlockTagsUptoCardSaid : Prop := Claim7.holds Tryd.pinned (.plain (OpenSpec.upto blockTagsSpec)) blockTagsUptoCard

/-- THE SECOND FORM's CARD OF 'sledgelaw14.BlockBytes'. -/
def blockBytesUptoCard : Claim7 := { stood := { row := blockBytesUptoRow, standIns := [], harness := (true, "4cf2b0f6c1b73c425f09ce92a721fa549a281469a044d08004848f292fbf532b"), looks := false }, kinds := [], alts := [], laidByText := true, laidKinds := [.data], laidTests := true, laidLooks := .later }
def BlockBytesUptoCardSaid : Prop := Claim7.holds Tryd.pinned (.plain (OpenSpec.upto blockBytesSpec)) blockBytesUptoCard

/-- THE SECOND FORM's CARD OF 'sledgelaw05.KdfKeys'. -/
def kdfKeysUptoCard : Claim7 := { stood := { row := kdfKeysUptoRow, standIns := [], harness := (true, "4cf2b0f6c1b73c425f09ce92a721fa549a281469a044d08004848f292fbf532b"), looks := false }, kinds := [], alts := [], laidByText := true, laidKinds := [.data], laidTests := true, laidLooks := .later }
def KdfKeysUptoCardSaid : Prop := Claim7.holds Tryd.pinned (.plain (OpenSpec.upto kdfKeysSpec)) kdfKeysUptoCard
end Rows
end Go.Proofs.YtabeehljpdehcaaDoor
