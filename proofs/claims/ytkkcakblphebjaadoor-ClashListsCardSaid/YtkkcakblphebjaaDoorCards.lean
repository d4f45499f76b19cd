/-
  DERIVED. GIVEN WITH THE SEED: THE CARDS: each row of YtkkcakblphebjaaDoorRows.lean that lists a variable, with what it lists TIED to the program's text (the seventh form; the later family's looks); each row that meets fmt, with fmt's text TOLD by the authors' own Lean function (tested against real Go, not proved from fmt's source: count such statements apart). THE CARD IS WHAT COUNTS. Prove the row's statement (the work); the ties are given (YtkkcakblphebjaaDoorTie.lean); close each card by the builder's one call (the guide's Derived/Test/ToyasCard.lean, 'card_holds'). Laid BY PROGRAM, IN A SANDBOX (cutbox-door.mjs). By AI agents, Wed Nov 11 2026. No macro, syntax, notation, axiom, sorry.
-/
import Derived.Test.YtkkcakblphebjaaDoorRows
import GoSem.ClaimSeven
namespace Go.Proofs.YtkkcakblphebjaaDoor
namespace Rows

/-- THE TIED CARD OF 'sledgelaw17.ClashValid'. -/
def clashValidCard : Claim7 := { stood := { row := clashValidRow, standIns := [], harness := (true, "99d563a05b5cbb1ea487f50e549c7db882716148266864916fb4276357abb2e4"), looks := false }, kinds := [], alts := [], laidByText := true, laidKinds := [.data], laidTests := true, laidLooks := .later }
def ClashValidCardSaid : Prop := Claim7.holds Tryd.pinned (.plain (OpenSpec.ofChange clashValidSpec)) clashValidCard

/-- THE TIED CARD OF 'sledgelaw17.ClashLists'. -/
def clashListsCard : Claim7 := { stood := { row := clashListsRow, standIns := [], harness := (true, "99d563a05b5cbb1ea487f50e549c7db882716148266864916fb4276357abb2e4"), looks := false }, kinds := [], alts := [], laidByText := true, laidKinds := [.data], laidTests := true, laidLooks := .later }
def ClashListsCardSaid : Prop := Claim7.holds Tryd.pinned (.plain (OpenSpec.ofChange clashListsSpec)) clashListsCard

/-- THE TIED CARD OF 'sledgelaw17.ClashFinds'. -/
def clashFindsCard : Claim7 := { stood := { row := clashFindsRow, standIns := [], harness := (true, "99d563a05b5cbb1ea487f50e549c7db882716148266864916fb4276357abb2e4"), looks := false }, kinds := [], alts := [], laidByText := true, laidKinds := [.data], laidTests := true, laidLooks := .later }
def ClashFindsCardSaid : Prop := Claim7.holds Tryd.pinned (.plain (OpenSpec.ofChange clashFindsSpec)) clashFindsCard

/-- THE TIED CARD OF 'sledgelaw17.ClashClaims'. -/
def clashClaimsCard : Claim7 := { stood := { row := clashClaimsRow, standIns := [], harness := (true, "99d563a05b5cbb1ea487f50e549c7db882716148266864916fb4276357abb2e4"), looks := false }, kinds := [], alts := [], laidByText := true, laidKinds := [.data], laidTests := true, laidLooks := .later }
def ClashClaimsCardSaid : Prop := Claim7.holds Tryd.pinned (.plain (OpenSpec.ofChange clashClaimsSpec)) clashClaimsCard

/-- THE TIED CARD OF 'sledgelaw17.ClashProves'. -/
def clashProvesCard : Claim7 := { stood := { row := clashProvesRow, standIns := [], harness := (true, "99d563a05b5cbb1ea487f50e549c7db882716148266864916fb4276357abb2e4"), looks := false }, kinds := [], alts := [], laidByText := true, laidKinds := [.data], laidTests := true, laidLooks := .later }
def ClashProvesCardSaid : Prop := Claim7.holds Tryd.pinned (.plain (OpenSpec.ofChange clashProvesSpec)) clashProvesCard

/-- THE TIED CARD OF 'sledgelaw24.CatalogTakes'. -/
def catalogTakesCard : Claim7 := { stood := { row := catalogTakesRow, standIns := [], harness := (true, "99d563a05b5cbb1ea487f50e549c7db882716148266864916fb4276357abb2e4"), looks := false }, kinds := [], alts := [], laidByText := true, laidKinds := [.data, .pinned], laidTests := true, laidLooks := .later }
def CatalogTakesCardSaid : Prop := Claim7.holds Tryd.pinned (.plain (OpenSpec.ofChange catalogTakesSpec)) catalogTakesCard

/-- THE SECOND FORM's CARD OF 'sledgelaw17.ClashValid'. -/
def clashValidUptoCard : Claim7 := { stood := { row := clashValidUptoRow, standIns := [], harness := (true, "99d563a05b5cbb1ea487f50e549c7db882716148266864916fb4276357abb2e4"), looks := false }, kinds := [], alts := [], laidByText := true, laidKinds := [.data], laidTests := true, laidLooks := .later }
def ClashValidUptoCardSaid : Prop := Claim7.holds Tryd.pinned (.plain (OpenSpec.upto clashValidSpec)) clashValidUptoCard

/-- THE SECOND FORM's CARD OF 'sledgelaw17.ClashLists'. -/
def clashListsUptoCard : Claim7 := { stood := { row := clashListsUptoRow, standIns := [], harness := (true, "99d563a05b5cbb1ea487f50e549c7db882716148266864916fb4276357abb2e4"), looks := false }, kinds := [], alts := [], laidByText := true, laidKinds := [.data], laidTests := true, laidLooks := .later }
def ClashListsUptoCardSaid : Prop := Claim7.holds Tryd.pinned (.plain (OpenSpec.upto clashListsSpec)) clashListsUptoCard

/-- THE SECOND FORM's CARD OF 'sledgelaw17.ClashFinds'. -/
def clashFindsUptoCard : Claim7 := { stood := { row := clashFindsUptoRow, standIns := [], harness := (true, "99d563a05b5cbb1ea487f50e549c7db882716148266864916fb4276357abb2e4"), looks := false }, kinds := [], alts := [], laidByText := true, laidKinds := [.data], laidTests := true, laidLooks := .later }
def ClashFindsUptoCardSaid : Prop := Claim7.holds Tryd.pinned (.plain (OpenSpec.upto clashFindsSpec)) clashFindsUptoCard

/-- THE SECOND FORM's CARD OF 'sledgelaw17.ClashClaims'. -/
def clashClaimsUptoCard : Claim7 := { stood := { row := clashClaimsUptoRow, standIns := [], harness := (true, "99d563a05b5cbb1ea487f50e549c7db882716148266864916fb4276357abb2e4"), looks := false }, kinds := [], alts := [], laidByText := true, laidKinds := [.data], laidTests := true, laidLooks := .later }
def ClashClaimsUptoCardSaid : Prop := Claim7.holds Tryd.pinned (.plain (OpenSpec.upto clashClaimsSpec)) clashClaimsUptoCard

/-- THE SECOND FORM's CARD OF 'sledgelaw17.ClashProves'. -/
def clashProvesUptoCard : Claim7 := { stood := { row := clashProvesUptoRow, standIns := [], harness := (true, "99d563a05b5cbb1ea487f50e549c7db882716148266864916fb4276357abb2e4"), looks := false }, kinds := [], alts := [], laidByText := true, laidKinds := [.data], laidTests := true, laidLooks := .later }
def ClashProvesUptoCardSaid : Prop := Claim7.holds Tryd.pinned (.plain (OpenSpec.upto clashProvesSpec)) clashProvesUptoCard

/-- THE SECOND FORM's CARD OF 'sledgelaw24.CatalogTakes'. -/
def catalogTakesUptoCard : Claim7 := { stood := { row := catalogTakesUptoRow, standIns := [], harness := (true, "99d563a05b5cbb1ea487f50e549c7db882716148266864916fb4276357abb2e4"), looks := false }, kinds := [], alts := [], laidByText := true, laidKinds := [.data, .pinned], laidTests := true, laidLooks := .later }
def CatalogTakesUptoCardSaid : Prop := Claim7.holds Tryd.pinned (.plain (OpenSpec.upto catalogTakesSpec)) catalogTakesUptoCard
end Rows
end Go.Proofs.YtkkcakblphebjaaDoor
