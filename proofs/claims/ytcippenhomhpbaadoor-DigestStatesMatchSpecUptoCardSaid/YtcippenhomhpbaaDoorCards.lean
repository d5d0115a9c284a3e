/-
  DERIVED. GIVEN WITH THE SEED: THE CARDS: each row of YtcippenhomhpbaaDoorRows.lean that lists a variable, with what it lists TIED to the program's text (the seventh form; the later family's looks); each row that meets fmt, with fmt's text TOLD by the authors' own Lean function (tested against real Go, not proved from fmt's source: count such statements apart). THE CARD IS WHAT COUNTS. Prove the row's statement (the work); the ties are given (YtcippenhomhpbaaDoorTie.lean); close each card by the builder's one call (the guide's Derived/Test/ToyasCard.lean, 'card_holds'). Laid BY PROGRAM, IN A SANDBOX (cutbox-door.mjs). By AI agents, Wed Nov 11 2026. No macro, syntax, notation, axiom, sorry.
-/
import Derived.Test.YtcippenhomhpbaaDoorRows
import GoSem.ClaimSeven
namespace Go.Proofs.YtcippenhomhpbaaDoor
namespace Rows

/-- THE TIED CARD OF 'scriptoriumlaw3.DigestMatchesSpec'. -/
def digestMatchesSpecCard : Claim7 := { stood := { row := digestMatchesSpecRow, standIns := [], harness := (true, "9b5c1609662f68c623f8a4d51ceed91b64f79416f508e41d0d23f4468f61a680"), looks := false }, kinds := [], alts := [], laidByText := true, laidKinds := [.data], laidTests := true, laidLooks := .later }
def DigestMatchesSpecCardSaid : Prop := Claim7.holds Tryd.pinned (.plain (OpenSpec.ofChange digestMatchesSpecSpec)) digestMatchesSpecCard

/-- THE TIED CARD OF 'scriptoriumlaw3.DigestStatesMatchSpec'. -/
def digestStatesMatchSpecCard : Claim7 := { stood := { row := digestStatesMatchSpecRow, standIns := [], harness := (true, "9b5c1609662f68c623f8a4d51ceed91b64f79416f508e41d0d23f4468f61a680"), looks := false }, kinds := [], alts := [], laidByText := true, laidKinds := [.data], laidTests := true, laidLooks := .later }
def DigestStatesMatchSpecCardSaid : Prop := Claim7.holds Tryd.pinned (.plain (OpenSpec.ofChange digestStatesMatchSpecSpec)) digestStatesMatchSpecCard

/-- THE TIED CARD OF 'scriptoriumlaw3.DigestInPieces'. -/
def digestInPiecesCard : Claim7 := { stood := { row := digestInPiecesRow, standIns := [], harness := (true, "9b5c1609662f68c623f8a4d51ceed91b64f79416f508e41d0d23f4468f61a680"), looks := false }, kinds := [], alts := [], laidByText := true, laidKinds := [.data], laidTests := true, laidLooks := .later }
def DigestInPiecesCardSaid : Prop := Claim7.holds Tryd.pinned (.plain (OpenSpec.ofChange digestInPiecesSpec)) digestInPiecesCard

/-- THE TIED CARD OF 'scriptoriumlaw3.DigestWritesJoin'. -/
def digestWritesJoinCard : Claim7 := { stood := { row := digestWritesJoinRow, standIns := [], harness := (true, "9b5c1609662f68c623f8a4d51ceed91b64f79416f508e41d0d23f4468f61a680"), looks := false }, kinds := [], alts := [], laidByText := true, laidKinds := [.data], laidTests := true, laidLooks := .later }
def DigestWritesJoinCardSaid : Prop := Claim7.holds Tryd.pinned (.plain (OpenSpec.ofChange digestWritesJoinSpec)) digestWritesJoinCard

/-- THE TIED CARD OF 'scriptoriumlaw3.DigestShortMatchesSpec'. -/
def digestShortMatchesSpecCard : Claim7 := { stood := { row := digestShortMatchesSpecRow, standIns := [], harness := (true, "9b5c1609662f68c623f8a4d51ceed91b64f79416f508e41d0d23f4468f61a680"), looks := false }, kinds := [], alts := [], laidByText := true, laidKinds := [.data], laidTests := true, laidLooks := .later }
def DigestShortMatchesSpecCardSaid : Prop := Claim7.holds Tryd.pinned (.plain (OpenSpec.ofChange digestShortMatchesSpecSpec)) digestShortMatchesSpecCard

/-- THE TIED CARD OF 'scriptoriumlaw3.DigestTextsRoundTrip'. -/
def digestTextsRoundTripCard : Claim7 := { stood := { row := digestTextsRoundTripRow, standIns := [], harness := (true, "9b5c1609662f68c623f8a4d51ceed91b64f79416f508e41d0d23f4468f61a680"), looks := false }, kinds := [], alts := [], laidByText := true, laidKinds := [.data], laidTests := true, laidLooks := .later }
def DigestTextsRoundTripCardSaid : Prop := Claim7.holds Tryd.pinned (.plain (OpenSpec.ofChange digestTextsRoundTripSpec)) digestTextsRoundTripCard

/-- THE TIED CARD OF 'scriptoriumlaw3.DigestParseMatchesSpec'. -/
def digestParseMatchesSpecCard : Claim7 := { stood := { row := digestParseMatchesSpecRow, standIns := [], harness := (true, "9b5c1609662f68c623f8a4d51ceed91b64f79416f508e41d0d23f4468f61a680"), looks := false }, kinds := [], alts := [], laidByText := true, laidKinds := [.data], laidTests := true, laidLooks := .later }
def DigestParseMatchesSpecCardSaid : Prop := Claim7.holds Tryd.pinned (.plain (OpenSpec.ofChange digestParseMatchesSpecSpec)) digestParseMatchesSpecCard

/-- THE SECOND FORM's CARD OF 'scriptoriumlaw3.DigestMatchesSpec'. -/
def digestMatchesSpecUptoCard : Claim7 := { stood := { row := digestMatchesSpecUptoRow, standIns := [], harness := (true, "9b5c1609662f68c623f8a4d51ceed91b64f79416f508e41d0d23f4468f61a680"), looks := false }, kinds := [], alts := [], laidByText := true, laidKinds := [.data], laidTests := true, laidLooks := .later }
def DigestMatchesSpecUptoCardSaid : Prop := Claim7.holds Tryd.pinned (.plain (OpenSpec.upto digestMatchesSpecSpec)) digestMatchesSpecUptoCard

/-- THE SECOND FORM's CARD OF 'scriptoriumlaw3.DigestStatesMatchSpec'. -/
def digestStatesMatchSpecUptoCard : Claim7 := { stood := { row := digestStatesMatchSpecUptoRow, standIns := [], harness := (true, "9b5c1609662f68c623f8a4d51ceed91b64f79416f508e41d0d23f4468f61a680"), looks := false }, kinds := [], alts := [], laidByText := true, laidKinds := [.data], laidTests := true, laidLooks := .later }
def DigestStatesMatchSpecUptoCardSaid : Prop := Claim7.holds Tryd.pinned (.plain (OpenSpec.upto digestStatesMatchSpecSpec)) digestStatesMatchSpecUptoCard

/-- THE SECOND FORM's CARD OF 'scriptoriumlaw3.DigestInPieces'. -/
def digestInPiecesUptoCard : Claim7 := { stood := { row := digestInPiecesUptoRow, standIns := [], harness := (true, "9b5c1609662f68c623f8a4d51ceed91b64f79416f508e41d0d23f4468f61a680"), looks := false }, kinds := [], alts := [], laidByText := true, laidKinds := [.data], laidTests := true, laidLooks := .later }
def DigestInPiecesUptoCardSaid : Prop := Claim7.holds Tryd.pinned (.plain (OpenSpec.upto digestInPiecesSpec)) digestInPiecesUptoCard

/-- THE SECOND FORM's CARD OF 'scriptoriumlaw3.DigestWritesJoin'. -/
def digestWritesJoinUptoCard : Claim7 := { stood := { row := digestWritesJoinUptoRow, standIns := [], harness := (true, "9b5c1609662f68c623f8a4d51ceed91b64f79416f508e41d0d23f4468f61a680"), looks := false }, kinds := [], alts := [], laidByText := true, laidKinds := [.data], laidTests := true, laidLooks := .later }
def DigestWritesJoinUptoCardSaid : Prop := Claim7.holds Tryd.pinned (.plain (OpenSpec.upto digestWritesJoinSpec)) digestWritesJoinUptoCard

/-- THE SECOND FORM's CARD OF 'scriptoriumlaw3.DigestShortMatchesSpec'. -/
def digestShortMatchesSpecUptoCard : Claim7 := { stood := { row := digestShortMatchesSpecUptoRow, standIns := [], harness := (true, "9b5c1609662f68c623f8a4d51ceed91b64f79416f508e41d0d23f4468f61a680"), looks := false }, kinds := [], alts := [], laidByText := true, laidKinds := [.data], laidTests := true, laidLooks := .later }
def DigestShortMatchesSpecUptoCardSaid : Prop := Claim7.holds Tryd.pinned (.plain (OpenSpec.upto digestShortMatchesSpecSpec)) digestShortMatchesSpecUptoCard

/-- THE SECOND FORM's CARD OF 'scriptoriumlaw3.DigestTextsRoundTrip'. -/
def digestTextsRoundTripUptoCard : Claim7 := { stood := { row := digestTextsRoundTripUptoRow, standIns := [], harness := (true, "9b5c1609662f68c623f8a4d51ceed91b64f79416f508e41d0d23f4468f61a680"), looks := false }, kinds := [], alts := [], laidByText := true, laidKinds := [.data], laidTests := true, laidLooks := .later }
def DigestTextsRoundTripUptoCardSaid : Prop := Claim7.holds Tryd.pinned (.plain (OpenSpec.upto digestTextsRoundTripSpec)) digestTextsRoundTripUptoCard

/-- THE SECOND FORM's CARD OF 'scriptoriumlaw3.DigestParseMatchesSpec'. -/
def digestParseMatchesSpecUptoCard : Claim7 := { stood := { row := digestParseMatchesSpecUptoRow, standIns := [], harness := (true, "9b5c1609662f68c623f8a4d51ceed91b64f79416f508e41d0d23f4468f61a680"), looks := false }, kinds := [], alts := [], laidByText := true, laidKinds := [.data], laidTests := true, laidLooks := .later }
def DigestParseMatchesSpecUptoCardSaid : Prop := Claim7.holds Tryd.pinned (.plain (OpenSpec.upto digestParseMatchesSpecSpec)) digestParseMatchesSpecUptoCard
end Rows
end Go.Proofs.YtcippenhomhpbaaDoor
