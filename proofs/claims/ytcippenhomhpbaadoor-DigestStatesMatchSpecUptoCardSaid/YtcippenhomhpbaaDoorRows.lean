/-
  NARROWER THAN 'FOR EVERY INPUT', by the rows' own cells (each row's printed sentence says how): DigestMatchesSpec: laid · DigestStatesMatchSpec: laid · DigestInPieces: laid · DigestWritesJoin: laid · DigestShortMatchesSpec: laid · DigestTextsRoundTrip: laid · DigestParseMatchesSpec: laid.
  DERIVED. THE GIVEN ROWS OF THIS SEAT. 7 by the template 'for every input the law returns true; each argument reads behind the call as it read before'; 0 by the template 'total and deterministic' (their statements: YtcippenhomhpbaaDoorTotals.lean).
  GIVEN WITH THE SEED: the statements are not yours to turn. If you find one false, say at which input.
  Laid BY PROGRAM, IN A SANDBOX (cutbox-rows.mjs): the forced cells as the released guide's own fill.sh prints them over the translation eac8ad3b88cc19cb… (all of the seat's roots in one cut). By AI agents, Wed Nov 11 2026. No macro, syntax, notation, axiom, sorry.
-/
import Derived.Test.YtcippenhomhpbaaDoorChecked
import GoSem.Claim
import GoSem.ClaimJoined
import GoSem.ClaimMapViews
import Derived.JoinedTies
import Derived.KernelRfl
namespace Go.Proofs.YtcippenhomhpbaaDoor
/- THE CELL 'sum', in the pinned program and in every row, IS THE sha256 OF THE DUMP (.gsa) THAT YtcippenhomhpbaaDoorProg.lean LOADS. Nothing in Lean hashes anything: it is a label: what it is worth is what the hold of that sum in a sandbox is worth. -/
noncomputable def Tryd.pinned : Pinned := { name := "ytcippenhomhpbaadoor", sum := "eac8ad3b88cc19cbabb3b28cdef0800f2cb3571f2e94abb62360ac95d934447a", checked := Tryd.checked }
namespace Rows
def none {H : Type} : Left H := { results := [], args := [] }

/- WHAT THE LISTED PACKAGE-LEVEL VARIABLES READ AS WHEN THE CALL BEGINS. Each datum BY PROGRAM (the guide's laid-datum.mjs) off the statement by which the dump's own 'gosem.cut.vars' lays the variable. In a bare row this is a premise. The card (YtcippenhomhpbaaDoorCards.lean) ties it to the program's text. -/
def laid_scriptorium_digest_roundConstants {H : Type} : DataW H := .agg [.lit (.int .u32 1116352408), .lit (.int .u32 1899447441), .lit (.int .u32 3049323471), .lit (.int .u32 3921009573), .lit (.int .u32 961987163), .lit (.int .u32 1508970993), .lit (.int .u32 2453635748), .lit (.int .u32 2870763221), .lit (.int .u32 3624381080), .lit (.int .u32 310598401), .lit (.int .u32 607225278), .lit (.int .u32 1426881987), .lit (.int .u32 1925078388), .lit (.int .u32 2162078206), .lit (.int .u32 2614888103), .lit (.int .u32 3248222580), .lit (.int .u32 3835390401), .lit (.int .u32 4022224774), .lit (.int .u32 264347078), .lit (.int .u32 604807628), .lit (.int .u32 770255983), .lit (.int .u32 1249150122), .lit (.int .u32 1555081692), .lit (.int .u32 1996064986), .lit (.int .u32 2554220882), .lit (.int .u32 2821834349), .lit (.int .u32 2952996808), .lit (.int .u32 3210313671), .lit (.int .u32 3336571891), .lit (.int .u32 3584528711), .lit (.int .u32 113926993), .lit (.int .u32 338241895), .lit (.int .u32 666307205), .lit (.int .u32 773529912), .lit (.int .u32 1294757372), .lit (.int .u32 1396182291), .lit (.int .u32 1695183700), .lit (.int .u32 1986661051), .lit (.int .u32 2177026350), .lit (.int .u32 2456956037), .lit (.int .u32 2730485921), .lit (.int .u32 2820302411), .lit (.int .u32 3259730800), .lit (.int .u32 3345764771), .lit (.int .u32 3516065817), .lit (.int .u32 3600352804), .lit (.int .u32 4094571909), .lit (.int .u32 275423344), .lit (.int .u32 430227734), .lit (.int .u32 506948616), .lit (.int .u32 659060556), .lit (.int .u32 883997877), .lit (.int .u32 958139571), .lit (.int .u32 1322822218), .lit (.int .u32 1537002063), .lit (.int .u32 1747873779), .lit (.int .u32 1955562222), .lit (.int .u32 2024104815), .lit (.int .u32 2227730452), .lit (.int .u32 2361852424), .lit (.int .u32 2428436474), .lit (.int .u32 2756734187), .lit (.int .u32 3204031479), .lit (.int .u32 3329325298)]

/-- 'scriptoriumlaw3.DigestMatchesSpec': WHATEVER THE INPUT: true; the input reads as it did. -/
def digestMatchesSpecSpec : ChangeSpec := { name := "digestMatchesSpec", fn := fun _ => fun
  | [d] => { results := [.lit (.bool true)], args := [d] }
  | _ => none }
def digestMatchesSpecRow : OpenClaim := { program := "ytcippenhomhpbaadoor", sum := "eac8ad3b88cc19cbabb3b28cdef0800f2cb3571f2e94abb62360ac95d934447a", func := "scriptorium/scriptoriumlaw3.DigestMatchesSpec", spec := "digestMatchesSpec", named := ["scriptorium/digest.roundConstants"], apart := false, laid := [("scriptorium/digest.roundConstants", laid_scriptorium_digest_roundConstants)] }
def DigestMatchesSpecSaid : Prop := digestMatchesSpecRow.holds Tryd.pinned (OpenSpec.ofChange digestMatchesSpecSpec)

/-- ITS FALSE NEIGHBOUR: 'it returns false'. Refute it at one input. -/
def digestMatchesSpecWrong : ChangeSpec := { name := "digestMatchesSpec", fn := fun _ => fun
  | [d] => { results := [.lit (.bool false)], args := [d] }
  | _ => none }
def DigestMatchesSpecWrongFalsely : Prop := digestMatchesSpecRow.holds Tryd.pinned (OpenSpec.ofChange digestMatchesSpecWrong)

/-- 'scriptoriumlaw3.DigestStatesMatchSpec': WHATEVER THE INPUT: true; the input reads as it did. -/
def digestStatesMatchSpecSpec : ChangeSpec := { name := "digestStatesMatchSpec", fn := fun _ => fun
  | [d1, d2] => { results := [.lit (.bool true)], args := [d1, d2] }
  | _ => none }
def digestStatesMatchSpecRow : OpenClaim := { program := "ytcippenhomhpbaadoor", sum := "eac8ad3b88cc19cbabb3b28cdef0800f2cb3571f2e94abb62360ac95d934447a", func := "scriptorium/scriptoriumlaw3.DigestStatesMatchSpec", spec := "digestStatesMatchSpec", named := ["scriptorium/digest.roundConstants"], apart := false, laid := [("scriptorium/digest.roundConstants", laid_scriptorium_digest_roundConstants)] }
def DigestStatesMatchSpecSaid : Prop := digestStatesMatchSpecRow.holds Tryd.pinned (OpenSpec.ofChange digestStatesMatchSpecSpec)

/-- ITS FALSE NEIGHBOUR: 'it returns false'. Refute it at one input. -/
def digestStatesMatchSpecWrong : ChangeSpec := { name := "digestStatesMatchSpec", fn := fun _ => fun
  | [d1, d2] => { results := [.lit (.bool false)], args := [d1, d2] }
  | _ => none }
def DigestStatesMatchSpecWrongFalsely : Prop := digestStatesMatchSpecRow.holds Tryd.pinned (OpenSpec.ofChange digestStatesMatchSpecWrong)

/-- 'scriptoriumlaw3.DigestInPieces': WHATEVER THE INPUT: true; the input reads as it did. -/
def digestInPiecesSpec : ChangeSpec := { name := "digestInPieces", fn := fun _ => fun
  | [d1, d2] => { results := [.lit (.bool true)], args := [d1, d2] }
  | _ => none }
def digestInPiecesRow : OpenClaim := { program := "ytcippenhomhpbaadoor", sum := "eac8ad3b88cc19cbabb3b28cdef0800f2cb3571f2e94abb62360ac95d934447a", func := "scriptorium/scriptoriumlaw3.DigestInPieces", spec := "digestInPieces", named := ["scriptorium/digest.roundConstants"], apart := false, laid := [("scriptorium/digest.roundConstants", laid_scriptorium_digest_roundConstants)] }
def DigestInPiecesSaid : Prop := digestInPiecesRow.holds Tryd.pinned (OpenSpec.ofChange digestInPiecesSpec)

/-- ITS FALSE NEIGHBOUR: 'it returns false'. Refute it at one input. -/
def digestInPiecesWrong : ChangeSpec := { name := "digestInPieces", fn := fun _ => fun
  | [d1, d2] => { results := [.lit (.bool false)], args := [d1, d2] }
  | _ => none }
def DigestInPiecesWrongFalsely : Prop := digestInPiecesRow.holds Tryd.pinned (OpenSpec.ofChange digestInPiecesWrong)

/-- 'scriptoriumlaw3.DigestWritesJoin': WHATEVER THE INPUT: true; the input reads as it did. -/
def digestWritesJoinSpec : ChangeSpec := { name := "digestWritesJoin", fn := fun _ => fun
  | [d1, d2, d3] => { results := [.lit (.bool true)], args := [d1, d2, d3] }
  | _ => none }
def digestWritesJoinRow : OpenClaim := { program := "ytcippenhomhpbaadoor", sum := "eac8ad3b88cc19cbabb3b28cdef0800f2cb3571f2e94abb62360ac95d934447a", func := "scriptorium/scriptoriumlaw3.DigestWritesJoin", spec := "digestWritesJoin", named := ["scriptorium/digest.roundConstants"], apart := false, laid := [("scriptorium/digest.roundConstants", laid_scriptorium_digest_roundConstants)] }
def DigestWritesJoinSaid : Prop := digestWritesJoinRow.holds Tryd.pinned (OpenSpec.ofChange digestWritesJoinSpec)

/-- ITS FALSE NEIGHBOUR: 'it returns false'. Refute it at one input. -/
def digestWritesJoinWrong : ChangeSpec := { name := "digestWritesJoin", fn := fun _ => fun
  | [d1, d2, d3] => { results := [.lit (.bool false)], args := [d1, d2, d3] }
  | _ => none }
def DigestWritesJoinWrongFalsely : Prop := digestWritesJoinRow.holds Tryd.pinned (OpenSpec.ofChange digestWritesJoinWrong)

/-- 'scriptoriumlaw3.DigestShortMatchesSpec': WHATEVER THE INPUT: true; the input reads as it did. -/
def digestShortMatchesSpecSpec : ChangeSpec := { name := "digestShortMatchesSpec", fn := fun _ => fun
  | [d1, d2, d3] => { results := [.lit (.bool true)], args := [d1, d2, d3] }
  | _ => none }
def digestShortMatchesSpecRow : OpenClaim := { program := "ytcippenhomhpbaadoor", sum := "eac8ad3b88cc19cbabb3b28cdef0800f2cb3571f2e94abb62360ac95d934447a", func := "scriptorium/scriptoriumlaw3.DigestShortMatchesSpec", spec := "digestShortMatchesSpec", named := ["scriptorium/digest.roundConstants"], apart := false, laid := [("scriptorium/digest.roundConstants", laid_scriptorium_digest_roundConstants)] }
def DigestShortMatchesSpecSaid : Prop := digestShortMatchesSpecRow.holds Tryd.pinned (OpenSpec.ofChange digestShortMatchesSpecSpec)

/-- ITS FALSE NEIGHBOUR: 'it returns false'. Refute it at one input. -/
def digestShortMatchesSpecWrong : ChangeSpec := { name := "digestShortMatchesSpec", fn := fun _ => fun
  | [d1, d2, d3] => { results := [.lit (.bool false)], args := [d1, d2, d3] }
  | _ => none }
def DigestShortMatchesSpecWrongFalsely : Prop := digestShortMatchesSpecRow.holds Tryd.pinned (OpenSpec.ofChange digestShortMatchesSpecWrong)

/-- 'scriptoriumlaw3.DigestTextsRoundTrip': WHATEVER THE INPUT: true; the input reads as it did. -/
def digestTextsRoundTripSpec : ChangeSpec := { name := "digestTextsRoundTrip", fn := fun _ => fun
  | [d] => { results := [.lit (.bool true)], args := [d] }
  | _ => none }
def digestTextsRoundTripRow : OpenClaim := { program := "ytcippenhomhpbaadoor", sum := "eac8ad3b88cc19cbabb3b28cdef0800f2cb3571f2e94abb62360ac95d934447a", func := "scriptorium/scriptoriumlaw3.DigestTextsRoundTrip", spec := "digestTextsRoundTrip", inPlace := ["internal/bytealg.IndexByteString"], named := ["scriptorium/digest.roundConstants"], apart := false, laid := [("scriptorium/digest.roundConstants", laid_scriptorium_digest_roundConstants)] }
def DigestTextsRoundTripSaid : Prop := digestTextsRoundTripRow.holds Tryd.pinned (OpenSpec.ofChange digestTextsRoundTripSpec)

/-- ITS FALSE NEIGHBOUR: 'it returns false'. Refute it at one input. -/
def digestTextsRoundTripWrong : ChangeSpec := { name := "digestTextsRoundTrip", fn := fun _ => fun
  | [d] => { results := [.lit (.bool false)], args := [d] }
  | _ => none }
def DigestTextsRoundTripWrongFalsely : Prop := digestTextsRoundTripRow.holds Tryd.pinned (OpenSpec.ofChange digestTextsRoundTripWrong)

/-- 'scriptoriumlaw3.DigestParseMatchesSpec': WHATEVER THE INPUT: true; the input reads as it did. -/
def digestParseMatchesSpecSpec : ChangeSpec := { name := "digestParseMatchesSpec", fn := fun _ => fun
  | [d] => { results := [.lit (.bool true)], args := [d] }
  | _ => none }
def digestParseMatchesSpecRow : OpenClaim := { program := "ytcippenhomhpbaadoor", sum := "eac8ad3b88cc19cbabb3b28cdef0800f2cb3571f2e94abb62360ac95d934447a", func := "scriptorium/scriptoriumlaw3.DigestParseMatchesSpec", spec := "digestParseMatchesSpec", inPlace := ["internal/bytealg.IndexByteString"], named := ["scriptorium/digest.roundConstants"], apart := false, laid := [("scriptorium/digest.roundConstants", laid_scriptorium_digest_roundConstants)] }
def DigestParseMatchesSpecSaid : Prop := digestParseMatchesSpecRow.holds Tryd.pinned (OpenSpec.ofChange digestParseMatchesSpecSpec)

/-- ITS FALSE NEIGHBOUR: 'it returns false'. Refute it at one input. -/
def digestParseMatchesSpecWrong : ChangeSpec := { name := "digestParseMatchesSpec", fn := fun _ => fun
  | [d] => { results := [.lit (.bool false)], args := [d] }
  | _ => none }
def DigestParseMatchesSpecWrongFalsely : Prop := digestParseMatchesSpecRow.holds Tryd.pinned (OpenSpec.ofChange digestParseMatchesSpecWrong)

/- THE SECOND FORM. 'bulk': how many values and letters a reading holds, each counted each time it is reached (what is shared counts as often as it is met; a slice's spare places count too). A statement '..UptoSaid' is the law's where the arguments, and the package variables that the reading takes, are together of bulk at most 1048576: NARROWER than '..Said'. Prove '..Said' where nothing that the law and all that it calls make is longer than what came in: it says more and counts as full. Else prove '..UptoSaid'. A law counts once. -/
mutual
def uptoBulk {H : Type} : DataW H → Nat
  | .lit (.string bytes) => bytes.length + 1
  | .lit _ => 1
  | .nil => 1
  | .ptr d => uptoBulk d + 1
  | .slice elems spare => uptoBulkAll elems + uptoBulkAll spare + 1
  | .agg parts => uptoBulkAll parts + 1
  | .iface _ d => uptoBulk d + 1
  | .map entries => uptoBulkEntries entries + 1
  | .held _ => 1
def uptoBulkAll {H : Type} : List (DataW H) → Nat
  | [] => 0
  | d :: r => uptoBulk d + uptoBulkAll r
def uptoBulkEntries {H : Type} : List (Lit × DataW H) → Nat
  | [] => 0
  | x :: r => uptoBulkEntry x + uptoBulkEntries r
def uptoBulkEntry {H : Type} : Lit × DataW H → Nat
  | (.string bytes, d) => bytes.length + uptoBulk d + 1
  | (_, d) => uptoBulk d + 1
 end
def uptoSmall : (H : Type) → List (DataW H) → Bool := fun _ ds => decide (uptoBulkAll ds ≤ 1048576)
def OpenSpec.upto (s : _root_.Go.ChangeSpec) : _root_.Go.OpenSpec := { _root_.Go.OpenSpec.ofChange s with cond := some uptoSmall }

/-- 'scriptoriumlaw3.DigestMatchesSpec', WHERE WHAT IT READS IS OF BULK AT MOST 1048576: true; the input reads as it did. -/
def digestMatchesSpecUptoRow : OpenClaim := { program := "ytcippenhomhpbaadoor", sum := "eac8ad3b88cc19cbabb3b28cdef0800f2cb3571f2e94abb62360ac95d934447a", func := "scriptorium/scriptoriumlaw3.DigestMatchesSpec", spec := "digestMatchesSpec", named := ["scriptorium/digest.roundConstants"], apart := false, laid := [("scriptorium/digest.roundConstants", laid_scriptorium_digest_roundConstants)], narrowed := true }
def DigestMatchesSpecUptoSaid : Prop := digestMatchesSpecUptoRow.holds Tryd.pinned (OpenSpec.upto digestMatchesSpecSpec)

/-- 'scriptoriumlaw3.DigestStatesMatchSpec', WHERE WHAT IT READS IS OF BULK AT MOST 1048576: true; the input reads as it did. -/
def digestStatesMatchSpecUptoRow : OpenClaim := { program := "ytcippenhomhpbaadoor", sum := "eac8ad3b88cc19cbabb3b28cdef0800f2cb3571f2e94abb62360ac95d934447a", func := "scriptorium/scriptoriumlaw3.DigestStatesMatchSpec", spec := "digestStatesMatchSpec", named := ["scriptorium/digest.roundConstants"], apart := false, laid := [("scriptorium/digest.roundConstants", laid_scriptorium_digest_roundConstants)], narrowed := true }
def DigestStatesMatchSpecUptoSaid : Prop := digestStatesMatchSpecUptoRow.holds Tryd.pinned (OpenSpec.upto digestStatesMatchSpecSpec)

/-- 'scriptoriumlaw3.DigestInPieces', WHERE WHAT IT READS IS OF BULK AT MOST 1048576: true; the input reads as it did. -/
def digestInPiecesUptoRow : OpenClaim := { program := "ytcippenhomhpbaadoor", sum := "eac8ad3b88cc19cbabb3b28cdef0800f2cb3571f2e94abb62360ac95d934447a", func := "scriptorium/scriptoriumlaw3.DigestInPieces", spec := "digestInPieces", named := ["scriptorium/digest.roundConstants"], apart := false, laid := [("scriptorium/digest.roundConstants", laid_scriptorium_digest_roundConstants)], narrowed := true }
def DigestInPiecesUptoSaid : Prop := digestInPiecesUptoRow.holds Tryd.pinned (OpenSpec.upto digestInPiecesSpec)

/-- 'scriptoriumlaw3.DigestWritesJoin', WHERE WHAT IT READS IS OF BULK AT MOST 1048576: true; the input reads as it did. -/
def digestWritesJoinUptoRow : OpenClaim := { program := "ytcippenhomhpbaadoor", sum := "eac8ad3b88cc19cbabb3b28cdef0800f2cb3571f2e94abb62360ac95d934447a", func := "scriptorium/scriptoriumlaw3.DigestWritesJoin", spec := "digestWritesJoin", named := ["scriptorium/digest.roundConstants"], apart := false, laid := [("scriptorium/digest.roundConstants", laid_scriptorium_digest_roundConstants)], narrowed := true }
def DigestWritesJoinUptoSaid : Prop := digestWritesJoinUptoRow.holds Tryd.pinned (OpenSpec.upto digestWritesJoinSpec)

/-- 'scriptoriumlaw3.DigestShortMatchesSpec', WHERE WHAT IT READS IS OF BULK AT MOST 1048576: true; the input reads as it did. -/
def digestShortMatchesSpecUptoRow : OpenClaim := { program := "ytcippenhomhpbaadoor", sum := "eac8ad3b88cc19cbabb3b28cdef0800f2cb3571f2e94abb62360ac95d934447a", func := "scriptorium/scriptoriumlaw3.DigestShortMatchesSpec", spec := "digestShortMatchesSpec", named := ["scriptorium/digest.roundConstants"], apart := false, laid := [("scriptorium/digest.roundConstants", laid_scriptorium_digest_roundConstants)], narrowed := true }
def DigestShortMatchesSpecUptoSaid : Prop := digestShortMatchesSpecUptoRow.holds Tryd.pinned (OpenSpec.upto digestShortMatchesSpecSpec)

/-- 'scriptoriumlaw3.DigestTextsRoundTrip', WHERE WHAT IT READS IS OF BULK AT MOST 1048576: true; the input reads as it did. -/
def digestTextsRoundTripUptoRow : OpenClaim := { program := "ytcippenhomhpbaadoor", sum := "eac8ad3b88cc19cbabb3b28cdef0800f2cb3571f2e94abb62360ac95d934447a", func := "scriptorium/scriptoriumlaw3.DigestTextsRoundTrip", spec := "digestTextsRoundTrip", inPlace := ["internal/bytealg.IndexByteString"], named := ["scriptorium/digest.roundConstants"], apart := false, laid := [("scriptorium/digest.roundConstants", laid_scriptorium_digest_roundConstants)], narrowed := true }
def DigestTextsRoundTripUptoSaid : Prop := digestTextsRoundTripUptoRow.holds Tryd.pinned (OpenSpec.upto digestTextsRoundTripSpec)

/-- 'scriptoriumlaw3.DigestParseMatchesSpec', WHERE WHAT IT READS IS OF BULK AT MOST 1048576: true; the input reads as it did. -/
def digestParseMatchesSpecUptoRow : OpenClaim := { program := "ytcippenhomhpbaadoor", sum := "eac8ad3b88cc19cbabb3b28cdef0800f2cb3571f2e94abb62360ac95d934447a", func := "scriptorium/scriptoriumlaw3.DigestParseMatchesSpec", spec := "digestParseMatchesSpec", inPlace := ["internal/bytealg.IndexByteString"], named := ["scriptorium/digest.roundConstants"], apart := false, laid := [("scriptorium/digest.roundConstants", laid_scriptorium_digest_roundConstants)], narrowed := true }
def DigestParseMatchesSpecUptoSaid : Prop := digestParseMatchesSpecUptoRow.holds Tryd.pinned (OpenSpec.upto digestParseMatchesSpecSpec)

end Rows
end Go.Proofs.YtcippenhomhpbaaDoor
