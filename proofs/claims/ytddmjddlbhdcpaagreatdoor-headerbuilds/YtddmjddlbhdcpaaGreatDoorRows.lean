/-
  NARROWER THAN 'FOR EVERY INPUT', by the rows' own cells (each row's printed sentence says how): HeaderBuilds: laid · HeaderUnwraps: laid · HeaderBytes: laid · HeaderRoute: laid · HeaderProved: laid · HeaderOne: laid · HeaderFirst: laid.
  DERIVED. THE GIVEN ROWS OF THIS SEAT. 7 by the template 'for every input the law returns true; each argument reads behind the call as it read before'; 0 by the template 'total and deterministic' (their statements: YtddmjddlbhdcpaaGreatDoorTotals.lean).
  GIVEN WITH THE SEED: the statements are not yours to turn. If you find one false, say at which input.
  Laid BY PROGRAM, IN A SANDBOX (cutbox-rows.mjs): the forced cells as the released guide's own fill.sh prints them over the translation f93651a2e4dfc180… (all of the seat's roots in one cut). By AI agents, Wed Nov 11 2026. No macro, syntax, notation, axiom, sorry.
-/
import Derived.Test.YtddmjddlbhdcpaaGreatDoorChecked
import GoSem.Claim
import GoSem.ClaimJoined
import GoSem.ClaimMapViews
import Derived.JoinedTies
import Derived.KernelRfl
namespace Go.Proofs.YtddmjddlbhdcpaaGreatDoor
/- THE CELL 'sum', in the pinned program and in every row, IS THE sha256 OF THE DUMP (.gsa) THAT YtddmjddlbhdcpaaGreatDoorProg.lean LOADS. Nothing in Lean hashes anything: it is a label: what it is worth is what the hold of that sum in a sandbox is worth. -/
noncomputable def Tryz.pinned : Pinned := { name := "ytddmjddlbhdcpaagreatdoor", sum := "f93651a2e4dfc18071867bc96c48aa307d7cce283360502463a16e13ab398ea3", checked := Tryz.checked }
namespace Rows
def none {H : Type} : Left H := { results := [], args := [] }

/- WHAT THE LISTED PACKAGE-LEVEL VARIABLES READ AS WHEN THE CALL BEGINS. Each datum BY PROGRAM (the guide's laid-datum.mjs) off the statement by which the dump's own 'gosem.cut.vars' lays the variable. In a bare row this is a premise. The card (YtddmjddlbhdcpaaGreatDoorCards.lean) ties it to the program's text. -/
def laid_pigeonry_sha_firstState {H : Type} : DataW H := .agg [.lit (.int .u32 1779033703), .lit (.int .u32 3144134277), .lit (.int .u32 1013904242), .lit (.int .u32 2773480762), .lit (.int .u32 1359893119), .lit (.int .u32 2600822924), .lit (.int .u32 528734635), .lit (.int .u32 1541459225)]
def laid_pigeonry_sha_roundWords {H : Type} : DataW H := .agg [.lit (.int .u32 1116352408), .lit (.int .u32 1899447441), .lit (.int .u32 3049323471), .lit (.int .u32 3921009573), .lit (.int .u32 961987163), .lit (.int .u32 1508970993), .lit (.int .u32 2453635748), .lit (.int .u32 2870763221), .lit (.int .u32 3624381080), .lit (.int .u32 310598401), .lit (.int .u32 607225278), .lit (.int .u32 1426881987), .lit (.int .u32 1925078388), .lit (.int .u32 2162078206), .lit (.int .u32 2614888103), .lit (.int .u32 3248222580), .lit (.int .u32 3835390401), .lit (.int .u32 4022224774), .lit (.int .u32 264347078), .lit (.int .u32 604807628), .lit (.int .u32 770255983), .lit (.int .u32 1249150122), .lit (.int .u32 1555081692), .lit (.int .u32 1996064986), .lit (.int .u32 2554220882), .lit (.int .u32 2821834349), .lit (.int .u32 2952996808), .lit (.int .u32 3210313671), .lit (.int .u32 3336571891), .lit (.int .u32 3584528711), .lit (.int .u32 113926993), .lit (.int .u32 338241895), .lit (.int .u32 666307205), .lit (.int .u32 773529912), .lit (.int .u32 1294757372), .lit (.int .u32 1396182291), .lit (.int .u32 1695183700), .lit (.int .u32 1986661051), .lit (.int .u32 2177026350), .lit (.int .u32 2456956037), .lit (.int .u32 2730485921), .lit (.int .u32 2820302411), .lit (.int .u32 3259730800), .lit (.int .u32 3345764771), .lit (.int .u32 3516065817), .lit (.int .u32 3600352804), .lit (.int .u32 4094571909), .lit (.int .u32 275423344), .lit (.int .u32 430227734), .lit (.int .u32 506948616), .lit (.int .u32 659060556), .lit (.int .u32 883997877), .lit (.int .u32 958139571), .lit (.int .u32 1322822218), .lit (.int .u32 1537002063), .lit (.int .u32 1747873779), .lit (.int .u32 1955562222), .lit (.int .u32 2024104815), .lit (.int .u32 2227730452), .lit (.int .u32 2361852424), .lit (.int .u32 2428436474), .lit (.int .u32 2756734187), .lit (.int .u32 3204031479), .lit (.int .u32 3329325298)]

/-- 'pigeonrylaw10.HeaderBuilds': WHATEVER THE INPUT: true; the input reads as it did. -/
def headerBuildsSpec : ChangeSpec := { name := "headerBuilds", fn := fun _ => fun
  | [d1, d2] => { results := [.lit (.bool true)], args := [d1, d2] }
  | _ => none }
def headerBuildsRow : OpenClaim := { program := "ytddmjddlbhdcpaagreatdoor", sum := "f93651a2e4dfc18071867bc96c48aa307d7cce283360502463a16e13ab398ea3", func := "pigeonry/pigeonrylaw10.HeaderBuilds", spec := "headerBuilds", inPlace := ["math/bits.Add64", "math/bits.Sub64"], named := ["pigeonry/sha.firstState", "pigeonry/sha.roundWords"], apart := false, laid := [("pigeonry/sha.firstState", laid_pigeonry_sha_firstState), ("pigeonry/sha.roundWords", laid_pigeonry_sha_roundWords)] }
def HeaderBuildsSaid : Prop := headerBuildsRow.holds Tryz.pinned (OpenSpec.ofChange headerBuildsSpec)

/-- ITS FALSE NEIGHBOUR: 'it returns false'. Refute it at one input. -/
def headerBuildsWrong : ChangeSpec := { name := "headerBuilds", fn := fun _ => fun
  | [d1, d2] => { results := [.lit (.bool false)], args := [d1, d2] }
  | _ => none }
def HeaderBuildsWrongFalsely : Prop := headerBuildsRow.holds Tryz.pinned (OpenSpec.ofChange headerBuildsWrong)

/-- 'pigeonrylaw10.HeaderUnwraps': WHATEVER THE INPUT: true; the input reads as it did. -/
def headerUnwrapsSpec : ChangeSpec := { name := "headerUnwraps", fn := fun _ => fun
  | [d1, d2] => { results := [.lit (.bool true)], args := [d1, d2] }
  | _ => none }
def headerUnwrapsRow : OpenClaim := { program := "ytddmjddlbhdcpaagreatdoor", sum := "f93651a2e4dfc18071867bc96c48aa307d7cce283360502463a16e13ab398ea3", func := "pigeonry/pigeonrylaw10.HeaderUnwraps", spec := "headerUnwraps", inPlace := ["math/bits.Add64", "math/bits.Sub64"], named := ["pigeonry/sha.firstState", "pigeonry/sha.roundWords"], apart := false, laid := [("pigeonry/sha.firstState", laid_pigeonry_sha_firstState), ("pigeonry/sha.roundWords", laid_pigeonry_sha_roundWords)] }
def HeaderUnwrapsSaid : Prop := headerUnwrapsRow.holds Tryz.pinned (OpenSpec.ofChange headerUnwrapsSpec)

/-- ITS FALSE NEIGHBOUR: 'it returns false'. Refute it at one input. -/
def headerUnwrapsWrong : ChangeSpec := { name := "headerUnwraps", fn := fun _ => fun
  | [d1, d2] => { results := [.lit (.bool false)], args := [d1, d2] }
  | _ => none }
def HeaderUnwrapsWrongFalsely : Prop := headerUnwrapsRow.holds Tryz.pinned (OpenSpec.ofChange headerUnwrapsWrong)

/-- 'pigeonrylaw10.HeaderBytes': WHATEVER THE INPUT: true; the input reads as it did. -/
def headerBytesSpec : ChangeSpec := { name := "headerBytes", fn := fun _ => fun
  | [d1, d2, d3] => { results := [.lit (.bool true)], args := [d1, d2, d3] }
  | _ => none }
def headerBytesRow : OpenClaim := { program := "ytddmjddlbhdcpaagreatdoor", sum := "f93651a2e4dfc18071867bc96c48aa307d7cce283360502463a16e13ab398ea3", func := "pigeonry/pigeonrylaw10.HeaderBytes", spec := "headerBytes", inPlace := ["math/bits.Add64", "math/bits.Sub64"], named := ["pigeonry/sha.firstState", "pigeonry/sha.roundWords"], apart := false, laid := [("pigeonry/sha.firstState", laid_pigeonry_sha_firstState), ("pigeonry/sha.roundWords", laid_pigeonry_sha_roundWords)] }
def HeaderBytesSaid : Prop := headerBytesRow.holds Tryz.pinned (OpenSpec.ofChange headerBytesSpec)

/-- ITS FALSE NEIGHBOUR: 'it returns false'. Refute it at one input. -/
def headerBytesWrong : ChangeSpec := { name := "headerBytes", fn := fun _ => fun
  | [d1, d2, d3] => { results := [.lit (.bool false)], args := [d1, d2, d3] }
  | _ => none }
def HeaderBytesWrongFalsely : Prop := headerBytesRow.holds Tryz.pinned (OpenSpec.ofChange headerBytesWrong)

/-- 'pigeonrylaw10.HeaderRoute': WHATEVER THE INPUT: true; the input reads as it did. -/
def headerRouteSpec : ChangeSpec := { name := "headerRoute", fn := fun _ => fun
  | [d1, d2, d3] => { results := [.lit (.bool true)], args := [d1, d2, d3] }
  | _ => none }
def headerRouteRow : OpenClaim := { program := "ytddmjddlbhdcpaagreatdoor", sum := "f93651a2e4dfc18071867bc96c48aa307d7cce283360502463a16e13ab398ea3", func := "pigeonry/pigeonrylaw10.HeaderRoute", spec := "headerRoute", inPlace := ["math/bits.Add64", "math/bits.Sub64"], named := ["pigeonry/sha.firstState", "pigeonry/sha.roundWords"], apart := false, laid := [("pigeonry/sha.firstState", laid_pigeonry_sha_firstState), ("pigeonry/sha.roundWords", laid_pigeonry_sha_roundWords)] }
def HeaderRouteSaid : Prop := headerRouteRow.holds Tryz.pinned (OpenSpec.ofChange headerRouteSpec)

/-- ITS FALSE NEIGHBOUR: 'it returns false'. Refute it at one input. -/
def headerRouteWrong : ChangeSpec := { name := "headerRoute", fn := fun _ => fun
  | [d1, d2, d3] => { results := [.lit (.bool false)], args := [d1, d2, d3] }
  | _ => none }
def HeaderRouteWrongFalsely : Prop := headerRouteRow.holds Tryz.pinned (OpenSpec.ofChange headerRouteWrong)

/-- 'pigeonrylaw10.HeaderProved': WHATEVER THE INPUT: true; the input reads as it did. -/
def headerProvedSpec : ChangeSpec := { name := "headerProved", fn := fun _ => fun
  | [d1, d2] => { results := [.lit (.bool true)], args := [d1, d2] }
  | _ => none }
def headerProvedRow : OpenClaim := { program := "ytddmjddlbhdcpaagreatdoor", sum := "f93651a2e4dfc18071867bc96c48aa307d7cce283360502463a16e13ab398ea3", func := "pigeonry/pigeonrylaw10.HeaderProved", spec := "headerProved", inPlace := ["math/bits.Add64", "math/bits.Sub64"], named := ["pigeonry/sha.firstState", "pigeonry/sha.roundWords"], apart := false, laid := [("pigeonry/sha.firstState", laid_pigeonry_sha_firstState), ("pigeonry/sha.roundWords", laid_pigeonry_sha_roundWords)] }
def HeaderProvedSaid : Prop := headerProvedRow.holds Tryz.pinned (OpenSpec.ofChange headerProvedSpec)

/-- ITS FALSE NEIGHBOUR: 'it returns false'. Refute it at one input. -/
def headerProvedWrong : ChangeSpec := { name := "headerProved", fn := fun _ => fun
  | [d1, d2] => { results := [.lit (.bool false)], args := [d1, d2] }
  | _ => none }
def HeaderProvedWrongFalsely : Prop := headerProvedRow.holds Tryz.pinned (OpenSpec.ofChange headerProvedWrong)

/-- 'pigeonrylaw10.HeaderOne': WHATEVER THE INPUT: true; the input reads as it did. -/
def headerOneSpec : ChangeSpec := { name := "headerOne", fn := fun _ => fun
  | [d1, d2, d3] => { results := [.lit (.bool true)], args := [d1, d2, d3] }
  | _ => none }
def headerOneRow : OpenClaim := { program := "ytddmjddlbhdcpaagreatdoor", sum := "f93651a2e4dfc18071867bc96c48aa307d7cce283360502463a16e13ab398ea3", func := "pigeonry/pigeonrylaw10.HeaderOne", spec := "headerOne", inPlace := ["math/bits.Add64", "math/bits.Sub64"], named := ["pigeonry/sha.firstState", "pigeonry/sha.roundWords"], apart := false, laid := [("pigeonry/sha.firstState", laid_pigeonry_sha_firstState), ("pigeonry/sha.roundWords", laid_pigeonry_sha_roundWords)] }
def HeaderOneSaid : Prop := headerOneRow.holds Tryz.pinned (OpenSpec.ofChange headerOneSpec)

/-- ITS FALSE NEIGHBOUR: 'it returns false'. Refute it at one input. -/
def headerOneWrong : ChangeSpec := { name := "headerOne", fn := fun _ => fun
  | [d1, d2, d3] => { results := [.lit (.bool false)], args := [d1, d2, d3] }
  | _ => none }
def HeaderOneWrongFalsely : Prop := headerOneRow.holds Tryz.pinned (OpenSpec.ofChange headerOneWrong)

/-- 'pigeonrylaw10.HeaderFirst': WHATEVER THE INPUT: true; the input reads as it did. -/
def headerFirstSpec : ChangeSpec := { name := "headerFirst", fn := fun _ => fun
  | [d1, d2] => { results := [.lit (.bool true)], args := [d1, d2] }
  | _ => none }
def headerFirstRow : OpenClaim := { program := "ytddmjddlbhdcpaagreatdoor", sum := "f93651a2e4dfc18071867bc96c48aa307d7cce283360502463a16e13ab398ea3", func := "pigeonry/pigeonrylaw10.HeaderFirst", spec := "headerFirst", inPlace := ["math/bits.Add64", "math/bits.Sub64"], named := ["pigeonry/sha.firstState", "pigeonry/sha.roundWords"], apart := false, laid := [("pigeonry/sha.firstState", laid_pigeonry_sha_firstState), ("pigeonry/sha.roundWords", laid_pigeonry_sha_roundWords)] }
def HeaderFirstSaid : Prop := headerFirstRow.holds Tryz.pinned (OpenSpec.ofChange headerFirstSpec)

/-- ITS FALSE NEIGHBOUR: 'it returns false'. Refute it at one input. -/
def headerFirstWrong : ChangeSpec := { name := "headerFirst", fn := fun _ => fun
  | [d1, d2] => { results := [.lit (.bool false)], args := [d1, d2] }
  | _ => none }
def HeaderFirstWrongFalsely : Prop := headerFirstRow.holds Tryz.pinned (OpenSpec.ofChange headerFirstWrong)

/- THE SECOND FORM. 'bulk': how many values and letters a reading holds, each counted each time it is reached (what is shared counts as often as it is met; a slice's spare places count too). A statement '..UptoSaid' is the law's where the arguments, and the package variables that the reading takes, are together of bulk at most 1048576: NARROWER than '..Said'. Prove '..Said' where nothing that the law and all that it calls make is longer than what came in: it says more and counts as full. Else prove '..UptoSaid'. A law counts once. -/
mutual
def uptoBulk {H : Type} : DataW H → Nat
  | .lit (.string bytes) => bytes.length + 1
  | .lit _ => 1
  | .nil => 1
  | .ptr d => uptoBulk d + 1
  | .slice elems spare => uptoBulkAll elems + uptoBulkAll spare + 1
  | .agg parts => uptoBulkAll parts + 1
  | .iface _ d => uptoBulk d + 1
  | .map entries => uptoBulkEntries entries + 1
  | .held _ => 1
def uptoBulkAll {H : Type} : List (DataW H) → Nat
  | [] => 0
  | d :: r => uptoBulk d + uptoBulkAll r
def uptoBulkEntries {H : Type} : List (Lit × DataW H) → Nat
  | [] => 0
  | x :: r => uptoBulkEntry x + uptoBulkEntries r
def uptoBulkEntry {H : Type} : Lit × DataW H → Nat
  | (.string bytes, d) => bytes.length + uptoBulk d + 1
  | (_, d) => uptoBulk d + 1
 end
def uptoSmall : (H : Type) → List (DataW H) → Bool := fun _ ds => decide (uptoBulkAll ds ≤ 1048576)
def OpenSpec.upto (s : _root_.Go.ChangeSpec) : _root_.Go.OpenSpec := { _root_.Go.OpenSpec.ofChange s with cond := some uptoSmall }

/-- 'pigeonrylaw10.HeaderBuilds', WHERE WHAT IT READS IS OF BULK AT MOST 1048576: true; the input reads as it did. -/
def headerBuildsUptoRow : OpenClaim := { program := "ytddmjddlbhdcpaagreatdoor", sum := "f93651a2e4dfc18071867bc96c48aa307d7cce283360502463a16e13ab398ea3", func := "pigeonry/pigeonrylaw10.HeaderBuilds", spec := "headerBuilds", inPlace := ["math/bits.Add64", "math/bits.Sub64"], named := ["pigeonry/sha.firstState", "pigeonry/sha.roundWords"], apart := false, laid := [("pigeonry/sha.firstState", laid_pigeonry_sha_firstState), ("pigeonry/sha.roundWords", laid_pigeonry_sha_roundWords)], narrowed := true }
def HeaderBuildsUptoSaid : Prop := headerBuildsUptoRow.holds Tryz.pinned (OpenSpec.upto headerBuildsSpec)

/-- 'pigeonrylaw10.HeaderUnwraps', WHERE WHAT IT READS IS OF BULK AT MOST 1048576: true; the input reads as it did. -/
def headerUnwrapsUptoRow : OpenClaim := { program := "ytddmjddlbhdcpaagreatdoor", sum := "f93651a2e4dfc18071867bc96c48aa307d7cce283360502463a16e13ab398ea3", func := "pigeonry/pigeonrylaw10.HeaderUnwraps", spec := "headerUnwraps", inPlace := ["math/bits.Add64", "math/bits.Sub64"], named := ["pigeonry/sha.firstState", "pigeonry/sha.roundWords"], apart := false, laid := [("pigeonry/sha.firstState", laid_pigeonry_sha_firstState), ("pigeonry/sha.roundWords", laid_pigeonry_sha_roundWords)], narrowed := true }
def HeaderUnwrapsUptoSaid : Prop := headerUnwrapsUptoRow.holds Tryz.pinned (OpenSpec.upto headerUnwrapsSpec)

/-- 'pigeonrylaw10.HeaderBytes', WHERE WHAT IT READS IS OF BULK AT MOST 1048576: true; the input reads as it did. -/
def headerBytesUptoRow : OpenClaim := { program := "ytddmjddlbhdcpaagreatdoor", sum := "f93651a2e4dfc18071867bc96c48aa307d7cce283360502463a16e13ab398ea3", func := "pigeonry/pigeonrylaw10.HeaderBytes", spec := "headerBytes", inPlace := ["math/bits.Add64", "math/bits.Sub64"], named := ["pigeonry/sha.firstState", "pigeonry/sha.roundWords"], apart := false, laid := [("pigeonry/sha.firstState", laid_pigeonry_sha_firstState), ("pigeonry/sha.roundWords", laid_pigeonry_sha_roundWords)], narrowed := true }
def HeaderBytesUptoSaid : Prop := headerBytesUptoRow.holds Tryz.pinned (OpenSpec.upto headerBytesSpec)

/-- 'pigeonrylaw10.HeaderRoute', WHERE WHAT IT READS IS OF BULK AT MOST 1048576: true; the input reads as it did. -/
def headerRouteUptoRow : OpenClaim := { program := "ytddmjddlbhdcpaagreatdoor", sum := "f93651a2e4dfc18071867bc96c48aa307d7cce283360502463a16e13ab398ea3", func := "pigeonry/pigeonrylaw10.HeaderRoute", spec := "headerRoute", inPlace := ["math/bits.Add64", "math/bits.Sub64"], named := ["pigeonry/sha.firstState", "pigeonry/sha.roundWords"], apart := false, laid := [("pigeonry/sha.firstState", laid_pigeonry_sha_firstState), ("pigeonry/sha.roundWords", laid_pigeonry_sha_roundWords)], narrowed := true }
def HeaderRouteUptoSaid : Prop := headerRouteUptoRow.holds Tryz.pinned (OpenSpec.upto headerRouteSpec)

/-- 'pigeonrylaw10.HeaderProved', WHERE WHAT IT READS IS OF BULK AT MOST 1048576: true; the input reads as it did. -/
def headerProvedUptoRow : OpenClaim := { program := "ytddmjddlbhdcpaagreatdoor", sum := "f93651a2e4dfc18071867bc96c48aa307d7cce283360502463a16e13ab398ea3", func := "pigeonry/pigeonrylaw10.HeaderProved", spec := "headerProved", inPlace := ["math/bits.Add64", "math/bits.Sub64"], named := ["pigeonry/sha.firstState", "pigeonry/sha.roundWords"], apart := false, laid := [("pigeonry/sha.firstState", laid_pigeonry_sha_firstState), ("pigeonry/sha.roundWords", laid_pigeonry_sha_roundWords)], narrowed := true }
def HeaderProvedUptoSaid : Prop := headerProvedUptoRow.holds Tryz.pinned (OpenSpec.upto headerProvedSpec)

/-- 'pigeonrylaw10.HeaderOne', WHERE WHAT IT READS IS OF BULK AT MOST 1048576: true; the input reads as it did. -/
def headerOneUptoRow : OpenClaim := { program := "ytddmjddlbhdcpaagreatdoor", sum := "f93651a2e4dfc18071867bc96c48aa307d7cce283360502463a16e13ab398ea3", func := "pigeonry/pigeonrylaw10.HeaderOne", spec := "headerOne", inPlace := ["math/bits.Add64", "math/bits.Sub64"], named := ["pigeonry/sha.firstState", "pigeonry/sha.roundWords"], apart := false, laid := [("pigeonry/sha.firstState", laid_pigeonry_sha_firstState), ("pigeonry/sha.roundWords", laid_pigeonry_sha_roundWords)], narrowed := true }
def HeaderOneUptoSaid : Prop := headerOneUptoRow.holds Tryz.pinned (OpenSpec.upto headerOneSpec)

/-- 'pigeonrylaw10.HeaderFirst', WHERE WHAT IT READS IS OF BULK AT MOST 1048576: true; the input reads as it did. -/
def headerFirstUptoRow : OpenClaim := { program := "ytddmjddlbhdcpaagreatdoor", sum := "f93651a2e4dfc18071867bc96c48aa307d7cce283360502463a16e13ab398ea3", func := "pigeonry/pigeonrylaw10.HeaderFirst", spec := "headerFirst", inPlace := ["math/bits.Add64", "math/bits.Sub64"], named := ["pigeonry/sha.firstState", "pigeonry/sha.roundWords"], apart := false, laid := [("pigeonry/sha.firstState", laid_pigeonry_sha_firstState), ("pigeonry/sha.roundWords", laid_pigeonry_sha_roundWords)], narrowed := true }
def HeaderFirstUptoSaid : Prop := headerFirstUptoRow.holds Tryz.pinned (OpenSpec.upto headerFirstSpec)

end Rows
end Go.Proofs.YtddmjddlbhdcpaaGreatDoor
