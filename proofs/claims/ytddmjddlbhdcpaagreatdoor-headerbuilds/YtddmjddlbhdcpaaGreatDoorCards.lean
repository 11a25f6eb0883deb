/-
  DERIVED. GIVEN WITH THE SEED: THE CARDS: each row of YtddmjddlbhdcpaaGreatDoorRows.lean that lists a variable, with what it lists TIED to the program's text (the seventh form; the later family's looks); each row that meets fmt, with fmt's text TOLD by the authors' own Lean function (tested against real Go, not proved from fmt's source: count such statements apart). THE CARD IS WHAT COUNTS. Prove the row's statement (the work); the ties are given (YtddmjddlbhdcpaaGreatDoorTie.lean); close each card by the builder's one call (the guide's Derived/Test/ToyasCard.lean, 'card_holds'). Laid BY PROGRAM, IN A SANDBOX (cutbox-door.mjs). By AI agents, Wed Nov 11 2026. No macro, syntax, notation, axiom, sorry.
-/
import Derived.Test.YtddmjddlbhdcpaaGreatDoorRows
import GoSem.ClaimSeven
namespace Go.Proofs.YtddmjddlbhdcpaaGreatDoor
namespace Rows

/-- THE TIED CARD OF 'pigeonrylaw10.HeaderBuilds'. -/
def headerBuildsCard : Claim7 := { stood := { row := headerBuildsRow, standIns := [], harness := (true, "91aeb7eb6e4c3c11c1494e6af5271f3bcf442e699e3f0f3bbfecb2ce96846293"), looks := false }, kinds := [], alts := [], laidByText := true, laidKinds := [.data, .data], laidTests := true, laidLooks := .later }
def HeaderBuildsCardSaid : Prop := Claim7.holds Tryz.pinned (.plain (OpenSpec.ofChange headerBuildsSpec)) headerBuildsCard

/-- THE TIED CARD OF 'pigeonrylaw10.HeaderUnwraps'. -/
def headerUnwrapsCard : Claim7 := { stood := { row := headerUnwrapsRow, standIns := [], harness := (true, "91aeb7eb6e4c3c11c1494e6af5271f3bcf442e699e3f0f3bbfecb2ce96846293"), looks := false }, kinds := [], alts := [], laidByText := true, laidKinds := [.data, .data], laidTests := true, laidLooks := .later }
def HeaderUnwrapsCardSaid : Prop := Claim7.holds Tryz.pinned (.plain (OpenSpec.ofChange headerUnwrapsSpec)) headerUnwrapsCard

/-- THE TIED CARD OF 'pigeonrylaw10.HeaderBytes'. -/
def headerBytesCard : Claim7 := { stood := { row := headerBytesRow, standIns := [], harness := (true, "91aeb7eb6e4c3c11c1494e6af5271f3bcf442e699e3f0f3bbfecb2ce96846293"), looks := false }, kinds := [], alts := [], laidByText := true, laidKinds := [.data, .data], laidTests := true, laidLooks := .later }
def HeaderBytesCardSaid : Prop := Claim7.holds Tryz.pinned (.plain (OpenSpec.ofChange headerBytesSpec)) headerBytesCard

/-- THE TIED CARD OF 'pigeonrylaw10.HeaderRoute'. -/
def headerRouteCard : Claim7 := { stood := { row := headerRouteRow, standIns := [], harness := (true, "91aeb7eb6e4c3c11c1494e6af5271f3bcf442e699e3f0f3bbfecb2ce96846293"), looks := false }, kinds := [], alts := [], laidByText := true, laidKinds := [.data, .data], laidTests := true, laidLooks := .later }
def HeaderRouteCardSaid : Prop := Claim7.holds Tryz.pinned (.plain (OpenSpec.ofChange headerRouteSpec)) headerRouteCard

/-- THE TIED CARD OF 'pigeonrylaw10.HeaderProved'. -/
def headerProvedCard : Claim7 := { stood := { row := headerProvedRow, standIns := [], harness := (true, "91aeb7eb6e4c3c11c1494e6af5271f3bcf442e699e3f0f3bbfecb2ce96846293"), looks := false }, kinds := [], alts := [], laidByText := true, laidKinds := [.data, .data], laidTests := true, laidLooks := .later }
def HeaderProvedCardSaid : Prop := Claim7.holds Tryz.pinned (.plain (OpenSpec.ofChange headerProvedSpec)) headerProvedCard

/-- THE TIED CARD OF 'pigeonrylaw10.HeaderOne'. -/
def headerOneCard : Claim7 := { stood := { row := headerOneRow, standIns := [], harness := (true, "91aeb7eb6e4c3c11c1494e6af5271f3bcf442e699e3f0f3bbfecb2ce96846293"), looks := false }, kinds := [], alts := [], laidByText := true, laidKinds := [.data, .data], laidTests := true, laidLooks := .later }
def HeaderOneCardSaid : Prop := Claim7.holds Tryz.pinned (.plain (OpenSpec.ofChange headerOneSpec)) headerOneCard

/-- THE TIED CARD OF 'pigeonrylaw10.HeaderFirst'. -/
def headerFirstCard : Claim7 := { stood := { row := headerFirstRow, standIns := [], harness := (true, "91aeb7eb6e4c3c11c1494e6af5271f3bcf442e699e3f0f3bbfecb2ce96846293"), looks := false }, kinds := [], alts := [], laidByText := true, laidKinds := [.data, .data], laidTests := true, laidLooks := .later }
def HeaderFirstCardSaid : Prop := Claim7.holds Tryz.pinned (.plain (OpenSpec.ofChange headerFirstSpec)) headerFirstCard

/-- THE SECOND FORM's CARD OF 'pigeonrylaw10.HeaderBuilds'. -/
def headerBuildsUptoCard : Claim7 := { stood := { row := headerBuildsUptoRow, standIns := [], harness := (true, "91aeb7eb6e4c3c11c1494e6af5271f3bcf442e699e3f0f3bbfecb2ce96846293"), looks := false }, kinds := [], alts := [], laidByText := true, laidKinds := [.data, .data], laidTests := true, laidLooks := .later }
def HeaderBuildsUptoCardSaid : Prop := Claim7.holds Tryz.pinned (.plain (OpenSpec.upto headerBuildsSpec)) headerBuildsUptoCard

/-- THE SECOND FORM's CARD OF 'pigeonrylaw10.HeaderUnwraps'. -/
def headerUnwrapsUptoCard : Claim7 := { stood := { row := headerUnwrapsUptoRow, standIns := [], harness := (true, "91aeb7eb6e4c3c11c1494e6af5271f3bcf442e699e3f0f3bbfecb2ce96846293"), looks := false }, kinds := [], alts := [], laidByText := true, laidKinds := [.data, .data], laidTests := true, laidLooks := .later }
def HeaderUnwrapsUptoCardSaid : Prop := Claim7.holds Tryz.pinned (.plain (OpenSpec.upto headerUnwrapsSpec)) headerUnwrapsUptoCard

/-- THE SECOND FORM's CARD OF 'pigeonrylaw10.HeaderBytes'. -/
def headerBytesUptoCard : Claim7 := { stood := { row := headerBytesUptoRow, standIns := [], harness := (true, "91aeb7eb6e4c3c11c1494e6af5271f3bcf442e699e3f0f3bbfecb2ce96846293"), looks := false }, kinds := [], alts := [], laidByText := true, laidKinds := [.data, .data], laidTests := true, laidLooks := .later }
def HeaderBytesUptoCardSaid : Prop := Claim7.holds Tryz.pinned (.plain (OpenSpec.upto headerBytesSpec)) headerBytesUptoCard

/-- THE SECOND FORM's CARD OF 'pigeonrylaw10.HeaderRoute'. -/
def headerRouteUptoCard : Claim7 := { stood := { row := headerRouteUptoRow, standIns := [], harness := (true, "91aeb7eb6e4c3c11c1494e6af5271f3bcf442e699e3f0f3bbfecb2ce96846293"), looks := false }, kinds := [], alts := [], laidByText := true, laidKinds := [.data, .data], laidTests := true, laidLooks := .later }
def HeaderRouteUptoCardSaid : Prop := Claim7.holds Tryz.pinned (.plain (OpenSpec.upto headerRouteSpec)) headerRouteUptoCard

/-- THE SECOND FORM's CARD OF 'pigeonrylaw10.HeaderProved'. -/
def headerProvedUptoCard : Claim7 := { stood := { row := headerProvedUptoRow, standIns := [], harness := (true, "91aeb7eb6e4c3c11c1494e6af5271f3bcf442e699e3f0f3bbfecb2ce96846293"), looks := false }, kinds := [], alts := [], laidByText := true, laidKinds := [.data, .data], laidTests := true, laidLooks := .later }
def HeaderProvedUptoCardSaid : Prop := Claim7.holds Tryz.pinned (.plain (OpenSpec.upto headerProvedSpec)) headerProvedUptoCard

/-- THE SECOND FORM's CARD OF 'pigeonrylaw10.HeaderOne'. -/
def headerOneUptoCard : Claim7 := { stood := { row := headerOneUptoRow, standIns := [], harness := (true, "91aeb7eb6e4c3c11c1494e6af5271f3bcf442e699e3f0f3bbfecb2ce96846293"), looks := false }, kinds := [], alts := [], laidByText := true, laidKinds := [.data, .data], laidTests := true, laidLooks := .later }
def HeaderOneUptoCardSaid : Prop := Claim7.holds Tryz.pinned (.plain (OpenSpec.upto headerOneSpec)) headerOneUptoCard

/-- THE SECOND FORM's CARD OF 'pigeonrylaw10.HeaderFirst'. -/
def headerFirstUptoCard : Claim7 := { stood := { row := headerFirstUptoRow, standIns := [], harness := (true, "91aeb7eb6e4c3c11c1494e6af5271f3bcf442e699e3f0f3bbfecb2ce96846293"), looks := false }, kinds := [], alts := [], laidByText := true, laidKinds := [.data, .data], laidTests := true, laidLooks := .later }
def HeaderFirstUptoCardSaid : Prop := Claim7.holds Tryz.pinned (.plain (OpenSpec.upto headerFirstSpec)) headerFirstUptoCard
end Rows
end Go.Proofs.YtddmjddlbhdcpaaGreatDoor
