/-
  DERIVED. GIVEN WITH THE SEED: THE CARDS: each row of YtnemlmlfhhahgaaDoorRows.lean that lists a variable, with what it lists TIED to the program's text (the seventh form; the later family's looks); each row that meets fmt, with fmt's text TOLD by the authors' own Lean function (tested against real Go, not proved from fmt's source: count such statements apart). THE CARD IS WHAT COUNTS. Prove the row's statement (the work); the ties are given (YtnemlmlfhhahgaaDoorTie.lean); close each card by the builder's one call (the guide's Derived/Test/ToyasCard.lean, 'card_holds'). Laid BY PROGRAM, IN A SANDBOX (cutbox-door.mjs). By AI agents, Wed Nov 11 2026. No macro, syntax, notation, axiom, sorry.
-/
import Derived.Test.YtnemlmlfhhahgaaDoorRows
import GoSem.ClaimSeven
namespace Go.Proofs.YtnemlmlfhhahgaaDoor
namespace Rows

/-- THE TIED CARD OF 'pigeonrylaw06.AeadSeals'. -/
def aeadSealsCard : Claim7 := { stood := { row := aeadSealsRow, standIns := [], harness := (true, "04895076ef6f5d8e7db3e94d7ce511b7d0c64c9a9c88966597a0283f90b29881"), looks := false }, kinds := [], alts := [], laidByText := true, laidKinds := [.data, .data], laidTests := true, laidLooks := .later }
def AeadSealsCardSaid : Prop := Claim7.holds Tryd.pinned (.plain (OpenSpec.ofChange aeadSealsSpec)) aeadSealsCard

/-- THE TIED CARD OF 'pigeonrylaw06.AeadOpens'. -/
def aeadOpensCard : Claim7 := { stood := { row := aeadOpensRow, standIns := [], harness := (true, "04895076ef6f5d8e7db3e94d7ce511b7d0c64c9a9c88966597a0283f90b29881"), looks := false }, kinds := [], alts := [], laidByText := true, laidKinds := [.data, .data], laidTests := true, laidLooks := .later }
def AeadOpensCardSaid : Prop := Claim7.holds Tryd.pinned (.plain (OpenSpec.ofChange aeadOpensSpec)) aeadOpensCard

/-- THE TIED CARD OF 'pigeonrylaw06.AeadBack'. -/
def aeadBackCard : Claim7 := { stood := { row := aeadBackRow, standIns := [], harness := (true, "04895076ef6f5d8e7db3e94d7ce511b7d0c64c9a9c88966597a0283f90b29881"), looks := false }, kinds := [], alts := [], laidByText := true, laidKinds := [.data, .data], laidTests := true, laidLooks := .later }
def AeadBackCardSaid : Prop := Claim7.holds Tryd.pinned (.plain (OpenSpec.ofChange aeadBackSpec)) aeadBackCard

/-- THE TIED CARD OF 'pigeonrylaw06.AeadJust'. -/
def aeadJustCard : Claim7 := { stood := { row := aeadJustRow, standIns := [], harness := (true, "04895076ef6f5d8e7db3e94d7ce511b7d0c64c9a9c88966597a0283f90b29881"), looks := false }, kinds := [], alts := [], laidByText := true, laidKinds := [.data, .data], laidTests := true, laidLooks := .later }
def AeadJustCardSaid : Prop := Claim7.holds Tryd.pinned (.plain (OpenSpec.ofChange aeadJustSpec)) aeadJustCard

/-- THE TIED CARD OF 'pigeonrylaw06.AeadHidden'. -/
def aeadHiddenCard : Claim7 := { stood := { row := aeadHiddenRow, standIns := [], harness := (true, "04895076ef6f5d8e7db3e94d7ce511b7d0c64c9a9c88966597a0283f90b29881"), looks := false }, kinds := [], alts := [], laidByText := true, laidKinds := [.data, .data], laidTests := true, laidLooks := .later }
def AeadHiddenCardSaid : Prop := Claim7.holds Tryd.pinned (.plain (OpenSpec.ofChange aeadHiddenSpec)) aeadHiddenCard

/-- THE SECOND FORM's CARD OF 'pigeonrylaw06.AeadSeals'. -/
def aeadSealsUptoCard : Claim7 := { stood := { row := aeadSealsUptoRow, standIns := [], harness := (true, "04895076ef6f5d8e7db3e94d7ce511b7d0c64c9a9c88966597a0283f90b29881"), looks := false }, kinds := [], alts := [], laidByText := true, laidKinds := [.data, .data], laidTests := true, laidLooks := .later }
def AeadSealsUptoCardSaid : Prop := Claim7.holds Tryd.pinned (.plain (OpenSpec.upto aeadSealsSpec)) aeadSealsUptoCard

/-- THE SECOND FORM's CARD OF 'pigeonrylaw06.AeadOpens'. -/
def aeadOpensUptoCard : Claim7 := { stood := { row := aeadOpensUptoRow, standIns := [], harness := (true, "04895076ef6f5d8e7db3e94d7ce511b7d0c64c9a9c88966597a0283f90b29881"), looks := false }, kinds := [], alts := [], laidByText := true, laidKinds := [.data, .data], laidTests := true, laidLooks := .later }
def AeadOpensUptoCardSaid : Prop := Claim7.holds Tryd.pinned (.plain (OpenSpec.upto aeadOpensSpec)) aeadOpensUptoCard

/-- THE SECOND FORM's CARD OF 'pigeonrylaw06.AeadBack'. -/
def aeadBackUptoCard : Claim7 := { stood := { row := aeadBackUptoRow, standIns := [], harness := (true, "04895076ef6f5d8e7db3e94d7ce511b7d0c64c9a9c88966597a0283f90b29881"), looks := false }, kinds := [], alts := [], laidByText := true, laidKinds := [.data, .data], laidTests := true, laidLooks := .later }
def AeadBackUptoCardSaid : Prop := Claim7.holds Tryd.pinned (.plain (OpenSpec.upto aeadBackSpec)) aeadBackUptoCard

/-- THE SECOND FORM's CARD OF 'pigeonrylaw06.AeadJust'. -/
def aeadJustUptoCard : Claim7 := { stood := { row := aeadJustUptoRow, standIns := [], harness := (true, "04895076ef6f5d8e7db3e94d7ce511b7d0c64c9a9c88966597a0283f90b29881"), looks := false }, kinds := [], alts := [], laidByText := true, laidKinds := [.data, .data], laidTests := true, laidLooks := .later }
def AeadJustUptoCardSaid : Prop := Claim7.holds Tryd.pinned (.plain (OpenSpec.upto aeadJustSpec)) aeadJustUptoCard

/-- THE SECOND FORM's CARD OF 'pigeonrylaw06.AeadHidden'. -/
def aeadHiddenUptoCard : Claim7 := { stood := { row := aeadHiddenUptoRow, standIns := [], harness := (true, "04895076ef6f5d8e7db3e94d7ce511b7d0c64c9a9c88966597a0283f90b29881"), looks := false }, kinds := [], alts := [], laidByText := true, laidKinds := [.data, .data], laidTests := true, laidLooks := .later }
def AeadHiddenUptoCardSaid : Prop := Claim7.holds Tryd.pinned (.plain (OpenSpec.upto aeadHiddenSpec)) aeadHiddenUptoCard
end Rows
end Go.Proofs.YtnemlmlfhhahgaaDoor
