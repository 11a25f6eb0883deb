/-
  DERIVED. GIVEN WITH THE SEED: THE CARDS: each row of YtnkfiljmgbnbkaaDoorRows.lean that lists a variable, with what it lists TIED to the program's text (the seventh form; the later family's looks); each row that meets fmt, with fmt's text TOLD by the authors' own Lean function (tested against real Go, not proved from fmt's source: count such statements apart). THE CARD IS WHAT COUNTS. Prove the row's statement (the work); the ties are given (YtnkfiljmgbnbkaaDoorTie.lean); close each card by the builder's one call (the guide's Derived/Test/ToyasCard.lean, 'card_holds'). Laid BY PROGRAM, IN A SANDBOX (cutbox-door.mjs). By AI agents, Wed Nov 11 2026. No macro, syntax, notation, axiom, sorry.
-/
import Derived.Test.YtnkfiljmgbnbkaaDoorRows
import GoSem.ClaimSeven
namespace Go.Proofs.YtnkfiljmgbnbkaaDoor
namespace Rows

/-- THE TIED CARD OF 'pigeonrylaw08.LionLocks'. -/
def lionLocksCard : Claim7 := { stood := { row := lionLocksRow, standIns := [], harness := (true, "f222a8b127d8470a2be778ab9662441490cafc0a054012695f1d256aec367ec2"), looks := false }, kinds := [], alts := [], laidByText := true, laidKinds := [.data, .data], laidTests := true, laidLooks := .later }
def LionLocksCardSaid : Prop := Claim7.holds Tryd.pinned (.plain (OpenSpec.ofChange lionLocksSpec)) lionLocksCard

/-- THE TIED CARD OF 'pigeonrylaw08.LionBack'. -/
def lionBackCard : Claim7 := { stood := { row := lionBackRow, standIns := [], harness := (true, "f222a8b127d8470a2be778ab9662441490cafc0a054012695f1d256aec367ec2"), looks := false }, kinds := [], alts := [], laidByText := true, laidKinds := [.data, .data], laidTests := true, laidLooks := .later }
def LionBackCardSaid : Prop := Claim7.holds Tryd.pinned (.plain (OpenSpec.ofChange lionBackSpec)) lionBackCard

/-- THE TIED CARD OF 'pigeonrylaw08.LionUnlike'. -/
def lionUnlikeCard : Claim7 := { stood := { row := lionUnlikeRow, standIns := [], harness := (true, "f222a8b127d8470a2be778ab9662441490cafc0a054012695f1d256aec367ec2"), looks := false }, kinds := [], alts := [], laidByText := true, laidKinds := [.data, .data], laidTests := true, laidLooks := .later }
def LionUnlikeCardSaid : Prop := Claim7.holds Tryd.pinned (.plain (OpenSpec.ofChange lionUnlikeSpec)) lionUnlikeCard

/-- THE TIED CARD OF 'pigeonrylaw08.LionOwn'. -/
def lionOwnCard : Claim7 := { stood := { row := lionOwnRow, standIns := [], harness := (true, "f222a8b127d8470a2be778ab9662441490cafc0a054012695f1d256aec367ec2"), looks := false }, kinds := [], alts := [], laidByText := true, laidKinds := [.data, .data], laidTests := true, laidLooks := .later }
def LionOwnCardSaid : Prop := Claim7.holds Tryd.pinned (.plain (OpenSpec.ofChange lionOwnSpec)) lionOwnCard

/-- THE TIED CARD OF 'pigeonrytop.WholeSealed'. -/
def wholeSealedCard : Claim7 := { stood := { row := wholeSealedRow, standIns := [], harness := (true, "f222a8b127d8470a2be778ab9662441490cafc0a054012695f1d256aec367ec2"), looks := false }, kinds := [], alts := [], laidByText := true, laidKinds := [.data, .data], laidTests := true, laidLooks := .later }
def WholeSealedCardSaid : Prop := Claim7.holds Tryd.pinned (.plain (OpenSpec.ofChange wholeSealedSpec)) wholeSealedCard

/-- THE SECOND FORM's CARD OF 'pigeonrylaw08.LionLocks'. -/
def lionLocksUptoCard : Claim7 := { stood := { row := lionLocksUptoRow, standIns := [], harness := (true, "f222a8b127d8470a2be778ab9662441490cafc0a054012695f1d256aec367ec2"), looks := false }, kinds := [], alts := [], laidByText := true, laidKinds := [.data, .data], laidTests := true, laidLooks := .later }
def LionLocksUptoCardSaid : Prop := Claim7.holds Tryd.pinned (.plain (OpenSpec.upto lionLocksSpec)) lionLocksUptoCard

/-- THE SECOND FORM's CARD OF 'pigeonrylaw08.LionBack'. -/
def lionBackUptoCard : Claim7 := { stood := { row := lionBackUptoRow, standIns := [], harness := (true, "f222a8b127d8470a2be778ab9662441490cafc0a054012695f1d256aec367ec2"), looks := false }, kinds := [], alts := [], laidByText := true, laidKinds := [.data, .data], laidTests := true, laidLooks := .later }
def LionBackUptoCardSaid : Prop := Claim7.holds Tryd.pinned (.plain (OpenSpec.upto lionBackSpec)) lionBackUptoCard

/-- THE SECOND FORM's CARD OF 'pigeonrylaw08.LionUnlike'. -/
def lionUnlikeUptoCard : Claim7 := { stood := { row := lionUnlikeUptoRow, standIns := [], harness := (true, "f222a8b127d8470a2be778ab9662441490cafc0a054012695f1d256aec367ec2"), looks := false }, kinds := [], alts := [], laidByText := true, laidKinds := [.data, .data], laidTests := true, laidLooks := .later }
def LionUnlikeUptoCardSaid : Prop := Claim7.holds Tryd.pinned (.plain (OpenSpec.upto lionUnlikeSpec)) lionUnlikeUptoCard

/-- THE SECOND FORM's CARD OF 'pigeonrylaw08.LionOwn'. -/
def lionOwnUptoCard : Claim7 := { stood := { row := lionOwnUptoRow, standIns := [], harness := (true, "f222a8b127d8470a2be778ab9662441490cafc0a054012695f1d256aec367ec2"), looks := false }, kinds := [], alts := [], laidByText := true, laidKinds := [.data, .data], laidTests := true, laidLooks := .later }
def LionOwnUptoCardSaid : Prop := Claim7.holds Tryd.pinned (.plain (OpenSpec.upto lionOwnSpec)) lionOwnUptoCard

/-- THE SECOND FORM's CARD OF 'pigeonrytop.WholeSealed'. -/
def wholeSealedUptoCard : Claim7 := { stood := { row := wholeSealedUptoRow, standIns := [], harness := (true, "f222a8b127d8470a2be778ab9662441490cafc0a054012695f1d256aec367ec2"), looks := false }, kinds := [], alts := [], laidByText := true, laidKinds := [.data, .data], laidTests := true, laidLooks := .later }
def WholeSealedUptoCardSaid : Prop := Claim7.holds Tryd.pinned (.plain (OpenSpec.upto wholeSealedSpec)) wholeSealedUptoCard
end Rows
end Go.Proofs.YtnkfiljmgbnbkaaDoor
