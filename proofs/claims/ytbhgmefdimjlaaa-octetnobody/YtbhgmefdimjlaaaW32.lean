/-
  Words of 32 bits, as the walk spells them.
-/
import Derived.Test.YtbhgmefdimjlaaaRows
import Derived.Test.YtbhgmefdimjlaaaShaNum
import Derived.Test.YtbhgmefdimjlaaaPick
import Derived.Test.YtbhgmefdimjlaaaFast
import Derived.WalkSpells
import Derived.WalkLawsBesides
import Derived.Laws.Bits64b
import Derived.Lib.Hide
namespace Go.Proofs.Ytbhgmefdimjlaaa
open Go.RowKit Go.Hold Go.Sh

@[go_sem ↓] theorem fold_add (a b : Int) : IntKind.u32.wrap (a + b) = add32 a b := by unfold add32; rfl
@[go_sem ↓] theorem fold_xor (a b : Int) : bits .xor .u32 a b = x32 a b := by unfold x32; rfl
@[go_sem ↓ high] theorem fold_not (a : Int) : bits .xor .u32 (if IntKind.u32.signed = true then -1 else IntKind.u32.max) a = n32 a := by unfold n32; rfl
@[go_sem ↓] theorem fold_and (a b : Int) : bits .and .u32 a b = a32 a b := by unfold a32; rfl
@[go_sem ↓] theorem fold_or (a b : Int) : bits .or .u32 a b = o32 a b := by unfold o32; rfl
end Go.Proofs.Ytbhgmefdimjlaaa
