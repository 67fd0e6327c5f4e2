/-
  Helper text: worlds that grow, but for one block; no statement is proved here.
-/
import Derived.Test.YtgihpgdjkanodaaGreatDoorRegB
import Derived.Test.YtgihpgdjkanodaaGreatDoorProg
import Derived.Test.YtgihpgdjkanodaaGreatDoorChecked
import Derived.Outline
import Derived.RegionTactic
namespace Go.Proofs.YtgihpgdjkanodaaGreatDoor.Ck
open Go Go.RowKit
theorem grown_refl (w : World) (r : Option Nat) : w.grownBy w r := ⟨rfl, rfl, rfl, Nat.le_refl _, fun _ _ _ => rfl⟩
theorem grown_trans {a b c : World} {r : Option Nat} (h : a.grownBy b r) (k : b.grownBy c r) : a.grownBy c r :=
  ⟨k.os.trans h.os, k.tape.trans h.tape, k.output.trans h.output, Nat.le_trans h.size k.size, fun i hi hn => (k.block i (Nat.lt_of_lt_of_le hi h.size) hn).trans (h.block i hi hn)⟩
theorem grown_drew {a b : World} {r : Option Nat} (h : a.grownBy b r) : a.grownBy b.drew r := ⟨h.os, h.tape, h.output, h.size, h.block⟩
end Go.Proofs.YtgihpgdjkanodaaGreatDoor.Ck
