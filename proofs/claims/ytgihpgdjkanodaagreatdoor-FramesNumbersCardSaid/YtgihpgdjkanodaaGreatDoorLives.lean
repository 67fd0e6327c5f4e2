/-
  Helper text: the chapter's examples hold: a contract for walks; no statement is proved here.
-/
import Derived.Test.YtgihpgdjkanodaaGreatDoorLv11
import Derived.Test.YtgihpgdjkanodaaGreatDoorKept
import Derived.Test.YtgihpgdjkanodaaGreatDoorShelf
open Go Go.Proofs.YtgihpgdjkanodaaGreatDoor.Ev Go.RowKit
namespace Go.Proofs.YtgihpgdjkanodaaGreatDoor
theorem joinOK : JoinOK Tryz.prog 53 := by
  refine ⟨⟨_, Tryz.func53, rfl⟩, fun w b o cap xs sep hc hb hl hcap hj => ?_⟩
  exact Tryz.strings_Join b o cap xs sep w hc hb (by omega) hcap (by omega)
theorem hlc : CalOK Tryz.prog (aCallY Tryz.prog (shortJoin 53) 60) := aCallY_ok (noNum_of noNum) mixed (fun _ hc => shortJoin_ok joinOK hc) 60
/-- The table as our machine has it. -/
theorem held_of {W : World} (h : Laid W) : Held W tabs := fun g cs hm => by
  simp only [tabs, List.mem_singleton, Prod.mk.injEq] at hm
  obtain ⟨rfl, rfl⟩ := hm
  refine ⟨by decide, by decide, fun j a ha => ?_⟩
  have e : pidA = pidL.map AV.str := rfl
  rw [e, List.getElem?_map, Option.map_eq_some_iff] at ha
  obtain ⟨x, hx, rfl⟩ := ha
  have hj : j < 16 := (List.getElem?_eq_some_iff.1 hx).1
  refine ⟨_, rfl, (h.pid j hj).trans ?_⟩
  rw [List.getD_eq_getElem?_getD, hx]
  rfl
theorem lives_any (w : World) (hL : Laid w) : Calls Tryz.prog 11 #[] w fun e w' => e = .returned (.bool true) ∧ Below w.heap.size w w' :=
  says_okC hlc livesT (held_of hL)
end Go.Proofs.YtgihpgdjkanodaaGreatDoor
