/-
  Helper text: the chapter's examples hold, run by our own machine; no statement is proved here.
-/
import Derived.Test.YtochkonjfhhiiaaPlF
open Go Go.RowKit Go.Proofs.Ytochkonjfhhiiaa.Ev
namespace Go.Proofs.Ytochkonjfhhiiaa
noncomputable section
set_option maxRecDepth 1000000 in
theorem livesT : saysTrue (aCallY Try.prog plugs 60 10 [] (tables tabs) 1000) = true := by decide +kernel
theorem lives_any (w : World) : Calls Try.prog 10 #[] w fun e w' => e = .returned (.bool true) ∧ Below w.heap.size w w' :=
  says_okC (aCallY_ok (noNum_of noNum) mixed plugs_ok 60) livesT fun g cs hm => by simp [tabs] at hm
end
end Go.Proofs.Ytochkonjfhhiiaa
