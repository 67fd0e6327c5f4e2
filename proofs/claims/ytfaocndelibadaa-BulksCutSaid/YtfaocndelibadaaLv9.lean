/-
  Helper text: the chapter's examples hold, run by our own machine; no statement is proved here.
-/
import Derived.Test.YtfaocndelibadaaPl
open Go Go.RowKit Go.Proofs.Ytfaocndelibadaa.Ev
namespace Go.Proofs.Ytfaocndelibadaa
noncomputable section
def tabs : List (Nat × List AV) := []
theorem noNum : noNumB Try.prog = true := by decide +kernel
theorem mixed : Try.prog.follows .mixedOrders = true := by decide +kernel
/-- What is known by its contract. -/
def plugs (c : Ev.Callee) : Ev.Callee := shortJn 26 (shortCut 6 (shortCol 29 36 c))
set_option maxRecDepth 1000000 in
theorem livesT : saysTrue (aCallY Try.prog plugs 60 8 [] (tables tabs) 1000) = true := by decide +kernel
theorem plugs_ok : ∀ c, CalOK Try.prog c → CalOK Try.prog (plugs c) := fun _ h => shortJn_ok (shortCut_ok (shortCol_ok h))
theorem lives_any (w : World) : Calls Try.prog 8 #[] w fun e w' => e = .returned (.bool true) ∧ Below w.heap.size w w' :=
  says_okC (aCallY_ok (noNum_of noNum) mixed plugs_ok 60) livesT fun g cs hm => by simp [tabs] at hm
end
end Go.Proofs.Ytfaocndelibadaa
