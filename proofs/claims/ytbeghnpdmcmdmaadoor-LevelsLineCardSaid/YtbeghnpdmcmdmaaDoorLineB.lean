/-
  Helper text: the law file's comparison of lists, and append of zeros to a slice of the call's own; no statement is proved here.
-/
import Derived.Test.YtbeghnpdmcmdmaaDoorLawBits

namespace Go.Proofs.YtbeghnpdmcmdmaaDoor
open Go Go.RowKit

theorem getD_app (qs rs : List (List UInt8)) {k : Nat} (h : k < qs.length) : (qs ++ rs).getD k [] = qs.getD k [] := by simp [List.getD, List.getElem?_append, h]

set_option maxHeartbeats 2000000 in
set_option maxRecDepth 100000 in
theorem begins_true (w : World) (A1 A2 : Option Addr) (c1 c2 : Nat) (qs rs : List (List UInt8)) (h1 : Rds w w.heap.size A1 c1 (qs ++ rs)) (h2 : Rds w w.heap.size A2 c2 qs) (hl : (qs ++ rs).length ≤ 1000000) :
    Calls Tryd.prog 31 #[.slice A1 (qs ++ rs).length c1, .slice A2 qs.length c2] w (ResB w true) := by
  have hle : qs.length ≤ (qs ++ rs).length := by simp
  have t1 : ¬ ((qs ++ rs).length : Int) < (qs.length : Int) := by omega
  have hg := fun k => @getD_app qs rs k
  generalize qs ++ rs = ps at h1 hl hle t1 hg
  go_enter Tryd.func31, Tryd.ntmps31
  go_wp2
  go_loopg [5] qs.length (fun g i wi => ∃ k : Nat, k + g = qs.length ∧ i = .int .i64 k ∧ Below w.heap.size w wi)
  case atStart => exact ⟨0, by omega, rfl, Below.refl _ _⟩
  case round =>
    obtain ⟨k, hkg, rfl, hb⟩ := hrel
    by_cases hk : k < qs.length
    · have hgk := hg k hk
      obtain ⟨b1, o1, A3, c3, rfl, hB1, hc1, hr1⟩ := (h1.below hb).at_ (k := k) (by omega)
      obtain ⟨b2, o2, A4, c4, rfl, hB2, hc2, hr2⟩ := (h2.below hb).at_ hk
      rw [hgk] at hc1 hr1
      generalize qs.getD k [] = us at hc1 hr1 hc2 hr2
      have s1 : Cv wr.drew _ _ _ _ := hr1.drew.cv
      have s2 : Cv wr.drew _ _ _ _ := hr2.drew.cv
      clear hg hgk hr1 hr2
      go_wp2
      go_region
      go_wp2
      go_roundg (gk - 1)
      case measure => omega
      case rel => exact ⟨k + 1, by omega, by go_num, hb.drew⟩
    · go_wp2
      go_ret
      exact ⟨rfl, hb⟩

end Go.Proofs.YtbeghnpdmcmdmaaDoor
