/-
  The law TogglesSteps: its early ways out; no statement is proved here.
-/
import Derived.Test.YtjilbgdenolllaaStM
import Derived.Test.YtjilbgdenolllaaApi2
import Derived.Test.YtjilbgdenolllaaLives
namespace Go.Proofs.Ytjilbgdenolllaa
open Go Go.RowKit

set_option maxHeartbeats 800000 in
set_option maxRecDepth 100000 in
theorem lsteps_small1 (w : World) (st rt : Bool) (A A' A2 : Option Addr) (c c' c2 n' n2 : Nat) (ps : List (List UInt8)) (h : Rds w w.heap.size A c ps) (hs : ¬ SmallP ps 20) :
    Calls Try.prog 4 #[sv st (.slice A ps.length c), sv rt (.slice A' n' c'), .slice A2 n2 c2] w (ResB w true) := by
  have hb := Lib.hid (((Below.refl w.heap.size w).alloc (Nat.le_refl _) (.cells #[.bool st, .slice A ps.length c] 28)).alloc (by simp) (.cells #[.bool rt, .slice A' n' c'] 39))
  have H := h.belowTop hb.out
  go_enter Try.func4, Try.ntmps4
  go_wp2_with fail
  refine (small_no _ A c ps H 20 (by omega) hs).mono ?_
  rintro e w1 ⟨rfl, rfl⟩
  go_wp2
  go_ret
  exact ⟨rfl, hb.out⟩
set_option maxHeartbeats 800000 in
set_option maxRecDepth 100000 in
theorem lsteps_small2 (w : World) (st rt : Bool) (A A' A2 : Option Addr) (c c' c2 n2 : Nat) (ps qs : List (List UInt8)) (h : Rds w w.heap.size A c ps) (h' : Rds w w.heap.size A' c' qs) (hs : SmallP ps 20) (hs' : ¬ SmallP qs 20) :
    Calls Try.prog 4 #[sv st (.slice A ps.length c), sv rt (.slice A' qs.length c'), .slice A2 n2 c2] w (ResB w true) := by
  have hb := Lib.hid (((Below.refl w.heap.size w).alloc (Nat.le_refl _) (.cells #[.bool st, .slice A ps.length c] 28)).alloc (by simp) (.cells #[.bool rt, .slice A' qs.length c'] 39))
  have H := h.belowTop hb.out
  have H' := h'.belowTop hb.out
  go_enter Try.func4, Try.ntmps4
  go_wp2_with fail
  refine (small_yes _ A c ps H 20 (by omega) hs).mono ?_
  rintro e w1 ⟨rfl, rfl⟩
  go_wp2_with fail
  refine (small_no _ A' c' qs H' 20 (by omega) hs').mono ?_
  rintro e w1 ⟨rfl, rfl⟩
  go_wp2
  go_ret
  exact ⟨rfl, hb.out⟩
set_option maxHeartbeats 800000 in
set_option maxRecDepth 100000 in
theorem lsteps_many (w : World) (st rt : Bool) (A A' A2 : Option Addr) (c c' c2 n2 : Nat) (ps qs : List (List UInt8)) (h : Rds w w.heap.size A c ps) (h' : Rds w w.heap.size A' c' qs) (hs : SmallP ps 20) (hs' : SmallP qs 20) (hn : 64 < n2) :
    Calls Try.prog 4 #[sv st (.slice A ps.length c), sv rt (.slice A' qs.length c'), .slice A2 n2 c2] w (ResB w true) := by
  have hb := Lib.hid (((Below.refl w.heap.size w).alloc (Nat.le_refl _) (.cells #[.bool st, .slice A ps.length c] 28)).alloc (by simp) (.cells #[.bool rt, .slice A' qs.length c'] 39))
  have H := h.belowTop hb.out
  have H' := h'.belowTop hb.out
  have hn' : (64 : Int) < (n2 : Int) := by omega
  go_enter Try.func4, Try.ntmps4
  go_wp2_with fail
  refine (small_yes _ A c ps H 20 (by omega) hs).mono ?_
  rintro e w1 ⟨rfl, rfl⟩
  go_wp2_with fail
  refine (small_yes _ A' c' qs H' 20 (by omega) hs').mono ?_
  rintro e w1 ⟨rfl, rfl⟩
  go_wp2
  go_ret
  exact ⟨rfl, hb.out⟩

/-- What holds between two parts of the code. -/
theorem seq_inv {P : Program} {x y : Code} {Q : Exit → Act → World → Prop} {a : Act} {w : World} (I : Act → World → Prop)
    (h : x.wp P (fun e a' w' => match e with | .normal => I a' w' | e => Q e a' w') a w) (hr : ∀ a' w', I a' w' → y.wp P Q a' w') : (x.seq y).wp P Q a w :=
  wp_seq (wp_mono h fun e a' w' h => by
    cases e
    case normal => exact hr _ _ h
    all_goals exact h)

end Go.Proofs.Ytjilbgdenolllaa
