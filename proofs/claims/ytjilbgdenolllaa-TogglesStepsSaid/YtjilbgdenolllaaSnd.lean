/-
  Helper text: senders and receivers by value; no statement is proved here.
-/
import Derived.Test.YtjilbgdenolllaaCps
namespace Go.Proofs.Ytjilbgdenolllaa
open Go Go.RowKit

/-- A sender or a receiver as a value. -/
abbrev sv (t : Bool) (v : Value) : Value := .agg #[.bool t, v]

set_option maxHeartbeats 400000 in
set_option maxRecDepth 100000 in
theorem has_no (w : World) (t : Bool) (A : Option Addr) (c : Nat) : Calls Try.prog 22 #[sv t (.slice A 0 c)] w (ResB w false) := by
  go_enter Try.func22, Try.ntmps22
  go_wp2
  go_ret
  exact ⟨rfl, (Below.refl _ _).alloc (Nat.le_refl _) _⟩
set_option maxHeartbeats 400000 in
set_option maxRecDepth 100000 in
theorem has_yes (w : World) (t : Bool) (A : Option Addr) (n c : Nat) (hn : 0 < n) : Calls Try.prog 22 #[sv t (.slice A n c)] w (ResB w true) := by
  have h1 : (0 : Int) < (n : Int) := by omega
  go_enter Try.func22, Try.ntmps22
  go_wp2
  go_ret
  exact ⟨rfl, (Below.refl _ _).alloc (Nat.le_refl _) _⟩

theorem sliceP_from (A : Option Addr) (n c : Nat) (l : Int) (W : World) (h0 : 0 ≤ l) (h1 : l ≤ n) : (Instr.slice 22 (.slice A n c) (some (.int .i64 l)) none none).run Try.prog W = .ok (sliced A l.toNat n c 1) W := by
  have hs : (sizeOf (Try.prog.elem 22)).run Try.prog W = .ok 1 W := by kernel_rfl
  rw [run_slice_l W 22 A n c (by kernel_rfl) .i64 l h0 h1, hs]
  rfl

/-- A sender behind an acknowledgement is returned. -/
def ResA (w : World) (t : Bool) (ps : List (List UInt8)) (e : Ending) (w' : World) : Prop :=
  ∃ A c, e = .returned (sv t (.slice A ps.length c)) ∧ Rds w' w'.heap.size A c ps ∧ Below w.heap.size w w'

set_option maxHeartbeats 400000 in
set_option maxRecDepth 100000 in
theorem ack_core (w : World) (t : Bool) (A A' : Option Addr) (n m c c' : Nat) (hn : 0 < n) (hcut : sliced A 1 n c 1 = .slice A' m c') :
    Calls Try.prog 24 #[sv t (.slice A n c)] w fun e w' => e = .returned (sv (!t) (.slice A' m c')) ∧ Below w.heap.size w w' := by
  have hsx := fun W : World => sliceP_from A n c 1 W (by omega) (by omega)
  rw [show (1 : Int).toNat = 1 from rfl, hcut] at hsx
  have Hb := Lib.hid (fun (o1 o2 : Obj) => ((Below.refl w.heap.size w).alloc (Nat.le_refl _) o1).alloc (by simp) o2)
  clear hcut
  go_enter Try.func24, Try.ntmps24
  go_wp2
  go_region
  all_goals (go_wp2; refine bodyPost_ret (v := sv (!t) (.slice A' m c')) (by simp [results, Try.results24, go_sem]) rfl ?_; exact ⟨rfl, (Hb.out _ _).drew⟩)
theorem ack_any (w : World) (t : Bool) (A : Option Addr) (c : Nat) (ps : List (List UInt8)) (h : Rds w w.heap.size A c ps) (hn : 0 < ps.length) :
    Calls Try.prog 24 #[sv t (.slice A ps.length c)] w (ResA w (!t) (ps.drop 1)) := by
  obtain ⟨A', c', hcut, hr⟩ := h.from_ (k := 1) (by omega)
  have hlen : (ps.drop 1).length = ps.length - 1 := by rw [List.length_drop]
  rw [← hlen] at hcut
  exact (ack_core w t A A' _ _ c c' hn hcut).mono fun e w' ⟨h1, h2⟩ => ⟨A', c', h1, hr.belowTop h2, h2⟩

theorem clips_any (w : World) (A : Option Addr) (n c : Nat) (hle : n ≤ c) (hcap : c ≤ 9223372036854775807) : Calls Try.prog 30 #[.slice A n c] w fun e w' => e = .returned (.slice A n n) ∧ w = w' := by
  go_enter Try.func30, Try.ntmps30
  go_wp2
  go_ret
  exact ⟨rfl, rfl⟩

/-- A sender or a receiver is returned. -/
def ResS (w : World) (t : Bool) (v : Value) (e : Ending) (w' : World) : Prop := e = .returned (sv t v) ∧ Below w.heap.size w w'

set_option maxHeartbeats 400000 in
set_option maxRecDepth 100000 in
theorem clipped_any (w : World) (t : Bool) (A : Option Addr) (n c : Nat) (hle : n ≤ c) (hcap : c ≤ 9223372036854775807) :
    Calls Try.prog 26 #[sv t (.slice A n c)] w (ResS w t (.slice A n n)) := by
  have hb := fun (o1 o2 : Obj) => ((Below.refl w.heap.size w).alloc (Nat.le_refl _) o1).alloc (by simp) o2
  have Hb := Lib.hid hb
  clear hb
  go_enter Try.func26, Try.ntmps26
  go_wp2
  go_region_with (go_at_call 30; refine (clips_any _ A n c hle hcap).mono ?_; rintro e w' ⟨rfl, rfl⟩)
  all_goals (go_wp2; refine bodyPost_ret (v := sv t (.slice A n n)) (by simp [results, Try.results26, go_sem]) rfl ?_; exact ⟨rfl, (Hb.out _ _).drew⟩)

/-- A new sender or receiver is returned. -/
def ResNS (w : World) (t : Bool) (ps : List (List UInt8)) (e : Ending) (w' : World) : Prop :=
  ∃ g, e = .returned (sv t (.slice (some ⟨g, 0, none⟩) ps.length ps.length)) ∧ News w' w.heap.size g ps ∧ Below w.heap.size w w'

end Go.Proofs.Ytjilbgdenolllaa
