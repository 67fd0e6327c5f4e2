/-
  Helper text: what the statements themselves call, on lists of packets; no statement is proved here.
-/
import Derived.Test.YtjilbgdenolllaaApi2
namespace Go.Proofs.Ytjilbgdenolllaa
open Go Go.RowKit

/-- At most many packets of at most 64 bytes. -/
def SmallP (ps : List (List UInt8)) (many : Nat) : Prop := ps.length ≤ many ∧ ∀ j, j < ps.length → (ps.getD j []).length ≤ 64

set_option maxHeartbeats 800000 in
set_option maxRecDepth 100000 in
theorem small_yes (w : World) (A : Option Addr) (c : Nat) (ps : List (List UInt8)) (h : Rds w w.heap.size A c ps) (many : Nat) (hm : many ≤ 100) (hs : SmallP ps many) :
    Calls Try.prog 8 #[.slice A ps.length c, .int .i64 (many : Int)] w fun e w' => e = .returned (.bool true) ∧ w = w' := by
  have h1 : ¬ (many : Int) < (ps.length : Int) := by have := hs.1; omega
  have hsl := Lib.hid hs.2
  have hle := hs.1
  clear hs
  go_enter Try.func8, Try.ntmps8
  go_wp2
  go_loopg [5] ps.length (fun g i wr => ∃ k : Nat, k + g = ps.length ∧ i = .int .i64 k ∧ w = wr)
  case atStart => exact ⟨0, by omega, rfl, rfl⟩
  case round =>
    obtain ⟨k, hkg, rfl, rfl⟩ := hrel
    by_cases hk : k < ps.length
    · obtain ⟨b, off, A1, c1, rfl, hlt, hc1, _⟩ := h.at_ hk
      have h2 : ¬ (64 : Int) < ((ps.getD k []).length : Int) := by have := hsl.out k hk; omega
      generalize ps.getD k [] = xs at hc1 h2
      go_wp2
      go_roundg (gk - 1)
      case measure => omega
      case rel => exact ⟨k + 1, by omega, by go_num, rfl⟩
    · obtain rfl : k = ps.length := by omega
      go_wp2
      go_ret
      exact ⟨rfl, rfl⟩

set_option maxHeartbeats 800000 in
set_option maxRecDepth 100000 in
theorem small_many (w : World) (A : Option Addr) (n c : Nat) (many : Nat) (hm : many < n) :
    Calls Try.prog 8 #[.slice A n c, .int .i64 (many : Int)] w fun e w' => e = .returned (.bool false) ∧ w = w' := by
  have h1 : (many : Int) < (n : Int) := by omega
  go_enter Try.func8, Try.ntmps8
  go_wp2
  go_ret
  exact ⟨rfl, rfl⟩

set_option maxHeartbeats 800000 in
set_option maxRecDepth 100000 in
theorem small_long (w : World) (A : Option Addr) (c : Nat) (ps : List (List UInt8)) (h : Rds w w.heap.size A c ps) (many : Nat) (hm : many ≤ 100) (hl : ps.length ≤ many) (J : Nat) (hJ : J < ps.length) (hlong : 64 < (ps.getD J []).length) (hshort : ∀ j, j < J → (ps.getD j []).length ≤ 64) :
    Calls Try.prog 8 #[.slice A ps.length c, .int .i64 (many : Int)] w fun e w' => e = .returned (.bool false) ∧ w = w' := by
  have h1 : ¬ (many : Int) < (ps.length : Int) := by omega
  have hsh := Lib.hid hshort
  clear hshort
  go_enter Try.func8, Try.ntmps8
  go_wp2
  go_loopg [5] J (fun g i wr => ∃ k : Nat, k + g = J ∧ i = .int .i64 k ∧ w = wr)
  case atStart => exact ⟨0, by omega, rfl, rfl⟩
  case round =>
    obtain ⟨k, hkg, rfl, rfl⟩ := hrel
    obtain ⟨b, off, A1, c1, rfl, hlt, hc1, _⟩ := h.at_ (k := k) (by omega)
    have hkl : k < ps.length := by omega
    by_cases hk : k = J
    · subst hk
      have h2 : (64 : Int) < ((ps.getD k []).length : Int) := by omega
      clear hsh hlong
      generalize ps.getD k [] = xs at hc1 h2
      go_wp2
      go_ret
      exact ⟨rfl, rfl⟩
    · have h2 : ¬ (64 : Int) < ((ps.getD k []).length : Int) := by have := hsh.out k (by omega); omega
      clear hlong
      generalize ps.getD k [] = xs at hc1 h2
      go_wp2
      go_roundg (gk - 1)
      case measure => omega
      case rel => exact ⟨k + 1, by omega, by go_num, rfl⟩

/-- The first packet that is too long. -/
theorem first_long {ps : List (List UInt8)} {m : Nat} (h : ¬ ∀ j, j < ps.length → (ps.getD j []).length ≤ m) : ∃ J, J < ps.length ∧ m < (ps.getD J []).length ∧ ∀ j, j < J → (ps.getD j []).length ≤ m := by
  have key : ∀ n : Nat, n ≤ ps.length → (∀ j, j < n → (ps.getD j []).length ≤ m) ∨ ∃ J, J < n ∧ m < (ps.getD J []).length ∧ ∀ j, j < J → (ps.getD j []).length ≤ m := by
    intro n
    induction n with
    | zero => intro _; exact .inl fun j hj => absurd hj (by omega)
    | succ n ih =>
      intro hn
      rcases ih (by omega) with h1 | ⟨J, h1, h2, h3⟩
      · by_cases hl : (ps.getD n []).length ≤ m
        · exact .inl fun j hj => by
            by_cases e : j = n
            · subst e; exact hl
            · exact h1 j (by omega)
        · exact .inr ⟨n, by omega, by omega, h1⟩
      · exact .inr ⟨J, by omega, h2, h3⟩
  rcases key ps.length (Nat.le_refl _) with h1 | h1
  · exact absurd h1 h
  · exact h1
theorem small_no (w : World) (A : Option Addr) (c : Nat) (ps : List (List UInt8)) (h : Rds w w.heap.size A c ps) (many : Nat) (hm : many ≤ 100) (hs : ¬ SmallP ps many) :
    Calls Try.prog 8 #[.slice A ps.length c, .int .i64 (many : Int)] w fun e w' => e = .returned (.bool false) ∧ w = w' := by
  by_cases hl : many < ps.length
  · exact small_many w A ps.length c many hl
  · obtain ⟨J, h1, h2, h3⟩ := first_long (m := 64) fun h => hs ⟨by omega, h⟩
    exact small_long w A c ps h many hm (by omega) J h1 h2 h3

/-- The bytes as a string. -/
theorem Rd.cv {w : World} {B c : Nat} {A : Option Addr} {xs : List UInt8} (h : Rd w B A c xs) : (convert 26 9 (.slice A xs.length c)).run Try.prog w = .ok (.string ⟨xs.toArray⟩) w := h.str Try.underlying26 Try.underlying5 Try.underlying9

set_option maxHeartbeats 1600000 in
set_option maxRecDepth 100000 in
theorem lists_any (w : World) (A A' : Option Addr) (c c' : Nat) (ps : List (List UInt8)) (h : Rds w w.heap.size A c ps) (h' : Rds w w.heap.size A' c' ps) (hl : ps.length ≤ 1000000) :
    Calls Try.prog 12 #[.slice A ps.length c, .slice A' ps.length c'] w fun e w' => e = .returned (.int .i64 0) ∧ Below w.heap.size w w' := by
  have hne : ((ps.length : Int) != (ps.length : Int)) = false := by simp
  go_enter Try.func12, Try.ntmps12
  go_wp2
  go_loopg [5] ps.length (fun g i wr => ∃ k : Nat, k + g = ps.length ∧ i = .int .i64 k ∧ Below w.heap.size w wr)
  case atStart => exact ⟨0, by omega, rfl, Below.refl _ _⟩
  case round =>
    obtain ⟨k, hkg, rfl, hb⟩ := hrel
    by_cases hk : k < ps.length
    · obtain ⟨b, off, A1, c1, rfl, hlt, hc1, hr1⟩ := (h.below hb).at_ hk
      obtain ⟨b', off', A2, c2, rfl, hlt', hc2, hr2⟩ := (h'.below hb).at_ hk
      have hki : (k : Int) < (ps.length : Int) := by omega
      have hki0 : (0 : Int) ≤ (k : Int) := by omega
      generalize ps.getD k [] = xs at hc1 hc2 hr1 hr2
      have cv1 := Lib.hid (fun W (hW : Sm (fun _ => True) wr.drew W) => (hr1.keep (w' := W) fun p _ => hW p trivial).cv)
      have cv2 := Lib.hid (fun W (hW : Sm (fun _ => True) wr.drew W) => (hr2.keep (w' := W) fun p _ => hW p trivial).cv)
      have hbd := hb.drew
      clear hr1 hr2
      go_wp2
      refine startT (S := fun _ => True) (T := []) 11 (by kernel_rfl) rfl (l := #[false, false, false, false, false, false, false, false, false, false, false]) rfl ?_
      ((first | (refine takeT 0 (v := ?_) rfl (by decide +kernel) (by decide +kernel) (by decide +kernel) (fun _ _ _ h => h) (by decide +kernel) (Or.inl ⟨by rfl, ?_⟩) ?_; rotate_left 1; (focus (intro W hW; have hcW := hW.at; (try dsimp only at hcW); go_simp; first | done | with_reducible rfl)); try simp only [Act.put, List.setIfInBounds_toArray, List.set_cons_zero, List.set_cons_succ]) | (refine takeW 0 (v := ?_) rfl (by decide +kernel) (by decide +kernel) (by decide +kernel) (fun _ _ _ h => h) (Or.inl ⟨by rfl, ?_⟩) ?_; rotate_left 1; (focus (intro W hW; go_simp; first | done | with_reducible rfl)); try simp only [Act.put, List.setIfInBounds_toArray, List.set_cons_zero, List.set_cons_succ]) | (refine takeW 0 rfl (by decide +kernel) (by decide +kernel) (by decide +kernel) (fun _ _ _ h => h) (Or.inr ⟨by rfl, rfl⟩) ?_; try simp only [Act.put, List.setIfInBounds_toArray, List.set_cons_zero, List.set_cons_succ]) | skip); (first | (refine takeT 1 (v := ?_) rfl (by decide +kernel) (by decide +kernel) (by decide +kernel) (fun _ _ _ h => h) (by decide +kernel) (Or.inl ⟨by rfl, ?_⟩) ?_; rotate_left 1; (focus (intro W hW; have hcW := hW.at; (try dsimp only at hcW); go_simp; first | done | with_reducible rfl)); try simp only [Act.put, List.setIfInBounds_toArray, List.set_cons_zero, List.set_cons_succ]) | (refine takeW 1 (v := ?_) rfl (by decide +kernel) (by decide +kernel) (by decide +kernel) (fun _ _ _ h => h) (Or.inl ⟨by rfl, ?_⟩) ?_; rotate_left 1; (focus (intro W hW; go_simp; first | done | with_reducible rfl)); try simp only [Act.put, List.setIfInBounds_toArray, List.set_cons_zero, List.set_cons_succ]) | (refine takeW 1 rfl (by decide +kernel) (by decide +kernel) (by decide +kernel) (fun _ _ _ h => h) (Or.inr ⟨by rfl, rfl⟩) ?_; try simp only [Act.put, List.setIfInBounds_toArray, List.set_cons_zero, List.set_cons_succ]) | skip); (first | (refine takeT 2 (v := ?_) rfl (by decide +kernel) (by decide +kernel) (by decide +kernel) (fun _ _ _ h => h) (by decide +kernel) (Or.inl ⟨by rfl, ?_⟩) ?_; rotate_left 1; (focus (intro W hW; have hcW := hW.at; (try dsimp only at hcW); go_simp; first | done | with_reducible rfl)); try simp only [Act.put, List.setIfInBounds_toArray, List.set_cons_zero, List.set_cons_succ]) | (refine takeW 2 (v := ?_) rfl (by decide +kernel) (by decide +kernel) (by decide +kernel) (fun _ _ _ h => h) (Or.inl ⟨by rfl, ?_⟩) ?_; rotate_left 1; (focus (intro W hW; go_simp; first | done | with_reducible rfl)); try simp only [Act.put, List.setIfInBounds_toArray, List.set_cons_zero, List.set_cons_succ]) | (refine takeW 2 rfl (by decide +kernel) (by decide +kernel) (by decide +kernel) (fun _ _ _ h => h) (Or.inr ⟨by rfl, rfl⟩) ?_; try simp only [Act.put, List.setIfInBounds_toArray, List.set_cons_zero, List.set_cons_succ]) | skip); (first | (refine takeT 3 (v := ?_) rfl (by decide +kernel) (by decide +kernel) (by decide +kernel) (fun _ _ _ h => h) (by decide +kernel) (Or.inl ⟨by rfl, ?_⟩) ?_; rotate_left 1; (focus (intro W hW; have hcW := hW.at; (try dsimp only at hcW); go_simp; first | done | with_reducible rfl)); try simp only [Act.put, List.setIfInBounds_toArray, List.set_cons_zero, List.set_cons_succ]) | (refine takeW 3 (v := ?_) rfl (by decide +kernel) (by decide +kernel) (by decide +kernel) (fun _ _ _ h => h) (Or.inl ⟨by rfl, ?_⟩) ?_; rotate_left 1; (focus (intro W hW; go_simp; first | done | with_reducible rfl)); try simp only [Act.put, List.setIfInBounds_toArray, List.set_cons_zero, List.set_cons_succ]) | (refine takeW 3 rfl (by decide +kernel) (by decide +kernel) (by decide +kernel) (fun _ _ _ h => h) (Or.inr ⟨by rfl, rfl⟩) ?_; try simp only [Act.put, List.setIfInBounds_toArray, List.set_cons_zero, List.set_cons_succ]) | skip); (first | (refine takeT 5 (v := ?_) rfl (by decide +kernel) (by decide +kernel) (by decide +kernel) (fun _ _ _ h => h) (by decide +kernel) (Or.inl ⟨by rfl, ?_⟩) ?_; rotate_left 1; (focus (intro W hW; have hcW := hW.at; (try dsimp only at hcW); go_simp; first | done | with_reducible rfl)); try simp only [Act.put, List.setIfInBounds_toArray, List.set_cons_zero, List.set_cons_succ]) | (refine takeW 5 (v := ?_) rfl (by decide +kernel) (by decide +kernel) (by decide +kernel) (fun _ _ _ h => h) (Or.inl ⟨by rfl, ?_⟩) ?_; rotate_left 1; (focus (intro W hW; go_simp; first | done | with_reducible rfl)); try simp only [Act.put, List.setIfInBounds_toArray, List.set_cons_zero, List.set_cons_succ]) | (refine takeW 5 rfl (by decide +kernel) (by decide +kernel) (by decide +kernel) (fun _ _ _ h => h) (Or.inr ⟨by rfl, rfl⟩) ?_; try simp only [Act.put, List.setIfInBounds_toArray, List.set_cons_zero, List.set_cons_succ]) | skip); (first | (refine takeT 6 (v := ?_) rfl (by decide +kernel) (by decide +kernel) (by decide +kernel) (fun _ _ _ h => h) (by decide +kernel) (Or.inl ⟨by rfl, ?_⟩) ?_; rotate_left 1; (focus (intro W hW; have hcW := hW.at; (try dsimp only at hcW); go_simp; first | done | with_reducible rfl)); try simp only [Act.put, List.setIfInBounds_toArray, List.set_cons_zero, List.set_cons_succ]) | (refine takeW 6 (v := ?_) rfl (by decide +kernel) (by decide +kernel) (by decide +kernel) (fun _ _ _ h => h) (Or.inl ⟨by rfl, ?_⟩) ?_; rotate_left 1; (focus (intro W hW; go_simp; first | done | with_reducible rfl)); try simp only [Act.put, List.setIfInBounds_toArray, List.set_cons_zero, List.set_cons_succ]) | (refine takeW 6 rfl (by decide +kernel) (by decide +kernel) (by decide +kernel) (fun _ _ _ h => h) (Or.inr ⟨by rfl, rfl⟩) ?_; try simp only [Act.put, List.setIfInBounds_toArray, List.set_cons_zero, List.set_cons_succ]) | skip); (first | (refine takeT 7 (v := ?_) rfl (by decide +kernel) (by decide +kernel) (by decide +kernel) (fun _ _ _ h => h) (by decide +kernel) (Or.inl ⟨by rfl, ?_⟩) ?_; rotate_left 1; (focus (intro W hW; have hcW := hW.at; (try dsimp only at hcW); go_simp; first | done | with_reducible rfl)); try simp only [Act.put, List.setIfInBounds_toArray, List.set_cons_zero, List.set_cons_succ]) | (refine takeW 7 (v := ?_) rfl (by decide +kernel) (by decide +kernel) (by decide +kernel) (fun _ _ _ h => h) (Or.inl ⟨by rfl, ?_⟩) ?_; rotate_left 1; (focus (intro W hW; go_simp; first | done | with_reducible rfl)); try simp only [Act.put, List.setIfInBounds_toArray, List.set_cons_zero, List.set_cons_succ]) | (refine takeW 7 rfl (by decide +kernel) (by decide +kernel) (by decide +kernel) (fun _ _ _ h => h) (Or.inr ⟨by rfl, rfl⟩) ?_; try simp only [Act.put, List.setIfInBounds_toArray, List.set_cons_zero, List.set_cons_succ]) | skip); (first | (refine takeT 8 (v := ?_) rfl (by decide +kernel) (by decide +kernel) (by decide +kernel) (fun _ _ _ h => h) (by decide +kernel) (Or.inl ⟨by rfl, ?_⟩) ?_; rotate_left 1; (focus (intro W hW; have hcW := hW.at; (try dsimp only at hcW); go_simp; first | done | with_reducible rfl)); try simp only [Act.put, List.setIfInBounds_toArray, List.set_cons_zero, List.set_cons_succ]) | (refine takeW 8 (v := ?_) rfl (by decide +kernel) (by decide +kernel) (by decide +kernel) (fun _ _ _ h => h) (Or.inl ⟨by rfl, ?_⟩) ?_; rotate_left 1; (focus (intro W hW; go_simp; first | done | with_reducible rfl)); try simp only [Act.put, List.setIfInBounds_toArray, List.set_cons_zero, List.set_cons_succ]) | (refine takeW 8 rfl (by decide +kernel) (by decide +kernel) (by decide +kernel) (fun _ _ _ h => h) (Or.inr ⟨by rfl, rfl⟩) ?_; try simp only [Act.put, List.setIfInBounds_toArray, List.set_cons_zero, List.set_cons_succ]) | skip))
      refine takeT 4 (v := .string ⟨xs.toArray⟩) rfl (by decide +kernel) (by decide +kernel) (by decide +kernel) (fun _ _ _ h => h) (by decide +kernel) (Or.inl ⟨by rfl, ?_⟩) ?_
      · intro W hW
        have q := cv1.out W hW
        go_simp
        first | done | with_reducible rfl
      try simp only [Act.put, List.setIfInBounds_toArray, List.set_cons_zero, List.set_cons_succ]
      refine takeT 9 (v := .string ⟨xs.toArray⟩) rfl (by decide +kernel) (by decide +kernel) (by decide +kernel) (fun _ _ _ h => h) (by decide +kernel) (Or.inl ⟨by rfl, ?_⟩) ?_
      · intro W hW
        have q := cv2.out W hW
        go_simp
        first | done | with_reducible rfl
      try simp only [Act.put, List.setIfInBounds_toArray, List.set_cons_zero, List.set_cons_succ]
      ((first | (refine takeT 10 (v := ?_) rfl (by decide +kernel) (by decide +kernel) (by decide +kernel) (fun _ _ _ h => h) (by decide +kernel) (Or.inl ⟨by rfl, ?_⟩) ?_; rotate_left 1; (focus (intro W hW; have hcW := hW.at; (try dsimp only at hcW); go_simp; first | done | with_reducible rfl)); try simp only [Act.put, List.setIfInBounds_toArray, List.set_cons_zero, List.set_cons_succ]) | (refine takeW 10 (v := ?_) rfl (by decide +kernel) (by decide +kernel) (by decide +kernel) (fun _ _ _ h => h) (Or.inl ⟨by rfl, ?_⟩) ?_; rotate_left 1; (focus (intro W hW; go_simp; first | done | with_reducible rfl)); try simp only [Act.put, List.setIfInBounds_toArray, List.set_cons_zero, List.set_cons_succ]) | (refine takeW 10 rfl (by decide +kernel) (by decide +kernel) (by decide +kernel) (fun _ _ _ h => h) (Or.inr ⟨by rfl, rfl⟩) ?_; try simp only [Act.put, List.setIfInBounds_toArray, List.set_cons_zero, List.set_cons_succ]) | skip))
      refine doneT (by kernel_rfl) ?_
      go_wp2
      go_roundg (gk - 1)
      case measure => omega
      case rel => exact ⟨k + 1, by omega, by go_num, hbd⟩
    · obtain rfl : k = ps.length := by omega
      go_wp2
      go_ret
      exact ⟨rfl, hb⟩

end Go.Proofs.Ytjilbgdenolllaa
