/-
  Helper text: contracts of Send and Receive; no statement is proved here.
-/
import Derived.Test.YtkmjemaajgdoiaaDoorLvRecv
namespace Go.Proofs.YtkmjemaajgdoiaaDoor.Lv
open Go Go.RowKit

/-- The states of a packet. -/
def sendL (xs : List UInt8) : List UInt8 := encL (stuffL (syncL ++ bitsL xs)) ++ endL
theorem stuffL_len (xs : List UInt8) : (stuffL xs).length ≤ 2 * xs.length := (stuffS_bound xs).2

set_option maxHeartbeats 1600000 in
set_option maxRecDepth 100000 in
theorem send_own (w : World) (hL : Laid w) (A : Option Addr) (c : Nat) (xs : List UInt8) (h : Rd w w.heap.size A c xs) (h1 : 0 < xs.length) (hl : xs.length ≤ 1027) :
    Calls Tryd.prog 8 #[.slice A xs.length c] w (ResOE w 65 (sendL xs) 0) := by
  have t0 : ((xs.length : Int) == 0) = false := by rw [beq_eq_false_iff_ne]; omega
  have t1 : ¬ (1027 : Int) < (xs.length : Int) := by omega
  have hs : sendL xs = encL (stuffL (syncL ++ bitsL xs)) ++ endL := rfl
  have l1 : (bitsL xs).length ≤ 8216 := by rw [bitsL_len]; omega
  have l2 : (syncL ++ bitsL xs).length ≤ 8224 := by rw [List.length_append]; simp [syncL]; omega
  have l3 := stuffL_len (syncL ++ bitsL xs)
  have l4 := encL_len (stuffL (syncL ++ bitsL xs))
  have c1 := fun (W : World) => bits_any W A c xs
  have c2 := fun (W : World) (hL : Laid W) (A : Option Addr) (c : Nat) (h : Rd W W.heap.size A c (bitsL xs)) => withSync_any W hL A c (bitsL xs) h (by omega)
  have c3 := fun (W : World) (A : Option Addr) (c : Nat) (h : Rd W W.heap.size A c (syncL ++ bitsL xs)) => stuffed_any W A c (syncL ++ bitsL xs) h (by omega)
  have c4 := fun (W : World) (A : Option Addr) (c : Nat) (h : Rd W W.heap.size A c (stuffL (syncL ++ bitsL xs))) => encoded_any W A c (stuffL (syncL ++ bitsL xs)) h (by omega)
  have c5 := fun (W : World) (hL : Laid W) (A : Option Addr) (c : Nat) (h : Rd W W.heap.size A c (encL (stuffL (syncL ++ bitsL xs)))) => withEnd_own W hL A c _ h (by omega)
  generalize encL (stuffL (syncL ++ bitsL xs)) ++ endL = z5 at hs c5
  generalize encL (stuffL (syncL ++ bitsL xs)) = z4 at l4 c4 c5
  generalize stuffL (syncL ++ bitsL xs) = z3 at l3 l4 c3 c4
  generalize syncL ++ bitsL xs = z2 at l2 l3 c2 c3
  generalize bitsL xs = z1 at l1 c1 c2
  have C1 := Lib.hid c1
  have C2 := Lib.hid c2
  have C3 := Lib.hid c3
  have C4 := Lib.hid c4
  have C5 := Lib.hid c5
  clear c1 c2 c3 c4 c5
  have Hs := Lib.hid hs
  clear hs l4
  go_enter Tryd.func8, Tryd.ntmps8
  go_wp2_with fail
  refine (C1.out _ h (by omega)).mono ?_
  rintro e w1 ⟨A1, c1, rfl, hr1, hb1⟩
  go_wp2_with fail
  refine (C2.out _ (hL.below hb1) _ _ hr1).mono ?_
  rintro e w2 ⟨A2, c2, rfl, hr2, hb2⟩
  go_wp2_with fail
  refine (C3.out _ _ _ hr2).mono ?_
  rintro e w3 ⟨A3, c3, rfl, hr3, hb3⟩
  go_wp2_with fail
  refine (C4.out _ _ _ hr3).mono ?_
  rintro e w4 ⟨A4, c4, rfl, hr4, hb4⟩
  have b2 := hb1.trans (hb2.mono hb1.size)
  have b3 := b2.trans (hb3.mono b2.size)
  have b4 := b3.trans (hb4.mono b3.size)
  go_wp2_with fail
  refine (C5.out _ (hL.below b4) _ _ hr4).mono ?_
  rintro e w5 ⟨v5, rfl, hr5, hb5⟩
  have b5 := b4.trans (hb5.mono b4.size)
  go_wp2
  go_ret2
  rw [Hs.out]
  exact ⟨_, rfl, own_base hr5 b4.size, b5⟩
theorem send_good (w : World) (hL : Laid w) (A : Option Addr) (c : Nat) (xs : List UInt8) (h : Rd w w.heap.size A c xs) (h1 : 0 < xs.length) (hl : xs.length ≤ 1027) :
    Calls Tryd.prog 8 #[.slice A xs.length c] w (ResE w (sendL xs) 0) :=
  (send_own w hL A c xs h h1 hl).mono fun _ _ hh => hh.toE

theorem send_none (w : World) (A : Option Addr) (c : Nat) :
    Calls Tryd.prog 8 #[.slice A 0 c] w (ResE w [] 1) := by
  go_enter Tryd.func8, Tryd.ntmps8
  go_wp2
  go_ret2
  exact ⟨_, _, rfl, Rd.nil _ _, Below.refl _ _⟩

theorem send_long (w : World) (A : Option Addr) (c n : Nat) (h : 1027 < n) :
    Calls Tryd.prog 8 #[.slice A n c] w (ResE w [] 3) := by
  have t0 : ((n : Int) == 0) = false := by rw [beq_eq_false_iff_ne]; omega
  have t1 : (1027 : Int) < (n : Int) := by omega
  go_enter Tryd.func8, Tryd.ntmps8
  go_wp2
  go_ret2
  exact ⟨_, _, rfl, Rd.nil _ _, Below.refl _ _⟩

/-- What Receive returns. -/
def recvL (xs : List UInt8) : List UInt8 × Int :=
  if hasEndL xs then
    if validL (xs.take (xs.length - 3)) then
      match unstuffL (decL (xs.take (xs.length - 3))) with
      | none => ([], 4)
      | some u => if hasSyncL u then contentL (u.drop 8) else ([], 4)
    else ([], 4)
  else ([], 4)

theorem validL_decL (xs : List UInt8) : validL (decL xs) = true := by
  unfold validL decL
  rw [List.all_eq_true]
  intro x hx
  obtain ⟨i, _, rfl⟩ := List.mem_map.1 hx
  unfold decF
  split <;> simp
theorem unS_props (xs : List UInt8) (hv : validL xs = true) : ∀ k, k ≤ xs.length → ∀ n ys, unS (xs.take k) = some (n, ys) → validL ys = true ∧ ys.length ≤ k := by
  intro k
  induction k with
  | zero =>
    intro _ n ys h
    simp [unS] at h
    obtain ⟨_, rfl⟩ := h
    exact ⟨rfl, by simp⟩
  | succ k ih =>
    intro hk n ys h
    rw [unS_snoc xs (by omega)] at h
    cases hu : unS (xs.take k) with
    | none => rw [hu] at h; cases h
    | some p =>
      obtain ⟨m, zs⟩ := p
      obtain ⟨i1, i2⟩ := ih (by omega) m zs hu
      rw [hu] at h
      have hx := validL_get hv (k := k) (by omega)
      unfold stepU at h
      simp only at h
      split at h
      · simp only [Option.some.injEq, Prod.mk.injEq] at h
        obtain ⟨_, rfl⟩ := h
        refine ⟨?_, by simp; omega⟩
        unfold validL at i1 ⊢
        rw [List.all_append, i1]
        simpa using hx
      · split at h
        · cases h
        · simp only [Option.some.injEq, Prod.mk.injEq] at h
          obtain ⟨_, rfl⟩ := h
          exact ⟨i1, by omega⟩
theorem unstuffL_props (xs : List UInt8) (hv : validL xs = true) (ys : List UInt8) (h : unstuffL xs = some ys) : validL ys = true ∧ ys.length ≤ xs.length := by
  unfold unstuffL at h
  cases hu : unS xs with
  | none => rw [hu] at h; cases h
  | some p =>
    obtain ⟨m, zs⟩ := p
    rw [hu] at h
    simp only at h
    split at h
    · cases h
    · obtain rfl := Option.some.inj h
      exact unS_props xs hv xs.length (Nat.le_refl _) m zs (by rw [List.take_length]; exact hu)
theorem validL_drop (xs : List UInt8) (k : Nat) (h : validL xs = true) : validL (xs.drop k) = true := by
  unfold validL at h ⊢
  rw [List.all_eq_true] at h ⊢
  exact fun x hx => h x (List.mem_of_mem_drop hx)
theorem hasSyncL_len (xs : List UInt8) (h : hasSyncL xs = true) : 8 ≤ xs.length := by
  rcases Nat.lt_or_ge xs.length 8 with h8 | h8
  · rw [hasSyncL_short xs h8] at h; cases h
  · exact h8
theorem hasEndL_len (xs : List UInt8) (h : hasEndL xs = true) : 3 ≤ xs.length := by
  rcases Nat.lt_or_ge xs.length 3 with h8 | h8
  · rw [hasEndL_short xs h8] at h; cases h
  · exact h8

end Go.Proofs.YtkmjemaajgdoiaaDoor.Lv
