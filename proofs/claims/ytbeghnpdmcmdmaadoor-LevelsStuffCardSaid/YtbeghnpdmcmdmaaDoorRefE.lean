/-
  Helper text: the contract of the reference's Receive; no statement is proved here.
-/
import Derived.Test.YtbeghnpdmcmdmaaDoorRefD
import Derived.Test.YtbeghnpdmcmdmaaDoorLawBits
import Derived.BigRegion
namespace Go.Proofs.YtbeghnpdmcmdmaaDoor
open Go Go.RowKit

theorem foldU_none (xs : List UInt8) : xs.foldl stepU none = none := by
  induction xs with
  | nil => rfl
  | cons x xs ih => exact ih
theorem foldU_front (xs : List UInt8) : ∀ (n : Nat) (acc : List UInt8) (m : Nat) (u : List UInt8), xs.foldl stepU (some (n, acc)) = some (m, u) → ∃ t, u = acc ++ t := by
  induction xs with
  | nil =>
    intro n acc m u h
    simp only [List.foldl_nil, Option.some.injEq, Prod.mk.injEq] at h
    exact ⟨[], by rw [h.2]; simp⟩
  | cons x xs ih =>
    intro n acc m u h
    rw [List.foldl_cons] at h
    have hd : stepU (some (n, acc)) x = if n < 6 then some (onesB n x, acc ++ [x]) else if x = 1 then none else some (onesB n x, acc) := rfl
    rw [hd] at h
    split at h
    · obtain ⟨t, rfl⟩ := ih _ _ _ _ h
      exact ⟨x :: t, by simp⟩
    · split at h
      · rw [foldU_none] at h; cases h
      · exact ih _ _ _ _ h
theorem sync_fwd (d u : List UInt8) (h8 : d.take 8 = syncL) (hu : unstuffL d = some u) : u.take 8 = syncL ∧ 8 ≤ u.length := by
  unfold unstuffL at hu
  cases hs : unS d with
  | none => rw [hs] at hu; cases hu
  | some p =>
    obtain ⟨m, z⟩ := p
    rw [hs] at hu
    simp only at hu
    split at hu
    · cases hu
    · obtain rfl := Option.some.inj hu
      unfold unS at hs
      rw [← List.take_append_drop 8 d, h8, List.foldl_append] at hs
      obtain ⟨t, rfl⟩ := foldU_front _ 1 syncL _ _ hs
      refine ⟨?_, by simp [syncL]⟩
      rw [List.take_append_of_le_length (by decide)]
      rfl
theorem sync_back (d u : List UInt8) (hv : validL d = true) (h8 : u.take 8 = syncL) (hu : unstuffL d = some u) : d.take 8 = syncL := by
  rw [← stuff_unstuff d u hv hu, ← List.take_append_drop 8 u, h8]
  unfold stuffL stuffS
  rw [List.foldl_append]
  have h1 : List.foldl stepS (0, []) syncL = (1, syncL) := by decide
  rw [h1, foldS_emit]
  simp only
  rw [List.take_append_of_le_length (by decide)]
  rfl

theorem accB_lt (bits : List UInt8) (hv : ∀ k, (bits.getD k 0).toNat ≤ 1) (j : Nat) : ∀ m, m ≤ 8 → (accB bits j m).toNat < 2 ^ m := by
  intro m
  induction m with
  | zero => intro _; simp [accB]
  | succ m ih =>
    intro hm
    have h1 := ih (by omega)
    have H : ∀ m : Fin 8, ∀ a : Fin 256, ∀ x : Fin 2, a.val < 2 ^ m.val → (UInt8.ofNat a.val ||| (UInt8.ofNat x.val <<< UInt8.ofNat m.val)).toNat < 2 ^ (m.val + 1) := by decide +kernel
    have := H ⟨m, by omega⟩ ⟨(accB bits j m).toNat, (accB bits j m).toNat_lt⟩ ⟨(bits.getD (8 * j + m) 0).toNat, by have := hv (8 * j + m); omega⟩ h1
    simp only [UInt8.ofNat_toNat] at this
    exact this
theorem add_val (a x : UInt8) (j : Nat) (h : j < 8) (hx : x.toNat ≤ 1) (ha : a.toNat < 2 ^ j) : Value.int .u8 (((a.toNat : Int) + (x.toNat : Int) * 2 ^ j) % 256) = bv (a ||| (x <<< UInt8.ofNat j)) := by
  have H : ∀ j : Fin 8, ∀ a : Fin 256, ∀ x : Fin 2, a.val < 2 ^ j.val → ((a.val : Int) + (x.val : Int) * 2 ^ j.val) % 256 = ((UInt8.ofNat a.val ||| (UInt8.ofNat x.val <<< UInt8.ofNat j.val)).toNat : Int) := by decide +kernel
  have := H ⟨j, h⟩ ⟨a.toNat, a.toNat_lt⟩ ⟨x.toNat, by omega⟩ ha
  simp only [UInt8.ofNat_toNat] at this
  rw [this]

theorem end_get (xs : List UInt8) (h3 : 3 ≤ xs.length) : hasEndL xs = (decide (xs.getD (xs.length - 3) 0 = 2) && decide (xs.getD (xs.length - 2) 0 = 2) && decide (xs.getD (xs.length - 1) 0 = 0)) := by
  have hd : ∀ k, k < 3 → (xs.drop (xs.length - 3)).getD k 0 = xs.getD (xs.length - 3 + k) 0 := fun k hk => drop_get xs _ k (by omega)
  have e2 : xs.length - 3 + 1 = xs.length - 2 := by omega
  have e1 : xs.length - 3 + 2 = xs.length - 1 := by omega
  rw [Bool.eq_iff_iff]
  unfold hasEndL
  simp only [Bool.and_eq_true, decide_eq_true_eq]
  constructor
  · rintro ⟨_, he⟩
    have a0 := hd 0 (by omega)
    have a1 := hd 1 (by omega)
    have a2 := hd 2 (by omega)
    rw [he] at a0 a1 a2
    rw [Nat.add_zero] at a0
    rw [e2] at a1
    rw [e1] at a2
    exact ⟨⟨a0.symm, a1.symm⟩, a2.symm⟩
  · rintro ⟨⟨a0, a1⟩, a2⟩
    refine ⟨h3, ?_⟩
    refine list_ext_getD _ _ (by simp [endL]; omega) fun k hk => ?_
    rw [List.length_drop] at hk
    rw [hd k (by omega)]
    rcases (by omega : k = 0 ∨ k = 1 ∨ k = 2) with rfl | rfl | rfl
    · rw [Nat.add_zero, a0]; rfl
    · rw [e2, a1]; rfl
    · rw [e1, a2]; rfl

theorem recv_short (xs : List UInt8) (h : xs.length < 3) : recvL xs = ([], 4) := by
  unfold recvL
  rw [hasEndL_short xs h]
  rfl
theorem recv_noend (xs : List UInt8) (h : hasEndL xs = false) : recvL xs = ([], 4) := by
  unfold recvL
  rw [h]
  rfl

set_option maxHeartbeats 1600000 in
set_option maxRecDepth 100000 in
theorem refReceive_noend (w : World) (A : Option Addr) (c : Nat) (xs : List UInt8) (h : Rd w w.heap.size A c xs) (hl : xs.length ≤ 100000) (he : hasEndL xs = false) :
    Calls Tryd.prog 29 #[.slice A xs.length c] w (ResE w [] 4) := by
  rcases Nat.lt_or_ge xs.length 3 with h3 | h3
  · have t3 : (xs.length : Int) < 3 := by omega
    go_enter Tryd.func29, Tryd.ntmps29
    go_wp2
    go_ret2
    exact ⟨_, _, rfl, Rd.nil _ _, Below.refl _ _⟩
  · have t3 : ¬ (xs.length : Int) < 3 := by omega
    rw [end_get xs h3] at he
    obtain ⟨b, off, rfl, hbB, hc3⟩ := h.at_ (k := xs.length - 3) (by omega)
    obtain ⟨b', off', hbo, _, hc2⟩ := h.at_ (k := xs.length - 2) (by omega)
    obtain ⟨rfl, rfl⟩ : b = b' ∧ off = off' := by simpa using hbo
    obtain ⟨b', off', hbo', _, hc1⟩ := h.at_ (k := xs.length - 1) (by omega)
    obtain ⟨rfl, rfl⟩ : b = b' ∧ off = off' := by simpa using hbo'
    clear hbo hbo'
    generalize xs.getD (xs.length - 3) 0 = x3 at he hc3
    generalize xs.getD (xs.length - 2) 0 = x2 at he hc2
    generalize xs.getD (xs.length - 1) 0 = x1 at he hc1
    have hi3 : (0 : Int) ≤ (xs.length : Int) - 3 := by omega
    by_cases e3 : x3 = 2
    · by_cases e2 : x2 = 2
      · have e1 : x1 ≠ 0 := by
          rintro rfl
          rw [e3, e2] at he
          simp at he
        have t1 : ((x1.toNat : Int) != 0) = true := by
          rw [bne_iff_ne]
          exact fun hh => e1 ((u8_eq_zero x1).2 hh)
        subst e3
        subst e2
        clear e1 he
        go_enter Tryd.func29, Tryd.ntmps29
        go_wp2
        go_ret2
        exact ⟨_, _, rfl, Rd.nil _ _, Below.refl _ _⟩
      · have t2 : ((x2.toNat : Int) != 2) = true := by
          rw [bne_iff_ne]
          intro hh
          exact e2 (UInt8.toNat_inj.1 (by show _ = 2; omega))
        subst e3
        clear e2 he
        go_enter Tryd.func29, Tryd.ntmps29
        go_wp2
        go_ret2
        exact ⟨_, _, rfl, Rd.nil _ _, Below.refl _ _⟩
    · have t2 : ((x3.toNat : Int) != 2) = true := by
        rw [bne_iff_ne]
        intro hh
        exact e3 (UInt8.toNat_inj.1 (by show _ = 2; omega))
      clear e3 he
      go_enter Tryd.func29, Tryd.ntmps29
      go_wp2
      go_ret2
      exact ⟨_, _, rfl, Rd.nil _ _, Below.refl _ _⟩

end Go.Proofs.YtbeghnpdmcmdmaaDoor
