/-
  Helper text: bytes without an error by Decode are bytes without an error by the numbers; a state that has become another one; no statement is proved here.
-/
import Derived.Test.YtjecjiikgejlaaaGreatDoorTrip
import Derived.Test.YtjecjiikgejlaaaGreatDoorCkSpB
import Derived.Test.YtjecjiikgejlaaaGreatDoorLvSpA
namespace Go.Proofs.YtjecjiikgejlaaaGreatDoor
open Go Go.RowKit

theorem leL_leV (xs : List UInt8) : leL xs = Ck.leV xs := by
  induction xs with
  | nil => rfl
  | cons x xs ih => show x.toNat + 256 * leL xs = _; rw [ih]; rfl
theorem leN_leV (xs : List UInt8) : Lv.leN xs = Ck.leV xs := by
  induction xs with
  | nil => rfl
  | cons x xs ih => show x.toNat + 256 * Lv.leN xs = _; rw [ih]; rfl

theorem many_nb {p : Nat} (h : known p = true) (hd : isD p = false) : Ck.manyN p = nbytes (fieldsL p) := by
  rcases known_cases h with hp | hp | hp | hp | hp
  · rcases hp with rfl | rfl | rfl <;> rfl
  · subst hp; rfl
  · subst hp; rfl
  · rw [isD_true hp] at hd; cases hd
  · rcases hp with rfl | rfl | rfl | rfl <;> rfl
theorem err_zero_L (zs : List UInt8) (h : (decR zs).2.2 = 0) : Ck.errL zs = 0 := by
  cases zs with
  | nil => cases h
  | cons f r =>
    have h' : (decC f r).2.2 = 0 := h
    unfold decC at h'
    unfold Ck.errL
    dsimp only
    by_cases hk : known (f.toNat % 16) = true ∧ f.toNat = f.toNat % 16 + 16 * (15 - f.toNat % 16)
    · rw [if_pos hk] at h'
      rw [if_neg (fun hn => hn ⟨hk.1, hk.2⟩)]
      by_cases hd : isD (f.toNat % 16) = true
      · rw [if_pos hd] at h'
        rw [if_pos (show Ck.dataN (f.toNat % 16) = true from hd)]
        unfold datR at h'
        by_cases h1 : r.length < 2 ∨ 1026 < r.length
        · rw [if_pos h1] at h'; cases h'
        rw [if_neg h1] at h'
        rw [if_neg h1]
        by_cases h2 : Ck.chkL (Ck.frontL r) = Ck.lastL r
        · rw [if_pos h2]
        · rw [if_pos h2] at h'; cases h'
      · rw [if_neg hd] at h'
        have hd' : isD (f.toNat % 16) = false := by simpa using hd
        rw [if_neg (show ¬ Ck.dataN (f.toNat % 16) = true from hd)]
        have h2 : (numR (f.toNat % 16) r).2 = 0 := h'
        unfold numR at h2
        rw [many_nb hk.1 hd']
        by_cases h3 : r.length ≠ nbytes (fieldsL (f.toNat % 16))
        · rw [if_pos h3] at h2; cases h2
        rw [if_neg h3] at h2
        rw [if_neg h3]
        have h3 : r.length = nbytes (fieldsL (f.toNat % 16)) := by omega
        by_cases h4 : (fieldsL (f.toNat % 16)).length = 0
        · have : r.length = 0 := by rw [h3, List.eq_nil_of_length_eq_zero h4]; rfl
          rw [if_pos this]
        rw [if_neg h4] at h2
        have h8 := nb8 _ h4
        rw [if_neg (by omega)]
        by_cases h5 : Ck.chk 20 5 (placeN (fieldsL (f.toNat % 16)) (fieldsL (f.toNat % 16)).length) (leL r % 2 ^ placeN (fieldsL (f.toNat % 16)) (fieldsL (f.toNat % 16)).length) = leL r / 2 ^ placeN (fieldsL (f.toNat % 16)) (fieldsL (f.toNat % 16)).length
        · rw [if_neg (fun hn => hn h5)] at h2
          have hok : Ck.okN 20 5 (8 * r.length) (Ck.leV r) := by
            unfold Ck.okN
            rw [← leL_leV, h3, h8, Nat.add_sub_cancel]
            exact h5
          rw [if_pos hok]
          by_cases h6 : (unpackN (fieldsL (f.toNat % 16)) (leL r % 2 ^ placeN (fieldsL (f.toNat % 16)) (fieldsL (f.toNat % 16)).length) (bare (f.toNat % 16)) (fieldsL (f.toNat % 16)).length).spare = 0
          · rw [if_neg]
            rintro ⟨hp, hne⟩
            rw [hp, fieldsL_split] at h6
            have h7 : leL r % 2 ^ 19 / 2 ^ 16 % 2 ^ 1 = 0 := h6
            rw [← leL_leV] at hne
            omega
          · rw [if_pos h6] at h2; cases h2
        · rw [if_pos h5] at h2; cases h2
    · rw [if_neg hk] at h'
      cases h'

/-- THE MATHEMATICS OF THE STAGE'S THEOREM: no packet is read from the states of another one of which one state has become another one. -/
theorem no_spoil {r : Rg} (ok : r.Ok) {xs : List UInt8} (h : Fit r xs) (hl : xs.length ≤ 1024) {i : Nat} {t : UInt8} (hi : i < (Lv.sendL (encL r xs)).length) (hne : t ≠ (Lv.sendL (encL r xs)).getD i 0)
    {zs : List UInt8} (hz : Lv.sendL zs = (Lv.sendL (encL r xs)).set i t) : (decR zs).2.2 ≠ 0 := by
  intro h0
  have h1 := err_zero_L zs h0
  have h2 := err_zero_L (encL r xs) (by rw [trip ok h hl])
  obtain ⟨hlen, j, w, hw, he⟩ := Lv.one_state hi hne hz
  rw [leN_leV, leN_leV] at he
  exact Ck.spoilt h2 h1 hlen hw he

end Go.Proofs.YtjecjiikgejlaaaGreatDoor
