/-
  Helper text: Decode inverts Encode, as lists; no statement is proved here.
-/
import Derived.Test.YtfblpakoibadoaaGreatDoorDecAll
namespace Go.Proofs.YtfblpakoibadoaaGreatDoor
open Go Go.RowKit

theorem firstU_nat {p : Nat} (h : p < 16) : (firstU p).toNat = p + 16 * (15 - p) := by
  unfold firstU
  rw [UInt8.toNat_ofNat']
  omega
theorem bytesN_succ (J nb : Nat) : bytesN J (nb + 1) = UInt8.ofNat J :: bytesN (J / 256) nb := by
  unfold bytesN
  rw [List.range_succ_eq_map, List.map_cons, List.map_map]
  refine List.cons_eq_cons.2 ⟨by rw [Nat.mul_zero, Nat.pow_zero, Nat.div_one], ?_⟩
  apply List.map_congr_left
  intro i _
  show UInt8.ofNat (J / 2 ^ (8 * (i + 1))) = UInt8.ofNat (J / 256 / 2 ^ (8 * i))
  rw [Nat.div_div_eq_div_mul, show 8 * (i + 1) = 8 + 8 * i from by omega, Nat.pow_add]
theorem leL_bytesN : ∀ (nb J : Nat), J < 2 ^ (8 * nb) → leL (bytesN J nb) = J
  | 0, J, h => by
    have : J = 0 := by simpa using h
    subst this; rfl
  | nb + 1, J, h => by
    rw [bytesN_succ]
    show (UInt8.ofNat J).toNat + 256 * leL (bytesN (J / 256) nb) = J
    rw [leL_bytesN nb (J / 256) (by
      rw [show 8 * (nb + 1) = 8 + 8 * nb from by omega, Nat.pow_add] at h
      exact Nat.div_lt_of_lt_mul h), UInt8.toNat_ofNat']
    omega
theorem front_add (xs : List UInt8) : Ck.frontL (Ck.addL xs) = xs := by
  unfold Ck.frontL
  rw [Ck.addL_len, Nat.add_sub_cancel]
  unfold Ck.addL
  rw [List.take_left]
theorem last_add (xs : List UInt8) : Ck.lastL (Ck.addL xs) = Ck.chkL xs := by
  have hq := Ck.chkL_lt xs
  unfold Ck.lastL
  rw [Ck.addL_len, Nat.add_sub_cancel, show xs.length + 2 - 1 = xs.length + 1 from by omega]
  unfold Ck.addL
  have e1 : ∀ y z : UInt8, (xs ++ [y, z])[xs.length]? = some y := fun y z => by rw [List.getElem?_append_right (Nat.le_refl _), Nat.sub_self]; rfl
  have e2 : ∀ y z : UInt8, (xs ++ [y, z])[xs.length + 1]? = some z := fun y z => by rw [List.getElem?_append_right (Nat.le_succ _), show xs.length.succ - xs.length = 1 from by omega]; rfl
  rw [List.getD_eq_getElem?_getD, List.getD_eq_getElem?_getD, e1, e2, Option.getD_some, Option.getD_some, UInt8.toNat_ofNat', UInt8.toNat_ofNat']
  omega
/-- What the fields of a packet are, read back. -/
def backR (r : Rg) : Rg := unpackN (fieldsL r.pid) (packN (fieldsL r.pid) { r with spare := 0 } (fieldsL r.pid).length) (bare r.pid) (fieldsL r.pid).length
theorem back_same {r : Rg} (ok : r.Ok) {xs : List UInt8} (h : Fit r xs) (ys : List UInt8) (hxy : xs = ys) : sameB r (backR r) xs ys = true := by
  have h1 := (fitB_iff r ok xs).1 ((fit_of_fitB r ok xs (fit_known h)).2 h)
  obtain ⟨h1, h2, h3, h4, h5, h6, h7, h8, _⟩ := h1
  have hp : (backR r).pid = r.pid := unpackN_pid _ _ _ _
  unfold sameB
  simp only [Bool.and_eq_true, beq_iff_eq, decide_eq_true_iff]
  exact ⟨⟨⟨⟨⟨⟨⟨⟨⟨hp.symm, h1⟩, h2⟩, h3⟩, h4⟩, h5⟩, h6⟩, h7⟩, h8⟩, hxy⟩
theorem back_spare {r : Rg} (ok : r.Ok) {xs : List UInt8} (h : Fit r xs) : (backR r).spare = 0 := by
  have a4 := ok.hub
  have a5 := ok.port
  have a8 := ok.kind
  unfold backR
  cases h with
  | tok hp => rw [fieldsL_tok hp]; rfl
  | sof hp => rw [hp, fieldsL_sof]; rfl
  | split hp h1 h2 h3 h4 h5 h8 =>
    have hc : r.comp.toNat ≤ 1 := Bool.toNat_le _
    have hl : r.low.toNat ≤ 1 := Bool.toNat_le _
    rw [hp, fieldsL_split]
    show packN [.hub, .comp, .port, .low, .spare, .kind] { r with spare := 0 } 6 / 2 ^ 16 % 2 ^ 1 = 0
    rw [show packN [.hub, .comp, .port, .low, .spare, .kind] { r with spare := 0 } 6 = (((r.hub ||| r.comp.toNat * 2 ^ 7) ||| r.port * 2 ^ 8) ||| r.low.toNat * 2 ^ 15) ||| r.kind * 2 ^ 17 from pack_split { r with spare := 0 } rfl a4 a5 a8,
      orA (by omega : r.hub < 2 ^ 7), orA (by omega : r.hub + r.comp.toNat * 2 ^ 7 < 2 ^ 8), orA (by omega : r.hub + r.comp.toNat * 2 ^ 7 + r.port * 2 ^ 8 < 2 ^ 15), orA (by omega : r.hub + r.comp.toNat * 2 ^ 7 + r.port * 2 ^ 8 + r.low.toNat * 2 ^ 15 < 2 ^ 17)]
    omega
  | data hp => rw [fieldsL_none (by omega) (by omega) (by omega) (by omega) (by omega)]; rfl
  | bare hp => rw [fieldsL_none (by omega) (by omega) (by omega) (by omega) (by omega)]; rfl
theorem fit_xs {r : Rg} {xs : List UInt8} (h : Fit r xs) (hd : isD r.pid = false) : xs = [] := by
  cases h with
  | tok _ _ _ _ _ _ _ _ _ h9 => exact h9
  | sof _ _ _ _ _ _ _ _ _ h9 => exact h9
  | split _ _ _ _ _ _ _ h9 => exact h9
  | data hp => rw [isD_true hp] at hd; cases hd
  | bare _ _ _ _ _ _ _ _ _ h9 => exact h9

/-- Decode inverts Encode. -/
theorem trip {r : Rg} (ok : r.Ok) {xs : List UInt8} (h : Fit r xs) (hl : xs.length ≤ 1024) : decR (encL r xs) = (backR r, xs, 0) := by
  have hk := fit_known h
  have h16 := known_lt hk
  have hf := firstU_nat h16
  have hm : (firstU r.pid).toNat % 16 = r.pid := by omega
  show decC (firstU r.pid) (contentL r xs) = _
  unfold decC
  rw [hm, if_pos ⟨hk, hf⟩]
  unfold contentL
  cases hd : isD r.pid
  · have hx := fit_xs h hd
    rw [if_neg (by decide)]
    show ((numR r.pid (bytesN (joinR r) (nbytes (fieldsL r.pid)))).1, ([] : List UInt8), (numR r.pid (bytesN (joinR r) (nbytes (fieldsL r.pid)))).2) = _
    subst hx
    unfold numR
    rw [if_neg (by rw [bytesN_len]; simp)]
    by_cases h0 : (fieldsL r.pid).length = 0
    · rw [if_pos h0]
      have : backR r = bare r.pid := by
        unfold backR
        rw [List.eq_nil_of_length_eq_zero h0]; rfl
      rw [this]
    · rw [if_neg h0]
      have hJ := leL_bytesN (nbytes (fieldsL r.pid)) (joinR r) (by
        rw [nb8 r.pid h0]
        have hv := fit_num ok h
        have hc := Ck.chk_lt (m := 20) (d := 5) (by decide) hv
        unfold joinR
        generalize packN (fieldsL r.pid) { r with spare := 0 } (fieldsL r.pid).length = v at hv hc ⊢
        generalize placeN (fieldsL r.pid) (fieldsL r.pid).length = n at hv hc ⊢
        have h1 := Nat.mul_le_mul_left (2 ^ n) (show Ck.chk 20 5 n v + 1 ≤ 32 by omega)
        rw [Nat.pow_add]
        rw [Nat.mul_add, Nat.mul_one] at h1
        omega)
      rw [hJ]
      have hv := fit_num ok h
      have hmod : joinR r % 2 ^ placeN (fieldsL r.pid) (fieldsL r.pid).length = packN (fieldsL r.pid) { r with spare := 0 } (fieldsL r.pid).length := by
        unfold joinR
        rw [Nat.add_mul_mod_self_left, Nat.mod_eq_of_lt hv]
      have hdiv : joinR r / 2 ^ placeN (fieldsL r.pid) (fieldsL r.pid).length = Ck.chk 20 5 (placeN (fieldsL r.pid) (fieldsL r.pid).length) (packN (fieldsL r.pid) { r with spare := 0 } (fieldsL r.pid).length) := by
        unfold joinR
        rw [Nat.add_mul_div_left _ _ (Nat.two_pow_pos _), Nat.div_eq_of_lt hv, Nat.zero_add]
      rw [hmod, hdiv, if_neg (fun h => h rfl)]
      have hs := back_spare ok h
      unfold backR at hs ⊢
      rw [if_neg (fun h => h hs)]
  · rw [if_pos rfl]
    show datR r.pid (Ck.addL xs) = _
    unfold datR
    rw [if_neg (by rw [Ck.addL_len]; omega), front_add, last_add, if_neg (fun h => h rfl)]
    have : backR r = bare r.pid := by
      have hp : r.pid = 3 ∨ r.pid = 11 := by
        unfold isD at hd
        simpa using hd
      unfold backR
      rw [fieldsL_none (by omega) (by omega) (by omega) (by omega) (by omega)]; rfl
    rw [this]

end Go.Proofs.YtfblpakoibadoaaGreatDoor
