/-
  Helper text: bits of numbers in pieces; no statement is proved here.
-/
import Derived.Test.YtfblpakoibadoaaGreatDoorCkRefP
import Derived.Test.YtfblpakoibadoaaGreatDoorEncAll
import Derived.Test.YtfblpakoibadoaaGreatDoorTrip
namespace Go.Proofs.YtfblpakoibadoaaGreatDoor
open Go Go.RowKit

namespace Ck
theorem lowL_cons (v n : Nat) : lowL v (n + 1) = UInt8.ofNat (v % 2) :: lowL (v / 2) n := by
  unfold lowL
  rw [List.range_succ_eq_map, List.map_cons, List.map_map]
  refine List.cons_eq_cons.2 ⟨by rw [Nat.pow_zero, Nat.div_one], ?_⟩
  apply List.map_congr_left
  intro i _
  show UInt8.ofNat (v / 2 ^ (i + 1) % 2) = UInt8.ofNat (v / 2 / 2 ^ i % 2)
  rw [Nat.div_div_eq_div_mul, show 2 ^ (i + 1) = 2 * 2 ^ i from by rw [Nat.pow_succ, Nat.mul_comm]]
theorem low_number (xs : List UInt8) (h : ∀ x ∈ xs, x.toNat ≤ 1) : lowL (numberL xs) xs.length = xs := by
  induction xs with
  | nil => rfl
  | cons b bs ih =>
    have h1 := h b (by simp)
    have h2 := ih fun x hx => h x (by simp [hx])
    rw [List.length_cons, lowL_cons]
    have e : numberL (b :: bs) = b.toNat + 2 * numberL bs := rfl
    rw [e, show (b.toNat + 2 * numberL bs) % 2 = b.toNat by omega, show (b.toNat + 2 * numberL bs) / 2 = numberL bs by omega, h2, UInt8.ofNat_toNat]
theorem number_low (n : Nat) : ∀ v, v < 2 ^ n → numberL (lowL v n) = v := by
  induction n with
  | zero => intro v h; have : v = 0 := by simpa using h
            subst this; rfl
  | succ n ih =>
    intro v h
    rw [Nat.pow_succ] at h
    rw [lowL_cons]
    show (UInt8.ofNat (v % 2)).toNat + 2 * numberL (lowL (v / 2) n) = v
    rw [ih (v / 2) (by omega), bit_ofNat (by omega)]
    omega
theorem lowL_join (c m n : Nat) : ∀ v, v < 2 ^ n → lowL v n ++ lowL c m = lowL (v + 2 ^ n * c) (n + m) := by
  induction n with
  | zero =>
    intro v h
    have : v = 0 := by simpa using h
    subst this
    simp [lowL]
  | succ n ih =>
    intro v h
    rw [Nat.pow_succ] at h
    rw [lowL_cons, List.cons_append, ih (v / 2) (by omega), show n + 1 + m = n + m + 1 by omega, lowL_cons]
    have e : 2 ^ (n + 1) * c = 2 * (2 ^ n * c) := by rw [Nat.pow_succ, Nat.mul_comm (2 ^ n) 2, Nat.mul_assoc]
    rw [e, show (v + 2 * (2 ^ n * c)) % 2 = v % 2 by omega, show (v + 2 * (2 ^ n * c)) / 2 = v / 2 + 2 ^ n * c by omega]
theorem lowL_drop (k n : Nat) : ∀ v, (lowL v (k + n)).drop k = lowL (v / 2 ^ k) n := by
  induction k with
  | zero => intro v; simp
  | succ k ih =>
    intro v
    rw [show k + 1 + n = (k + n) + 1 by omega, lowL_cons, List.drop_succ_cons, ih, Nat.div_div_eq_div_mul, show 2 ^ (k + 1) = 2 * 2 ^ k from by rw [Nat.pow_succ, Nat.mul_comm]]
theorem lowL_take (v k n : Nat) : (lowL v (k + n)).take k = lowL v k := by
  unfold lowL
  rw [← List.map_take, List.take_range, Nat.min_eq_left (by omega)]
/-- Eight bits in the midst: a byte. -/
theorem chunk (V m i : Nat) (h : i < m) : UInt8.ofNat (numberL (((lowL V (8 * m)).take (8 * i + 8)).drop (8 * i))) = UInt8.ofNat (V / 2 ^ (8 * i)) := by
  obtain ⟨d, rfl⟩ : ∃ d, m = i + 1 + d := ⟨m - i - 1, by omega⟩
  rw [show 8 * (i + 1 + d) = (8 * i + 8) + 8 * d by omega, lowL_take, lowL_drop]
  have e : lowL (V / 2 ^ (8 * i)) 8 = lowL (V / 2 ^ (8 * i) % 256) 8 := by
    unfold lowL
    apply List.map_congr_left
    intro j hj
    have hj8 : j < 8 := by simpa using hj
    rcases (by omega : j = 0 ∨ j = 1 ∨ j = 2 ∨ j = 3 ∨ j = 4 ∨ j = 5 ∨ j = 6 ∨ j = 7) with rfl | rfl | rfl | rfl | rfl | rfl | rfl | rfl <;> (congr 1; simp only [Nat.reducePow]; omega)
  rw [e, number_low 8 _ (Nat.mod_lt _ (by decide))]
  apply UInt8.toNat_inj.1
  rw [UInt8.toNat_ofNat', UInt8.toNat_ofNat']
  omega
/-- The bits of a number with their check behind them. -/
theorem join_bits {v n : Nat} (hv : v < 2 ^ n) : lowL v n ++ sentL (behL shortL (lowL v n) (List.replicate 5 1)) = lowL (v + 2 ^ n * chk 20 5 n v) (n + 5) := by
  have h1 := sentL_bit (behL_bit bit_short (lowL v n) (bit_ones 5))
  have h2 : (sentL (behL shortL (lowL v n) (List.replicate 5 1))).length = 5 := by rw [sentL_len, behL_len, List.length_replicate]
  have h3 := low_number _ h1
  rw [h2, ref_five hv] at h3
  rw [← h3, lowL_join _ _ _ _ hv]
end Ck

/-- The bits of the fields of a packet. -/
def bitsR (r : Rg) : List UInt8 := Ck.lowL (packN (fieldsL r.pid) { r with spare := 0 } (fieldsL r.pid).length) (placeN (fieldsL r.pid) (fieldsL r.pid).length)
theorem bitsR_len (r : Rg) : (bitsR r).length = placeN (fieldsL r.pid) (fieldsL r.pid).length := Ck.lowL_len _ _
theorem bits_tok {r : Rg} (hp : r.pid = 1 ∨ r.pid = 9 ∨ r.pid = 13) (h1 : r.addr < 128) (h2 : r.endp < 16) : Ck.lowL r.addr 7 ++ Ck.lowL r.endp 4 = bitsR r := by
  unfold bitsR
  rw [fieldsL_tok hp, Ck.lowL_join _ _ _ _ (by simpa using h1)]
  show _ = Ck.lowL (packN [.addr, .endp] { r with spare := 0 } 2) 11
  rw [pack_tok _ (by show r.addr < 256; omega) (by show r.endp < 256; omega)]
  show _ = Ck.lowL (r.addr ||| r.endp * 2 ^ 7) 11
  rw [orA (by simpa using h1), Nat.mul_comm]
theorem bits_sof {r : Rg} (hp : r.pid = 5) (h1 : r.frame < 2048) : Ck.lowL r.frame 11 = bitsR r := by
  unfold bitsR
  rw [hp, fieldsL_sof]
  show _ = Ck.lowL (packN [.frame] { r with spare := 0 } 1) 11
  rw [pack_sof _ (by show r.frame < 65536; omega)]
theorem bits_none {r : Rg} (h1 : r.pid ≠ 1) (h9 : r.pid ≠ 9) (h13 : r.pid ≠ 13) (h5 : r.pid ≠ 5) (h8 : r.pid ≠ 8) : bitsR r = [] := by
  unfold bitsR
  rw [fieldsL_none h1 h9 h13 h5 h8]
  rfl
theorem bits_split {r : Rg} (hp : r.pid = 8) (h1 : r.hub < 128) (h2 : r.port < 128) (h3 : r.kind < 4) :
    ((Ck.lowL r.hub 7 ++ [UInt8.ofNat r.comp.toNat]) ++ Ck.lowL r.port 7) ++ [UInt8.ofNat r.low.toNat, 0] ++ Ck.lowL r.kind 2 = bitsR r := by
  have hc : r.comp.toNat ≤ 1 := Bool.toNat_le _
  have hl : r.low.toNat ≤ 1 := Bool.toNat_le _
  unfold bitsR
  rw [hp, fieldsL_split]
  show _ = Ck.lowL (packN [.hub, .comp, .port, .low, .spare, .kind] { r with spare := 0 } 6) 19
  rw [pack_split _ rfl (by show r.hub < 256; omega) (by show r.port < 256; omega) (by show r.kind < 256; omega)]
  show _ = Ck.lowL ((((r.hub ||| r.comp.toNat * 2 ^ 7) ||| r.port * 2 ^ 8) ||| r.low.toNat * 2 ^ 15) ||| r.kind * 2 ^ 17) 19
  have e1 : [UInt8.ofNat r.comp.toNat] = Ck.lowL r.comp.toNat 1 := by
    rw [Ck.lowL_cons, show r.comp.toNat % 2 = r.comp.toNat by omega]; rfl
  have e2 : [UInt8.ofNat r.low.toNat, 0] = Ck.lowL r.low.toNat 2 := by
    rw [Ck.lowL_cons, Ck.lowL_cons, show r.low.toNat % 2 = r.low.toNat by omega, show r.low.toNat / 2 = 0 by omega]; rfl
  rw [e1, e2, Ck.lowL_join _ _ _ _ (by simpa using h1)]
  have p8 : r.hub + 2 ^ 7 * r.comp.toNat < 2 ^ 8 := by simp only [Nat.reducePow]; omega
  rw [Ck.lowL_join _ _ _ _ p8]
  have p15 : r.hub + 2 ^ 7 * r.comp.toNat + 2 ^ 8 * r.port < 2 ^ 15 := by simp only [Nat.reducePow]; omega
  rw [Ck.lowL_join _ _ _ _ p15]
  have p17 : r.hub + 2 ^ 7 * r.comp.toNat + 2 ^ 8 * r.port + 2 ^ 15 * r.low.toNat < 2 ^ 17 := by simp only [Nat.reducePow]; omega
  rw [Ck.lowL_join _ _ _ _ p17]
  rw [orA (show r.hub < 2 ^ 7 by simpa using h1), orA (show r.hub + r.comp.toNat * 2 ^ 7 < 2 ^ 8 by simp only [Nat.reducePow]; omega), orA (show r.hub + r.comp.toNat * 2 ^ 7 + r.port * 2 ^ 8 < 2 ^ 15 by simp only [Nat.reducePow]; omega),
    orA (show r.hub + r.comp.toNat * 2 ^ 7 + r.port * 2 ^ 8 + r.low.toNat * 2 ^ 15 < 2 ^ 17 by simp only [Nat.reducePow]; omega)]
  congr 1
  simp only [Nat.reducePow]
  omega
/-- The number of bits with their check is that of bytes. -/
theorem joined_bits {r : Rg} (ok : r.Ok) {xs : List UInt8} (h : Fit r xs) : bitsR r ++ Ck.sentL (Ck.behL Ck.shortL (bitsR r) (List.replicate 5 1)) = Ck.lowL (joinR r) (placeN (fieldsL r.pid) (fieldsL r.pid).length + 5) := Ck.join_bits (fit_num ok h)
theorem bytesN_snoc (J k : Nat) : bytesN J (k + 1) = bytesN J k ++ [UInt8.ofNat (J / 2 ^ (8 * k))] := by simp [bytesN, List.range_succ]
/-- How many bits there are with their check. -/
theorem many_bits {p : Nat} (h : (fieldsL p).length ≠ 0) : placeN (fieldsL p) (fieldsL p).length + 5 = 8 * nbytes (fieldsL p) := (nb8 p h).symm

end Go.Proofs.YtfblpakoibadoaaGreatDoor
