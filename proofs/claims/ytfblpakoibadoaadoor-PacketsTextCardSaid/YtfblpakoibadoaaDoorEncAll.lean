/-
  Helper text: Encode of every packet; no statement is proved here.
-/
import Derived.Test.YtfblpakoibadoaaDoorEncode
import Derived.Test.YtfblpakoibadoaaDoorFitP
namespace Go.Proofs.YtfblpakoibadoaaDoor
open Go Go.RowKit

/-- The number of the fields of a packet that fits. -/
theorem fit_num {r : Rg} (ok : r.Ok) {xs : List UInt8} (h : Fit r xs) : packN (fieldsL r.pid) { r with spare := 0 } (fieldsL r.pid).length < 2 ^ placeN (fieldsL r.pid) (fieldsL r.pid).length := by
  have a1 := ok.addr
  have a2 := ok.endp
  have a3 := ok.frame
  have a4 := ok.hub
  have a5 := ok.port
  have a8 := ok.kind
  cases h with
  | tok hp h1 h2 =>
    rw [fieldsL_tok hp]
    show packN [.addr, .endp] { r with spare := 0 } 2 < 2 ^ 11
    rw [show packN [.addr, .endp] { r with spare := 0 } 2 = r.addr ||| r.endp * 2 ^ 7 from pack_tok { r with spare := 0 } a1 a2, orA (by omega)]
    omega
  | sof hp h1 h2 h3 =>
    rw [hp, fieldsL_sof]
    show packN [.frame] { r with spare := 0 } 1 < 2 ^ 11
    rw [show packN [.frame] { r with spare := 0 } 1 = r.frame from pack_sof { r with spare := 0 } a3]
    omega
  | split hp h1 h2 h3 h4 h5 h8 =>
    have hc : r.comp.toNat ≤ 1 := Bool.toNat_le _
    have hl : r.low.toNat ≤ 1 := Bool.toNat_le _
    rw [hp, fieldsL_split]
    show packN [.hub, .comp, .port, .low, .spare, .kind] { r with spare := 0 } 6 < 2 ^ 19
    rw [show packN [.hub, .comp, .port, .low, .spare, .kind] { r with spare := 0 } 6 = (((r.hub ||| r.comp.toNat * 2 ^ 7) ||| r.port * 2 ^ 8) ||| r.low.toNat * 2 ^ 15) ||| r.kind * 2 ^ 17 from pack_split { r with spare := 0 } rfl a4 a5 a8,
      orA (by omega : r.hub < 2 ^ 7), orA (by omega : r.hub + r.comp.toNat * 2 ^ 7 < 2 ^ 8), orA (by omega : r.hub + r.comp.toNat * 2 ^ 7 + r.port * 2 ^ 8 < 2 ^ 15), orA (by omega : r.hub + r.comp.toNat * 2 ^ 7 + r.port * 2 ^ 8 + r.low.toNat * 2 ^ 15 < 2 ^ 17)]
    omega
  | data hp => rw [fieldsL_none (by omega) (by omega) (by omega) (by omega) (by omega)]; exact Nat.one_pos
  | bare hp => rw [fieldsL_none (by omega) (by omega) (by omega) (by omega) (by omega)]; exact Nat.one_pos
theorem place_le (p : Nat) : placeN (fieldsL p) (fieldsL p).length ≤ 19 := by
  unfold fieldsL
  split
  · decide
  split
  · decide
  split <;> decide
theorem nbytes_le (p : Nat) : nbytes (fieldsL p) ≤ 3 := by
  have := place_le p
  unfold nbytes
  split <;> omega
theorem join_lt {r : Rg} (ok : r.Ok) {xs : List UInt8} (h : Fit r xs) : joinR r < 2 ^ 24 := by
  have hv := fit_num ok h
  have hn := place_le r.pid
  unfold joinR
  generalize packN (fieldsL r.pid) { r with spare := 0 } (fieldsL r.pid).length = v at hv ⊢
  generalize placeN (fieldsL r.pid) (fieldsL r.pid).length = n at hv hn ⊢
  have hc := Ck.chk_lt (m := 20) (d := 5) (by decide) hv
  have h1 := Nat.mul_le_mul_left (2 ^ n) (show Ck.chk 20 5 n v ≤ 31 by omega)
  have h2 : 2 ^ n ≤ 2 ^ 19 := Nat.pow_le_pow_right (by omega) hn
  omega

theorem content_any (w : World) (hL : Laid w) (r : Rg) (ok : r.Ok) (A : Option Addr) (c : Nat) (xs : List UInt8) (hx : Rd w w.heap.size A c xs) (hd : r.data = .slice A xs.length c) (hf : Fit r xs) (hl : xs.length ≤ 1024) :
    Calls Tryd.prog 21 #[.agg (pcells r)] w (ResOE w 5 (contentL r xs) 0) := by
  unfold contentL
  cases hi : isD r.pid
  · rcases Nat.eq_zero_or_pos (fieldsL r.pid).length with h0 | h0
    · have he : fieldsL r.pid = [] := List.eq_nil_of_length_eq_zero h0
      have hb : bytesN (joinR r) (nbytes (fieldsL r.pid)) = [] := by rw [he]; rfl
      show Calls _ _ _ _ (ResOE w _ (bytesN (joinR r) (nbytes (fieldsL r.pid))) 0)
      rw [hb]
      exact content_none w r ok A xs.length c hd hi he
    · exact content_num w hL r ok A c xs hd hi _ rfl h0 (fields_len _) _ _ _ _ rfl (Nat.le_trans (place_le _) (by omega)) rfl (fit_num ok hf) rfl rfl (nbytes_le _) (Nat.lt_trans (join_lt ok hf) (by decide))
  · exact content_data w hL r A c xs hx hd hi (by omega)
theorem contentL_len (r : Rg) (xs : List UInt8) : (contentL r xs).length ≤ xs.length + 3 := by
  unfold contentL
  cases isD r.pid
  · show (bytesN _ _).length ≤ _
    rw [bytesN_len]
    have := nbytes_le r.pid
    omega
  · show (Ck.addL xs).length ≤ _
    rw [Ck.addL_len]; omega
theorem fit_known {r : Rg} {xs : List UInt8} (h : Fit r xs) : known r.pid = true := by
  cases h with
  | tok hp => rcases hp with hp | hp | hp <;> rw [hp] <;> rfl
  | sof hp => rw [hp]; rfl
  | split hp => rw [hp]; rfl
  | data hp => rcases hp with hp | hp <;> rw [hp] <;> rfl
  | bare hp => rcases hp with hp | hp | hp | hp <;> rw [hp] <;> rfl
/-- The bytes of a packet. -/
def encL (r : Rg) (xs : List UInt8) : List UInt8 := firstU r.pid :: contentL r xs
theorem encode_ok (w : World) (hL : Laid w) (r : Rg) (ok : r.Ok) (A : Option Addr) (c : Nat) (xs : List UInt8) (hx : Rd w w.heap.size A c xs) (hd : r.data = .slice A xs.length c) (hE : errR r xs = 0) :
    Calls Tryd.prog 12 #[.agg (pcells r)] w (ResOE w 5 (encL r xs) 0) := by
  obtain ⟨hf, hl⟩ := err_zero r ok xs hE
  exact encode_core w hL r ok A c xs hx hd hE (contentL r xs) (fun W hLW hRW => content_any W hLW r ok A c xs hRW hd hf hl) (Nat.le_trans (contentL_len r xs) (by omega)) (Nat.le_of_lt_succ (known_lt (fit_known hf))) _ rfl
/-- What Encode returns. -/
def encE (r : Rg) (xs : List UInt8) : List UInt8 := if errR r xs = 0 then encL r xs else []
theorem encode_any (w : World) (hL : Laid w) (r : Rg) (ok : r.Ok) (A : Option Addr) (c : Nat) (xs : List UInt8) (hx : Rd w w.heap.size A c xs) (hd : r.data = .slice A xs.length c) :
    Calls Tryd.prog 12 #[.agg (pcells r)] w (ResOE w 5 (encE r xs) (errR r xs)) := by
  unfold encE
  by_cases h : errR r xs = 0
  · rw [if_pos h, h]; exact encode_ok w hL r ok A c xs hx hd h
  · rw [if_neg h]; exact encode_bad w hL r ok A c xs hx hd _ rfl h

end Go.Proofs.YtfblpakoibadoaaDoor
