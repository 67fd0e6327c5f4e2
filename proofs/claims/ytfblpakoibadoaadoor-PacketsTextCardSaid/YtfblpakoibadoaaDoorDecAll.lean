/-
  Helper text: Decode of any bytes; no statement is proved here.
-/
import Derived.Test.YtfblpakoibadoaaDoorDec
namespace Go.Proofs.YtfblpakoibadoaaDoor
open Go Go.RowKit

/-- What is read from the bytes behind the first one, without data: the packet and the error. -/
def numR (p : Nat) (rest : List UInt8) : Rg × Nat :=
  if rest.length ≠ nbytes (fieldsL p) then (bare 0, 5)
  else if (fieldsL p).length = 0 then (bare p, 0)
  else if Ck.chk 20 5 (placeN (fieldsL p) (fieldsL p).length) (leL rest % 2 ^ placeN (fieldsL p) (fieldsL p).length) ≠ leL rest / 2 ^ placeN (fieldsL p) (fieldsL p).length then (bare 0, 10)
  else if (unpackN (fieldsL p) (leL rest % 2 ^ placeN (fieldsL p) (fieldsL p).length) (bare p) (fieldsL p).length).spare ≠ 0 then (bare 0, 4)
  else (unpackN (fieldsL p) (leL rest % 2 ^ placeN (fieldsL p) (fieldsL p).length) (bare p) (fieldsL p).length, 0)
/-- .. with data. -/
def datR (p : Nat) (rest : List UInt8) : Rg × List UInt8 × Nat :=
  if rest.length < 2 ∨ 1026 < rest.length then (bare 0, [], 5)
  else if Ck.chkL (Ck.frontL rest) ≠ Ck.lastL rest then (bare 0, [], 10)
  else (bare p, Ck.frontL rest, 0)
/-- What is read from bytes: the packet, its data and the error. -/
def decC (b0 : UInt8) (rest : List UInt8) : Rg × List UInt8 × Nat :=
  if known (b0.toNat % 16) = true ∧ b0.toNat = b0.toNat % 16 + 16 * (15 - b0.toNat % 16) then
    (if isD (b0.toNat % 16) = true then datR (b0.toNat % 16) rest else ((numR (b0.toNat % 16) rest).1, [], (numR (b0.toNat % 16) rest).2))
  else (bare 0, [], 4)
def decR : List UInt8 → Rg × List UInt8 × Nat
  | [] => (bare 0, [], 4)
  | b0 :: rest => decC b0 rest

theorem nb8 (p : Nat) (h : (fieldsL p).length ≠ 0) : 8 * nbytes (fieldsL p) = placeN (fieldsL p) (fieldsL p).length + 5 := by
  unfold nbytes
  rw [if_neg h]
  unfold fieldsL at *
  split
  · decide
  rename_i h1
  rw [if_neg h1] at h
  split
  · decide
  rename_i h2
  rw [if_neg h2] at h
  split
  · decide
  rename_i h3
  rw [if_neg h3] at h
  exact absurd rfl h

theorem num_any (w : World) (hL : Laid w) (p : Nat) (hp : p < 256) (A : Option Addr) (c : Nat) (rest : List UInt8) (hx : Rd w w.heap.size A c rest) :
    Calls Tryd.prog 26 #[.int .u8 (p : Int), .slice A rest.length c] w (ResPk w (numR p rest).1 [] (numR p rest).2) := by
  unfold numR
  by_cases h1 : rest.length ≠ nbytes (fieldsL p)
  · rw [if_pos h1]
    exact decN_width w p hp A rest.length c _ rfl (fields_len p) h1
  rw [if_neg h1]
  have h1 : rest.length = nbytes (fieldsL p) := by omega
  by_cases h2 : (fieldsL p).length = 0
  · rw [if_pos h2]
    have hf : fieldsL p = [] := List.eq_nil_of_length_eq_zero h2
    have h0 : rest.length = 0 := by rw [h1, hf]; rfl
    rw [h0]
    exact decN_none w p hp A c hf
  rw [if_neg h2]
  have h8 := nb8 p h2
  have hlt := leL_lt rest
  have hn19 := place_le p
  have hn3 := nbytes_le p
  rw [h1, h8] at hlt
  have hP := fun W (hLW : Laid W) => Ck.Part_good W hLW.ck (leL rest) (placeN (fieldsL p) (fieldsL p).length) (by omega) hlt
  have hvl : leL rest % 2 ^ placeN (fieldsL p) (fieldsL p).length < 2 ^ 32 := Nat.lt_of_lt_of_le (Nat.mod_lt _ (Nat.two_pow_pos _)) (Nat.pow_le_pow_right (by omega) (by omega))
  by_cases h3 : Ck.chk 20 5 (placeN (fieldsL p) (fieldsL p).length) (leL rest % 2 ^ placeN (fieldsL p) (fieldsL p).length) = leL rest / 2 ^ placeN (fieldsL p) (fieldsL p).length
  · rw [if_neg (fun h => h h3)]
    simp only [if_pos h3] at hP
    by_cases h4 : (unpackN (fieldsL p) (leL rest % 2 ^ placeN (fieldsL p) (fieldsL p).length) (bare p) (fieldsL p).length).spare = 0
    · rw [if_neg (fun h => h h4)]
      exact decN_core w hL p hp A c rest hx _ rfl (by omega) _ _ _ 0 rfl hn19 h1 (by omega) rfl 0 _ hvl hP (.inr (.inr ⟨rfl, h4, rfl, rfl⟩))
    · rw [if_pos h4]
      exact decN_core w hL p hp A c rest hx _ rfl (by omega) _ _ _ 0 rfl hn19 h1 (by omega) rfl 4 _ hvl hP (.inr (.inl ⟨rfl, h4, rfl, rfl⟩))
  · rw [if_pos h3]
    simp only [if_neg h3] at hP
    exact decN_core w hL p hp A c rest hx _ rfl (by omega) _ _ 0 10 rfl hn19 h1 (by omega) rfl 10 _ (by decide) hP (.inl ⟨rfl, rfl, rfl⟩)
theorem dat_any (w : World) (hL : Laid w) (p : Nat) (A : Option Addr) (c : Nat) (rest : List UInt8) (hx : Rd w w.heap.size A c rest) :
    Calls Tryd.prog 25 #[.int .u8 (p : Int), .slice A rest.length c] w (ResPk w (datR p rest).1 (datR p rest).2.1 (datR p rest).2.2) := by
  unfold datR
  by_cases h1 : rest.length < 2 ∨ 1026 < rest.length
  · rw [if_pos h1]
    rcases h1 with h1 | h1
    · exact decD_short w p A _ c h1
    · exact decD_long w p A _ c h1
  rw [if_neg h1]
  by_cases h2 : Ck.chkL (Ck.frontL rest) = Ck.lastL rest
  · rw [if_neg (fun h => h h2)]
    exact decD_good w hL p A c rest hx (by omega) (by omega) h2
  · rw [if_pos h2]
    exact decD_sum w hL p A c rest hx (by omega) (by omega) h2

theorem decode_any (w : World) (hL : Laid w) (A : Option Addr) (c : Nat) (zs : List UInt8) (hx : Rd w w.heap.size A c zs) :
    Calls Tryd.prog 13 #[.slice A zs.length c] w (ResPk w (decR zs).1 (decR zs).2.1 (decR zs).2.2) := by
  cases zs with
  | nil => exact decode_empty w A c
  | cons b0 rest =>
    have hb := b0.toNat_lt
    show Calls _ _ _ _ (ResPk w (decC b0 rest).1 (decC b0 rest).2.1 (decC b0 rest).2.2)
    unfold decC
    by_cases hk : known (b0.toNat % 16) = true
    · by_cases ht : b0.toNat = b0.toNat % 16 + 16 * (15 - b0.toNat % 16)
      · rw [if_pos ⟨hk, ht⟩]
        have ht2 : ((b0.toNat : Int) == ((b0.toNat % 16 + 16 * (15 - b0.toNat % 16) : Nat) : Int)) = true := by rw [beq_iff_eq]; omega
        by_cases hd : isD (b0.toNat % 16) = true
        · rw [if_pos hd]
          exact decode_core w hL A c b0 rest hx _ rfl _ _ _ hk ht2 hd _ _ _ (.inr (.inr (.inl ⟨rfl, rfl, rfl, fun W A' c' hLW hRW => dat_any W hLW _ A' c' rest hRW⟩)))
        · rw [if_neg hd]
          exact decode_core w hL A c b0 rest hx _ rfl _ _ _ hk ht2 (by simpa using hd) _ _ _ (.inr (.inr (.inr ⟨rfl, rfl, rfl, fun W A' c' hLW hRW => num_any W hLW _ (by omega) A' c' rest hRW⟩)))
      · rw [if_neg (fun h => ht h.2)]
        have ht2 : ((b0.toNat : Int) == ((b0.toNat % 16 + 16 * (15 - b0.toNat % 16) : Nat) : Int)) = false := by rw [beq_eq_false_iff_ne]; omega
        exact decode_core w hL A c b0 rest hx _ rfl _ _ _ hk ht2 rfl _ _ _ (.inr (.inl ⟨rfl, rfl, rfl, rfl, rfl⟩))
    · rw [if_neg (fun h => hk h.1)]
      exact decode_core w hL A c b0 rest hx _ rfl _ _ _ (by simpa using hk) rfl rfl _ _ _ (.inl ⟨rfl, rfl, rfl, rfl⟩)

end Go.Proofs.YtfblpakoibadoaaDoor
