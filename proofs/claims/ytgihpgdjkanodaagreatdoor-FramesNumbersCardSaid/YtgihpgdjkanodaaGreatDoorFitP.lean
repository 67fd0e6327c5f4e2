/-
  Helper text: which packets are left as they are, and the number that their fields make; no statement is proved here.
-/
import Derived.Test.YtgihpgdjkanodaaGreatDoorChk
namespace Go.Proofs.YtgihpgdjkanodaaGreatDoor
open Go Go.RowKit

theorem orA {x y k : Nat} (h : x < 2 ^ k) : x ||| y * 2 ^ k = x + y * 2 ^ k := by
  rw [Nat.or_comm, Nat.mul_comm y, ← Nat.two_pow_add_eq_or_of_lt h, Nat.add_comm]
theorem orB {x y k j : Nat} (h : j ≤ k) : (x ||| y * 2 ^ k) % 2 ^ j = x % 2 ^ j := by
  rw [Nat.or_mod_two_pow]
  obtain ⟨d, rfl⟩ := Nat.exists_eq_add_of_le h
  rw [Nat.pow_add, ← Nat.mul_assoc, Nat.mul_right_comm, Nat.mul_mod_left, Nat.or_zero]

/-- The packets that are left as they are. -/
inductive Fit (r : Rg) (xs : List UInt8) : Prop where
  | tok (hp : r.pid = 1 ∨ r.pid = 9 ∨ r.pid = 13) (h1 : r.addr < 128) (h2 : r.endp < 16) (h3 : r.frame = 0) (h4 : r.hub = 0) (h5 : r.port = 0) (h6 : r.comp = false) (h7 : r.low = false) (h8 : r.kind = 0) (h9 : xs = [])
  | sof (hp : r.pid = 5) (h1 : r.addr = 0) (h2 : r.endp = 0) (h3 : r.frame < 2048) (h4 : r.hub = 0) (h5 : r.port = 0) (h6 : r.comp = false) (h7 : r.low = false) (h8 : r.kind = 0) (h9 : xs = [])
  | split (hp : r.pid = 8) (h1 : r.addr = 0) (h2 : r.endp = 0) (h3 : r.frame = 0) (h4 : r.hub < 128) (h5 : r.port < 128) (h8 : r.kind < 4) (h9 : xs = [])
  | data (hp : r.pid = 3 ∨ r.pid = 11) (h1 : r.addr = 0) (h2 : r.endp = 0) (h3 : r.frame = 0) (h4 : r.hub = 0) (h5 : r.port = 0) (h6 : r.comp = false) (h7 : r.low = false) (h8 : r.kind = 0)
  | bare (hp : r.pid = 2 ∨ r.pid = 6 ∨ r.pid = 10 ∨ r.pid = 14) (h1 : r.addr = 0) (h2 : r.endp = 0) (h3 : r.frame = 0) (h4 : r.hub = 0) (h5 : r.port = 0) (h6 : r.comp = false) (h7 : r.low = false) (h8 : r.kind = 0) (h9 : xs = [])

/-- The numbers of the three kinds of fields. -/
theorem pack_tok (r : Rg) (h1 : r.addr < 256) (h2 : r.endp < 256) : packN [.addr, .endp] r 2 = r.addr ||| r.endp * 2 ^ 7 := by
  show (0 ||| (r.addr * 2 ^ 0) % 4294967296) ||| (r.endp * 2 ^ 7) % 4294967296 = _
  rw [Nat.zero_or, Nat.pow_zero, Nat.mul_one, Nat.mod_eq_of_lt (by omega), Nat.mod_eq_of_lt (by omega)]
theorem pack_sof (r : Rg) (h1 : r.frame < 65536) : packN [.frame] r 1 = r.frame := by
  show (0 ||| (r.frame * 2 ^ 0) % 4294967296) = _
  rw [Nat.zero_or, Nat.pow_zero, Nat.mul_one, Nat.mod_eq_of_lt (by omega)]
theorem pack_split (r : Rg) (hs : r.spare = 0) (h1 : r.hub < 256) (h2 : r.port < 256) (h3 : r.kind < 256) :
    packN [.hub, .comp, .port, .low, .spare, .kind] r 6 = (((r.hub ||| r.comp.toNat * 2 ^ 7) ||| r.port * 2 ^ 8) ||| r.low.toNat * 2 ^ 15) ||| r.kind * 2 ^ 17 := by
  have hc : r.comp.toNat ≤ 1 := Bool.toNat_le _
  have hl : r.low.toNat ≤ 1 := Bool.toNat_le _
  show (((((0 ||| (r.hub * 2 ^ 0) % 4294967296) ||| (r.comp.toNat * 2 ^ 7) % 4294967296) ||| (r.port * 2 ^ 8) % 4294967296) ||| (r.low.toNat * 2 ^ 15) % 4294967296) ||| (r.spare * 2 ^ 16) % 4294967296) ||| (r.kind * 2 ^ 17) % 4294967296 = _
  rw [hs, Nat.zero_mul, Nat.zero_mod, Nat.or_zero, Nat.zero_or, Nat.pow_zero, Nat.mul_one, Nat.mod_eq_of_lt (by omega), Nat.mod_eq_of_lt (by omega), Nat.mod_eq_of_lt (by omega), Nat.mod_eq_of_lt (by omega), Nat.mod_eq_of_lt (by omega)]
theorem known_cases {p : Nat} (h : known p = true) : (p = 1 ∨ p = 9 ∨ p = 13) ∨ p = 5 ∨ p = 8 ∨ (p = 3 ∨ p = 11) ∨ (p = 2 ∨ p = 6 ∨ p = 10 ∨ p = 14) := by
  unfold known at h
  simp only [Bool.or_eq_true, beq_iff_eq] at h
  omega
theorem isD_false {p : Nat} (h : p ≠ 3 ∧ p ≠ 11) : isD p = false := by
  unfold isD; rw [beq_eq_false_iff_ne.2 h.1, beq_eq_false_iff_ne.2 h.2]; rfl
theorem isD_true {p : Nat} (h : p = 3 ∨ p = 11) : isD p = true := by
  rcases h with rfl | rfl <;> rfl

theorem fitB_iff (r : Rg) (ok : r.Ok) (xs : List UInt8) : fitB r xs = true ↔
    r.addr = (keptR r (keptD r)).addr ∧ r.endp = (keptR r (keptD r)).endp ∧ r.frame = (keptR r (keptD r)).frame ∧ r.hub = (keptR r (keptD r)).hub ∧ r.port = (keptR r (keptD r)).port ∧
      r.comp = (keptR r (keptD r)).comp ∧ r.low = (keptR r (keptD r)).low ∧ r.kind = (keptR r (keptD r)).kind ∧ xs = (bif isD r.pid then xs else []) := by
  have hp : (keptR r (keptD r)).pid = r.pid := unpackN_pid _ _ _ _
  unfold fitB sameB
  simp only [Bool.and_eq_true, beq_iff_eq, decide_eq_true_iff, and_assoc, hp, true_and]

theorem fit_of_fitB (r : Rg) (ok : r.Ok) (xs : List UInt8) (hk : known r.pid = true) : fitB r xs = true ↔ Fit r xs := by
  rw [fitB_iff r ok]
  have a1 := ok.addr
  have a2 := ok.endp
  have a3 := ok.frame
  have a4 := ok.hub
  have a5 := ok.port
  have a8 := ok.kind
  rcases known_cases hk with hp | hp | hp | hp | hp
  · have hf := fieldsL_tok hp
    have hd : isD r.pid = false := isD_false (by omega)
    have hpk : packN [.addr, .endp] { r with spare := 0 } 2 = r.addr ||| r.endp * 2 ^ 7 := pack_tok { r with spare := 0 } a1 a2
    unfold keptR
    rw [hf, hd]
    show r.addr = (packN [.addr, .endp] { r with spare := 0 } 2 / 2 ^ 0 % 2 ^ 7) % 256 ∧ r.endp = (packN [.addr, .endp] { r with spare := 0 } 2 / 2 ^ 7 % 2 ^ 4) % 256 ∧ r.frame = 0 ∧ r.hub = 0 ∧ r.port = 0 ∧ r.comp = false ∧ r.low = false ∧ r.kind = 0 ∧ xs = [] ↔ _
    rw [hpk]
    have e1 : (r.addr ||| r.endp * 2 ^ 7) % 2 ^ 7 = r.addr % 2 ^ 7 := orB (Nat.le_refl _)
    constructor
    · rintro ⟨h1, h2, h3, h4, h5, h6, h7, h8, h9⟩
      have h1' : r.addr < 128 := by
        rw [Nat.pow_zero, Nat.div_one, e1] at h1; omega
      rw [orA (by omega : r.addr < 2 ^ 7)] at h2
      exact .tok hp h1' (by omega) h3 h4 h5 h6 h7 h8 h9
    · intro h
      cases h with
      | tok _ h1 h2 h3 h4 h5 h6 h7 h8 h9 =>
        rw [orA (by omega : r.addr < 2 ^ 7)]
        exact ⟨by omega, by omega, h3, h4, h5, h6, h7, h8, h9⟩
      | sof hq => omega
      | split hq => omega
      | data hq => omega
      | bare hq => omega
  · have hf : fieldsL r.pid = [.frame] := by rw [hp]; rfl
    have hd : isD r.pid = false := isD_false (by omega)
    have hpk : packN [.frame] { r with spare := 0 } 1 = r.frame := pack_sof { r with spare := 0 } a3
    unfold keptR
    rw [hf, hd]
    show r.addr = 0 ∧ r.endp = 0 ∧ r.frame = (packN [.frame] { r with spare := 0 } 1 / 2 ^ 0 % 2 ^ 11) % 65536 ∧ r.hub = 0 ∧ r.port = 0 ∧ r.comp = false ∧ r.low = false ∧ r.kind = 0 ∧ xs = [] ↔ _
    rw [hpk]
    constructor
    · rintro ⟨h1, h2, h3, h4, h5, h6, h7, h8, h9⟩
      exact .sof hp h1 h2 (by omega) h4 h5 h6 h7 h8 h9
    · intro h
      cases h with
      | sof _ h1 h2 h3 h4 h5 h6 h7 h8 h9 => exact ⟨h1, h2, by omega, h4, h5, h6, h7, h8, h9⟩
      | tok hq => omega
      | split hq => omega
      | data hq => omega
      | bare hq => omega
  · have hf : fieldsL r.pid = [.hub, .comp, .port, .low, .spare, .kind] := by rw [hp]; rfl
    have hd : isD r.pid = false := isD_false (by omega)
    have hpk : packN [.hub, .comp, .port, .low, .spare, .kind] { r with spare := 0 } 6 = (((r.hub ||| r.comp.toNat * 2 ^ 7) ||| r.port * 2 ^ 8) ||| r.low.toNat * 2 ^ 15) ||| r.kind * 2 ^ 17 := pack_split { r with spare := 0 } rfl a4 a5 a8
    unfold keptR
    rw [hf, hd]
    show r.addr = 0 ∧ r.endp = 0 ∧ r.frame = 0 ∧ r.hub = (packN [.hub, .comp, .port, .low, .spare, .kind] { r with spare := 0 } 6 / 2 ^ 0 % 2 ^ 7) % 256 ∧ r.port = (packN [.hub, .comp, .port, .low, .spare, .kind] { r with spare := 0 } 6 / 2 ^ 8 % 2 ^ 7) % 256 ∧ r.comp = (packN [.hub, .comp, .port, .low, .spare, .kind] { r with spare := 0 } 6 / 2 ^ 7 % 2 ^ 1 == 1) ∧
      r.low = (packN [.hub, .comp, .port, .low, .spare, .kind] { r with spare := 0 } 6 / 2 ^ 15 % 2 ^ 1 == 1) ∧ r.kind = (packN [.hub, .comp, .port, .low, .spare, .kind] { r with spare := 0 } 6 / 2 ^ 17 % 2 ^ 2) % 256 ∧ xs = [] ↔ _
    rw [hpk]
    have hc : r.comp.toNat ≤ 1 := Bool.toNat_le _
    have hl : r.low.toNat ≤ 1 := Bool.toNat_le _
    have hcb : ∀ (b : Bool) (n : Nat), n = b.toNat → b = (n == 1) := fun b n h => by subst h; cases b <;> rfl
    constructor
    · rintro ⟨h1, h2, h3, h4, h5, _, _, h8, h9⟩
      have e1 : ((((r.hub ||| r.comp.toNat * 2 ^ 7) ||| r.port * 2 ^ 8) ||| r.low.toNat * 2 ^ 15) ||| r.kind * 2 ^ 17) % 2 ^ 7 = r.hub % 2 ^ 7 := by
        rw [orB (by omega), orB (by omega), orB (by omega), orB (by omega)]
      have h4' : r.hub < 128 := by
        rw [Nat.pow_zero, Nat.div_one, e1] at h4; omega
      have o1 : r.hub ||| r.comp.toNat * 2 ^ 7 = r.hub + r.comp.toNat * 2 ^ 7 := orA (by omega)
      have e2 : ((((r.hub ||| r.comp.toNat * 2 ^ 7) ||| r.port * 2 ^ 8) ||| r.low.toNat * 2 ^ 15) ||| r.kind * 2 ^ 17) % 2 ^ 15 = (r.hub + r.comp.toNat * 2 ^ 7 + r.port * 2 ^ 8) % 2 ^ 15 := by
        rw [orB (by omega), orB (by omega), o1, orA (by omega)]
      have h5' : r.port < 128 := by omega
      have o2 : ((r.hub ||| r.comp.toNat * 2 ^ 7) ||| r.port * 2 ^ 8) = r.hub + r.comp.toNat * 2 ^ 7 + r.port * 2 ^ 8 := by rw [o1, orA (by omega)]
      have o3 : (((r.hub ||| r.comp.toNat * 2 ^ 7) ||| r.port * 2 ^ 8) ||| r.low.toNat * 2 ^ 15) = r.hub + r.comp.toNat * 2 ^ 7 + r.port * 2 ^ 8 + r.low.toNat * 2 ^ 15 := by rw [o2, orA (by omega)]
      rw [o3, orA (by omega)] at h8
      exact .split hp h1 h2 h3 h4' h5' (by omega) h9
    · intro h
      cases h with
      | split _ h1 h2 h3 h4 h5 h8 h9 =>
        rw [orA (by omega : r.hub < 2 ^ 7), orA (by omega : r.hub + r.comp.toNat * 2 ^ 7 < 2 ^ 8), orA (by omega : r.hub + r.comp.toNat * 2 ^ 7 + r.port * 2 ^ 8 < 2 ^ 15), orA (by omega : r.hub + r.comp.toNat * 2 ^ 7 + r.port * 2 ^ 8 + r.low.toNat * 2 ^ 15 < 2 ^ 17)]
        exact ⟨h1, h2, h3, by omega, by omega, hcb _ _ (by omega), hcb _ _ (by omega), by omega, h9⟩
      | tok hq => omega
      | sof hq => omega
      | data hq => omega
      | bare hq => omega
  · have hf : fieldsL r.pid = [] := fieldsL_none (by omega) (by omega) (by omega) (by omega) (by omega)
    have hd : isD r.pid = true := isD_true hp
    unfold keptR
    rw [hf, hd]
    show r.addr = 0 ∧ r.endp = 0 ∧ r.frame = 0 ∧ r.hub = 0 ∧ r.port = 0 ∧ r.comp = false ∧ r.low = false ∧ r.kind = 0 ∧ xs = xs ↔ _
    constructor
    · rintro ⟨h1, h2, h3, h4, h5, h6, h7, h8, _⟩
      exact .data hp h1 h2 h3 h4 h5 h6 h7 h8
    · intro h
      cases h with
      | data _ h1 h2 h3 h4 h5 h6 h7 h8 => exact ⟨h1, h2, h3, h4, h5, h6, h7, h8, rfl⟩
      | tok hq => omega
      | sof hq => omega
      | split hq => omega
      | bare hq => omega
  · have hf : fieldsL r.pid = [] := fieldsL_none (by omega) (by omega) (by omega) (by omega) (by omega)
    have hd : isD r.pid = false := isD_false (by omega)
    unfold keptR
    rw [hf, hd]
    show r.addr = 0 ∧ r.endp = 0 ∧ r.frame = 0 ∧ r.hub = 0 ∧ r.port = 0 ∧ r.comp = false ∧ r.low = false ∧ r.kind = 0 ∧ xs = [] ↔ _
    constructor
    · rintro ⟨h1, h2, h3, h4, h5, h6, h7, h8, h9⟩
      exact .bare hp h1 h2 h3 h4 h5 h6 h7 h8 h9
    · intro h
      cases h with
      | bare _ h1 h2 h3 h4 h5 h6 h7 h8 h9 => exact ⟨h1, h2, h3, h4, h5, h6, h7, h8, h9⟩
      | tok hq => omega
      | sof hq => omega
      | split hq => omega
      | data hq => omega
theorem err_zero (r : Rg) (ok : r.Ok) (xs : List UInt8) (h : errR r xs = 0) : Fit r xs ∧ xs.length ≤ 1024 := by
  unfold errR at h
  split at h
  · rename_i hk
    split at h
    · rename_i hl; exact ⟨(fit_of_fitB r ok xs hk.1).1 hk.2, hl⟩
    · omega
  · omega

end Go.Proofs.YtgihpgdjkanodaaGreatDoor
