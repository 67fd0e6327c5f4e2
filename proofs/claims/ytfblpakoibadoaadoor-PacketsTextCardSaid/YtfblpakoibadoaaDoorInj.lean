/-
  Helper text: texts of packets differ where packets do, as lists; no statement is proved here.
-/
import Derived.Test.YtfblpakoibadoaaDoorTxt2
import Derived.Test.YtfblpakoibadoaaDoorFitP
namespace Go.Proofs.YtfblpakoibadoaaDoor
open Go Go.RowKit

/-- Two texts whose first words lack a byte, and whose rests begin with it. -/
theorem cut_eq {c : UInt8} : ∀ {x y s t : List UInt8}, c ∉ x → c ∉ y → (s = [] ∨ s.head? = some c) → (t = [] ∨ t.head? = some c) → x ++ s = y ++ t → x = y ∧ s = t
  | [], [], _, _, _, _, _, _, h => ⟨rfl, h⟩
  | [], b :: y, s, t, _, hy, hs, _, h => by
    exfalso
    rw [List.nil_append] at h
    rcases hs with hs | hs
    · rw [hs] at h
      simp at h
    · rw [h] at hs
      simp at hs
      exact hy (by simp [hs])
  | a :: x, [], s, t, hx, _, _, ht, h => by
    exfalso
    rw [List.nil_append] at h
    rcases ht with ht | ht
    · rw [ht] at h
      simp at h
    · rw [← h] at ht
      simp at ht
      exact hx (by simp [ht])
  | a :: x, b :: y, s, t, hx, hy, hs, ht, h => by
    rw [List.cons_append, List.cons_append] at h
    injection h with h1 h2
    have ih := cut_eq (fun m => hx (List.mem_cons_of_mem _ m)) (fun m => hy (List.mem_cons_of_mem _ m)) hs ht h2
    exact ⟨by rw [h1, ih.1], ih.2⟩
theorem tail_cons (y : List UInt8) (r : List (List UInt8)) : Lib.joinTail [32] (y :: r) = 32 :: (y ++ Lib.joinTail [32] r) := by simp [Lib.joinTail]
theorem tail_head (r : List (List UInt8)) : Lib.joinTail [32] r = [] ∨ (Lib.joinTail [32] r).head? = some 32 := by
  cases r with
  | nil => exact .inl rfl
  | cons y r => rw [tail_cons]; exact .inr rfl
theorem tail_inj : ∀ {r q : List (List UInt8)}, (∀ z ∈ r, (32 : UInt8) ∉ z) → (∀ z ∈ q, (32 : UInt8) ∉ z) → Lib.joinTail [32] r = Lib.joinTail [32] q → r = q
  | [], [], _, _, _ => rfl
  | [], y :: q, _, _, h => by rw [tail_cons] at h; exact absurd h (by simp [Lib.joinTail])
  | x :: r, [], _, _, h => by rw [tail_cons] at h; exact absurd h (by simp [Lib.joinTail])
  | x :: r, y :: q, hr, hq, h => by
    rw [tail_cons, tail_cons] at h
    injection h with _ h
    obtain ⟨h1, h2⟩ := cut_eq (hr x List.mem_cons_self) (hq y List.mem_cons_self) (tail_head r) (tail_head q) h
    rw [h1, tail_inj (fun z m => hr z (List.mem_cons_of_mem _ m)) (fun z m => hq z (List.mem_cons_of_mem _ m)) h2]
theorem join_inj {x y : List UInt8} {r q : List (List UInt8)} (hr : ∀ z ∈ x :: r, (32 : UInt8) ∉ z) (hq : ∀ z ∈ y :: q, (32 : UInt8) ∉ z) (h : Lib.join (x :: r) [32] = Lib.join (y :: q) [32]) : x :: r = y :: q := by
  rw [Lib.join_cons, Lib.join_cons] at h
  obtain ⟨h1, h2⟩ := cut_eq (hr x List.mem_cons_self) (hq y List.mem_cons_self) (tail_head r) (tail_head q) h
  rw [h1, tail_inj (fun z m => hr z (List.mem_cons_of_mem _ m)) (fun z m => hq z (List.mem_cons_of_mem _ m)) h2]

/-- The number that decimal digits say. -/
def valL (xs : List UInt8) : Nat := xs.foldl (fun a d => 10 * a + (d.toNat - 48)) 0
theorem valL_snoc (xs : List UInt8) (d : UInt8) : valL (xs ++ [d]) = 10 * valL xs + (d.toNat - 48) := by simp [valL]
theorem val_dec (n : Nat) : valL (Lib.decDigits n) = n := by
  induction n using Nat.strongRecOn with
  | ind n ih =>
    rw [Lib.decDigits]
    by_cases h : n < 10
    · rw [dif_pos h]
      show 10 * 0 + ((UInt8.ofNat (48 + n)).toNat - 48) = n
      rw [UInt8.toNat_ofNat']
      omega
    · rw [dif_neg h, valL_snoc, ih (n / 10) (by omega), UInt8.toNat_ofNat']
      omega
theorem dec_inj {a b : Nat} (h : Lib.decDigits a = Lib.decDigits b) : a = b := by
  rw [← val_dec a, ← val_dec b, h]
theorem dec_range (n : Nat) : ∀ d ∈ Lib.decDigits n, 48 ≤ d.toNat ∧ d.toNat ≤ 57 := by
  induction n using Nat.strongRecOn with
  | ind n ih =>
    rw [Lib.decDigits]
    by_cases h : n < 10
    · rw [dif_pos h]
      intro d hd
      rw [List.mem_singleton] at hd
      rw [hd, UInt8.toNat_ofNat']
      omega
    · rw [dif_neg h]
      intro d hd
      rw [List.mem_append, List.mem_singleton] at hd
      rcases hd with hd | hd
      · exact ih (n / 10) (by omega) d hd
      · rw [hd, UInt8.toNat_ofNat']
        omega
theorem dec_no (n : Nat) {c : UInt8} (h : c.toNat < 48) : c ∉ Lib.decDigits n := fun m => by have := dec_range n c m; omega
theorem pair_inj {a b c d : Nat} (h : Lib.decDigits a ++ [46] ++ Lib.decDigits b = Lib.decDigits c ++ [46] ++ Lib.decDigits d) : a = c ∧ b = d := by
  rw [List.append_assoc, List.append_assoc] at h
  obtain ⟨h1, h2⟩ := cut_eq (c := 46) (dec_no a (by decide)) (dec_no c (by decide)) (.inr rfl) (.inr rfl) h
  injection h2 with _ h2
  exact ⟨dec_inj h1, dec_inj h2⟩
theorem pair_no (a b : Nat) : (32 : UInt8) ∉ Lib.decDigits a ++ [46] ++ Lib.decDigits b := fun m => by
  rw [List.mem_append, List.mem_append, List.mem_singleton] at m
  rcases m with (m | m) | m
  · exact dec_no a (by decide) m
  · exact absurd m (by decide)
  · exact dec_no b (by decide) m
theorem hexD_inj : ∀ a, a < 16 → ∀ b, b < 16 → hexD a = hexD b → a = b := by decide
theorem hexD_no : ∀ a, a < 16 → hexD a ≠ 32 := by decide
theorem hexL_inj : ∀ {xs ys : List UInt8}, hexL xs = hexL ys → xs = ys
  | [], [], _ => rfl
  | [], b :: ys, h => by simp [hexL] at h
  | a :: xs, [], h => by simp [hexL] at h
  | a :: xs, b :: ys, h => by
    have h : hexD (a.toNat / 16) :: hexD (a.toNat % 16) :: hexL xs = hexD (b.toNat / 16) :: hexD (b.toNat % 16) :: hexL ys := h
    injection h with h1 h
    injection h with h2 h3
    have ha := a.toNat_lt
    have hb := b.toNat_lt
    have e1 := hexD_inj _ (by omega) _ (by omega) h1
    have e2 := hexD_inj _ (by omega) _ (by omega) h2
    have e : a = b := by
      rw [← UInt8.toNat_inj]
      omega
    rw [e, hexL_inj h3]
theorem hexL_no (xs : List UInt8) : (32 : UInt8) ∉ hexL xs := fun m => by
  unfold hexL at m
  rw [List.mem_flatMap] at m
  obtain ⟨b, _, m⟩ := m
  have hb := b.toNat_lt
  simp only [List.mem_cons, List.not_mem_nil, or_false] at m
  rcases m with m | m
  · exact hexD_no _ (by omega) m.symm
  · exact hexD_no _ (by omega) m.symm
theorem getD_no {zs : List (List UInt8)} (h : ∀ z ∈ zs, (32 : UInt8) ∉ z) (p : Nat) : (32 : UInt8) ∉ zs.getD p [] := by
  rw [List.getD_eq_getElem?_getD]
  cases hp : zs[p]? with
  | none => simp
  | some z => exact h z (List.mem_of_getElem? hp)
theorem pid_no : ∀ z ∈ pidL, (32 : UInt8) ∉ z := by decide
theorem step_no : ∀ z ∈ stepL, (32 : UInt8) ∉ z := by decide
theorem kind_no : ∀ z ∈ kindL, (32 : UInt8) ∉ z := by decide
theorem low_no : (32 : UInt8) ∉ ([108, 111, 119] : List UInt8) := by decide
theorem pid_inj : ∀ p, p < 16 → ∀ q, q < 16 → known p = true → known q = true → pidL.getD p [] = pidL.getD q [] → p = q := by decide +kernel
theorem kind_inj : ∀ p, p < 4 → ∀ q, q < 4 → kindL.getD p [] = kindL.getD q [] → p = q := by decide +kernel
theorem step_inj : ∀ p q : Bool, stepL.getD p.toNat [] = stepL.getD q.toNat [] → p = q := by decide

/-- The words behind the name. -/
def restL (r : Rg) (xs : List UInt8) : List (List UInt8) :=
  if r.pid = 1 ∨ r.pid = 9 ∨ r.pid = 13 then [Lib.decDigits r.addr ++ [46] ++ Lib.decDigits r.endp] else if r.pid = 5 then [Lib.decDigits r.frame] else if r.pid = 8 then splitL r else if xs = [] then [] else [hexL xs]
theorem wordsL_rest (r : Rg) (xs : List UInt8) : wordsL r xs = pidL.getD r.pid [] :: restL r xs := rfl
theorem rest_no (r : Rg) (xs : List UInt8) : ∀ z ∈ restL r xs, (32 : UInt8) ∉ z := by
  intro z hz
  unfold restL at hz
  split at hz
  · rw [List.mem_singleton] at hz
    rw [hz]
    exact pair_no _ _
  split at hz
  · rw [List.mem_singleton] at hz
    rw [hz]
    exact dec_no _ (by decide)
  split at hz
  · unfold splitL at hz
    rw [List.mem_append] at hz
    rcases hz with hz | hz
    · simp only [List.mem_cons, List.not_mem_nil, or_false] at hz
      rcases hz with hz | hz | hz
      · rw [hz]; exact getD_no step_no _
      · rw [hz]; exact pair_no _ _
      · rw [hz]; exact getD_no kind_no _
    · cases hl : r.low <;> rw [hl] at hz
      · cases hz
      · have hz : z ∈ ([[108, 111, 119]] : List (List UInt8)) := hz
        rw [List.mem_singleton] at hz
        rw [hz]
        exact low_no
  split at hz
  · cases hz
  · rw [List.mem_singleton] at hz
    rw [hz]
    exact hexL_no _
theorem rest_tok {r : Rg} (h : r.pid = 1 ∨ r.pid = 9 ∨ r.pid = 13) (xs : List UInt8) : restL r xs = [Lib.decDigits r.addr ++ [46] ++ Lib.decDigits r.endp] := by
  unfold restL
  rw [if_pos h]
theorem rest_sof {r : Rg} (h : r.pid = 5) (xs : List UInt8) : restL r xs = [Lib.decDigits r.frame] := by
  unfold restL
  rw [if_neg (by omega), if_pos h]
theorem rest_split {r : Rg} (h : r.pid = 8) (xs : List UInt8) : restL r xs = splitL r := by
  unfold restL
  rw [if_neg (by omega), if_neg (by omega), if_pos h]
theorem rest_else {r : Rg} (h : r.pid ≠ 1 ∧ r.pid ≠ 9 ∧ r.pid ≠ 13 ∧ r.pid ≠ 5 ∧ r.pid ≠ 8) (xs : List UInt8) : restL r xs = if xs = [] then [] else [hexL xs] := by
  unfold restL
  rw [if_neg (by omega), if_neg (by omega), if_neg (by omega)]
theorem same_iff (a b : Rg) (xs ys : List UInt8) : sameB a b xs ys = true ↔ a.pid = b.pid ∧ a.addr = b.addr ∧ a.endp = b.endp ∧ a.frame = b.frame ∧ a.hub = b.hub ∧ a.port = b.port ∧ a.comp = b.comp ∧ a.low = b.low ∧ a.kind = b.kind ∧ xs = ys := by
  unfold sameB
  simp only [Bool.and_eq_true, beq_iff_eq, decide_eq_true_iff, and_assoc]
theorem words_inj {r q : Rg} {xs ys : List UInt8} (hr : Fit r xs) (hq : Fit q ys) (kr : known r.pid = true) (kq : known q.pid = true) (lr : r.pid < 16) (lq : q.pid < 16) :
    Lib.join (wordsL r xs) [32] = Lib.join (wordsL q ys) [32] ↔ sameB r q xs ys = true := by
  rw [same_iff]
  constructor
  · intro h
    rw [wordsL_rest, wordsL_rest] at h
    have h := join_inj (fun z m => by
      rcases List.mem_cons.1 m with m | m
      · rw [m]; exact getD_no pid_no _
      · exact rest_no r xs z m) (fun z m => by
      rcases List.mem_cons.1 m with m | m
      · rw [m]; exact getD_no pid_no _
      · exact rest_no q ys z m) h
    injection h with h1 h2
    have hp := pid_inj _ lr _ lq kr kq h1
    cases hr with
    | tok p1 a1 a2 a3 a4 a5 a6 a7 a8 a9 =>
      cases hq with
      | tok q1 b1 b2 b3 b4 b5 b6 b7 b8 b9 =>
        rw [rest_tok p1, rest_tok q1] at h2
        injection h2 with h2
        obtain ⟨e1, e2⟩ := pair_inj h2
        exact ⟨hp, e1, e2, a3.trans b3.symm, a4.trans b4.symm, a5.trans b5.symm, a6.trans b6.symm, a7.trans b7.symm, a8.trans b8.symm, a9.trans b9.symm⟩
      | sof q1 => omega
      | split q1 => omega
      | data q1 => omega
      | bare q1 => omega
    | sof p1 a1 a2 a3 a4 a5 a6 a7 a8 a9 =>
      cases hq with
      | sof q1 b1 b2 b3 b4 b5 b6 b7 b8 b9 =>
        rw [rest_sof p1, rest_sof q1] at h2
        injection h2 with h2
        exact ⟨hp, a1.trans b1.symm, a2.trans b2.symm, dec_inj h2, a4.trans b4.symm, a5.trans b5.symm, a6.trans b6.symm, a7.trans b7.symm, a8.trans b8.symm, a9.trans b9.symm⟩
      | tok q1 => omega
      | split q1 => omega
      | data q1 => omega
      | bare q1 => omega
    | split p1 a1 a2 a3 a4 a5 a8 a9 =>
      cases hq with
      | split q1 b1 b2 b3 b4 b5 b8 b9 =>
        rw [rest_split p1, rest_split q1] at h2
        unfold splitL at h2
        injection h2 with h3 h2
        injection h2 with h4 h2
        injection h2 with h5 h6
        obtain ⟨e1, e2⟩ := pair_inj h4
        have e3 : r.low = q.low := by
          cases hl : r.low <;> cases hm : q.low
          · rfl
          · rw [hl, hm] at h6; cases h6
          · rw [hl, hm] at h6; cases h6
          · rfl
        exact ⟨hp, a1.trans b1.symm, a2.trans b2.symm, a3.trans b3.symm, e1, e2, step_inj _ _ h3, e3, kind_inj _ a8 _ b8 h5, a9.trans b9.symm⟩
      | tok q1 => omega
      | sof q1 => omega
      | data q1 => omega
      | bare q1 => omega
    | data p1 a1 a2 a3 a4 a5 a6 a7 a8 =>
      cases hq with
      | data q1 b1 b2 b3 b4 b5 b6 b7 b8 =>
        rw [rest_else (by omega), rest_else (by omega)] at h2
        refine ⟨hp, a1.trans b1.symm, a2.trans b2.symm, a3.trans b3.symm, a4.trans b4.symm, a5.trans b5.symm, a6.trans b6.symm, a7.trans b7.symm, a8.trans b8.symm, ?_⟩
        by_cases x0 : xs = []
        · by_cases y0 : ys = []
          · rw [x0, y0]
          · rw [if_pos x0, if_neg y0] at h2; cases h2
        · by_cases y0 : ys = []
          · rw [if_neg x0, if_pos y0] at h2; cases h2
          · rw [if_neg x0, if_neg y0] at h2
            injection h2 with h2
            exact hexL_inj h2
      | tok q1 => omega
      | sof q1 => omega
      | split q1 => omega
      | bare q1 => omega
    | bare p1 a1 a2 a3 a4 a5 a6 a7 a8 a9 =>
      cases hq with
      | bare q1 b1 b2 b3 b4 b5 b6 b7 b8 b9 => exact ⟨hp, a1.trans b1.symm, a2.trans b2.symm, a3.trans b3.symm, a4.trans b4.symm, a5.trans b5.symm, a6.trans b6.symm, a7.trans b7.symm, a8.trans b8.symm, a9.trans b9.symm⟩
      | tok q1 => omega
      | sof q1 => omega
      | split q1 => omega
      | data q1 => omega
  · rintro ⟨h0, h1, h2, h3, h4, h5, h6, h7, h8, h9⟩
    unfold wordsL splitL
    rw [h0, h1, h2, h3, h4, h5, h6, h7, h8, h9]

end Go.Proofs.YtfblpakoibadoaaDoor
