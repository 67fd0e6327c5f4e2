/-
  Helper text: the text of all packets; no statement is proved here.
-/
import Derived.Test.YtfblpakoibadoaaDoorWords4
import Derived.Test.YtfblpakoibadoaaDoorFitP
namespace Go.Proofs.YtfblpakoibadoaaDoor
open Go Go.RowKit

theorem join_le (m : Nat) (zs : List (List UInt8)) (h : ∀ z ∈ zs, z.length ≤ m) : (Lib.join zs [32]).length ≤ zs.length * (m + 1) := by
  cases zs with
  | nil => simp [Lib.join_nil]
  | cons x xs =>
    rw [Lib.join_cons]
    have ht : (Lib.joinTail [32] xs).length ≤ xs.length * (m + 1) := by
      have hx : ∀ z ∈ xs, z.length ≤ m := fun z hz => h z (List.mem_cons_of_mem _ hz)
      clear h
      induction xs with
      | nil => simp [Lib.joinTail]
      | cons y ys ih =>
        have h1 := hx y List.mem_cons_self
        have h2 := ih fun z hz => hx z (List.mem_cons_of_mem _ hz)
        simp only [Lib.joinTail, List.map_cons, List.flatten_cons, List.length_append, List.length_cons, List.length_nil] at h2 ⊢
        rw [Nat.add_mul]
        omega
    have h1 := h x List.mem_cons_self
    rw [List.length_append, List.length_cons, Nat.add_mul]
    omega

theorem pidL_le (p : Nat) : (pidL.getD p []).length ≤ 5 := by
  by_cases h : p < 16
  · have : ∀ p < 16, (pidL.getD p []).length ≤ 5 := by decide
    exact this p h
  · rw [List.getD_eq_getElem?_getD, List.getElem?_eq_none (by simp only [pidL, List.length_cons, List.length_nil]; omega)]; simp
theorem kindL_le (p : Nat) : (kindL.getD p []).length ≤ 11 := by
  by_cases h : p < 4
  · have : ∀ p < 4, (kindL.getD p []).length ≤ 11 := by decide
    exact this p h
  · rw [List.getD_eq_getElem?_getD, List.getElem?_eq_none (by simp only [kindL, List.length_cons, List.length_nil]; omega)]; simp
theorem wordsL_le (r : Rg) (ok : r.Ok) (xs : List UInt8) (hl : xs.length ≤ 1024) : 0 < (wordsL r xs).length ∧ (wordsL r xs).length ≤ 5 ∧ ∀ z ∈ wordsL r xs, z.length ≤ 2048 := by
  have a1 := digits_le 3 r.addr (Nat.lt_trans ok.addr (by decide))
  have a2 := digits_le 3 r.endp (Nat.lt_trans ok.endp (by decide))
  have a3 := digits_le 5 r.frame (Nat.lt_trans ok.frame (by decide))
  have a4 := digits_le 3 r.hub (Nat.lt_trans ok.hub (by decide))
  have a5 := digits_le 3 r.port (Nat.lt_trans ok.port (by decide))
  have a6 := kindL_le r.kind
  have a7 := pidL_le r.pid
  have a8 := hexL_len xs
  have a9 : (stepL.getD r.comp.toNat []).length ≤ 8 := by cases r.comp <;> decide
  unfold wordsL
  split
  · refine ⟨by simp, by simp, fun z hz => ?_⟩
    simp only [List.mem_append, List.mem_cons, List.not_mem_nil, or_false] at hz
    rcases hz with rfl | rfl
    · omega
    · simp only [List.length_append, List.length_cons, List.length_nil]; omega
  split
  · refine ⟨by simp, by simp, fun z hz => ?_⟩
    simp only [List.mem_append, List.mem_cons, List.not_mem_nil, or_false] at hz
    rcases hz with rfl | rfl <;> omega
  split
  · refine ⟨by simp, by unfold splitL; cases r.low <;> simp, fun z hz => ?_⟩
    unfold splitL at hz
    simp only [List.mem_append, List.mem_cons, List.not_mem_nil, or_false] at hz
    rcases hz with rfl | ((rfl | rfl | rfl) | hz)
    · omega
    · omega
    · simp only [List.length_append, List.length_cons, List.length_nil]; omega
    · omega
    · revert hz
      cases r.low
      · simp
      · intro hz
        have : z = [108, 111, 119] := by simpa using hz
        subst this
        decide
  split
  · refine ⟨by simp, by simp, fun z hz => ?_⟩
    simp only [List.append_nil, List.mem_cons, List.not_mem_nil, or_false] at hz
    subst hz
    omega
  · refine ⟨by simp, by simp, fun z hz => ?_⟩
    simp only [List.mem_append, List.mem_cons, List.not_mem_nil, or_false] at hz
    rcases hz with rfl | rfl <;> omega

theorem words_any (w : World) (hL : Laid w) (r : Rg) (ok : r.Ok) (A : Option Addr) (c : Nat) (xs : List UInt8) (hx : Rd w w.heap.size A c xs) (hl : xs.length ≤ 1024) (hd : r.data = .slice A xs.length c) (hF : Fit r xs) :
    Calls Tryd.prog 16 #[.agg (pcells r)] w (ResW w (wordsL r xs)) := by
  rcases hF with ⟨hp⟩ | ⟨hp⟩ | ⟨hp, _, _, _, _, _, h8⟩ | ⟨hp⟩ | ⟨hp, _, _, _, _, _, _, _, _, h9⟩
  · exact words_tok w hL r ok A _ c hd hp xs
  · exact words_frame w hL r ok A _ c hd hp xs
  · exact words_split w hL r ok h8 A _ c hd hp xs
  · by_cases h0 : xs = []
    · subst h0
      exact words_bare w hL r A c hd (by omega)
    · exact words_data w hL r A c xs hx hl hd hp h0
  · subst h9
    exact words_bare w hL r A c hd (by omega)

theorem text_any (w : World) (hL : Laid w) (r : Rg) (ok : r.Ok) (A : Option Addr) (c : Nat) (xs : List UInt8) (hx : Rd w w.heap.size A c xs) (hd : r.data = .slice A xs.length c) (hE : errR r xs = 0) :
    Calls Tryd.prog 9 #[.agg (pcells r)] w (ResS w (Lib.join (wordsL r xs) [32])) := by
  have hE' := hE
  unfold errR at hE'
  split at hE'
  · rename_i hkf
    split at hE'
    · rename_i hl
      obtain ⟨h1, h2, h3⟩ := wordsL_le r ok xs hl
      have h4 := join_le 2048 _ h3
      have hF := (fit_of_fitB r ok xs hkf.1).1 hkf.2
      refine text_core w hL r ok A c xs hx hd hE _ h1 (by omega) ?_ fun W hLW hRW => words_any W hLW r ok A c xs hRW hl hd hF
      have := Nat.mul_le_mul_right (2048 + 1) h2
      omega
    · cases hE'
  · cases hE'

end Go.Proofs.YtfblpakoibadoaaDoor
