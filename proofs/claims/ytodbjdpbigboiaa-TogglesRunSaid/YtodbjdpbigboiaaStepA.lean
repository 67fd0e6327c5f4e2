/-
  Helper text: the reference's step for any exchange; no statement is proved here.
-/
import Derived.Test.YtodbjdpbigboiaaStep
import Derived.Test.YtodbjdpbigboiaaLw3
namespace Go.Proofs.Ytodbjdpbigboiaa
open Go Go.RowKit

/-- The numbers taken, as Go's. -/
def tk (l : List Nat) : List Int := l.map fun i : Nat => (i : Int)
theorem tk_length (l : List Nat) : (tk l).length = l.length := by simp [tk]
theorem tk_snoc (l : List Nat) (a : Nat) : tk (l ++ [a]) = tk l ++ [(a : Int)] := by simp [tk]
/-- The reference's state, held by a slice. -/
abbrev xV (x : RS) (A : Option Addr) (c : Nat) : Value := stV x.ack A x.taken.length c x.snd x.rcv
theorem step_any (w : World) (x : RS) (A : Option Addr) (c many B : Nat) (e : Bool × Bool) (hr : RdI w w.heap.size A c (tk x.taken)) (hm : many ≤ 1000) (hl : x.taken.length ≤ 1000) (hn : Newer B A) (hB : B ≤ w.heap.size) :
    Calls Try.prog 17 #[xV x A c, .int .i64 (many : Int), .int .i64 (lostN e)] w (fun e' w' => ∃ A' c', e' = .returned (xV (stepR many x e) A' c') ∧ RdI w' w'.heap.size A' c' (tk (stepR many x e).taken) ∧ Below w.heap.size w w' ∧ Newer B A') := by
  obtain ⟨ack, taken, snd, rcv⟩ := x
  obtain ⟨d, l⟩ := e
  have htl := tk_length taken
  simp only at hr hl ⊢
  by_cases h : many ≤ ack ∨ d = true
  · have hs : stepR many ⟨ack, taken, snd, rcv⟩ (d, l) = ⟨ack, taken, snd, rcv⟩ := by unfold stepR; rw [if_pos h]
    rw [hs]
    have := step_skip w ack A c (tk taken) snd rcv many (lostN (d, l)) hr (by
      rcases h with h | h
      · exact .inl h
      · rcases Nat.lt_or_ge ack many with hk | hk
        · exact .inr ⟨hk, by unfold lostN; rw [if_pos h]⟩
        · exact .inl hk)
    rw [htl] at this
    refine this.mono ?_
    rintro e w1 ⟨rfl, h1, h2⟩
    rw [htl]
    exact ⟨A, c, rfl, h1, h2, hn⟩
  · have hd : d = false := by cases d <;> simp_all
    have ha : ack < many := by omega
    subst hd
    have hlo : Hid (lostN (false, l) = 0 ∨ lostN (false, l) = 2) := Lib.hid (by cases l <;> simp [lostN])
    have hl2 : lostN (false, l) = 2 → l = true := by cases l <;> simp [lostN]
    have hl0 : lostN (false, l) = 0 → l = false := by cases l <;> simp [lostN]
    by_cases hs : snd = rcv
    · subst hs
      have := step_take_core (fun e' w' => ∃ A' c', e' = .returned (xV (stepR many ⟨ack, taken, snd, snd⟩ (false, l)) A' c') ∧ RdI w' w'.heap.size A' c' (tk (stepR many ⟨ack, taken, snd, snd⟩ (false, l)).taken) ∧ Below w.heap.size w w' ∧ Newer B A') w ack A c (tk taken) snd many (lostN (false, l)) hr ha hm (by omega) hlo (Lib.hid ?_)
      · rw [htl] at this
        exact this
      · intro A1 c1 w1 h1 h2 h3
        constructor
        · intro h4
          have hq : stepR many ⟨ack, taken, snd, snd⟩ (false, l) = ⟨ack, taken ++ [ack], snd, !snd⟩ := by
            unfold stepR; rw [if_neg h, hl2 h4]; simp
          rw [hq]
          refine ⟨A1, c1, ?_, by rw [tk_snoc]; exact h1, h2, fun ad e => Nat.le_trans hB (h3 ad e)⟩
          simp [xV, htl]
        · intro h4
          have hq : stepR many ⟨ack, taken, snd, snd⟩ (false, l) = ⟨ack + 1, taken ++ [ack], !snd, !snd⟩ := by
            unfold stepR; rw [if_neg h, hl0 h4]; simp
          rw [hq]
          refine ⟨A1, c1, ?_, by rw [tk_snoc]; exact h1, h2, fun ad e => Nat.le_trans hB (h3 ad e)⟩
          simp [xV, htl]
    · obtain rfl : rcv = !snd := by cases snd <;> cases rcv <;> simp_all
      have := step_rep_core (fun e' w' => ∃ A' c', e' = .returned (xV (stepR many ⟨ack, taken, snd, !snd⟩ (false, l)) A' c') ∧ RdI w' w'.heap.size A' c' (tk (stepR many ⟨ack, taken, snd, !snd⟩ (false, l)).taken) ∧ Below w.heap.size w w' ∧ Newer B A') w ack A c (tk taken) snd many (lostN (false, l)) hr ha hm hlo (Lib.hid ?_)
      · rw [htl] at this
        exact this
      · intro w1 h1 h2
        constructor
        · intro h4
          have hq : stepR many ⟨ack, taken, snd, !snd⟩ (false, l) = ⟨ack, taken, snd, !snd⟩ := by
            unfold stepR; rw [if_neg h, hl2 h4]; simp
          rw [hq]
          refine ⟨A, c, ?_, h1, h2, hn⟩
          simp [xV, htl]
        · intro h4
          have hq : stepR many ⟨ack, taken, snd, !snd⟩ (false, l) = ⟨ack + 1, taken, !snd, !snd⟩ := by
            unfold stepR; rw [if_neg h, hl0 h4]; simp
          rw [hq]
          refine ⟨A, c, ?_, h1, h2, hn⟩
          simp [xV, htl]

end Go.Proofs.Ytodbjdpbigboiaa
