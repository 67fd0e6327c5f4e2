/-
  Helper text: what exchanges come to; no statement is proved here.
-/
import Derived.Test.YtjilbgdenolllaaRun
namespace Go.Proofs.Ytjilbgdenolllaa
open Go Go.RowKit

/-- The receiver has taken the first packets, and at most one more than was acknowledged. -/
def Inv (ps : List (List UInt8)) (x : PS) : Prop := ∃ done, x.left = ps.drop done ∧ done ≤ ps.length ∧ ((x.st = x.rt ∧ x.got = ps.take done) ∨ (x.st ≠ x.rt ∧ done < ps.length ∧ x.got = ps.take (done + 1)))
theorem take_one {ps : List (List UInt8)} {d : Nat} (h : d < ps.length) : ps.take (d + 1) = ps.take d ++ [(ps.drop d).getD 0 []] := by
  rw [List.take_add_one, List.getElem?_eq_getElem h]
  simp [List.getD, List.getElem?_drop, List.getElem?_eq_getElem h]
theorem Inv.step {ps : List (List UInt8)} {x : PS} (h : Inv ps x) (e : Bool × Bool) : Inv ps (exP x e) := by
  obtain ⟨d, hl, hd, hc⟩ := h
  unfold exP
  split
  · exact ⟨d, hl, hd, hc⟩
  · rename_i hne
    have hn : d < ps.length := by
      rcases Nat.lt_or_ge d ps.length with h | h
      · exact h
      · exfalso
        apply hne
        left
        rw [hl, List.length_drop]; omega
    have hh : Inv ps (hearP x) ∧ (hearP x).left = ps.drop d ∧ (hearP x).st = x.st ∧ (hearP x).st ≠ (hearP x).rt ∧ (hearP x).got = ps.take (d + 1) := by
      unfold hearP
      rcases hc with ⟨h1, h2⟩ | ⟨h1, h2, h3⟩
      · rw [if_pos h1]
        refine ⟨⟨d, hl, hd, .inr ⟨?_, hn, ?_⟩⟩, hl, rfl, ?_, ?_⟩
        · show x.st ≠ !x.rt
          rw [h1]; cases x.rt <;> decide
        · show x.got ++ [x.left.getD 0 []] = _
          rw [h2, hl, take_one hn]
        · show x.st ≠ !x.rt
          rw [h1]; cases x.rt <;> decide
        · show x.got ++ [x.left.getD 0 []] = _
          rw [h2, hl, take_one hn]
      · rw [if_neg h1]
        exact ⟨⟨d, hl, hd, .inr ⟨h1, h2, h3⟩⟩, hl, rfl, h1, h3⟩
    obtain ⟨i1, i2, i3, i4, i5⟩ := hh
    split
    · exact i1
    · refine ⟨d + 1, ?_, by omega, .inl ⟨?_, i5⟩⟩
      · show (hearP x).left.drop 1 = _
        rw [i2, List.drop_drop]
      · show (!(hearP x).st) = (hearP x).rt
        revert i4
        cases (hearP x).st <;> cases (hearP x).rt <;> decide
theorem Inv.run {ps : List (List UInt8)} (es : List (Bool × Bool)) : ∀ {x : PS}, Inv ps x → Inv ps (runP x es) := by
  induction es with
  | nil => intro x h; exact h
  | cons e es ih => intro x h; exact ih (h.step e)
theorem Inv.start (ps : List (List UInt8)) : Inv ps ⟨false, ps, false, []⟩ := ⟨0, by simp, by omega, .inl ⟨rfl, by simp⟩⟩

/-- Exchanges without a loss, of a pair that agrees. -/
theorem run_good (ps : List (List UInt8)) : ∀ (t : Bool) (got : List (List UInt8)), ∃ t', runP ⟨t, ps, t, got⟩ (List.replicate ps.length (false, false)) = ⟨t', [], t', got ++ ps⟩ := by
  induction ps with
  | nil => intro t got; exact ⟨t, by simp [runP]⟩
  | cons p ps ih =>
    intro t got
    obtain ⟨t', h⟩ := ih (!t) (got ++ [p])
    refine ⟨t', ?_⟩
    rw [List.length_cons, List.replicate_succ]
    show runP (exP ⟨t, p :: ps, t, got⟩ (false, false)) _ = _
    have e : exP ⟨t, p :: ps, t, got⟩ (false, false) = ⟨!t, ps, !t, got ++ [p]⟩ := by
      simp [exP, hearP, ackP, List.getD]
    rw [e, h]
    simp
/-- .. of any pair of the run. -/
theorem Inv.good {ps : List (List UInt8)} {x : PS} (h : Inv ps x) : ∃ t', runP x (List.replicate x.left.length (false, false)) = ⟨t', [], t', ps⟩ := by
  obtain ⟨d, hl, hd, hc⟩ := h
  obtain ⟨st, left, rt, got⟩ := x
  simp only at hl hc
  rcases hc with ⟨rfl, rfl⟩ | ⟨h1, h2, rfl⟩
  · obtain ⟨t', h⟩ := run_good left st (ps.take d)
    refine ⟨t', h.trans ?_⟩
    rw [hl, List.take_append_drop]
  · have hdr : left = ps.getD d [] :: ps.drop (d + 1) := by
      rw [hl, List.drop_eq_getElem_cons h2]
      simp [List.getD, List.getElem?_eq_getElem h2]
    subst hdr
    rw [show (⟨st, ps.getD d [] :: ps.drop (d + 1), rt, ps.take (d + 1)⟩ : PS).left.length = (ps.drop (d + 1)).length + 1 from by simp, List.replicate_succ]
    obtain rfl : rt = !st := by
      revert h1
      cases st <;> cases rt <;> decide
    obtain ⟨t', h⟩ := run_good (ps.drop (d + 1)) (!st) (ps.take (d + 1))
    refine ⟨t', ?_⟩
    show runP (exP ⟨st, ps.getD d [] :: ps.drop (d + 1), !st, ps.take (d + 1)⟩ (false, false)) _ = _
    have e : exP ⟨st, ps.getD d [] :: ps.drop (d + 1), !st, ps.take (d + 1)⟩ (false, false) = ⟨!st, ps.drop (d + 1), !st, ps.take (d + 1)⟩ := by
      have : ¬ st = !st := by cases st <;> decide
      simp [exP, hearP, ackP, this]
    rw [e, h, List.take_append_drop]
/-- The numbers of the statement. -/
theorem Inv.numbers {ps : List (List UInt8)} {x : PS} (h : Inv ps x) : x.left.length ≤ ps.length ∧ ps.length - x.left.length ≤ x.got.length ∧ x.got.length ≤ ps.length - x.left.length + 1 ∧ x.got.length ≤ ps.length ∧ x.got = ps.take x.got.length ∧ x.left = ps.drop (ps.length - x.left.length) := by
  obtain ⟨d, hl, hd, hc⟩ := h
  have hll : x.left.length = ps.length - d := by rw [hl, List.length_drop]
  have hdd : ps.length - x.left.length = d := by omega
  rcases hc with ⟨h1, h2⟩ | ⟨h1, h2, h3⟩
  · have hg : x.got.length = d := by rw [h2, List.length_take]; omega
    exact ⟨by omega, by omega, by omega, by omega, by rw [hg]; exact h2, by rw [hdd]; exact hl⟩
  · have hg : x.got.length = d + 1 := by rw [h3, List.length_take]; omega
    exact ⟨by omega, by omega, by omega, by omega, by rw [hg]; exact h3, by rw [hdd]; exact hl⟩

/-- The reference: how many have been acknowledged, which ones have been taken, both toggles. -/
structure RS where
  ack : Nat
  taken : List Nat
  snd : Bool
  rcv : Bool
def stepR (many : Nat) (x : RS) (e : Bool × Bool) : RS :=
  if many ≤ x.ack ∨ e.1 = true then x
  else
    let y : RS := if x.snd = x.rcv then { x with taken := x.taken ++ [x.ack], rcv := !x.rcv } else x
    if e.2 = true then y else { y with ack := y.ack + 1, snd := !y.snd }
/-- The pair that the reference speaks of. -/
def pairR (left got : List (List UInt8)) (x : RS) : PS := ⟨x.snd, left.drop x.ack, x.rcv, got ++ x.taken.map fun i => left.getD i []⟩
theorem pair_step (left got : List (List UInt8)) (x : RS) (e : Bool × Bool) : exP (pairR left got x) e = pairR left got (stepR left.length x e) := by
  obtain ⟨ack, taken, snd, rcv⟩ := x
  unfold exP stepR
  have hc : ((pairR left got ⟨ack, taken, snd, rcv⟩).left.length = 0 ∨ e.1 = true) ↔ (left.length ≤ ack ∨ e.1 = true) := by
    show ((left.drop ack).length = 0 ∨ e.1 = true) ↔ _
    rw [List.length_drop]
    constructor
    · rintro (h | h)
      · exact .inl (by omega)
      · exact .inr h
    · rintro (h | h)
      · exact .inl (by omega)
      · exact .inr h
  by_cases h : left.length ≤ ack ∨ e.1 = true
  · rw [if_pos (hc.2 h), if_pos h]
  · rw [if_neg (fun h' => h (hc.1 h')), if_neg h]
    have hlt : ack < left.length := by omega
    have hg : (left.drop ack).getD 0 [] = left.getD ack [] := by simp [List.getD, List.getElem?_drop]
    by_cases hs : snd = rcv
    · simp only [if_pos hs]
      have hh : hearP (pairR left got ⟨ack, taken, snd, rcv⟩) = pairR left got ⟨ack, taken ++ [ack], snd, !rcv⟩ := by
        unfold hearP pairR
        rw [if_pos hs, hg]
        simp
      rw [hh]
      split
      · rfl
      · simp [ackP, pairR]
    · simp only [if_neg hs]
      have hh : hearP (pairR left got ⟨ack, taken, snd, rcv⟩) = pairR left got ⟨ack, taken, snd, rcv⟩ := by
        unfold hearP pairR
        rw [if_neg hs]
      rw [hh]
      split
      · rfl
      · simp [ackP, pairR]
theorem pair_run (left got : List (List UInt8)) (es : List (Bool × Bool)) : ∀ x : RS, runP (pairR left got x) es = pairR left got (es.foldl (stepR left.length) x) := by
  induction es with
  | nil => intro x; rfl
  | cons e es ih =>
    intro x
    show runP (exP (pairR left got x) e) es = _
    rw [pair_step, ih]; rfl
/-- What was taken has a number. -/
def OkR (many : Nat) (x : RS) : Prop := x.ack ≤ many ∧ ∀ i ∈ x.taken, i < many
theorem OkR.step {many : Nat} {x : RS} (h : OkR many x) (e : Bool × Bool) : OkR many (stepR many x e) ∧ (stepR many x e).taken.length ≤ x.taken.length + 1 := by
  obtain ⟨h1, h2⟩ := h
  unfold stepR
  split
  · exact ⟨⟨h1, h2⟩, by omega⟩
  · have hlt : x.ack < many := by omega
    have hy : ∀ i ∈ x.taken ++ [x.ack], i < many := fun i hi => by
      rcases List.mem_append.1 hi with hi | hi
      · exact h2 i hi
      · obtain rfl := List.mem_singleton.1 hi
        exact hlt
    split
    · split
      · exact ⟨⟨h1, hy⟩, by simp⟩
      · exact ⟨⟨hlt, hy⟩, by simp⟩
    · split
      · exact ⟨⟨h1, h2⟩, Nat.le_succ _⟩
      · exact ⟨⟨hlt, h2⟩, Nat.le_succ _⟩

theorem sliceP_h (A : Option Addr) (n c : Nat) (h : Int) (W : World) (h0 : 0 ≤ h) (h2 : h ≤ c) : (Instr.slice 22 (.slice A n c) none (some (.int .i64 h)) none).run Try.prog W = .ok (.slice A h.toNat c) W := by
  have hs : (sizeOf (Try.prog.elem 22)).run Try.prog W = .ok 1 W := by kernel_rfl
  rw [run_slice_h W 22 A n c (by kernel_rfl) .i64 h h0 h2, hs]
  simp [sliced, Result.andThen]
  intro _; cases A <;> simp [Addr.add]

theorem Try.infoX : (Try.prog.info? 56).map (fun i => (i.zero, i.size, i.bytes)) = some (some (.agg #[.bool false, .bool false]), 2, 2) := by kernel_rfl
/-- make([]toggles.Exchange, n). -/
theorem makeX (n : Nat) (W : World) (h : n ≤ 10000000) : (Instr.makeSlice 51 (.int .i64 (n : Int)) (.int .i64 (n : Int))).run Try.prog W = .ok (.slice (some ⟨W.heap.size, 0, none⟩) n n) (W.alloc (.cells (madeCells #[.bool false, .bool false] (n * 2)) 56)) := by
  obtain ⟨i0, hi, hz0, hz1, hz2⟩ := info_parts Try.infoX
  have := run_make (P := Try.prog) W 51 56 i0 (.agg #[.bool false, .bool false]) Try.underlying51 hi hz0 .i64 .i64 (n : Int) (n : Int) (by omega) (by omega) (by rw [hz2]; omega) (by omega)
  rw [this, Int.toNat_natCast, hz1]
  simp [Value.cells]
theorem rdx_made (n : Nat) (W : World) (h : n ≤ 10000000) : RdX (W.alloc (.cells (madeCells #[.bool false, .bool false] (n * 2)) 56)) (W.alloc (.cells (madeCells #[.bool false, .bool false] (n * 2)) 56)).heap.size (some ⟨W.heap.size, 0, none⟩) n (List.replicate n (false, false)) := by
  refine ⟨by rw [List.length_replicate]; exact Nat.le_refl _, by omega, fun _ => ⟨W.heap.size, 0, rfl, by simp, fun j hj => ?_⟩⟩
  rw [List.length_replicate] at hj
  have hsz : (madeCells #[Value.bool false, Value.bool false] (n * 2)).size = n * 2 := by simp [size_madeCells]
  have hat : ∀ i, i < n * 2 → (madeCells #[Value.bool false, Value.bool false] (n * 2))[i]? = some (.bool false) := fun i hi => by
    rw [Array.getElem?_eq_getElem (by rw [hsz]; exact hi)]
    rcases Nat.mod_two_eq_zero_or_one i with h | h <;> simp [madeCells, h]
  have hg : (List.replicate n (false, false)).getD j (false, false) = (false, false) := by simp [List.getD, hj]
  rw [hg, Nat.zero_add]
  exact ⟨block_at (heap_alloc_new W _) (hat _ (by omega)), block_at (heap_alloc_new W _) (hat _ (by omega))⟩

end Go.Proofs.Ytjilbgdenolllaa
