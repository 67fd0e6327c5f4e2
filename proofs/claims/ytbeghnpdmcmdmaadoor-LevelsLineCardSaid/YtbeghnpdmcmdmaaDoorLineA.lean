/-
  Helper text: what the listener makes of a line of packets, and of one with a changed state; no statement is proved here.
-/
import Derived.Test.YtbeghnpdmcmdmaaDoorList
import Derived.Test.YtbeghnpdmcmdmaaDoorCode
import Derived.Test.YtbeghnpdmcmdmaaDoorRefB
namespace Go.Proofs.YtbeghnpdmcmdmaaDoor
open Go Go.RowKit

abbrev LsT := Option (List UInt8) × List (List UInt8) × Nat
theorem ls_grow (xs : List UInt8) : ∀ s : LsT, ∃ t, (xs.foldl stepLs s).2.1 = s.2.1 ++ t := by
  induction xs with
  | nil => exact fun s => ⟨[], by simp⟩
  | cons x xs ih =>
    intro s
    obtain ⟨t, ht⟩ := ih (stepLs s x)
    have h1 : ∃ t, (stepLs s x).2.1 = s.2.1 ++ t := by
      obtain ⟨_ | p, ps, d⟩ := s
      · simp only [stepLs]
        split <;> exact ⟨[], by simp⟩
      · simp only [stepLs]
        split
        · split
          · exact ⟨_, rfl⟩
          · exact ⟨[], by simp⟩
        · exact ⟨[], by simp⟩
    obtain ⟨t', ht'⟩ := h1
    exact ⟨t' ++ t, by rw [List.foldl_cons, ht, ht', List.append_assoc]⟩
theorem ls_zeros (n : Nat) (ps : List (List UInt8)) (d : Nat) : (List.replicate n 0).foldl stepLs (none, ps, d) = (none, ps, d) := by
  induction n with
  | zero => rfl
  | succ n ih => rw [List.replicate_succ, List.foldl_cons]; simpa [stepLs] using ih
theorem ls_two (s : LsT) : ∃ p, (stepLs s 2).1 = some p ∧ p.getLast? = some 2 ∧ (stepLs s 2).2 = s.2 := by
  obtain ⟨_ | p, ps, d⟩ := s
  · exact ⟨[2], rfl, rfl, rfl⟩
  · exact ⟨p ++ [2], by simp [stepLs], by simp, by simp [stepLs]⟩
theorem ls_end (xs : List UInt8) (s : LsT) : ((xs ++ [2, 2, 0]).foldl stepLs s).1 = none := by
  rw [List.foldl_append]
  generalize xs.foldl stepLs s = s
  obtain ⟨p, h1, h2, h3⟩ := ls_two (stepLs s 2)
  show (stepLs (stepLs (stepLs s 2) 2) 0).1 = none
  generalize stepLs (stepLs s 2) 2 = s at h1
  obtain ⟨q, ps, d⟩ := s
  subst h1
  show (stepLs (some p, ps, d) 0).1 = none
  simp only [stepLs]
  rw [if_pos ⟨trivial, h2⟩]
  split <;> rfl
theorem ls_body (xs : List UInt8) (hv : ∀ x ∈ xs, x.toNat ≤ 1) : ∀ (p : List UInt8) (ps : List (List UInt8)) (d : Nat), p.getLast? ≠ some 2 → xs.foldl stepLs (some p, ps, d) = (some (p ++ xs), ps, d) := by
  induction xs with
  | nil => intros; simp
  | cons x xs ih =>
    intro p ps d hp
    rw [List.foldl_cons]
    have h1 : stepLs (some p, ps, d) x = (some (p ++ [x]), ps, d) := by
      simp only [stepLs]
      rw [if_neg (fun h => hp h.2)]
    rw [h1, ih (fun y hy => hv y (List.mem_cons_of_mem _ hy)) (p ++ [x]) ps d ?_]
    · simp
    · rw [List.getLast?_append]
      simp only [List.getLast?_singleton, Option.some_or, ne_eq, Option.some.injEq]
      intro h
      subst h
      have := hv 2 (List.mem_cons_self ..)
      exact absurd this (by decide)
theorem ls_packet (b : List UInt8) (hv : ∀ x ∈ b, x.toNat ≤ 1) (h0 : b.head? = some 1) (ps : List (List UInt8)) (d : Nat) (q : List UInt8) (hq : recvL (b ++ [2, 2, 0]) = (q, 0)) :
    (b ++ [2, 2, 0]).foldl stepLs (none, ps, d) = (none, ps ++ [q], d) := by
  obtain _ | ⟨x, b⟩ := b
  · simp at h0
  obtain rfl : x = 1 := by simpa using h0
  rw [List.foldl_append]
  rw [show (1 :: b) = [1] ++ b from rfl, List.foldl_append]
  have h1 : [1].foldl stepLs (none, ps, d) = (some [1], ps, d) := rfl
  rw [h1, ls_body b (fun y hy => hv y (List.mem_cons_of_mem _ hy)) [1] ps d (by decide)]
  have hl : ([1] ++ b).getLast? ≠ some 2 := by
    intro h
    have hm := List.mem_of_getLast? h
    exact absurd (hv 2 hm) (by decide)
  generalize hp : [1] ++ b = p at hl
  rw [show (1 :: b) = [1] ++ b from rfl, hp] at hq
  have e1 : stepLs (some p, ps, d) 2 = (some (p ++ [2]), ps, d) := by simp [stepLs]
  have e2 : stepLs (some (p ++ [2]), ps, d) 2 = (some (p ++ [2, 2]), ps, d) := by simp [stepLs]
  have e3 : stepLs (some (p ++ [2, 2]), ps, d) 0 = (none, ps ++ [q], d) := by
    simp only [stepLs]
    have e4 : p ++ [2, 2] ++ [0] = p ++ [2, 2, 0] := by simp
    rw [e4, hq, if_pos ⟨trivial, by simp⟩]
    rfl
  simp only [List.foldl_cons, List.foldl_nil]
  rw [e1, e2, e3]

/-- The states of a packet begin with K and hold J and K up to the end. -/
theorem send_shape (xs : List UInt8) : ∃ b, sendL xs = b ++ [2, 2, 0] ∧ (∀ x ∈ b, x.toNat ≤ 1) ∧ b.head? = some 1 := by
  refine ⟨encL (stuffL (syncL ++ bitsL xs)), rfl, fun x hx => ?_, ?_⟩
  · have := validL_encL (stuffL (syncL ++ bitsL xs))
    unfold validL at this
    rw [List.all_eq_true] at this
    simpa using this x hx
  · have hs : ∃ t, stuffL (syncL ++ bitsL xs) = 0 :: t := by
      rw [stuffL_emit]
      exact ⟨(emit 0 ([0, 0, 0, 0, 0, 0, 1] ++ bitsL xs)).2, by simp [syncL, emit, onesB]⟩
    obtain ⟨t, ht⟩ := hs
    rw [ht]
    have hl : 0 < (encL (0 :: t)).length := by rw [encL_len]; simp
    have hg := encL_get (0 :: t) (k := 0) (by simp)
    rw [List.head?_eq_getElem?, List.getElem?_eq_getElem hl]
    simp only [List.getD, List.getElem?_eq_getElem hl, Option.getD_some] at hg
    rw [hg]
    rfl
/-- What is laid for one packet: idle J, then its states. -/
abbrev blk (n : Nat) (xs : List UInt8) : List UInt8 := List.replicate n 0 ++ sendL xs
theorem ls_blk (n : Nat) (xs : List UInt8) (h1 : 0 < xs.length) (h2 : xs.length ≤ 1027) (ps : List (List UInt8)) (d : Nat) : (blk n xs).foldl stepLs (none, ps, d) = (none, ps ++ [xs], d) := by
  rw [blk, List.foldl_append, ls_zeros]
  obtain ⟨b, e, hv, h0⟩ := send_shape xs
  have hr := recv_send xs h1 h2
  rw [e] at hr ⊢
  exact ls_packet b hv h0 ps d xs hr
theorem ls_blk_end (n : Nat) (xs : List UInt8) (s : LsT) : ((blk n xs).foldl stepLs s).1 = none := by
  obtain ⟨b, e, _, _⟩ := send_shape xs
  rw [blk, e, ← List.append_assoc]
  exact ls_end _ s

/-- A line: idle J and packets. -/
def lineL (bs : List (Nat × List UInt8)) : List UInt8 := bs.flatMap fun b => blk b.1 b.2
/-- Its packets. -/
abbrev packL (bs : List (Nat × List UInt8)) : List (List UInt8) := bs.map (·.2)
def okB (bs : List (Nat × List UInt8)) : Prop := ∀ b ∈ bs, b.1 ≤ 255 ∧ 0 < b.2.length ∧ b.2.length ≤ 60
theorem lineL_snoc (bs : List (Nat × List UInt8)) (n : Nat) (xs : List UInt8) : lineL (bs ++ [(n, xs)]) = lineL bs ++ List.replicate n 0 ++ sendL xs := by simp [lineL, blk]
theorem ls_line (bs : List (Nat × List UInt8)) (h : okB bs) : ∀ (ps : List (List UInt8)) (d : Nat), (lineL bs).foldl stepLs (none, ps, d) = (none, ps ++ packL bs, d) := by
  induction bs with
  | nil => intro ps d; simp [lineL]
  | cons b bs ih =>
    intro ps d
    have hb := h b (List.mem_cons_self ..)
    have e : lineL (b :: bs) = blk b.1 b.2 ++ lineL bs := by simp [lineL]
    rw [e, List.foldl_append, ls_blk _ _ hb.2.1 (by omega), ih (fun x hx => h x (List.mem_cons_of_mem _ hx))]
    simp
theorem listen_line (bs : List (Nat × List UInt8)) (h : okB bs) : listenL (lineL bs) = (packL bs, 0) := by
  unfold listenL lsS
  rw [ls_line bs h [] 0]
  simp
theorem line_len (bs : List (Nat × List UInt8)) (h : okB bs) : (lineL bs).length ≤ 1300 * bs.length := by
  induction bs with
  | nil => simp [lineL]
  | cons b bs ih =>
    have hb := h b (List.mem_cons_self ..)
    have e : lineL (b :: bs) = blk b.1 b.2 ++ lineL bs := by simp [lineL]
    have hs : (sendL b.2).length ≤ 2 * (8 + 8 * b.2.length) + 3 := by
      have := stuffL_len (syncL ++ bitsL b.2)
      rw [List.length_append, bitsL_len] at this
      have e8 : syncL.length = 8 := rfl
      have e3 : endL.length = 3 := rfl
      unfold sendL
      rw [List.length_append, encL_len, e3]
      omega
    have := ih (fun x hx => h x (List.mem_cons_of_mem _ hx))
    rw [e, List.length_append, blk, List.length_append, List.length_replicate, List.length_cons]
    omega

/-- One state of packet k is changed: what is in front stays. -/
theorem changed_front (fs : List (Nat × List UInt8)) (hf : okB fs) (ys : List UInt8) : ∃ t, (listenL (lineL fs ++ ys)).1 = packL fs ++ t := by
  unfold listenL lsS
  rw [List.foldl_append, ls_line fs hf [] 0]
  obtain ⟨t, ht⟩ := ls_grow ys (none, [] ++ packL fs, 0)
  exact ⟨t, by simpa using ht⟩
/-- .. and so does what is behind the next one. -/
theorem changed_rest (fs : List (Nat × List UInt8)) (hf : okB fs) (ys : List UInt8) (b : Nat × List UInt8) (rs : List (Nat × List UInt8)) (hr : okB rs) : ∃ t, (listenL (lineL fs ++ ys ++ lineL (b :: rs))).1 = packL fs ++ t ++ packL rs := by
  have e : lineL (b :: rs) = blk b.1 b.2 ++ lineL rs := by simp [lineL]
  unfold listenL lsS
  rw [List.foldl_append, List.foldl_append, ls_line fs hf [] 0, e, List.foldl_append]
  obtain ⟨t1, h1⟩ := ls_grow ys (none, [] ++ packL fs, 0)
  generalize ys.foldl stepLs (none, [] ++ packL fs, 0) = s at h1
  obtain ⟨t2, h2⟩ := ls_grow (blk b.1 b.2) s
  have h3 := ls_blk_end b.1 b.2 s
  generalize (blk b.1 b.2).foldl stepLs s = s2 at h2 h3
  obtain ⟨p, ps, d⟩ := s2
  simp only at h2 h3
  subst h3
  rw [ls_line rs hr]
  refine ⟨t1 ++ t2, ?_⟩
  simp only
  rw [h2, h1]
  simp

end Go.Proofs.YtbeghnpdmcmdmaaDoor
