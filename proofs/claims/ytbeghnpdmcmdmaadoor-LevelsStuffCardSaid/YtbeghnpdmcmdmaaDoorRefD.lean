/-
  Helper text: contracts of the reference's Ones and Unstuff; no statement is proved here.
-/
import Derived.Test.YtbeghnpdmcmdmaaDoorRefC
namespace Go.Proofs.YtbeghnpdmcmdmaaDoor
open Go Go.RowKit

/-- The number of bits 1 at the end. -/
def trail (xs : List UInt8) : Nat := xs.foldl (fun n x => if x = 1 then n + 1 else 0) 0
theorem trail_snoc (xs : List UInt8) (x : UInt8) : trail (xs ++ [x]) = if x = 1 then trail xs + 1 else 0 := by simp [trail, List.foldl_append]
theorem trail_le (xs : List UInt8) : ∀ k, k ≤ xs.length → trail (xs.take k) ≤ k := by
  intro k
  induction k with
  | zero => intro _; simp [trail]
  | succ k ih =>
    intro hk
    have := ih (by omega)
    rw [take_snoc xs (by omega), trail_snoc]
    split <;> omega
/-- The last places are 1, and the one in front of them is not. -/
theorem trail_of (xs : List UInt8) : ∀ k, k ≤ xs.length → (∀ j, j < k → xs.getD (xs.length - 1 - j) 0 = 1) → (k = xs.length ∨ xs.getD (xs.length - 1 - k) 0 ≠ 1) → trail xs = k := by
  have key : ∀ n, n ≤ xs.length → ∀ k, k ≤ n → (∀ j, j < k → xs.getD (n - 1 - j) 0 = 1) → (k = n ∨ xs.getD (n - 1 - k) 0 ≠ 1) → trail (xs.take n) = k := by
    intro n
    induction n with
    | zero => intro _ k hk _ _; have : k = 0 := by omega
              subst this; simp [trail]
    | succ n ih =>
      intro hn k hk h1 h2
      rw [take_snoc xs (by omega), trail_snoc]
      rcases Nat.eq_zero_or_pos k with h0 | h0
      · subst h0
        rw [if_neg]
        rcases h2 with h2 | h2
        · omega
        · simpa using h2
      · have hx := h1 0 h0
        simp only [Nat.add_sub_cancel, Nat.sub_zero] at hx
        rw [if_pos hx]
        have e1 : ∀ j, j < k - 1 → xs.getD (n - 1 - j) 0 = 1 := fun j hj => by
          have := h1 (j + 1) (by omega)
          rwa [show n + 1 - 1 - (j + 1) = n - 1 - j from by omega] at this
        have e2 : k - 1 = n ∨ xs.getD (n - 1 - (k - 1)) 0 ≠ 1 := by
          rcases h2 with h2 | h2
          · left; omega
          · right
            rwa [show n + 1 - 1 - k = n - 1 - (k - 1) from by omega] at h2
        rw [ih (by omega) (k - 1) (by omega) e1 e2]
        omega
  intro k hk h1 h2
  have := key xs.length (Nat.le_refl _) k hk h1 h2
  rwa [List.take_length] at this

set_option maxHeartbeats 1600000 in
set_option maxRecDepth 100000 in
theorem ones_any (w : World) (A : Option Addr) (c : Nat) (xs : List UInt8) (h : Rd w w.heap.size A c xs) (hl : xs.length ≤ 100000) :
    Calls Tryd.prog 17 #[.slice A xs.length c] w fun e w' => e = .returned (.int .i64 ((trail xs : Nat) : Int)) ∧ w = w' := by
  go_enter Tryd.func17, Tryd.ntmps17
  go_wp2
  go_loop [3] (fun i => ∃ k : Nat, k ≤ xs.length ∧ i = .int .i64 k ∧ ∀ j, j < k → xs.getD (xs.length - 1 - j) 0 = 1) (fun i => xs.length - (intOf i).toNat)
  case atStart => exact ⟨0, Nat.zero_le _, rfl, fun j hj => absurd hj (by omega)⟩
  case round =>
    obtain ⟨k, hk, rfl, h1⟩ := hrel
    have H1 := Lib.hid h1
    clear h1
    by_cases hlt : k < xs.length
    · obtain ⟨b, off, rfl, hbB, hcell⟩ := h.at_ (k := xs.length - 1 - k) (by omega)
      have hli : (k : Int) < (xs.length : Int) := by omega
      have hi0 : (0 : Int) ≤ (xs.length : Int) - 1 - (k : Int) := by omega
      have hi1 : (xs.length : Int) - 1 - (k : Int) < (xs.length : Int) := by omega
      by_cases e : xs.getD (xs.length - 1 - k) 0 = 1
      · have He := Lib.hid e
        rw [e] at hcell
        clear e
        go_wp2
        go_round
        case rel => exact ⟨k + 1, by omega, by go_num, fun j hj => by
          rcases Nat.lt_or_ge j k with h2 | h2
          · exact H1.out j h2
          · have hjk : j = k := by omega
            subst hjk
            exact He.out⟩
        case measure => simp [intOf]; omega
      · have ht := trail_of xs k hk H1.out (.inr e)
        have Ht := Lib.hid ht
        have te : (((xs.getD (xs.length - 1 - k) 0).toNat : Int) == 1) = false := by
          rw [beq_eq_false_iff_ne]
          exact fun hh => e ((u8_eq_one _).2 hh)
        clear ht e
        generalize xs.getD (xs.length - 1 - k) 0 = x at hcell te
        go_wp2
        go_ret
        exact ⟨by rw [Ht.out]; rfl, rfl⟩
    · have hk9 : k = xs.length := by omega
      have ht := trail_of xs k hk H1.out (.inl hk9)
      have Ht := Lib.hid ht
      have hli : ¬ (k : Int) < (xs.length : Int) := by omega
      clear ht hk9
      go_wp2
      go_ret
      exact ⟨by rw [Ht.out]; rfl, rfl⟩

theorem behind_any (w : World) (A : Option Addr) (c : Nat) (xs : List UInt8) (h : Rd w w.heap.size A c xs) (hl : xs.length ≤ 100000) :
    Calls Tryd.prog 37 #[.slice A xs.length c] w fun e w' => e = .returned (.bool ((((trail xs : Nat) : Int)) == 6)) ∧ w = w' := by
  have k1 := Lib.hid (ones_any w A c xs h hl)
  go_enter Tryd.func37, Tryd.ntmps37
  go_wp2_with fail
  refine k1.out.mono ?_
  rintro e w' ⟨rfl, rfl⟩
  go_wp2
  go_ret
  exact ⟨rfl, rfl⟩

theorem unS_trail (ys : List UInt8) (hv : validL ys = true) : ∀ k, k ≤ ys.length → ∀ n us, unS (ys.take k) = some (n, us) → n = trail (ys.take k) ∧ us.length ≤ k := by
  intro k
  induction k with
  | zero =>
    intro _ n us h
    simp [unS] at h
    obtain ⟨rfl, rfl⟩ := h
    simp [trail]
  | succ k ih =>
    intro hk n us h
    rw [unS_snoc ys (by omega)] at h
    rw [take_snoc ys (by omega), trail_snoc]
    cases hu : unS (ys.take k) with
    | none => rw [hu] at h; cases h
    | some p =>
      obtain ⟨m, zs⟩ := p
      obtain ⟨i1, i2⟩ := ih (by omega) m zs hu
      have hx := validL_get hv (k := k) (by omega)
      rw [hu] at h
      generalize ys.getD k 0 = x at h hx
      rw [← i1]
      have hob : onesB m x = if x = 1 then m + 1 else 0 := by
        unfold onesB
        rcases u8_01 hx with rfl | rfl <;> rfl
      unfold stepU at h
      simp only at h
      split at h
      · simp only [Option.some.injEq, Prod.mk.injEq] at h
        obtain ⟨rfl, rfl⟩ := h
        exact ⟨hob, by simp; omega⟩
      · split at h
        · cases h
        · simp only [Option.some.injEq, Prod.mk.injEq] at h
          obtain ⟨rfl, rfl⟩ := h
          exact ⟨hob, by omega⟩

/-- What holds at the head of the loop. -/
def UnRel2 (xs : List UInt8) (w wr : World) (o : Value) (k : Nat) : Prop :=
  ∃ m ys, unS (xs.take k) = some (m, ys) ∧ m < 6 ∧ ys.length ≤ k ∧ wr.ownsRow w.heap.size 5 1 o ys.length (ys.map bv) ∧ Below w.heap.size w wr

set_option maxHeartbeats 3200000 in
set_option maxRecDepth 100000 in
theorem refUnstuff_any (w : World) (A : Option Addr) (c : Nat) (xs : List UInt8) (h : Rd w w.heap.size A c xs) (hl : xs.length ≤ 100000) (hv : validL xs = true) :
    Calls Tryd.prog 19 #[.slice A xs.length c] w (ResT w (optL (unstuffL xs)) (unstuffL xs).isSome) := by
  have hle := h.le
  have Hv := Lib.hid hv
  clear hv
  go_enter Tryd.func19, Tryd.ntmps19
  go_wp2
  go_loopw [4, 5] (fun o i wr => ∃ k : Nat, k ≤ xs.length ∧ i = .int .i64 k ∧ UnRel2 xs w wr o k) (fun _ i _ => xs.length - (intOf i).toNat)
  case atStart => exact ⟨0, Nat.zero_le _, rfl, 0, [], rfl, by omega, by simp, World.ownsRow_nil _ _ _ _, Below.refl _ _⟩
  case round =>
    obtain ⟨k, hk, rfl, m, ys, hst, hm6, hyl, hown, hb⟩ := hrel
    by_cases hlt : k < xs.length
    · obtain ⟨b, off, hA, hbB, hcell⟩ := (h.below hb).at_ hlt
      subst hA
      have hli : (k : Int) < (xs.length : Int) := by omega
      have hvx := validL_get Hv.out hlt
      have hsn : unS (xs.take (k + 1)) = some (onesB m (xs.getD k 0), ys ++ [xs.getD k 0]) := by rw [unS_snoc xs hlt, hst, stepU_lt hm6]
      have htr := (unS_trail xs Hv.out (k + 1) (by omega) _ _ hsn).1
      have htl := trail_le xs (k + 1) (by omega)
      have hsl := fun (W : World) => slice_h (some ⟨b, off, none⟩) xs.length c ((k : Int) + 1) W (by omega) (by omega)
      rw [show ((k : Int) + 1).toNat = k + 1 from by omega] at hsl
      have hcc : ∀ w2, Below w.heap.size wr w2 → w2.cell? ⟨b, off + k, none⟩ = some (bv (xs.getD k 0)) := fun w2 h2 => (h2.cell (p := ⟨b, off + k, none⟩) hbB).trans hcell
      have hrd : ∀ w2, Below w.heap.size w w2 → Rd w2 w2.heap.size (some ⟨b, off, none⟩) c (xs.take (k + 1)) := fun w2 h2 => ((h.belowTop h2).take (by omega))
      have htk : (xs.take (k + 1)).length = k + 1 := by rw [List.length_take]; omega
      have hkb := fun (w2 : World) (h2 : Below w.heap.size w w2) => behind_any w2 (some ⟨b, off, none⟩) c (xs.take (k + 1)) (hrd w2 h2) (by omega)
      rw [htk, ← htr] at hkb
      have Hkb := Lib.hid hkb
      have Hcc := Lib.hid hcc
      have Hsn := Lib.hid hsn
      have Htr := Lib.hid htr
      clear hkb hcc hsn hrd htk hst
      rcases u8_01 hvx with hx | hx
      · -- a bit 0
        rw [hx] at hcell Hcc Hsn
        have ho : onesB m 0 = 0 := rfl
        rw [ho] at Hsn
        clear Htr Hkb htl ho hvx hx
        by_cases h5 : k < 5
        · have t5 : ¬ (6 : Int) ≤ (k : Int) + 1 := by omega
          clear hsl
          go_wp2_with (at_builtin; refine wpl_append1 Tryd.underlying22 Tryd.info5 rfl (.tmp 10) (.tmp 15) rfl w.heap.size u4 ys rfl hown 0 _ rfl rfl (by omega) hb.size ?_; intro v' w1 hown2 hb2; have hcell2 := Hcc.out w1 hb2)
          go_roundw
          case rel => exact ⟨k + 1, by omega, by go_num, 0, ys ++ [0], Hsn.out, by omega, by simp; omega, hown2, hb.trans hb2⟩
          case measure => simp [intOf]; omega
        · have t5 : (6 : Int) ≤ (k : Int) + 1 := by omega
          clear hsl
          go_wp2_with (at_builtin; refine wpl_append1 Tryd.underlying22 Tryd.info5 rfl (.tmp 10) (.tmp 15) rfl w.heap.size u4 ys rfl hown 0 _ rfl rfl (by omega) hb.size ?_; intro v' w1 hown2 hb2; have hcell2 := Hcc.out w1 hb2)
          go_roundw
          case rel => exact ⟨k + 1, by omega, by go_num, 0, ys ++ [0], Hsn.out, by omega, by simp; omega, hown2, hb.trans hb2⟩
          case measure => simp [intOf]; omega
      · -- a bit 1
        rw [hx] at hcell Hcc Hsn Htr Hkb
        have ho : onesB m 1 = m + 1 := rfl
        rw [ho] at Hsn Htr Hkb
        clear ho hvx hx
        have hmk : m + 1 ≤ k + 1 := by have := Htr.out; omega
        clear htl
        by_cases h5 : k < 5
        · have t5 : ¬ (6 : Int) ≤ (k : Int) + 1 := by omega
          clear hsl Hkb
          go_wp2_with (at_builtin; refine wpl_append1 Tryd.underlying22 Tryd.info5 rfl (.tmp 10) (.tmp 15) rfl w.heap.size u4 ys rfl hown 1 _ rfl rfl (by omega) hb.size ?_; intro v' w1 hown2 hb2; have hcell2 := Hcc.out w1 hb2)
          go_roundw
          case rel => exact ⟨k + 1, by omega, by go_num, m + 1, ys ++ [1], Hsn.out, by omega, by simp; omega, hown2, hb.trans hb2⟩
          case measure => simp [intOf]; omega
        · have t5 : (6 : Int) ≤ (k : Int) + 1 := by omega
          by_cases h6 : m = 5
          · subst h6
            have Hkb2 : Hid (∀ (w2 : World), Below w.heap.size w w2 → Calls Tryd.prog 37 #[.slice (some ⟨b, off, none⟩) (k + 1) c] w2 fun e w' => e = .returned (.bool true) ∧ w2 = w') := Hkb.out
            clear Hkb Htr
            by_cases hend : k + 1 = xs.length
            · have tend : ((k : Int) + 1 == (xs.length : Int)) = true := by rw [beq_iff_eq]; omega
              have hfin : unstuffL xs = none := by
                have := Hsn.out
                rw [hend, List.take_length] at this
                unfold unstuffL
                rw [this]
                rfl
              have Hfin := Lib.hid hfin
              clear hfin hend
              go_wp2_with (first | (at_builtin; refine wpl_append1 Tryd.underlying22 Tryd.info5 rfl (.tmp 10) (.tmp 15) rfl w.heap.size u4 ys rfl hown 1 _ rfl rfl (by omega) hb.size ?_; intro v' w1 hown2 hb2; have hcell2 := Hcc.out w1 hb2) | (go_at_call 37; refine (Hkb2.out _ (hb.trans hb2)).mono ?_; rintro e w' ⟨rfl, rfl⟩))
              go_ret2
              rw [Hfin.out]
              exact ⟨_, _, rfl, Rd.nil _ _, hb.trans hb2⟩
            · have hlt2 : k + 1 < xs.length := by omega
              have tend : ((k : Int) + 1 == (xs.length : Int)) = false := by rw [beq_eq_false_iff_ne]; omega
              obtain ⟨b', off', hbo, _, hcelln⟩ := (h.below hb).at_ hlt2
              obtain ⟨rfl, rfl⟩ : b = b' ∧ off = off' := by simpa using hbo
              clear hbo
              have hcn : ∀ w2, Below w.heap.size wr w2 → w2.cell? ⟨b, off + (k + 1), none⟩ = some (bv (xs.getD (k + 1) 0)) := fun w2 h2 => (h2.cell (p := ⟨b, off + (k + 1), none⟩) hbB).trans hcelln
              have hvy := validL_get Hv.out hlt2
              have hsn2 := unS_snoc xs hlt2
              rw [Hsn.out] at hsn2
              have Hcn := Lib.hid hcn
              clear hcn hcelln
              rcases u8_01 hvy with hy | hy
              · rw [hy] at hsn2 Hcn
                rw [stepU_six] at hsn2
                have Hsn2 := Lib.hid hsn2
                have hli2 : (k : Int) + 1 < (xs.length : Int) := by omega
                clear hsn2 hy hvy hend
                go_wp2_with (first | (at_builtin; refine wpl_append1 Tryd.underlying22 Tryd.info5 rfl (.tmp 10) (.tmp 15) rfl w.heap.size u4 ys rfl hown 1 _ rfl rfl (by omega) hb.size ?_; intro v' w1 hown2 hb2; have hcell2 := Hcc.out w1 hb2; have hcell3 := Hcn.out w1 hb2) | (go_at_call 37; refine (Hkb2.out _ (hb.trans hb2)).mono ?_; rintro e w' ⟨rfl, rfl⟩))
                go_roundw
                case rel => exact ⟨k + 2, by omega, by go_num, 0, ys ++ [1], Hsn2.out, by omega, by simp; omega, hown2, hb.trans hb2⟩
                case measure => simp [intOf]; omega
              · rw [hy] at hsn2 Hcn
                have hno : stepU (some (5 + 1, ys ++ [1])) 1 = none := by simp [stepU]
                rw [hno] at hsn2
                have hfin : unstuffL xs = none := by unfold unstuffL; rw [unS_none xs hsn2]
                have Hfin := Lib.hid hfin
                have hli2 : (k : Int) + 1 < (xs.length : Int) := by omega
                clear hsn2 hno hfin hy hvy hend
                go_wp2_with (first | (at_builtin; refine wpl_append1 Tryd.underlying22 Tryd.info5 rfl (.tmp 10) (.tmp 15) rfl w.heap.size u4 ys rfl hown 1 _ rfl rfl (by omega) hb.size ?_; intro v' w1 hown2 hb2; have hcell2 := Hcc.out w1 hb2; have hcell3 := Hcn.out w1 hb2) | (go_at_call 37; refine (Hkb2.out _ (hb.trans hb2)).mono ?_; rintro e w' ⟨rfl, rfl⟩))
                go_ret2
                rw [Hfin.out]
                exact ⟨_, _, rfl, Rd.nil _ _, hb.trans hb2⟩
          · have Hkb2 : Hid (∀ (w2 : World), Below w.heap.size w w2 → Calls Tryd.prog 37 #[.slice (some ⟨b, off, none⟩) (k + 1) c] w2 fun e w' => e = .returned (.bool false) ∧ w2 = w') := by
              have h0 := Hkb.out
              rw [show (((m + 1 : Nat) : Int) == 6) = false from by rw [beq_eq_false_iff_ne]; omega] at h0
              exact h0
            have hm5 : m + 1 < 6 := by omega
            clear Hkb Htr h6
            go_wp2_with (first | (at_builtin; refine wpl_append1 Tryd.underlying22 Tryd.info5 rfl (.tmp 10) (.tmp 15) rfl w.heap.size u4 ys rfl hown 1 _ rfl rfl (by omega) hb.size ?_; intro v' w1 hown2 hb2; have hcell2 := Hcc.out w1 hb2) | (go_at_call 37; refine (Hkb2.out _ (hb.trans hb2)).mono ?_; rintro e w' ⟨rfl, rfl⟩))
            go_roundw
            case rel => exact ⟨k + 1, by omega, by go_num, m + 1, ys ++ [1], Hsn.out, hm5, by simp; omega, hown2, hb.trans hb2⟩
            case measure => simp [intOf]; omega
    · have hk9 : k = xs.length := by omega
      subst hk9
      rw [List.take_length] at hst
      have hfin : unstuffL xs = some ys := by unfold unstuffL; rw [hst]; simp only; rw [if_neg (by omega)]
      have Hfin := Lib.hid hfin
      clear hfin hst
      obtain ⟨A', c', rfl, hr⟩ := Rd.of_own hown
      go_wp2
      go_ret2
      rw [Hfin.out]
      exact ⟨A', c', rfl, hr, hb⟩

end Go.Proofs.YtbeghnpdmcmdmaaDoor
