/-
  Helper text: the error of a transaction; no statement is proved here.
-/
import Derived.Test.YtkfkcpogcobmbaaDoorTok
namespace Go.Proofs.YtkfkcpogcobmbaaDoor
open Go Go.RowKit

/-- Whether the fields of a transaction are in range, and go together. -/
def Tr.Pos (t : Tr) : Prop := t.addr ≤ 127 ∧ t.endp ≤ 15 ∧ ¬ (t.iso = true ∧ t.tog = true) ∧ ((t.what = 9 ∧ 0 ≤ t.max ∧ t.max ≤ 1024 ∧ t.data.length = 0) ∨ (t.what = 1 ∧ t.max = 0) ∨ (t.what = 13 ∧ t.max = 0 ∧ t.iso = false ∧ t.tog = false))
instance (t : Tr) : Decidable t.Pos := by unfold Tr.Pos; infer_instance
/-- The error of a transaction. -/
def Tr.err (t : Tr) : Nat := if t.Pos then (if t.what = 13 ∧ t.data.length ≠ 8 then 5 else if 1024 < t.data.length then 3 else 0) else 1

set_option maxHeartbeats 1600000 in
set_option maxRecDepth 100000 in
theorem pos_any (w : World) (t : Tr) (A : Option Addr) (c : Nat) (B : Bool) (hB : decide t.Pos = B) : Calls Tryd.prog 35 #[trV t A c] w (ResV w (.bool B)) := by
  obtain ⟨ad, en, wh, tg, is, mx, xs⟩ := t
  have Hb := Lib.hid ((Below.refl w.heap.size w).alloc (Nat.le_refl _) (trB ⟨ad, en, wh, tg, is, mx, xs⟩ A c))
  unfold Tr.Pos at hB
  simp only [trV, trL, trB] at *
  have HB := Lib.hid hB
  clear hB
  by_cases h1 : (127 : Int) < (ad : Int)
  · have : B = false := by rw [← HB.out]; simp; omega
    subst this
    go_enter Tryd.func35, Tryd.ntmps35
    go_wp2
    go_ret
    exact ⟨rfl, Hb.out⟩
  by_cases h2 : (15 : Int) < (en : Int)
  · have : B = false := by rw [← HB.out]; simp; omega
    subst this
    go_enter Tryd.func35, Tryd.ntmps35
    go_wp2
    go_ret
    exact ⟨rfl, Hb.out⟩
  by_cases h3 : is = true ∧ tg = true
  · obtain ⟨rfl, rfl⟩ := h3
    have : B = false := by rw [← HB.out]; simp
    subst this
    go_enter Tryd.func35, Tryd.ntmps35
    go_wp2
    go_ret
    exact ⟨rfl, Hb.out⟩
  have h3' : (is = false) ∨ (is = true ∧ tg = false) := by cases is <;> cases tg <;> simp_all
  clear h3
  have ha : ad ≤ 127 := by omega
  have he : en ≤ 15 := by omega
  have H1 := Lib.hid ha
  have H2 := Lib.hid he
  clear ha he
  obtain ⟨b9, hb9⟩ : ∃ b9, (wh == 9) = b9 := ⟨_, rfl⟩
  obtain ⟨b1, hb1⟩ : ∃ b1, (wh == 1) = b1 := ⟨_, rfl⟩
  obtain ⟨b13, hb13⟩ : ∃ b13, (wh == 13) = b13 := ⟨_, rfl⟩
  have i9 : ((wh : Int) == 9) = b9 := by rw [show ((wh : Int) == 9) = (wh == 9) from castEq wh 9, hb9]
  have i1 : ((wh : Int) == 1) = b1 := by rw [show ((wh : Int) == 1) = (wh == 1) from castEq wh 1, hb1]
  have i13 : ((wh : Int) == 13) = b13 := by rw [show ((wh : Int) == 13) = (wh == 13) from castEq wh 13, hb13]
  have B9 := Lib.hid hb9
  have B1 := Lib.hid hb1
  have B13 := Lib.hid hb13
  clear hb9 hb1 hb13
  have G : ∀ (C : Bool), ((is = true → tg = false) → decide (ad ≤ 127 ∧ en ≤ 15 ∧ ¬(is = true ∧ tg = true) ∧ (wh = 9 ∧ 0 ≤ mx ∧ mx ≤ 1024 ∧ xs.length = 0 ∨ wh = 1 ∧ mx = 0 ∨ wh = 13 ∧ mx = 0 ∧ is = false ∧ tg = false)) = C) → B = C := fun _ h => by
    rw [← HB.out]
    exact h (fun h' => by rcases h3' with h | h; (rw [h] at h'; cases h'); exact h.2)
  have G' := Lib.hid G
  clear G HB
  cases b9
  · cases b1
    · cases b13
      · have hw9 : wh ≠ 9 := by simpa using B9.out
        have hw1 : wh ≠ 1 := by simpa using B1.out
        have hw13 : wh ≠ 13 := by simpa using B13.out
        have : B = false := G'.out _ fun _ => by simp [hw9, hw1, hw13]
        subst this
        clear hw9 hw1 hw13
        rcases h3' with rfl | ⟨rfl, rfl⟩
        all_goals
          go_enter Tryd.func35, Tryd.ntmps35
          go_wp2
          go_ret
          exact ⟨rfl, Hb.out⟩
      · have hw13 : wh = 13 := by simpa using B13.out
        obtain ⟨bm, hbm⟩ : ∃ bm, ((mx : Int) == 0) = bm := ⟨_, rfl⟩
        have : B = (bm && !is && !tg) := G'.out _ fun _ => by
          rw [← hbm, hw13]
          have h1 := H1.out
          have h2 := H2.out
          cases is <;> cases tg <;> simp [h1, h2] <;> rfl
        clear hw13
        rcases h3' with rfl | ⟨rfl, rfl⟩
        · cases bm
          · subst this
            go_enter Tryd.func35, Tryd.ntmps35
            go_wp2
            go_ret
            exact ⟨rfl, Hb.out⟩
          · subst this
            cases tg
            all_goals
              go_enter Tryd.func35, Tryd.ntmps35
              go_wp2
              go_ret
              exact ⟨rfl, Hb.out⟩
        · cases bm
          all_goals
            subst this
            go_enter Tryd.func35, Tryd.ntmps35
            go_wp2
            go_ret
            exact ⟨rfl, Hb.out⟩
    · have hw1 : wh = 1 := by simpa using B1.out
      obtain ⟨bm, hbm⟩ : ∃ bm, ((mx : Int) == 0) = bm := ⟨_, rfl⟩
      have : B = bm := G'.out _ fun h => by
        rw [← hbm, hw1]
        have h1 := H1.out
        have h2 := H2.out
        cases is <;> cases tg <;> simp [h1, h2] at h ⊢ <;> rfl
      subst this
      clear hw1
      rcases h3' with rfl | ⟨rfl, rfl⟩
      all_goals
        go_enter Tryd.func35, Tryd.ntmps35
        go_wp2
        go_ret
        exact ⟨rfl, Hb.out⟩
  · have hw9 : wh = 9 := by simpa using B9.out
    by_cases hm0 : 0 ≤ mx
    · by_cases hm1 : mx ≤ 1024
      · obtain ⟨bz, hbz⟩ : ∃ bz, ((xs.length : Int) == 0) = bz := ⟨_, rfl⟩
        have : B = bz := G'.out _ fun h => by
          rw [← hbz, hw9, show ((xs.length : Int) == 0) = (xs.length == 0) from castEq xs.length 0]
          have h1 := H1.out
          have h2 := H2.out
          cases is <;> cases tg <;> simp [h1, h2, hm0, hm1] at h ⊢ <;> (cases xs <;> rfl)
        subst this
        clear hw9
        rcases h3' with rfl | ⟨rfl, rfl⟩
        all_goals
          go_enter Tryd.func35, Tryd.ntmps35
          go_wp2
          go_ret
          exact ⟨rfl, Hb.out⟩
      · have : B = false := G'.out _ fun _ => by rw [hw9]; simp [hm1]
        subst this
        clear hw9
        rcases h3' with rfl | ⟨rfl, rfl⟩
        all_goals
          go_enter Tryd.func35, Tryd.ntmps35
          go_wp2
          go_ret
          exact ⟨rfl, Hb.out⟩
    · have : B = false := G'.out _ fun _ => by rw [hw9]; simp [hm0]
      subst this
      clear hw9
      rcases h3' with rfl | ⟨rfl, rfl⟩
      all_goals
        go_enter Tryd.func35, Tryd.ntmps35
        go_wp2
        go_ret
        exact ⟨rfl, Hb.out⟩

set_option maxHeartbeats 1600000 in
set_option maxRecDepth 100000 in
theorem tcheck_any (w : World) (t : Tr) (A : Option Addr) (c : Nat) (hle : t.data.length ≤ 9223372036854775807) : Calls Tryd.prog 15 #[trV t A c] w (ResV w (.int .i64 (t.err : Int))) := by
  obtain ⟨B, hB⟩ : ∃ B, decide t.Pos = B := ⟨_, rfl⟩
  have KP := Lib.hid fun X => pos_any X t A c B hB
  have hE : t.err = if B = true then (if t.what = 13 ∧ t.data.length ≠ 8 then 5 else if 1024 < t.data.length then 3 else 0) else 1 := by
    unfold Tr.err
    subst hB
    simp only [decide_eq_true_eq]
  generalize t.err = E at hE ⊢
  have HE := Lib.hid hE
  clear hE hB
  have Hb := Lib.hid ((Below.refl w.heap.size w).alloc (Nat.le_refl _) (trB t A c))
  have g0 := alloc1 w (trB t A c)
  have B0 := Lib.hid g0
  clear g0
  have i13 : ((t.what : Int) == 13) = (t.what == 13) := castEq t.what 13
  have i8 : ((t.data.length : Int) != 8) = !(t.data.length == 8) := by rw [bne, show ((t.data.length : Int) == 8) = (t.data.length == 8) from castEq t.data.length 8]
  obtain ⟨b13, hb13⟩ : ∃ b13, (t.what == 13) = b13 := ⟨_, rfl⟩
  obtain ⟨b8, hb8⟩ : ∃ b8, (t.data.length == 8) = b8 := ⟨_, rfl⟩
  rw [hb13] at i13
  rw [hb8] at i8
  have H13 := Lib.hid hb13
  have H8 := Lib.hid hb8
  clear hb13 hb8
  cases B
  · have hE1 : E = 1 := by rw [HE.out, if_neg (by simp)]
    subst hE1
    go_enter Tryd.func15, Tryd.ntmps15
    go_wp2_with (refine wpl_loadB flatTry rfl (.tmp 1) rfl _ rfl B0.out rfl ?_)
    refine (KP.out _).mono ?_
    rintro e y ⟨rfl, bb⟩
    have Hbb := Lib.hid (Hb.out.trans (bb.mono Hb.out.size))
    clear bb
    go_wp2
    go_ret
    exact ⟨rfl, Hbb.out⟩
  · rw [if_pos rfl] at HE
    by_cases h5 : b13 = true ∧ b8 = false
    · have hE1 : E = 5 := by rw [HE.out, if_pos ⟨by have := H13.out; rw [h5.1] at this; simpa using this, by have := H8.out; rw [h5.2] at this; simpa using this⟩]
      obtain ⟨rfl, rfl⟩ := h5
      subst hE1
      go_enter Tryd.func15, Tryd.ntmps15
      go_wp2_with (refine wpl_loadB flatTry rfl (.tmp 1) rfl _ rfl B0.out rfl ?_)
      refine (KP.out _).mono ?_
      rintro e y ⟨rfl, bb⟩
      have Hbb := Lib.hid (Hb.out.trans (bb.mono Hb.out.size))
      have hg := (bb.block _ (block_lt B0.out)).trans B0.out
      obtain ⟨c0, c1, c2, c3, c4, c5, c6⟩ := tr_cells hg
      clear bb hg
      go_wp2
      go_ret
      exact ⟨rfl, Hbb.out⟩
    · have hn5 : ¬ (t.what = 13 ∧ t.data.length ≠ 8) := fun h => h5 ⟨by rw [← H13.out]; simpa using h.1, by rw [← H8.out]; simpa using h.2⟩
      rw [if_neg hn5] at HE
      clear hn5
      have h5' : b13 = false ∨ (b13 = true ∧ b8 = true) := by cases b13 <;> cases b8 <;> simp_all
      clear h5
      by_cases hl : (1024 : Int) < (t.data.length : Int)
      · have hE1 : E = 3 := by rw [HE.out, if_pos (by omega)]
        subst hE1
        rcases h5' with rfl | ⟨rfl, rfl⟩
        all_goals
          go_enter Tryd.func15, Tryd.ntmps15
          go_wp2_with (refine wpl_loadB flatTry rfl (.tmp 1) rfl _ rfl B0.out rfl ?_)
          refine (KP.out _).mono ?_
          rintro e y ⟨rfl, bb⟩
          have Hbb := Lib.hid (Hb.out.trans (bb.mono Hb.out.size))
          have hg := (bb.block _ (block_lt B0.out)).trans B0.out
          obtain ⟨c0, c1, c2, c3, c4, c5, c6⟩ := tr_cells hg
          clear bb hg
          go_wp2
          go_ret
          exact ⟨rfl, Hbb.out⟩
      · have hE1 : E = 0 := by rw [HE.out, if_neg (by omega)]
        subst hE1
        rcases h5' with rfl | ⟨rfl, rfl⟩
        all_goals
          go_enter Tryd.func15, Tryd.ntmps15
          go_wp2_with (refine wpl_loadB flatTry rfl (.tmp 1) rfl _ rfl B0.out rfl ?_)
          refine (KP.out _).mono ?_
          rintro e y ⟨rfl, bb⟩
          have Hbb := Lib.hid (Hb.out.trans (bb.mono Hb.out.size))
          have hg := (bb.block _ (block_lt B0.out)).trans B0.out
          obtain ⟨c0, c1, c2, c3, c4, c5, c6⟩ := tr_cells hg
          clear bb hg
          go_wp2
          go_ret
          exact ⟨rfl, Hbb.out⟩

end Go.Proofs.YtkfkcpogcobmbaaDoor
