/-
  Helper text: the reference's error of a transaction, and Do behind an error; no statement is proved here.
-/
import Derived.Test.YtkfkcpogcobmbaaDoorDo2
namespace Go.Proofs.YtkfkcpogcobmbaaDoor
open Go Go.RowKit

theorem Tr.err_no {t : Tr} (h : ¬ t.Pos) : t.err = 1 := if_neg h
theorem Tr.err_yes {t : Tr} (h : t.Pos) : t.err = if t.what = 13 ∧ t.data.length ≠ 8 then 5 else if 1024 < t.data.length then 3 else 0 := if_pos h
theorem neF {x y : Nat} (h : ¬ x = y) : ((x : Int) == (y : Int)) = false ∧ ((x : Int) != (y : Int)) = true := by
  have : ((x : Int) == (y : Int)) = false := by rw [beq_eq_false_iff_ne]; omega
  exact ⟨this, by rw [bne, this]; rfl⟩

set_option maxHeartbeats 1600000 in
set_option maxRecDepth 100000 in
theorem tref_any (w : World) (t : Tr) (A : Option Addr) (c : Nat) : Calls Tryd.prog 14 #[trV t A c] w (ResV w (.int .i64 (t.err : Int))) := by
  obtain ⟨ad, en, wh, tg, is, mx, xs⟩ := t
  have Hb := Lib.hid ((Below.refl w.heap.size w).alloc (Nat.le_refl _) (trB ⟨ad, en, wh, tg, is, mx, xs⟩ A c))
  obtain ⟨E, hE⟩ : ∃ E, Tr.err ⟨ad, en, wh, tg, is, mx, xs⟩ = E := ⟨_, rfl⟩
  rw [hE]
  have HE := Lib.hid hE
  clear hE
  simp only [trV, trL, trB] at *
  have hN : ¬ Tr.Pos ⟨ad, en, wh, tg, is, mx, xs⟩ → E = 1 := fun h => HE.out.symm.trans (Tr.err_no h)
  have HN := Lib.hid hN
  clear hN
  by_cases h1 : (127 : Int) < (ad : Int)
  · obtain rfl : E = 1 := HN.out fun p => by have := p.1; simp only at this; omega
    go_enter Tryd.func14, Tryd.ntmps14
    go_wp2
    go_ret
    exact ⟨rfl, Hb.out⟩
  by_cases h2 : (15 : Int) < (en : Int)
  · obtain rfl : E = 1 := HN.out fun p => by have := p.2.1; simp only at this; omega
    go_enter Tryd.func14, Tryd.ntmps14
    go_wp2
    go_ret
    exact ⟨rfl, Hb.out⟩
  have a1 : ad ≤ 127 := by omega
  have a2 : en ≤ 15 := by omega
  by_cases w9 : wh = 9
  · subst w9
    by_cases m0 : mx < 0
    · obtain rfl : E = 1 := HN.out fun p => by rcases p.2.2.2 with h | h | h <;> simp at h; omega
      go_enter Tryd.func14, Tryd.ntmps14
      go_wp2
      go_ret
      exact ⟨rfl, Hb.out⟩
    by_cases m1 : 1024 < mx
    · obtain rfl : E = 1 := HN.out fun p => by rcases p.2.2.2 with h | h | h <;> simp at h; omega
      go_enter Tryd.func14, Tryd.ntmps14
      go_wp2
      go_ret
      exact ⟨rfl, Hb.out⟩
    by_cases hl : xs.length = 0
    · obtain rfl : xs = [] := List.eq_nil_of_length_eq_zero hl
      cases is
      · obtain rfl : E = 0 := HE.out.symm.trans (by rw [Tr.err_yes ⟨a1, a2, by simp, .inl ⟨rfl, by simp only; omega, by simp only; omega, rfl⟩⟩]; simp)
        go_enter Tryd.func14, Tryd.ntmps14
        go_wp2
        go_ret
        exact ⟨rfl, Hb.out⟩
      · cases tg
        · obtain rfl : E = 0 := HE.out.symm.trans (by rw [Tr.err_yes ⟨a1, a2, by simp, .inl ⟨rfl, by simp only; omega, by simp only; omega, rfl⟩⟩]; simp)
          go_enter Tryd.func14, Tryd.ntmps14
          go_wp2
          go_ret
          exact ⟨rfl, Hb.out⟩
        · obtain rfl : E = 1 := HN.out fun p => p.2.2.1 ⟨rfl, rfl⟩
          go_enter Tryd.func14, Tryd.ntmps14
          go_wp2
          go_ret
          exact ⟨rfl, Hb.out⟩
    · obtain rfl : E = 1 := HN.out fun p => by rcases p.2.2.2 with h | h | h <;> simp at h; simp [h] at hl
      obtain ⟨l1, l2⟩ : ((xs.length : Int) == 0) = false ∧ ((xs.length : Int) != 0) = true := neF (y := 0) hl
      go_enter Tryd.func14, Tryd.ntmps14
      go_wp2
      go_ret
      exact ⟨rfl, Hb.out⟩
  obtain ⟨i9, j9⟩ : ((wh : Int) == 9) = false ∧ ((wh : Int) != 9) = true := neF (y := 9) w9
  by_cases hm : mx = 0
  · subst hm
    by_cases w1 : wh = 1
    · subst w1
      by_cases hit : is = true ∧ tg = true
      · obtain ⟨rfl, rfl⟩ := hit
        obtain rfl : E = 1 := HN.out fun p => p.2.2.1 ⟨rfl, rfl⟩
        go_enter Tryd.func14, Tryd.ntmps14
        go_wp2
        go_ret
        exact ⟨rfl, Hb.out⟩
      have hP : Tr.Pos ⟨ad, en, 1, tg, is, 0, xs⟩ := ⟨a1, a2, hit, .inr (.inl ⟨rfl, rfl⟩)⟩
      have hY := HE.out.symm.trans (Tr.err_yes hP)
      simp only at hY
      by_cases hl : (1024 : Int) < (xs.length : Int)
      · rw [if_neg (by simp), if_pos (by omega)] at hY
        subst hY
        cases is
        · go_enter Tryd.func14, Tryd.ntmps14
          go_wp2
          go_ret
          exact ⟨rfl, Hb.out⟩
        · cases tg
          · go_enter Tryd.func14, Tryd.ntmps14
            go_wp2
            go_ret
            exact ⟨rfl, Hb.out⟩
          · exact absurd ⟨rfl, rfl⟩ hit
      · rw [if_neg (by simp), if_neg (by omega)] at hY
        subst hY
        cases is
        · go_enter Tryd.func14, Tryd.ntmps14
          go_wp2
          go_ret
          exact ⟨rfl, Hb.out⟩
        · cases tg
          · go_enter Tryd.func14, Tryd.ntmps14
            go_wp2
            go_ret
            exact ⟨rfl, Hb.out⟩
          · exact absurd ⟨rfl, rfl⟩ hit
    obtain ⟨i1, j1⟩ : ((wh : Int) == 1) = false ∧ ((wh : Int) != 1) = true := neF (y := 1) w1
    by_cases w13 : wh = 13
    · subst w13
      cases is
      · cases tg
        · have hP : Tr.Pos ⟨ad, en, 13, false, false, 0, xs⟩ := ⟨a1, a2, by simp, .inr (.inr ⟨rfl, rfl, rfl, rfl⟩)⟩
          have hY := HE.out.symm.trans (Tr.err_yes hP)
          simp only at hY
          by_cases hl : xs.length = 8
          · rw [if_neg (by simp [hl]), if_neg (by omega)] at hY
            subst hY
            rw [hl]
            go_enter Tryd.func14, Tryd.ntmps14
            go_wp2
            go_ret
            exact ⟨rfl, by have := Hb.out; rw [hl] at this; exact this⟩
          · rw [if_pos ⟨trivial, hl⟩] at hY
            subst hY
            obtain ⟨l1, l2⟩ : ((xs.length : Int) == 8) = false ∧ ((xs.length : Int) != 8) = true := neF (y := 8) hl
            go_enter Tryd.func14, Tryd.ntmps14
            go_wp2
            go_ret
            exact ⟨rfl, Hb.out⟩
        · obtain rfl : E = 1 := HN.out fun p => by rcases p.2.2.2 with h | h | h <;> simp at h
          go_enter Tryd.func14, Tryd.ntmps14
          go_wp2
          go_ret
          exact ⟨rfl, Hb.out⟩
      · obtain rfl : E = 1 := HN.out fun p => by rcases p.2.2.2 with h | h | h <;> simp at h
        cases tg
        · go_enter Tryd.func14, Tryd.ntmps14
          go_wp2
          go_ret
          exact ⟨rfl, Hb.out⟩
        · go_enter Tryd.func14, Tryd.ntmps14
          go_wp2
          go_ret
          exact ⟨rfl, Hb.out⟩
    obtain ⟨i13, j13⟩ : ((wh : Int) == 13) = false ∧ ((wh : Int) != 13) = true := neF (y := 13) w13
    obtain rfl : E = 1 := HN.out fun p => by rcases p.2.2.2 with h | h | h <;> simp only at h <;> omega
    go_enter Tryd.func14, Tryd.ntmps14
    go_wp2
    go_ret
    exact ⟨rfl, Hb.out⟩
  · obtain rfl : E = 1 := HN.out fun p => by rcases p.2.2.2 with h | h | h <;> simp only at h <;> omega
    have j0 : (mx != 0) = true := by rw [bne_iff_ne]; exact hm
    by_cases w1 : wh = 1
    · subst w1
      go_enter Tryd.func14, Tryd.ntmps14
      go_wp2
      go_ret
      exact ⟨rfl, Hb.out⟩
    obtain ⟨i1, j1⟩ : ((wh : Int) == 1) = false ∧ ((wh : Int) != 1) = true := neF (y := 1) w1
    by_cases w13 : wh = 13
    · subst w13
      go_enter Tryd.func14, Tryd.ntmps14
      go_wp2
      go_ret
      exact ⟨rfl, Hb.out⟩
    obtain ⟨i13, j13⟩ : ((wh : Int) == 13) = false ∧ ((wh : Int) != 13) = true := neF (y := 13) w13
    go_enter Tryd.func14, Tryd.ntmps14
    go_wp2
    go_ret
    exact ⟨rfl, Hb.out⟩

set_option maxHeartbeats 400000 in
set_option maxRecDepth 100000 in
theorem do_err (w : World) (dv wv : Value) (t : Tr) (A : Option Addr) (c : Nat) (hle : t.data.length ≤ 9223372036854775807) (he : t.err ≠ 0) :
    Calls Tryd.prog 17 #[dv, wv, trV t A c] w (ResV w (.tuple #[.agg #[.int .u8 0, .slice none 0 0], .slice none 0 0])) := by
  obtain ⟨g0, g1, g2, g3⟩ := alloc2 w (trB t A c) (.cells #[.int .u8 0, .slice none 0 0] 56)
  have KC := Lib.hid fun X => tcheck_any X t A c hle
  have B0 := Lib.hid g0
  have B1 := Lib.hid g1
  have Hb := Lib.hid g3
  obtain ⟨E, hE⟩ : ∃ E, (t.err : Int) = E := ⟨_, rfl⟩
  rw [hE] at KC
  have hE1 : (E != 0) = true := by rw [bne_iff_ne, ← hE]; omega
  clear g0 g1 g2 g3 hE he
  go_enter Tryd.func17, Tryd.ntmps17
  go_wp2_with (refine wpl_loadB flatTry rfl (.tmp 5) rfl _ rfl B0.out rfl ?_)
  refine (KC.out _).mono ?_
  rintro e y1 ⟨rfl, bb1⟩
  have hbb := Hb.out.trans (bb1.mono Hb.out.size)
  have B11 := Lib.hid ((bb1.block _ (block_lt B1.out)).trans B1.out)
  have Hb1 := Lib.hid hbb
  clear bb1 hbb
  go_wp2_with (refine wpl_storeB flatOut rfl (.tmp 6) (.tmp 14) rfl _ rfl _ rfl B11.out rfl rfl rfl ?_; intro y5 k2 hg5 hs5)
  refine bodyPost_ret (ret_cell_tmp flatOut rfl _ (w.heap.size + 1) rfl k2 rfl) rfl ?_
  exact ⟨rfl, below_grown Hb1.out hg5 Hb1.out.size (by omega)⟩

end Go.Proofs.YtkfkcpogcobmbaaDoor
