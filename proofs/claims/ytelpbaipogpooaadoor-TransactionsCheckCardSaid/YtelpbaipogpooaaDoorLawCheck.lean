/-
  Helper text: the walk of the law TransactionsCheck; no statement is proved here.
-/
import Derived.Test.YtelpbaipogpooaaDoorRefCk
import Derived.Test.YtelpbaipogpooaaDoorLawLine
namespace Go.Proofs.YtelpbaipogpooaaDoor
open Go Go.RowKit

theorem ones_rd (W : World) : RdS (fun k => k = W.heap.size) (W.alloc (.cells #[.int .u8 1, .int .u8 1] 5)) (some ⟨W.heap.size, 0, none⟩) 2 [1, 1] :=
  ⟨by simp, by omega, fun _ => ⟨W.heap.size, 0, rfl, rfl, fun j hj => by
    have : j = 0 ∨ j = 1 := by simp at hj; omega
    rcases this with rfl | rfl
    · exact block_at (alloc1 W _) rfl
    · exact block_at (alloc1 W _) rfl⟩⟩
theorem wire_ones (X : World) (A : Option Addr) (h : Rd X X.heap.size A 2 [1, 1]) : Calls Tryd.prog 16 #[.slice A 2 2] X (LinePost X [1, 1]) := (show [1, 1].map m3 = [1, 1] by decide) ▸ wire_any X A 2 [1, 1] h (by decide)

set_option maxHeartbeats 6400000 in
set_option maxRecDepth 100000 in
theorem lawCheck_any (w : World) (hL : Laid w) (hLN : 0 < w.heap.size) (t : Tr) (A : Option Addr) (c : Nat) :
    Calls Tryd.prog 4 #[trV t A c] w (ResB w true) := by
  have g0 := alloc1 w (trB t A c)
  obtain ⟨c0, c1, c2, c3, c4, c5, c6⟩ := tr_cells g0
  clear c0 c1 c2 c3 c4 c5
  by_cases hl : (1100 : Int) < (t.data.length : Int)
  · have hb := Lib.hid ((Below.refl w.heap.size w).alloc (Nat.le_refl _) (trB t A c))
    clear g0 hL
    go_enter Tryd.func4, Tryd.ntmps4
    go_wp2
    go_ret
    exact ⟨rfl, hb.out⟩
  · have hb := Lib.hid ((Below.refl w.heap.size w).alloc (Nat.le_refl _) (trB t A c))
    have KR := Lib.hid fun X => tref_any X t A c
    have KC := Lib.hid fun X => tcheck_any X t A c (by omega)
    have KD := Lib.hid fun X dv wv => do_err X dv wv t A c (by omega)
    have HLv := Lib.hid fun (X : World) (h : Below w.heap.size w X) => lives_any X (hL.belowN h hLN) (Nat.lt_of_lt_of_le hLN h.size)
    have B0 := Lib.hid g0
    obtain ⟨E, hE⟩ : ∃ E, t.err = E := ⟨_, rfl⟩
    rw [hE] at KR KC KD
    have hne : ((E : Int) != (E : Int)) = false := by simp
    clear g0 hL hE
    by_cases he : E = 0
    · subst he
      go_enter Tryd.func4, Tryd.ntmps4
      go_wp2_with (refine wpl_loadB flatTry rfl (.tmp 1) rfl _ rfl B0.out rfl ?_)
      refine (KR.out _).mono ?_
      rintro e y1 ⟨rfl, bb1⟩
      have B1 := Lib.hid ((bb1.block _ (block_lt B0.out)).trans B0.out)
      have Hb1 := Lib.hid (hb.out.trans (bb1.mono hb.out.size))
      clear bb1
      go_wp2_with (refine wpl_loadB flatTry rfl (.tmp 1) rfl _ rfl B1.out rfl ?_)
      refine (KC.out _).mono ?_
      rintro e y2 ⟨rfl, bb2⟩
      have Hb2 := Lib.hid (Hb1.out.trans (bb2.mono Hb1.out.size))
      clear bb2
      go_wp2_with fail
      refine (HLv.out _ Hb2.out).mono ?_
      rintro e z ⟨rfl, hbe⟩
      have Hbe := Lib.hid (Hb2.out.trans (hbe.mono Hb2.out.size))
      clear hbe
      go_wp2
      go_ret
      exact ⟨rfl, Hbe.out⟩
    · have hE0 : ((E : Int) == 0) = false := (neF (y := 0) he).1
      go_enter Tryd.func4, Tryd.ntmps4
      go_wp2_with (refine wpl_loadB flatTry rfl (.tmp 1) rfl _ rfl B0.out rfl ?_)
      refine (KR.out _).mono ?_
      rintro e y1 ⟨rfl, bb1⟩
      have B1 := Lib.hid ((bb1.block _ (block_lt B0.out)).trans B0.out)
      have Hb1 := Lib.hid (hb.out.trans (bb1.mono hb.out.size))
      clear bb1
      go_wp2_with (refine wpl_loadB flatTry rfl (.tmp 1) rfl _ rfl B1.out rfl ?_)
      refine (KC.out _).mono ?_
      rintro e y2 ⟨rfl, bb2⟩
      have B2 := Lib.hid ((bb2.block _ (block_lt B1.out)).trans B1.out)
      have Hb2 := Lib.hid (Hb1.out.trans (bb2.mono Hb1.out.size))
      clear bb2
      go_wp2_with fail
      refine (wire_ones _ _ ((ones_rd y2).rdT)).mono ?_
      rintro e y3 ⟨b, F, rfl, hF, bb3⟩
      have ha := (Below.refl y2.heap.size y2).alloc (Nat.le_refl _) (.cells #[.int .u8 1, .int .u8 1] 5)
      have hbb := ha.trans (bb3.mono ha.size)
      have B3 := Lib.hid ((hbb.block _ (block_lt B2.out)).trans B2.out)
      have Hb3 := Lib.hid (Hb2.out.trans (hbb.mono Hb2.out.size))
      have hd := (Below.refl y3.heap.size y3).alloc (Nat.le_refl _) (.cells #[.slice none 0 0, .slice none 0 0] 53)
      have HF := Lib.hid (Asr.below hF hd bb3.size)
      have HM := Lib.hid bb3.size
      have B4 := Lib.hid ((hd.block _ (block_lt B3.out)).trans B3.out)
      have D4 := Lib.hid (alloc1 y3 (.cells #[.slice none 0 0, .slice none 0 0] 53))
      have Hb4 := Lib.hid (Hb3.out.trans (hd.mono Hb3.out.size))
      have Hsz := Lib.hid (hd.size)
      clear ha hbb bb3 hF hd
      go_wp2_with (refine wpl_loadB flatTry rfl (.tmp 1) rfl _ rfl B4.out rfl ?_)
      refine (KD.out _ _ _ he).mono ?_
      rintro e y5 ⟨rfl, bb5⟩
      have D5 := Lib.hid ((bb5.block _ (block_lt D4.out)).trans D4.out)
      have HF5 := Lib.hid (Asr.below HF.out bb5 (Nat.le_trans HM.out Hsz.out))
      have Hb5 := Lib.hid (Hb4.out.trans (bb5.mono Hb4.out.size))
      have hM5 := Lib.hid (Nat.le_trans HM.out (Nat.le_trans Hsz.out bb5.size))
      have k5 := Lib.hid (alloc1 y5 (.cells #[.int .u8 0, .slice none 0 0] 56))
      have ho := Lib.hid ((Below.refl y5.heap.size y5).alloc (Nat.le_refl _) (.cells #[.int .u8 0, .slice none 0 0] 56))
      clear bb5 HF D4 HM Hsz
      go_wp2_with (refine wpl_storeB flatOut rfl (.tmp 6) (.tmp 32) rfl _ rfl _ rfl k5.out rfl rfl rfl ?_; intro y6 q6 hg6 hs6; have hbz := below_grown ho.out hg6 ho.out.size (Nat.le_refl _); have D6 := (hbz.block _ (block_lt D5.out)).trans D5.out; have a0 := block_at q6 (i := 0) (v := .int .u8 0) rfl; have a1 := block_at q6 (i := 1) (v := .slice none 0 0) rfl; have d1 := block_at D6 (i := 1) (v := .slice none 0 0) rfl; have HF6 := Lib.hid (Asr.below HF5.out hbz hM5.out); have Hb6 := Lib.hid (Hb5.out.trans (hbz.mono Hb5.out.size)); clear hg6 hs6 hbz D6 q6)
      refine (left_any _ _ _ _ _ HF6.out).mono ?_
      rintro e z ⟨rfl, rfl⟩
      go_wp2_with fail
      refine (HLv.out _ Hb6.out).mono ?_
      rintro e z ⟨rfl, hbe⟩
      have Hbe := Lib.hid (Hb6.out.trans (hbe.mono Hb6.out.size))
      clear hbe
      go_wp2
      go_ret
      exact ⟨rfl, Hbe.out⟩

end Go.Proofs.YtelpbaipogpooaaDoor
