/-
  Helper text: the contract of the function that tries the examples of the chapter; no statement is proved here.
-/
import Derived.Test.YtfpfadenfoehfaaDoorCheck
import Derived.Test.YtfpfadenfoehfaaDoorPart
import Derived.Lib.SlBytesConst
namespace Go.Proofs.YtfpfadenfoehfaaDoor
open Go Go.RowKit

/-- A truth value is returned for sure. -/
theorem check_ok (w : World) (hL : Laid w) (A : Option Addr) (c : Nat) (xs : List UInt8) (h : Rd w w.heap.size A c xs) (hl2 : 2 ≤ xs.length) (hl : xs.length ≤ 100000) (hq : chkL (frontL xs) = lastL xs) :
    Calls Tryd.prog 15 #[.slice A xs.length c] w (ResOE w 5 (frontL xs) 0) := check_core w hL A c xs h hl2 hl _ _ (.inl ⟨hq, rfl, rfl⟩)
theorem check_sum (w : World) (hL : Laid w) (A : Option Addr) (c : Nat) (xs : List UInt8) (h : Rd w w.heap.size A c xs) (hl2 : 2 ≤ xs.length) (hl : xs.length ≤ 100000) (hq : chkL (frontL xs) ≠ lastL xs) :
    Calls Tryd.prog 15 #[.slice A xs.length c] w (ResOE w 5 [] 10) := check_core w hL A c xs h hl2 hl _ _ (.inr ⟨hq, rfl, rfl⟩)

theorem f_1_1 (W : World) (hL : Laid W) : Calls Tryd.prog 8 #[.int .u32 1, .int .i64 1] W (ResN W .u8 16 0) := by
  have := Five_good W hL 1 1 (by omega) (by decide)
  rwa [show chk 20 5 1 1 = 16 from by decide +kernel] at this
theorem f_1813 (W : World) (hL : Laid W) : Calls Tryd.prog 8 #[.int .u32 1813, .int .i64 11] W (ResN W .u8 29 0) := by
  have := Five_good W hL 1813 11 (by omega) (by decide)
  rwa [show chk 20 5 11 1813 = 29 from by decide +kernel] at this
theorem f_0_0 (W : World) (hL : Laid W) : Calls Tryd.prog 8 #[.int .u32 0, .int .i64 0] W (ResN W .u8 0 0) := by
  have := Five_good W hL 0 0 (by omega) (by decide)
  rwa [show chk 20 5 0 0 = 0 from by decide +kernel] at this
theorem f_2_1 (W : World) : Calls Tryd.prog 8 #[.int .u32 2, .int .i64 1] W (ResN W .u8 0 1) := Five_bad W 2 1 (by decide +kernel)
theorem f_0_25 (W : World) : Calls Tryd.prog 8 #[.int .u32 0, .int .i64 25] W (ResN W .u8 0 1) := Five_bad W 0 25 (by decide +kernel)
theorem j_1813 (W : World) (hL : Laid W) : Calls Tryd.prog 9 #[.int .u32 1813, .int .i64 11] W (ResN W .u32 61205 0) := by
  have := Join_good W hL 1813 11 (by omega) (by decide)
  rwa [show 1813 + 2 ^ 11 * chk 20 5 11 1813 = 61205 from by decide +kernel] at this
theorem p_61205 (W : World) (hL : Laid W) : Calls Tryd.prog 12 #[.int .u32 61205, .int .i64 16] W (ResN W .u32 1813 0) := by
  have := Part_good W hL 61205 11 (by omega) (by decide)
  rwa [if_pos (by decide +kernel), if_pos (by decide +kernel)] at this
theorem p_61204 (W : World) (hL : Laid W) : Calls Tryd.prog 12 #[.int .u32 61204, .int .i64 16] W (ResN W .u32 0 10) := by
  have := Part_good W hL 61204 11 (by omega) (by decide)
  rwa [if_neg (by decide +kernel), if_neg (by decide +kernel)] at this
theorem p_3 (W : World) : Calls Tryd.prog 12 #[.int .u32 3, .int .i64 4] W (ResN W .u32 0 5) := Part_width W 3 4 (by omega) (by decide)
theorem c_3 (W : World) (hL : Laid W) (A : Option Addr) (c : Nat) (h : Rd W W.heap.size A c [0, 64, 191]) : Calls Tryd.prog 15 #[.slice A 3 c] W (ResOE W 5 [0] 0) :=
  check_ok W hL A c [0, 64, 191] h (by decide) (by decide) (by decide +kernel)
theorem c_7 (W : World) (A : Option Addr) (c : Nat) : Calls Tryd.prog 15 #[.slice A 1 c] W (ResOE W 5 [] 5) := check_width W A c [7] (by decide)
/-- A number is returned. -/
def ResV (w : World) (K : IntKind) (x : Nat) (e : Ending) (w' : World) : Prop := e = .returned (.int K (x : Int)) ∧ Below w.heap.size w w'
theorem s_nil (W : World) (hL : Laid W) : Calls Tryd.prog 16 #[.slice none 0 0] W (ResV W .u16 0) := by
  have := sixteen_any W hL none 0 [] (Rd.nil _ _)
  rwa [show chkL [] = 0 from by decide +kernel] at this
theorem s_nine (W : World) (hL : Laid W) (A : Option Addr) (c : Nat) (h : Rd W W.heap.size A c [49, 50, 51, 52, 53, 54, 55, 56, 57]) : Calls Tryd.prog 16 #[.slice A 9 c] W (ResV W .u16 46280) := by
  have := sixteen_any W hL A c [49, 50, 51, 52, 53, 54, 55, 56, 57] h
  rwa [show chkL [49, 50, 51, 52, 53, 54, 55, 56, 57] = 46280 from by decide +kernel] at this
theorem a_0 (W : World) (hL : Laid W) (A : Option Addr) (c : Nat) (h : Rd W W.heap.size A c [0]) : Calls Tryd.prog 14 #[.slice A 1 c] W (ResO W 5 [0, 64, 191]) := by
  have := add_any W hL A c [0] h (by decide)
  rwa [show addL [0] = [0, 64, 191] from by decide +kernel] at this

theorem below_step {w wa wb : World} {o : Obj} (h : Below w.heap.size w wa) (hb : Below (wa.alloc o).heap.size (wa.alloc o) wb) : Below w.heap.size w wb :=
  (h.alloc h.size o).trans (hb.mono (by have := h.size; simp; omega))
theorem rd_top (w : World) (e : TypeId) (zs : List UInt8) (hl : zs.length ≤ 1000000000) : Rd (w.alloc (.cells (zs.map bv).toArray e)) (w.alloc (.cells (zs.map bv).toArray e)).heap.size (some ⟨w.heap.size, 0, none⟩) zs.length zs :=
  (rd_built w e zs hl).more (by simp)

theorem rd_mark (w : World) (e : TypeId) (fr : Nat × Nat) (zs : List UInt8) (hl : zs.length ≤ 1000000000) : Rd (w.alloc (.cells (zs.map bv).toArray e fr)) (w.alloc (.cells (zs.map bv).toArray e fr)).heap.size (some ⟨w.heap.size, 0, none⟩) zs.length zs :=
  ⟨Nat.le_refl _, by omega, fun _ => ⟨w.heap.size, 0, rfl, by simp, fun j hj => by
    rw [Nat.zero_add, World.cell?_alloc_mark]
    simp [List.getD, List.getElem?_eq_getElem hj]⟩⟩

set_option maxHeartbeats 3200000 in
set_option maxRecDepth 100000 in
theorem lives_any (w : World) (hL : Laid w) : Calls Tryd.prog 10 #[] w (ResB w true) := by
  go_enter Tryd.func10, Tryd.ntmps10
  go_wp2_with fail
  refine (f_1_1 _ hL).mono ?_
  rintro e w1 ⟨rfl, b1⟩
  go_wp2_with fail
  refine (f_1813 _ (hL.below b1)).mono ?_
  rintro e w2 ⟨rfl, b2⟩
  have b2 := b1.trans (b2.mono b1.size)
  clear b1
  go_wp2_with fail
  refine (f_0_0 _ (hL.below b2)).mono ?_
  rintro e w3 ⟨rfl, b3⟩
  have b3 := b2.trans (b3.mono b2.size)
  clear b2
  go_wp2_with fail
  refine (f_2_1 _).mono ?_
  rintro e w4 ⟨rfl, b4⟩
  have b4 := b3.trans (b4.mono b3.size)
  clear b3
  go_wp2_with fail
  refine (f_0_25 _).mono ?_
  rintro e w5 ⟨rfl, b5⟩
  have b5 := b4.trans (b5.mono b4.size)
  clear b4
  go_wp2_with fail
  refine (j_1813 _ (hL.below b5)).mono ?_
  rintro e w6 ⟨rfl, b6⟩
  have b6 := b5.trans (b6.mono b5.size)
  clear b5
  go_wp2_with fail
  refine (p_61205 _ (hL.below b6)).mono ?_
  rintro e w7 ⟨rfl, b7⟩
  have b7 := b6.trans (b7.mono b6.size)
  clear b6
  go_wp2_with fail
  refine (p_61204 _ (hL.below b7)).mono ?_
  rintro e w8 ⟨rfl, b8⟩
  have b8 := b7.trans (b8.mono b7.size)
  clear b7
  go_wp2_with fail
  refine (p_3 _).mono ?_
  rintro e w9 ⟨rfl, b9⟩
  have b9 := b8.trans (b9.mono b8.size)
  clear b8
  go_wp2_with fail
  refine (c_3 _ (hL.below (b9.alloc b9.size _)) _ _ (rd_top w9 5 [0, 64, 191] (by simp))).mono ?_
  rintro e wa ⟨va, rfl, owna, ba⟩
  have ba := below_step b9 ba
  clear b9
  obtain ⟨Aa, ca, rfl, ra⟩ := Rd.of_own owna
  clear owna
  go_wp2_with fail
  refine (c_7 _ _ _).mono ?_
  rintro e wb ⟨vb, rfl, ownb, bb⟩
  have rb := (((ra.alloc (Nat.le_refl _) _).more (by simp)).belowTop bb)
  have bb := below_step ba bb
  clear ba ra ownb
  go_wp2_with fail
  refine (s_nil _ (hL.below bb)).mono ?_
  rintro e wc ⟨rfl, bc⟩
  have rc := rb.belowTop bc
  have bc := bb.trans (bc.mono bb.size)
  clear bb rb
  have hkc := Lib.run_convert_bytes_const (P := Tryd.prog) wc 33 5 #[.int .u8 49, .int .u8 50, .int .u8 51, .int .u8 52, .int .u8 53, .int .u8 54, .int .u8 55, .int .u8 56, .int .u8 57] 9 9 Tryd.underlying33 Tryd.underlying5
  go_wp2_with fail
  refine (s_nine _ (hL.below (bc.alloc bc.size _)) _ _ (rd_mark wc 5 (9, 10) [49, 50, 51, 52, 53, 54, 55, 56, 57] (by simp))).mono ?_
  rintro e wd ⟨rfl, bd⟩
  have rd := (((rc.alloc (Nat.le_refl _) _).more (by simp)).belowTop bd)
  have bd := below_step bc bd
  clear bc rc
  go_wp2_with fail
  refine (a_0 _ (hL.below (bd.alloc bd.size _)) _ _ (rd_top wd 5 [0] (by simp))).mono ?_
  rintro e we ⟨ve, rfl, owne, be⟩
  have re := (((rd.alloc (Nat.le_refl _) _).more (by simp)).belowTop be)
  have be := below_step bd be
  obtain ⟨Ae, ce, rfl, rf⟩ := Rd.of_own owne
  have s1 : (convert 33 9 (.slice Aa 1 ca)).run Tryd.prog we = .ok (.string ⟨#[0]⟩) we := re.str Tryd.underlying33 Tryd.underlying5 Tryd.underlying9
  have s2 : (convert 33 9 (.slice Ae 3 ce)).run Tryd.prog we = .ok (.string ⟨#[0, 64, 191]⟩) we := rf.str Tryd.underlying33 Tryd.underlying5 Tryd.underlying9
  clear bd rd owne re rf
  go_wp2
  go_ret
  exact ⟨rfl, be⟩

end Go.Proofs.YtfpfadenfoehfaaDoor
