/-
  Helper text: the reference's text of packets; no statement is proved here.
-/
import Derived.Test.YtfblpakoibadoaaDoorRefY
namespace Go.Proofs.YtfblpakoibadoaaDoor
open Go Go.RowKit

set_option maxHeartbeats 1600000 in
set_option maxRecDepth 100000 in
theorem rtext_bare (w : World) (r : Rg) (ok : r.Ok) (A : Option Addr) (c : Nat) (hd : r.data = .slice A 0 c) (hp : r.pid = 2 ∨ r.pid = 6 ∨ r.pid = 10 ∨ r.pid = 14 ∨ r.pid = 3 ∨ r.pid = 11) :
    Calls Tryd.prog 10 #[.agg (pcells r)] w (ResS w (Lib.join (pidL.getD r.pid [] :: []) [32])) := by
  rw [Lib.join_one]
  have KN := fun W => name_any W r.pid (by omega)
  have KT := fun W => token_any W r.pid ok.pid
  rw [show (r.pid == 1 || r.pid == 9 || r.pid == 13) = false by rcases hp with h | h | h | h | h | h <;> rw [h] <;> rfl] at KT
  have y0 : ¬ (r.pid : Int) = 5 := by omega
  have y1 : ((r.pid : Int) == 5) = false := beq_eq_false_iff_ne.2 y0
  have y2 : ¬ (r.pid : Int) = 8 := by omega
  have y3 : ((r.pid : Int) == 8) = false := beq_eq_false_iff_ne.2 y2
  obtain ⟨p0, p1, p2, p3, p4, p5, p6, p7, p8, p9, p10⟩ := r
  simp only at hd hp KN KT y0 y1 y2 y3
  subst hd
  simp only [pcells]
  have KNh := Lib.hid KN
  have KTh := Lib.hid KT
  clear KN KT ok hp
  have hb0 := Lib.hid (heap_alloc_new w (.cells #[.int .u8 (p0 : Int), .int .u8 (p1 : Int), .int .u8 (p2 : Int), .int .u16 (p3 : Int), .int .u8 (p4 : Int), .int .u8 (p5 : Int), .bool p6, .bool p7, .int .u8 (p8 : Int), .slice A 0 c] 29))
  have hbW := Lib.hid ((Below.refl w.heap.size w).alloc (Nat.le_refl _) (.cells #[.int .u8 (p0 : Int), .int .u8 (p1 : Int), .int .u8 (p2 : Int), .int .u16 (p3 : Int), .int .u8 (p4 : Int), .int .u8 (p5 : Int), .bool p6, .bool p7, .int .u8 (p8 : Int), .slice A 0 c] 29))
  go_enter Tryd.func10, Tryd.ntmps10
  go_wp2_with fail
  refine (KNh.out _).mono ?_
  rintro e w1 ⟨rfl, B1⟩
  have d1 := Lib.hid ((B1.block _ (lt_of_block hb0.out)).trans hb0.out)
  have e1 := Lib.hid (hbW.out.trans (B1.mono hbW.out.size))
  have c0 : w1.cell? ⟨w.heap.size, 0, none⟩ = some (.int .u8 (p0 : Int)) := cell_at d1.out 0
  clear B1 hb0 hbW
  go_wp2_with fail
  refine (KTh.out _).mono ?_
  rintro e w2 ⟨rfl, B2⟩
  have d2 := Lib.hid ((B2.block _ (lt_of_block d1.out)).trans d1.out)
  have e2 := Lib.hid (e1.out.trans (B2.mono e1.out.size))
  clear B2 c0 d1 e1
  have c0 := cell_at d2.out 0
  replace c0 : w2.cell? ⟨w.heap.size, 0, none⟩ = some (.int .u8 (p0 : Int)) := c0
  have c9 : w2.cell? ⟨w.heap.size, 9, none⟩ = some (.slice A 0 c) := cell_at d2.out 9
  clear d2
  go_wp2
  go_ret
  exact ⟨rfl, e2.out⟩
set_option maxHeartbeats 1600000 in
set_option maxRecDepth 100000 in
theorem rtext_data (w : World) (r : Rg) (ok : r.Ok) (A : Option Addr) (c : Nat) (xs : List UInt8) (hx : Rd w w.heap.size A c xs) (hl : xs.length ≤ 1024) (h0 : xs ≠ []) (hd : r.data = .slice A xs.length c) (hp : r.pid = 3 ∨ r.pid = 11) :
    Calls Tryd.prog 10 #[.agg (pcells r)] w (ResS w (Lib.join (pidL.getD r.pid [] :: [hexL xs]) [32])) := by
  have HJ : Lib.join (pidL.getD r.pid [] :: [hexL xs]) [32] = pidL.getD r.pid [] ++ ([32] ++ hexL xs) := by
    rw [Lib.join_cons, tail_cons]
    simp [Lib.joinTail]
  rw [HJ]
  clear HJ
  have KN := fun W => name_any W r.pid (by omega)
  have KT := fun W => token_any W r.pid ok.pid
  rw [show (r.pid == 1 || r.pid == 9 || r.pid == 13) = false by rcases hp with h | h <;> rw [h] <;> rfl] at KT
  have KH := fun W hR => rhex_any W A c xs hR hl
  have lh : (hexL xs).length ≤ 2048 := by rw [hexL_len]; omega
  have ln := pidL_le r.pid
  have t0 : (0 : Int) < (xs.length : Int) := by
    have : xs.length ≠ 0 := fun h => h0 (List.eq_nil_of_length_eq_zero h)
    omega
  generalize pidL.getD r.pid [] = nm at KN ln ⊢
  generalize hexL xs = hh at KH lh ⊢
  obtain ⟨sn, hsn⟩ : ∃ sn, (⟨(nm).toArray⟩ : ByteArray) = sn := ⟨_, rfl⟩
  have zsn : sn.size ≤ 5 := by rw [← hsn]; show (nm).toArray.size ≤ 5; simpa using ln
  delta ResS at KN
  simp only [sv] at KN
  rw [hsn] at KN
  replace hsn := Lib.hid hsn
  obtain ⟨sx, hsx⟩ : ∃ sx, (⟨(hh).toArray⟩ : ByteArray) = sx := ⟨_, rfl⟩
  have zsx : sx.size ≤ 2048 := by rw [← hsx]; show (hh).toArray.size ≤ 2048; simpa using lh
  delta ResS at KH
  simp only [sv] at KH
  rw [hsx] at KH
  replace hsx := Lib.hid hsx
  obtain ⟨L, hL⟩ : ∃ L, nm ++ ([32] ++ hh) = L := ⟨_, rfl⟩
  have HF := Lib.hid (show sn ++ ((⟨#[32]⟩ : ByteArray) ++ sx) = ⟨L.toArray⟩ by
    rw [← hL, ← hsn.out, ← hsx.out, ← app_str, ← app_str])
  rw [hL]
  clear hL h0
  have hxh := Lib.hid hx
  clear hx
  have y0 : ¬ (r.pid : Int) = 5 := by omega
  have y1 : ((r.pid : Int) == 5) = false := beq_eq_false_iff_ne.2 y0
  have y2 : ¬ (r.pid : Int) = 8 := by omega
  have y3 : ((r.pid : Int) == 8) = false := beq_eq_false_iff_ne.2 y2
  obtain ⟨p0, p1, p2, p3, p4, p5, p6, p7, p8, p9, p10⟩ := r
  simp only at hd hp KN KT y0 y1 y2 y3
  subst hd
  simp only [pcells]
  have KNh := Lib.hid KN
  have KTh := Lib.hid KT
  have KHh := Lib.hid KH
  clear KN KT KH ln lh ok hp
  have hb0 := Lib.hid (heap_alloc_new w (.cells #[.int .u8 (p0 : Int), .int .u8 (p1 : Int), .int .u8 (p2 : Int), .int .u16 (p3 : Int), .int .u8 (p4 : Int), .int .u8 (p5 : Int), .bool p6, .bool p7, .int .u8 (p8 : Int), .slice A xs.length c] 29))
  have hbW := Lib.hid ((Below.refl w.heap.size w).alloc (Nat.le_refl _) (.cells #[.int .u8 (p0 : Int), .int .u8 (p1 : Int), .int .u8 (p2 : Int), .int .u16 (p3 : Int), .int .u8 (p4 : Int), .int .u8 (p5 : Int), .bool p6, .bool p7, .int .u8 (p8 : Int), .slice A xs.length c] 29))
  go_enter Tryd.func10, Tryd.ntmps10
  go_wp2_with fail
  refine (KNh.out _).mono ?_
  rintro e w1 ⟨rfl, B1⟩
  have d1 := Lib.hid ((B1.block _ (lt_of_block hb0.out)).trans hb0.out)
  have e1 := Lib.hid (hbW.out.trans (B1.mono hbW.out.size))
  have c0 : w1.cell? ⟨w.heap.size, 0, none⟩ = some (.int .u8 (p0 : Int)) := cell_at d1.out 0
  clear B1 hb0 hbW
  go_wp2_with fail
  refine (KTh.out _).mono ?_
  rintro e w2 ⟨rfl, B2⟩
  have d2 := Lib.hid ((B2.block _ (lt_of_block d1.out)).trans d1.out)
  have e2 := Lib.hid (e1.out.trans (B2.mono e1.out.size))
  clear B2 c0 d1 e1
  have c0 := cell_at d2.out 0
  replace c0 : w2.cell? ⟨w.heap.size, 0, none⟩ = some (.int .u8 (p0 : Int)) := c0
  have c9 : w2.cell? ⟨w.heap.size, 9, none⟩ = some (.slice A xs.length c) := cell_at d2.out 9
  clear d2
  go_wp2_with fail
  refine (KHh.out w2 (hxh.out.belowTop e2.out)).mono ?_
  rintro e w4 ⟨rfl, b4⟩
  have e5 := Lib.hid (e2.out.trans (b4.mono e2.out.size))
  clear c0 c9 e2 b4
  go_wp2
  go_ret
  rw [HF.out]
  exact ⟨rfl, e5.out⟩

end Go.Proofs.YtfblpakoibadoaaDoor
