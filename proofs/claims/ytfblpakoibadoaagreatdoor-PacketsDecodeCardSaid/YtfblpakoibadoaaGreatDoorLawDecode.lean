/-
  Helper text: the walk of the law PacketsDecode; no statement is proved here.
-/
import Derived.Test.YtfblpakoibadoaaGreatDoorErE
import Derived.Test.YtfblpakoibadoaaGreatDoorRcAll
import Derived.Test.YtfblpakoibadoaaGreatDoorLawSame
import Derived.Test.YtfblpakoibadoaaGreatDoorLives
namespace Go.Proofs.YtfblpakoibadoaaGreatDoor
open Go Go.RowKit

theorem lawDecode_skip (w : World) (A : Option Addr) (n c : Nat) (h : 1100 < n) :
    Calls Tryz.prog 5 #[.slice A n c] w (ResB w true) := by
  have t1 : (1100 : Int) < (n : Int) := by omega
  go_enter Tryz.func5, Tryz.ntmps5
  go_wp2
  go_ret
  exact ⟨rfl, Below.refl _ w⟩

set_option maxHeartbeats 3200000 in
set_option maxRecDepth 100000 in
theorem lawDecode_in (w : World) (hL : Laid w) (A : Option Addr) (c : Nat) (zs : List UInt8) (hx : Rd w w.heap.size A c zs) (hl : zs.length ≤ 1100) :
    Calls Tryz.prog 5 #[.slice A zs.length c] w (ResB w true) := by
  have t1 : ¬ (1100 : Int) < (zs.length : Int) := by omega
  have inv := inv_any zs
  have KD := fun W (b : Below w.heap.size w W) => decode_any W (hL.below b) A c zs (hx.belowTop b)
  have KE := fun W (b : Below w.heap.size w W) => refErr_any W A c zs (hx.belowTop b)
  have KL := Lib.hid fun (W : World) (b : Below w.heap.size w W) => lives_any W (hL.below b)
  have Hx := Lib.hid hx
  have s1 := hx.cu
  clear hx hL
  generalize (decR zs).1 = r at inv KD
  generalize (decR zs).2.1 = ys at inv KD
  generalize (decR zs).2.2 = E at inv KD KE
  have KEh := Lib.hid KE
  by_cases hE : E = 0
  · subst hE
    obtain ⟨ok, hf, hyl, henc⟩ := inv.1 rfl
    have KC : ∀ W v A c, v = .slice A ys.length c → Calls Tryz.prog 8 #[.agg (pcells { r with data := v })] W (ResI W 0) := fun W v A c hv => by
      have h := refCheck_any W { r with data := v } (okD ok v) A c ys hv
      rw [errD (okD ok v) (fitD hf v) hyl] at h
      exact h
    have KR : ∀ W v A c, Rd W W.heap.size A c ys → v = .slice A ys.length c → Calls Tryz.prog 13 #[.agg (pcells { r with data := v })] W (ResO W 5 zs) := fun W v A c hR hv => by
      have h := refEnc_any W { r with data := v } (okD ok v) A c ys (fitD hf v) hR hv (by omega)
      rw [encL_data, henc] at h
      exact h
    clear inv ok hf henc
    obtain ⟨p0, p1, p2, p3, p4, p5, p6, p7, p8, p9, p10⟩ := r
    simp only [ResPk, pcells] at KC KR KD
    have KCh := Lib.hid KC
    have KDh := Lib.hid KD
    have KRh := Lib.hid KR
    clear KC KD KR KE
    go_enter Tryz.func5, Tryz.ntmps5
    go_wp2_with fail
    refine (KDh.out w (Below.refl _ w)).mono ?_
    rintro e w1 ⟨v1, rfl, o1, b1⟩
    obtain ⟨A1, c1, rfl, r1⟩ := Rd.of_own o1
    have hb1 := Lib.hid b1
    have hr1 := Lib.hid r1
    have hx1 := Lib.hid (Hx.out.belowTop b1)
    clear o1 b1 r1 KDh s1
    go_wp2_with fail
    have hn1 := Lib.hid (heap_alloc_new w1 (.cells #[.int .u8 (p0 : Int), .int .u8 (p1 : Int), .int .u8 (p2 : Int), .int .u16 (p3 : Int), .int .u8 (p4 : Int), .int .u8 (p5 : Int), .bool p6, .bool p7, .int .u8 (p8 : Int), .slice A1 ys.length c1] 29))
    have hb2 := Lib.hid (hb1.out.alloc hb1.out.size (.cells #[.int .u8 (p0 : Int), .int .u8 (p1 : Int), .int .u8 (p2 : Int), .int .u16 (p3 : Int), .int .u8 (p4 : Int), .int .u8 (p5 : Int), .bool p6, .bool p7, .int .u8 (p8 : Int), .slice A1 ys.length c1] 29))
    have hal := (Below.refl w1.heap.size w1).alloc (Nat.le_refl _) (.cells #[.int .u8 (p0 : Int), .int .u8 (p1 : Int), .int .u8 (p2 : Int), .int .u16 (p3 : Int), .int .u8 (p4 : Int), .int .u8 (p5 : Int), .bool p6, .bool p7, .int .u8 (p8 : Int), .slice A1 ys.length c1] 29)
    have hr2 := Lib.hid (hr1.out.belowTop hal)
    have hx2 := Lib.hid (hx1.out.belowTop hal)
    clear hal hr1 hx1 hb1
    generalize w1.alloc (.cells #[.int .u8 (p0 : Int), .int .u8 (p1 : Int), .int .u8 (p2 : Int), .int .u16 (p3 : Int), .int .u8 (p4 : Int), .int .u8 (p5 : Int), .bool p6, .bool p7, .int .u8 (p8 : Int), .slice A1 ys.length c1] 29) = W at hn1 hb2 hr2 hx2 ⊢
    generalize w1.heap.size = G at hn1 ⊢
    refine (KEh.out W hb2.out).mono ?_
    rintro e w2 ⟨rfl, b2⟩
    have hn3 := Lib.hid ((b2.block _ (lt_of_block hn1.out)).trans hn1.out)
    have hb3 := Lib.hid (hb2.out.trans (b2.mono hb2.out.size))
    have hr3 := Lib.hid (hr2.out.belowTop b2)
    have hx3 := Lib.hid (hx2.out.belowTop b2)
    clear b2 hn1 hb2 hr2 hx2 KEh
    have s2 := hx3.out.cu
    have k0 := block_at (i := 0) hn3.out rfl
    have k1 := block_at (i := 1) hn3.out rfl
    have k2 := block_at (i := 2) hn3.out rfl
    have k3 := block_at (i := 3) hn3.out rfl
    have k4 := block_at (i := 4) hn3.out rfl
    have k5 := block_at (i := 5) hn3.out rfl
    have k6 := block_at (i := 6) hn3.out rfl
    have k7 := block_at (i := 7) hn3.out rfl
    have k8 := block_at (i := 8) hn3.out rfl
    have k9 := block_at (i := 9) hn3.out rfl
    go_wp2_with fail
    refine (KCh.out w2 _ A1 c1 rfl).mono ?_
    rintro e w3 ⟨rfl, b3⟩
    have hn4 := Lib.hid ((b3.block _ (lt_of_block hn3.out)).trans hn3.out)
    have hb4 := Lib.hid (hb3.out.trans (b3.mono hb3.out.size))
    have hr4 := Lib.hid (hr3.out.belowTop b3)
    clear k0 k1 k2 k3 k4 k5 k6 k7 k8 k9 b3 hn3 hb3 hr3 hx3 s2 KCh
    have k0 := block_at (i := 0) hn4.out rfl
    have k1 := block_at (i := 1) hn4.out rfl
    have k2 := block_at (i := 2) hn4.out rfl
    have k3 := block_at (i := 3) hn4.out rfl
    have k4 := block_at (i := 4) hn4.out rfl
    have k5 := block_at (i := 5) hn4.out rfl
    have k6 := block_at (i := 6) hn4.out rfl
    have k7 := block_at (i := 7) hn4.out rfl
    have k8 := block_at (i := 8) hn4.out rfl
    have k9 := block_at (i := 9) hn4.out rfl
    go_wp2_with fail
    refine (KRh.out w3 _ A1 c1 hr4.out rfl).mono ?_
    rintro e w4 ⟨v4, rfl, o4, b4⟩
    obtain ⟨A4, c4, rfl, r4⟩ := Rd.of_own o4
    have hb5 := Lib.hid (hb4.out.trans (b4.mono hb4.out.size))
    have s4 := r4.cu
    clear k0 k1 k2 k3 k4 k5 k6 k7 k8 k9 b4 hn4 hb4 hr4 o4 r4 KRh
    go_wp2_with fail
    refine (KL.out w4 hb5.out).mono ?_
    rintro e w5 ⟨rfl, b5⟩
    go_wp2
    go_ret
    exact ⟨rfl, hb5.out.trans (b5.mono hb5.out.size)⟩
  · obtain ⟨rfl, rfl⟩ := inv.2 hE
    have KD0 : Hid (∀ W, Below w.heap.size w W → Calls Tryz.prog 15 #[.slice A zs.length c] W fun e w' => ∃ v, e = .returned (.tuple #[.agg #[.int .u8 0, .int .u8 0, .int .u8 0, .int .u16 0, .int .u8 0, .int .u8 0, .bool false, .bool false, .int .u8 0, v], .int .i64 (E : Int)]) ∧ w'.ownsRow W.heap.size 5 1 v ([] : List UInt8).length (([] : List UInt8).map bv) ∧ Below W.heap.size W w') := fun W b => KD W b
    have KF : Hid (∀ W A c, Rd W W.heap.size A c [] → Calls Tryz.prog 16 #[.agg #[.int .u8 0, .int .u8 0, .int .u8 0, .int .u16 0, .int .u8 0, .int .u8 0, .bool false, .bool false, .int .u8 0, .slice A 0 c], .agg #[.int .u8 0, .int .u8 0, .int .u8 0, .int .u16 0, .int .u8 0, .int .u8 0, .bool false, .bool false, .int .u8 0, .slice none 0 0]] W fun e w' => e = .returned (.int .i64 0) ∧ Below W.heap.size W w') := fun W A c hR => differ_any W { bare 0 with data := .slice A 0 c } (bare 0) A none c 0 [] [] hR (Rd.nil _ _) rfl rfl
    have m0 : ¬ (E : Int) = 0 := by omega
    have m1 : ((E : Int) == 0) = false := beq_eq_false_iff_ne.2 m0
    have m2 : ((E : Int) != 0) = true := by rw [bne, m1]; rfl
    clear inv hE KD KE
    go_enter Tryz.func5, Tryz.ntmps5
    go_wp2_with fail
    refine (KD0.out w (Below.refl _ w)).mono ?_
    rintro e w1 ⟨v1, rfl, o1, b1⟩
    obtain ⟨A1, c1, rfl, r1⟩ := Rd.of_own o1
    have hb1 := Lib.hid b1
    have hr1 := Lib.hid r1
    have hx1 := Lib.hid (Hx.out.belowTop b1)
    clear o1 b1 r1 KD0 s1
    go_wp2_with fail
    have hn1 := Lib.hid (heap_alloc_new w1 (.cells #[.int .u8 0, .int .u8 0, .int .u8 0, .int .u16 0, .int .u8 0, .int .u8 0, .bool false, .bool false, .int .u8 0, .slice A1 0 c1] 29))
    have hb2 := Lib.hid (hb1.out.alloc hb1.out.size (.cells #[.int .u8 0, .int .u8 0, .int .u8 0, .int .u16 0, .int .u8 0, .int .u8 0, .bool false, .bool false, .int .u8 0, .slice A1 0 c1] 29))
    have hal := (Below.refl w1.heap.size w1).alloc (Nat.le_refl _) (.cells #[.int .u8 0, .int .u8 0, .int .u8 0, .int .u16 0, .int .u8 0, .int .u8 0, .bool false, .bool false, .int .u8 0, .slice A1 0 c1] 29)
    have hr2 := Lib.hid (hr1.out.belowTop hal)
    have hx2 := Lib.hid (hx1.out.belowTop hal)
    clear hal hr1 hx1 hb1
    generalize w1.alloc (.cells #[.int .u8 0, .int .u8 0, .int .u8 0, .int .u16 0, .int .u8 0, .int .u8 0, .bool false, .bool false, .int .u8 0, .slice A1 0 c1] 29) = W at hn1 hb2 hr2 hx2 ⊢
    generalize w1.heap.size = G at hn1 ⊢
    refine (KEh.out W hb2.out).mono ?_
    rintro e w2 ⟨rfl, b2⟩
    have hn3 := Lib.hid ((b2.block _ (lt_of_block hn1.out)).trans hn1.out)
    have hb3 := Lib.hid (hb2.out.trans (b2.mono hb2.out.size))
    have hr3 := Lib.hid (hr2.out.belowTop b2)
    have hx3 := Lib.hid (hx2.out.belowTop b2)
    clear b2 hn1 hb2 hr2 hx2 KEh
    have s2 := hx3.out.cu
    have k0 := block_at (i := 0) hn3.out rfl
    have k1 := block_at (i := 1) hn3.out rfl
    have k2 := block_at (i := 2) hn3.out rfl
    have k3 := block_at (i := 3) hn3.out rfl
    have k4 := block_at (i := 4) hn3.out rfl
    have k5 := block_at (i := 5) hn3.out rfl
    have k6 := block_at (i := 6) hn3.out rfl
    have k7 := block_at (i := 7) hn3.out rfl
    have k8 := block_at (i := 8) hn3.out rfl
    have k9 := block_at (i := 9) hn3.out rfl
    go_wp2_with fail
    refine (KF.out w2 A1 c1 hr3.out).mono ?_
    rintro e w3 ⟨rfl, b3⟩
    have hb4 := Lib.hid (hb3.out.trans (b3.mono hb3.out.size))
    clear k0 k1 k2 k3 k4 k5 k6 k7 k8 k9 b3 hn3 hb3 hr3 hx3 s2 KF
    go_wp2_with fail
    refine (KL.out w3 hb4.out).mono ?_
    rintro e w5 ⟨rfl, b5⟩
    go_wp2
    go_ret
    exact ⟨rfl, hb4.out.trans (b5.mono hb4.out.size)⟩

theorem lawDecode_any (w : World) (hL : Laid w) (A : Option Addr) (c : Nat) (zs : List UInt8) (hx : Rd w w.heap.size A c zs) :
    Calls Tryz.prog 5 #[.slice A zs.length c] w (ResB w true) := by
  by_cases h : 1100 < zs.length
  · exact lawDecode_skip w A _ c h
  · exact lawDecode_in w hL A c zs hx (by omega)

end Go.Proofs.YtfblpakoibadoaaGreatDoor
