/-
  Helper text: the walk of the law PacketsBack; no statement is proved here.
-/
import Derived.Test.YtfblpakoibadoaaGreatDoorReF
import Derived.Test.YtfblpakoibadoaaGreatDoorPktA
import Derived.Test.YtfblpakoibadoaaGreatDoorLawSame
import Derived.Test.YtfblpakoibadoaaGreatDoorLives
namespace Go.Proofs.YtfblpakoibadoaaGreatDoor
open Go Go.RowKit

/-- The string conversion of a slice that reads as xs. -/
abbrev Cv (w : World) (A : Option Addr) (n c : Nat) (xs : List UInt8) : Prop := (convert 27 9 (.slice A n c)).run Tryz.prog w = .ok (.string ⟨xs.toArray⟩) w
theorem Rd.cv {w : World} {B c : Nat} {A : Option Addr} {xs : List UInt8} (h : Rd w B A c xs) : Cv w A xs.length c xs := h.str Tryz.underlying27 Tryz.underlying5 Tryz.underlying9
theorem Rd.cvs {w : World} {c : Nat} {A : Option Addr} {xs : List UInt8} (h : Rd w w.heap.size A c xs) : ∀ w', Gr w w' → Cv w' A xs.length c xs := fun _ hg => (h.below hg).cv
theorem lives_tail {w w3 : World} (hL : Laid w) (b3 : Below w.heap.size w w3) : Calls Tryz.prog 12 #[] w3 (ResB w3 true) := lives_any w3 (hL.below b3)

theorem lawBack_skip (w : World) (wt a b fr fl : Nat) (A : Option Addr) (n c : Nat) (h : 300 < n) :
    Calls Tryz.prog 4 #[.agg (xcells wt a b fr fl (.slice A n c))] w (ResB w true) := by
  have t1 : (300 : Int) < (n : Int) := by omega
  simp only [xcells]
  go_enter Tryz.func4, Tryz.ntmps4
  go_wp2
  go_ret
  exact ⟨rfl, (Below.refl _ w).alloc (Nat.le_refl _) _⟩

set_option maxHeartbeats 3200000 in
set_option maxRecDepth 100000 in
theorem lawBack_in (w : World) (hL : Laid w) (wt a b fr fl : Nat) (hwt : wt < 256) (ha : a < 256) (hb : b < 256) (hfr : fr < 65536) (hfl : fl < 256) (A : Option Addr) (c : Nat) (xs : List UInt8) (hx : Rd w w.heap.size A c xs) (hl : xs.length ≤ 300) :
    Calls Tryz.prog 4 #[.agg (xcells wt a b fr fl (.slice A xs.length c))] w (ResB w true) := by
  have t1 : ¬ (300 : Int) < (xs.length : Int) := by omega
  have hbW := (Below.refl w.heap.size w).alloc (Nat.le_refl _) (.cells (xcells wt a b fr fl (.slice A xs.length c)) 40)
  obtain ⟨r, ys, ok, hf, hyl, KP⟩ := pkt_any (w.alloc (.cells (xcells wt a b fr fl (.slice A xs.length c)) 40)) wt a b fr fl hwt ha hb hfr hfl A c xs (hx.belowTop hbW) (by omega)
  have hE : ∀ v, errR { r with data := v } ys = 0 := fun v => fit_err (ok_data ok v) (fit_data hf v) hyl
  have htrip : ∀ v, decR (encL { r with data := v } ys) = (backR { r with data := v }, ys, 0) := fun v => trip (ok_data ok v) (fit_data hf v) hyl
  have hsm : ∀ v, sameB { r with data := v } (backR { r with data := v }) ys ys = true := fun v => back_same (ok_data ok v) (fit_data hf v) ys rfl
  have hel : ∀ v, (encL { r with data := v } ys).length ≤ 1028 := fun v => by
    have h := contentL_len { r with data := v } ys
    show (contentL _ _).length + 1 ≤ 1028
    omega
  have KE : ∀ W v, Laid W → ∀ A c, Rd W W.heap.size A c ys → v = .slice A ys.length c → Calls Tryz.prog 9 #[.agg (pcells { r with data := v })] W (ResOE W 5 (encL { r with data := v } ys) 0) :=
    fun W v hLW A c hR hv => encode_ok W hLW { r with data := v } (ok_data ok v) A c ys hR hv (hE v)
  have KR : ∀ W v A c, Rd W W.heap.size A c ys → v = .slice A ys.length c → Calls Tryz.prog 13 #[.agg (pcells { r with data := v })] W (ResO W 5 (encL { r with data := v } ys)) :=
    fun W v A c hR hv => refEnc_any W { r with data := v } (ok_data ok v) A c ys (fit_data hf v) hR hv (by omega)
  have KD : ∀ W (v : Value) bs, bs = encL { r with data := v } ys → Laid W → ∀ A c, Rd W W.heap.size A c bs → Calls Tryz.prog 15 #[.slice A bs.length c] W (ResPk W (backR { r with data := v }) ys 0) := fun W v bs hbs hLW A c hR => by
    have h := decode_any W hLW A c bs hR
    rw [hbs, htrip v] at h
    rwa [hbs]
  have KF : ∀ W v A c A' c' (v2 : Value), Rd W W.heap.size A c ys → Rd W W.heap.size A' c' ys → v = .slice A ys.length c → v2 = .slice A' ys.length c' → Calls Tryz.prog 16 #[.agg (pcells { r with data := v }), .agg (pcells { backR { r with data := v } with data := v2 })] W fun e w' => e = .returned (.int .i64 0) ∧ Below W.heap.size W w' :=
    fun W v A c A' c' v2 hR hR' hv hv2 => by
      have h := differ_any W { r with data := v } { backR { r with data := v } with data := v2 } A A' c c' ys ys hR hR' hv hv2
      have hs : sameB { r with data := v } { backR { r with data := v } with data := v2 } ys ys = true := hsm v
      rw [hs] at h
      exact h
  obtain ⟨p0, p1, p2, p3, p4, p5, p6, p7, p8, p9, p10⟩ := r
  have KPh := Lib.hid KP
  have hbWh := Lib.hid hbW
  have hLh := Lib.hid hL
  have Hel := Lib.hid hel
  have KEh := Lib.hid KE
  have KRh := Lib.hid KR
  have KDh := Lib.hid KD
  have KFh := Lib.hid KF
  have KL := Lib.hid fun (W : World) (b : Below w.heap.size w W) => lives_tail hL b
  clear KP hbW hL hx ok hf hE htrip hsm hel KE KR KD KF
  simp only [xcells, ResX, pcells] at KPh hbWh KEh KRh KFh ⊢
  go_enter Tryz.func4, Tryz.ntmps4
  go_wp2_with fail
  refine KPh.out.mono ?_
  rintro e w1 ⟨v1, rfl, o1, b1⟩
  obtain ⟨A1, c1, rfl, r1⟩ := Rd.of_own o1
  have hb1 := Lib.hid (hbWh.out.trans (b1.mono hbWh.out.size))
  have hr1 := Lib.hid r1
  clear o1 b1 r1 KPh hbWh
  go_wp2_with fail
  obtain ⟨bs, hbs⟩ : ∃ bs, bs = encL ({ pid := p0, addr := p1, endp := p2, frame := p3, hub := p4, port := p5, comp := p6, low := p7, kind := p8, data := .slice A1 ys.length c1, spare := p10 : Rg }) ys := ⟨_, rfl⟩
  have hbl : bs.length ≤ 1028 := by rw [hbs]; exact Hel.out (.slice A1 ys.length c1)
  have KE1 : Hid (∀ W, Laid W → Rd W W.heap.size A1 c1 ys → Calls Tryz.prog 9 #[.agg #[.int .u8 (p0 : Int), .int .u8 (p1 : Int), .int .u8 (p2 : Int), .int .u16 (p3 : Int), .int .u8 (p4 : Int), .int .u8 (p5 : Int), .bool p6, .bool p7, .int .u8 (p8 : Int), .slice A1 ys.length c1]] W (ResOE W 5 bs 0)) := fun W hLW hR => by rw [hbs]; exact KEh.out W _ hLW A1 c1 hR rfl
  have KR1 : Hid (∀ W, Rd W W.heap.size A1 c1 ys → Calls Tryz.prog 13 #[.agg #[.int .u8 (p0 : Int), .int .u8 (p1 : Int), .int .u8 (p2 : Int), .int .u16 (p3 : Int), .int .u8 (p4 : Int), .int .u8 (p5 : Int), .bool p6, .bool p7, .int .u8 (p8 : Int), .slice A1 ys.length c1]] W (ResO W 5 bs)) := fun W hR => by rw [hbs]; exact KRh.out W _ A1 c1 hR rfl
  have KD1 : Hid (∀ W, Laid W → ∀ A c, Rd W W.heap.size A c bs → Calls Tryz.prog 15 #[.slice A bs.length c] W (ResPk W (backR ({ pid := p0, addr := p1, endp := p2, frame := p3, hub := p4, port := p5, comp := p6, low := p7, kind := p8, data := .slice A1 ys.length c1, spare := p10 : Rg })) ys 0)) := fun W hLW A c hR => KDh.out W (.slice A1 ys.length c1) bs hbs hLW A c hR
  have KF1 : Hid (∀ W A' c', Rd W W.heap.size A1 c1 ys → Rd W W.heap.size A' c' ys → Calls Tryz.prog 16 #[.agg #[.int .u8 (p0 : Int), .int .u8 (p1 : Int), .int .u8 (p2 : Int), .int .u16 (p3 : Int), .int .u8 (p4 : Int), .int .u8 (p5 : Int), .bool p6, .bool p7, .int .u8 (p8 : Int), .slice A1 ys.length c1], .agg (pcells { backR ({ pid := p0, addr := p1, endp := p2, frame := p3, hub := p4, port := p5, comp := p6, low := p7, kind := p8, data := .slice A1 ys.length c1, spare := p10 : Rg }) with data := .slice A' ys.length c' })] W fun e w' => e = .returned (.int .i64 0) ∧ Below W.heap.size W w') := fun W A' c' h1 h2 => KFh.out W _ A1 c1 A' c' _ h1 h2 rfl rfl
  clear KEh KRh KDh KFh hbs Hel
  generalize backR ({ pid := p0, addr := p1, endp := p2, frame := p3, hub := p4, port := p5, comp := p6, low := p7, kind := p8, data := .slice A1 ys.length c1, spare := p10 : Rg }) = rb at KD1 KF1
  obtain ⟨s0, s1, s2, s3, s4, s5, s6, s7, s8, s9, s10⟩ := rb
  simp only [ResPk, pcells] at KD1 KF1
  have hn1 := Lib.hid (heap_alloc_new w1 (.cells #[.int .u8 (p0 : Int), .int .u8 (p1 : Int), .int .u8 (p2 : Int), .int .u16 (p3 : Int), .int .u8 (p4 : Int), .int .u8 (p5 : Int), .bool p6, .bool p7, .int .u8 (p8 : Int), .slice A1 ys.length c1] 29))
  have hb2 := Lib.hid (hb1.out.alloc hb1.out.size (.cells #[.int .u8 (p0 : Int), .int .u8 (p1 : Int), .int .u8 (p2 : Int), .int .u16 (p3 : Int), .int .u8 (p4 : Int), .int .u8 (p5 : Int), .bool p6, .bool p7, .int .u8 (p8 : Int), .slice A1 ys.length c1] 29))
  have hr2 := Lib.hid (hr1.out.belowTop ((Below.refl w1.heap.size w1).alloc (Nat.le_refl _) (.cells #[.int .u8 (p0 : Int), .int .u8 (p1 : Int), .int .u8 (p2 : Int), .int .u16 (p3 : Int), .int .u8 (p4 : Int), .int .u8 (p5 : Int), .bool p6, .bool p7, .int .u8 (p8 : Int), .slice A1 ys.length c1] 29)))
  have hG := Lib.hid (lt_of_block hn1.out)
  generalize w1.alloc (.cells #[.int .u8 (p0 : Int), .int .u8 (p1 : Int), .int .u8 (p2 : Int), .int .u16 (p3 : Int), .int .u8 (p4 : Int), .int .u8 (p5 : Int), .bool p6, .bool p7, .int .u8 (p8 : Int), .slice A1 ys.length c1] 29) = W1 at hn1 hb2 hr2 hG ⊢
  generalize w1.heap.size = G1 at hn1 hG ⊢
  clear hr1 hb1
  refine (KE1.out W1 (hLh.out.below hb2.out) hr2.out).mono ?_
  rintro e w2 ⟨v2, rfl, o2, b2⟩
  obtain ⟨A2, c2, rfl, r2⟩ := Rd.of_own o2
  have hb3 := Lib.hid (hb2.out.trans (b2.mono hb2.out.size))
  have hn3 := Lib.hid ((b2.block _ (lt_of_block hn1.out)).trans hn1.out)
  have hr3 := Lib.hid (hr2.out.belowTop b2)
  have hB2 := Lib.hid r2
  have hG3 := Lib.hid (lt_of_block hn3.out)
  clear o2 b2 r2 KE1 hn1 hb2 hr2 hG
  go_wp2_with fail
  refine (KD1.out w2 (hLh.out.below hb3.out) A2 c2 hB2.out).mono ?_
  rintro e w3 ⟨v3, rfl, o3, b3⟩
  obtain ⟨A3, c3, rfl, r3⟩ := Rd.of_own o3
  have ho3 := Lib.hid o3
  have hb4 := Lib.hid (hb3.out.trans (b3.mono hb3.out.size))
  have hn4 := Lib.hid ((b3.block _ (lt_of_block hn3.out)).trans hn3.out)
  have hr4 := Lib.hid ((hr3.out.below b3))
  have hB4 := Lib.hid ((hB2.out.below b3))
  have HA3 : Hid (0 < ys.length → ∃ g, A3 = some ⟨g, 0, none⟩ ∧ w2.heap.size ≤ g ∧ g < w3.heap.size) := fun hp => by
    obtain ⟨g, c', e, h1, h2, _⟩ := own_where o3 hp
    injection e with e1 e2 e3
    exact ⟨g, e1, h1, h2⟩
  have hr34 := Lib.hid r3
  have hs23 := Lib.hid b3.size
  have hw2 := Lib.hid hb3.out.size
  clear o3 b3 r3 KD1 hn3 hb3 hr3 hB2
  generalize w2.heap.size = B2 at ho3 hr4 hB4 hG3 hs23 hw2 HA3
  have hal := (Below.refl w3.heap.size w3).alloc (Nat.le_refl _) (.cells #[.int .u8 (s0 : Int), .int .u8 (s1 : Int), .int .u8 (s2 : Int), .int .u16 (s3 : Int), .int .u8 (s4 : Int), .int .u8 (s5 : Int), .bool s6, .bool s7, .int .u8 (s8 : Int), .slice A3 ys.length c3] 29)
  have hn5 := Lib.hid ((hal.block _ (lt_of_block hn4.out)).trans hn4.out)
  have hq5 := Lib.hid (heap_alloc_new w3 (.cells #[.int .u8 (s0 : Int), .int .u8 (s1 : Int), .int .u8 (s2 : Int), .int .u16 (s3 : Int), .int .u8 (s4 : Int), .int .u8 (s5 : Int), .bool s6, .bool s7, .int .u8 (s8 : Int), .slice A3 ys.length c3] 29))
  have hb5 := Lib.hid (hb4.out.trans (hal.mono hb4.out.size))
  have hr5 := Lib.hid ((hr4.out.below (hal.mono hs23.out)))
  have hB5 := Lib.hid ((hB4.out.below (hal.mono hs23.out)))
  have hr35 := Lib.hid (hr34.out.belowTop hal)
  have ho5 := Lib.hid (ho3.out.alloc (.cells #[.int .u8 (s0 : Int), .int .u8 (s1 : Int), .int .u8 (s2 : Int), .int .u16 (s3 : Int), .int .u8 (s4 : Int), .int .u8 (s5 : Int), .bool s6, .bool s7, .int .u8 (s8 : Int), .slice A3 ys.length c3] 29))
  have hs5 := Lib.hid (Nat.le_trans hs23.out hal.size)
  have hQ5 := Lib.hid (Nat.le_trans hs23.out (Nat.le_refl _))
  clear hal hn4 hb4 hr4 hB4 hr34 ho3 hs23
  have kc0 := block_at (i := 0) hn5.out rfl
  have kc1 := block_at (i := 1) hn5.out rfl
  have kc2 := block_at (i := 2) hn5.out rfl
  have kc3 := block_at (i := 3) hn5.out rfl
  have kc4 := block_at (i := 4) hn5.out rfl
  have kc5 := block_at (i := 5) hn5.out rfl
  have kc6 := block_at (i := 6) hn5.out rfl
  have kc7 := block_at (i := 7) hn5.out rfl
  have kc8 := block_at (i := 8) hn5.out rfl
  have kc9 := block_at (i := 9) hn5.out rfl
  have kd0 := block_at (i := 0) hq5.out rfl
  have kd1 := block_at (i := 1) hq5.out rfl
  have kd2 := block_at (i := 2) hq5.out rfl
  have kd3 := block_at (i := 3) hq5.out rfl
  have kd4 := block_at (i := 4) hq5.out rfl
  have kd5 := block_at (i := 5) hq5.out rfl
  have kd6 := block_at (i := 6) hq5.out rfl
  have kd7 := block_at (i := 7) hq5.out rfl
  have kd8 := block_at (i := 8) hq5.out rfl
  have kd9 := block_at (i := 9) hq5.out rfl
  go_wp2_with fail
  generalize hW5 : w3.alloc (.cells #[.int .u8 (s0 : Int), .int .u8 (s1 : Int), .int .u8 (s2 : Int), .int .u16 (s3 : Int), .int .u8 (s4 : Int), .int .u8 (s5 : Int), .bool s6, .bool s7, .int .u8 (s8 : Int), .slice A3 ys.length c3] 29) = W5 at hn5 hq5 hb5 hr5 hB5 hr35 ho5 hs5 kc0 kc1 kc2 kc3 kc4 kc5 kc6 kc7 kc8 kc9 kd0 kd1 kd2 kd3 kd4 kd5 kd6 kd7 kd8 kd9 ⊢
  refine (KF1.out W5 A3 c3 (hr5.out.more hs5.out) hr35.out).mono ?_
  rintro e w6 ⟨rfl, b6⟩
  have hn6 := Lib.hid ((b6.block _ (lt_of_block hn5.out)).trans hn5.out)
  have hq6 := Lib.hid ((b6.block _ (lt_of_block hq5.out)).trans hq5.out)
  have hb6 := Lib.hid (hb5.out.trans (b6.mono hb5.out.size))
  have hr6 := Lib.hid (hr5.out.below (b6.mono hs5.out))
  have hB6 := Lib.hid (hB5.out.below (b6.mono hs5.out))
  have ho6 := Lib.hid (own_below ho5.out b6)
  have hs6 := Lib.hid (Nat.le_trans hs5.out b6.size)
  clear kc0 kc1 kc2 kc3 kc4 kc5 kc6 kc7 kc8 kc9 kd0 kd1 kd2 kd3 kd4 kd5 kd6 kd7 kd8 kd9 b6 hn5 hq5 hb5 hr5 hB5 hr35 ho5 hs5 hW5 KF1
  generalize w3.heap.size = Q at hq6 hQ5 HA3 ⊢
  have sb := hB6.out.cv
  have hd5 := block_at (i := 9) hq6.out rfl
  go_wp2
  go_loopw [9] (fun i wr => ∃ (k : Nat) (zs : List UInt8), k ≤ ys.length ∧ i = .int .i64 k ∧ zs.length = ys.length ∧ wr.ownsRow B2 5 1 (.slice A3 ys.length c3) zs.length (zs.map bv) ∧ Below B2 w6 wr ∧ wr.heap[Q]? = some (.cells #[.int .u8 (s0 : Int), .int .u8 (s1 : Int), .int .u8 (s2 : Int), .int .u16 (s3 : Int), .int .u8 (s4 : Int), .int .u8 (s5 : Int), .bool s6, .bool s7, .int .u8 (s8 : Int), .slice A3 ys.length c3] 29 (0, 0))) (fun i _ => ys.length - (intOf i).toNat)
  case atStart => exact ⟨0, ys, Nat.zero_le _, rfl, rfl, ho6.out, Below.refl _ _, hq6.out⟩
  case round =>
    obtain ⟨k, zs, hk, rfl, hzl, hown, hbr, hqr⟩ := hrel
    have hdr := block_at (i := 9) hqr rfl
    by_cases hlt : k < ys.length
    · obtain ⟨g, eA, hBg, hgQ⟩ := HA3.out (by omega)
      rw [← hzl] at hown
      obtain ⟨g', c', eV, hg', hfz, hcl, hst⟩ := own_store hown (by omega)
      injection eV with e1 e2 e3
      rw [eA] at e1
      injection e1 with e1
      injection e1 with e1
      subst e1
      have hci : wr.cell? ⟨g, k, none⟩ = some (.int .u8 ((zs.getD k 0).toNat : Int)) := hcl k (by omega)
      have hfi := hfz k
      have hsti := Lib.hid (hst k (zs.getD k 0 + 1) (by omega))
      have hvv := Lib.hid (show Value.int .u8 ((((zs.getD k 0).toNat : Int) + 1) % 256) = bv (zs.getD k 0 + 1) by
        show _ = Value.int .u8 _
        rw [UInt8.toNat_add]
        congr 1)
      have h8 : (zs.getD k 0).toNat < 256 := (zs.getD k 0).toNat_lt
      generalize zs.getD k 0 + 1 = y at hsti hvv
      generalize (zs.getD k 0).toNat = x at hci hvv h8
      have HZ := Lib.hid hzl
      have hBr := Lib.hid hBg
      subst eA
      clear hown hcl hfz hst hzl HA3
      go_wp2
      rw [hvv.out]
      go_roundw
      case rel => exact ⟨k + 1, zs.set k y, by omega, by go_num, by rw [List.length_set]; exact HZ.out, by have h := hsti.out; rwa [HZ.out] at h, hbr.setCell hBr.out _, by rw [Below.heap_setCell _ _ _ _ (by show Q ≠ g; omega)]; exact hqr⟩
      case measure => simp [intOf]; omega
    · obtain rfl : k = ys.length := by omega
      have hbw := Lib.hid (hb6.out.trans (hbr.mono hw2.out))
      have hnr := Lib.hid ((hbr.block _ hG3.out).trans hn6.out)
      have hrr := Lib.hid ((hr6.out.below hbr).more (Nat.le_trans hs6.out hbr.size))
      have hBr := Lib.hid ((hB6.out.below hbr).more (Nat.le_trans hs6.out hbr.size))
      clear hown hbr hqr hb6 hn6 hr6 hB6 ho6 sb hd5
      go_wp2_with fail
      refine startG 16 (l := #[false, false, false, false, false, false, false, false, false, false, false, false, false, false, false, false]) (by kernel_rfl) rfl rfl ?_
      have hbd : Hid (Below w.heap.size w wr.drew) := hbw.out.drew
      have hnd : Hid (wr.drew.heap[G1]? = _) := hnr
      have hrd : Hid (Rd wr.drew wr.drew.heap.size A1 c1 ys) := hrr.out.drew
      have hBd : Rd wr.drew wr.drew.heap.size A2 c2 bs := hBr.out.drew
      generalize wr.drew = w7 at hbd hnd hrd hBd ⊢
      have s2 := hBd.cvs
      clear hbw hnr hrr hBr hdr hzl
      ((first | (refine takeG 0 (v := ?_) rfl (by decide +kernel) (by decide +kernel) (by decide +kernel) (fun _ _ _ h => h) (Or.inl ⟨by rfl, ?_⟩) ?_; rotate_left 1; (focus (intro W hW; go_simp; first | done | with_reducible rfl)); try simp only [Act.put, List.setIfInBounds_toArray, List.set_cons_zero, List.set_cons_succ]) | (refine takeG 0 rfl (by decide +kernel) (by decide +kernel) (by decide +kernel) (fun _ _ _ h => h) (Or.inr ⟨by rfl, rfl⟩) ?_; try simp only [Act.put, List.setIfInBounds_toArray, List.set_cons_zero, List.set_cons_succ]) | skip); (first | (refine takeG 1 (v := ?_) rfl (by decide +kernel) (by decide +kernel) (by decide +kernel) (fun _ _ _ h => h) (Or.inl ⟨by rfl, ?_⟩) ?_; rotate_left 1; (focus (intro W hW; go_simp; first | done | with_reducible rfl)); try simp only [Act.put, List.setIfInBounds_toArray, List.set_cons_zero, List.set_cons_succ]) | (refine takeG 1 rfl (by decide +kernel) (by decide +kernel) (by decide +kernel) (fun _ _ _ h => h) (Or.inr ⟨by rfl, rfl⟩) ?_; try simp only [Act.put, List.setIfInBounds_toArray, List.set_cons_zero, List.set_cons_succ]) | skip); (first | (refine takeG 2 (v := ?_) rfl (by decide +kernel) (by decide +kernel) (by decide +kernel) (fun _ _ _ h => h) (Or.inl ⟨by rfl, ?_⟩) ?_; rotate_left 1; (focus (intro W hW; go_simp; first | done | with_reducible rfl)); try simp only [Act.put, List.setIfInBounds_toArray, List.set_cons_zero, List.set_cons_succ]) | (refine takeG 2 rfl (by decide +kernel) (by decide +kernel) (by decide +kernel) (fun _ _ _ h => h) (Or.inr ⟨by rfl, rfl⟩) ?_; try simp only [Act.put, List.setIfInBounds_toArray, List.set_cons_zero, List.set_cons_succ]) | skip); (first | (refine takeG 3 (v := ?_) rfl (by decide +kernel) (by decide +kernel) (by decide +kernel) (fun _ _ _ h => h) (Or.inl ⟨by rfl, ?_⟩) ?_; rotate_left 1; (focus (intro W hW; go_simp; first | done | with_reducible rfl)); try simp only [Act.put, List.setIfInBounds_toArray, List.set_cons_zero, List.set_cons_succ]) | (refine takeG 3 rfl (by decide +kernel) (by decide +kernel) (by decide +kernel) (fun _ _ _ h => h) (Or.inr ⟨by rfl, rfl⟩) ?_; try simp only [Act.put, List.setIfInBounds_toArray, List.set_cons_zero, List.set_cons_succ]) | skip); (first | (refine takeG 4 (v := ?_) rfl (by decide +kernel) (by decide +kernel) (by decide +kernel) (fun _ _ _ h => h) (Or.inl ⟨by rfl, ?_⟩) ?_; rotate_left 1; (focus (intro W hW; go_simp; first | done | with_reducible rfl)); try simp only [Act.put, List.setIfInBounds_toArray, List.set_cons_zero, List.set_cons_succ]) | (refine takeG 4 rfl (by decide +kernel) (by decide +kernel) (by decide +kernel) (fun _ _ _ h => h) (Or.inr ⟨by rfl, rfl⟩) ?_; try simp only [Act.put, List.setIfInBounds_toArray, List.set_cons_zero, List.set_cons_succ]) | skip); (first | (refine takeG 5 (v := ?_) rfl (by decide +kernel) (by decide +kernel) (by decide +kernel) (fun _ _ _ h => h) (Or.inl ⟨by rfl, ?_⟩) ?_; rotate_left 1; (focus (intro W hW; go_simp; first | done | with_reducible rfl)); try simp only [Act.put, List.setIfInBounds_toArray, List.set_cons_zero, List.set_cons_succ]) | (refine takeG 5 rfl (by decide +kernel) (by decide +kernel) (by decide +kernel) (fun _ _ _ h => h) (Or.inr ⟨by rfl, rfl⟩) ?_; try simp only [Act.put, List.setIfInBounds_toArray, List.set_cons_zero, List.set_cons_succ]) | skip); (first | (refine takeG 6 (v := ?_) rfl (by decide +kernel) (by decide +kernel) (by decide +kernel) (fun _ _ _ h => h) (Or.inl ⟨by rfl, ?_⟩) ?_; rotate_left 1; (focus (intro W hW; go_simp; first | done | with_reducible rfl)); try simp only [Act.put, List.setIfInBounds_toArray, List.set_cons_zero, List.set_cons_succ]) | (refine takeG 6 rfl (by decide +kernel) (by decide +kernel) (by decide +kernel) (fun _ _ _ h => h) (Or.inr ⟨by rfl, rfl⟩) ?_; try simp only [Act.put, List.setIfInBounds_toArray, List.set_cons_zero, List.set_cons_succ]) | skip))
      refine takeG 7 (v := .agg #[.int .u8 (p0 : Int), .int .u8 (p1 : Int), .int .u8 (p2 : Int), .int .u16 (p3 : Int), .int .u8 (p4 : Int), .int .u8 (p5 : Int), .bool p6, .bool p7, .int .u8 (p8 : Int), .slice A1 ys.length c1]) rfl (by decide +kernel) (by decide +kernel) (by decide +kernel) (fun _ _ _ h => h) (Or.inl ⟨by rfl, ?_⟩) ?_
      · intro W hW
        have hn := (hW.block _ (lt_of_block hnd.out)).trans hnd.out
        have q0 := block_at (i := 0) hn rfl
        have q1 := block_at (i := 1) hn rfl
        have q2 := block_at (i := 2) hn rfl
        have q3 := block_at (i := 3) hn rfl
        have q4 := block_at (i := 4) hn rfl
        have q5 := block_at (i := 5) hn rfl
        have q6 := block_at (i := 6) hn rfl
        have q7 := block_at (i := 7) hn rfl
        have q8 := block_at (i := 8) hn rfl
        have q9 := block_at (i := 9) hn rfl
        clear hn hW
        go_simp
        first | done | with_reducible rfl
      try simp only [Act.put, List.setIfInBounds_toArray, List.set_cons_zero, List.set_cons_succ]
      refine stepG 8 rfl (by decide +kernel) (by rfl) ?_
      intro K hK
      go_simp
      refine (KR1.out w7 hrd.out).mono ?_
      rintro e w8 ⟨v8, rfl, o8, b8⟩
      obtain ⟨A8, c8, rfl, r8⟩ := Rd.of_own o8
      refine hK _ _ b8 ?_
      clear hK K s2 o8
      try simp only [Act.put, List.setIfInBounds_toArray, List.set_cons_zero, List.set_cons_succ]
      have hb8 := Lib.hid (hbd.out.trans (b8.mono hbd.out.size))
      have s8 := r8.cvs
      clear b8 hBd hrd hnd hbd
      ((first | (refine takeG 9 (v := ?_) rfl (by decide +kernel) (by decide +kernel) (by decide +kernel) (fun _ _ _ h => h) (Or.inl ⟨by rfl, ?_⟩) ?_; rotate_left 1; (focus (intro W hW; go_simp; first | done | with_reducible rfl)); try simp only [Act.put, List.setIfInBounds_toArray, List.set_cons_zero, List.set_cons_succ]) | (refine takeG 9 rfl (by decide +kernel) (by decide +kernel) (by decide +kernel) (fun _ _ _ h => h) (Or.inr ⟨by rfl, rfl⟩) ?_; try simp only [Act.put, List.setIfInBounds_toArray, List.set_cons_zero, List.set_cons_succ]) | skip); (first | (refine takeG 10 (v := ?_) rfl (by decide +kernel) (by decide +kernel) (by decide +kernel) (fun _ _ _ h => h) (Or.inl ⟨by rfl, ?_⟩) ?_; rotate_left 1; (focus (intro W hW; go_simp; first | done | with_reducible rfl)); try simp only [Act.put, List.setIfInBounds_toArray, List.set_cons_zero, List.set_cons_succ]) | (refine takeG 10 rfl (by decide +kernel) (by decide +kernel) (by decide +kernel) (fun _ _ _ h => h) (Or.inr ⟨by rfl, rfl⟩) ?_; try simp only [Act.put, List.setIfInBounds_toArray, List.set_cons_zero, List.set_cons_succ]) | skip); (first | (refine takeG 11 (v := ?_) rfl (by decide +kernel) (by decide +kernel) (by decide +kernel) (fun _ _ _ h => h) (Or.inl ⟨by rfl, ?_⟩) ?_; rotate_left 1; (focus (intro W hW; go_simp; first | done | with_reducible rfl)); try simp only [Act.put, List.setIfInBounds_toArray, List.set_cons_zero, List.set_cons_succ]) | (refine takeG 11 rfl (by decide +kernel) (by decide +kernel) (by decide +kernel) (fun _ _ _ h => h) (Or.inr ⟨by rfl, rfl⟩) ?_; try simp only [Act.put, List.setIfInBounds_toArray, List.set_cons_zero, List.set_cons_succ]) | skip); (first | (refine takeG 12 (v := ?_) rfl (by decide +kernel) (by decide +kernel) (by decide +kernel) (fun _ _ _ h => h) (Or.inl ⟨by rfl, ?_⟩) ?_; rotate_left 1; (focus (intro W hW; go_simp; first | done | with_reducible rfl)); try simp only [Act.put, List.setIfInBounds_toArray, List.set_cons_zero, List.set_cons_succ]) | (refine takeG 12 rfl (by decide +kernel) (by decide +kernel) (by decide +kernel) (fun _ _ _ h => h) (Or.inr ⟨by rfl, rfl⟩) ?_; try simp only [Act.put, List.setIfInBounds_toArray, List.set_cons_zero, List.set_cons_succ]) | skip))
      refine stepG 13 rfl (by decide +kernel) (by rfl) ?_
      intro K hK
      go_simp
      refine (KL.out w8 hb8.out).mono ?_
      rintro e w9 ⟨rfl, b9⟩
      refine hK _ _ b9 ?_
      clear hK K s8
      try simp only [Act.put, List.setIfInBounds_toArray, List.set_cons_zero, List.set_cons_succ]
      ((first | (refine takeG 14 (v := ?_) rfl (by decide +kernel) (by decide +kernel) (by decide +kernel) (fun _ _ _ h => h) (Or.inl ⟨by rfl, ?_⟩) ?_; rotate_left 1; (focus (intro W hW; go_simp; first | done | with_reducible rfl)); try simp only [Act.put, List.setIfInBounds_toArray, List.set_cons_zero, List.set_cons_succ]) | (refine takeG 14 rfl (by decide +kernel) (by decide +kernel) (by decide +kernel) (fun _ _ _ h => h) (Or.inr ⟨by rfl, rfl⟩) ?_; try simp only [Act.put, List.setIfInBounds_toArray, List.set_cons_zero, List.set_cons_succ]) | skip); (first | (refine takeG 15 (v := ?_) rfl (by decide +kernel) (by decide +kernel) (by decide +kernel) (fun _ _ _ h => h) (Or.inl ⟨by rfl, ?_⟩) ?_; rotate_left 1; (focus (intro W hW; go_simp; first | done | with_reducible rfl)); try simp only [Act.put, List.setIfInBounds_toArray, List.set_cons_zero, List.set_cons_succ]) | (refine takeG 15 rfl (by decide +kernel) (by decide +kernel) (by decide +kernel) (fun _ _ _ h => h) (Or.inr ⟨by rfl, rfl⟩) ?_; try simp only [Act.put, List.setIfInBounds_toArray, List.set_cons_zero, List.set_cons_succ]) | skip))
      refine doneG (by kernel_rfl) ?_
      go_wp2
      go_ret
      exact ⟨rfl, hb8.out.trans (b9.mono hb8.out.size)⟩

theorem lawBack_any (w : World) (hL : Laid w) (wt a b fr fl : Nat) (hwt : wt < 256) (ha : a < 256) (hb : b < 256) (hfr : fr < 65536) (hfl : fl < 256) (A : Option Addr) (c : Nat) (xs : List UInt8) (hx : Rd w w.heap.size A c xs) :
    Calls Tryz.prog 4 #[.agg (xcells wt a b fr fl (.slice A xs.length c))] w (ResB w true) := by
  by_cases h : 300 < xs.length
  · exact lawBack_skip w wt a b fr fl A _ c h
  · exact lawBack_in w hL wt a b fr fl hwt ha hb hfr hfl A c xs hx (by omega)

end Go.Proofs.YtfblpakoibadoaaGreatDoor
