/-
  Helper text: packets on the line; no statement is proved here.
-/
import Derived.Test.YtjecjiikgejlaaaGreatDoorDecAll
import Derived.Test.YtjecjiikgejlaaaGreatDoorLvSpA
namespace Go.Proofs.YtjecjiikgejlaaaGreatDoor
open Go Go.RowKit

set_option maxHeartbeats 800000 in
set_option maxRecDepth 100000 in
theorem send3 (w : World) (hL : Laid w) (hV : Lv.Laid w) (r : Rg) (ok : r.Ok) (A : Option Addr) (c : Nat) (xs : List UInt8) (hx : Rd w w.heap.size A c xs) (hd : r.data = .slice A xs.length c) (hE : errR r xs = 0) :
    Calls Tryz.prog 18 #[.agg (pcells r)] w (ResOE w 58 (Lv.sendL (encL r xs)) 0) := by
  have KE := Lib.hid fun W hLW hRW => encode_ok W hLW r ok A c xs hRW hd hE
  have hlen : (encL r xs).length ≤ 1027 := by
    have h1 := err_zero r ok xs hE
    have h2 := contentL_len r xs
    have : xs.length ≤ 1024 := h1.2
    have h3 : (encL r xs).length = (contentL r xs).length + 1 := rfl
    cases hi : isD r.pid
    · have h4 : (contentL r xs).length ≤ 3 := by
        unfold contentL
        rw [hi]
        show (bytesN _ _).length ≤ 3
        rw [bytesN_len]
        exact nbytes_le _
      omega
    · have h4 : (contentL r xs).length = xs.length + 2 := by
        unfold contentL
        rw [hi]
        exact Ck.addL_len xs
      omega
  have hpos : 0 < (encL r xs).length := Nat.succ_pos _
  have KS := Lib.hid fun W hVW A' c' hRW => Lv.send_own W hVW A' c' (encL r xs) hRW hpos hlen
  generalize encL r xs = bs at KE KS
  obtain ⟨p0, p1, p2, p3, p4, p5, p6, p7, p8, p9, p10⟩ := r
  simp only at hd
  subst hd
  simp only [pcells] at KE ⊢
  clear ok hE hlen hpos
  have hbW := (Below.refl w.heap.size w).alloc (Nat.le_refl _) (.cells #[.int .u8 (p0 : Int), .int .u8 (p1 : Int), .int .u8 (p2 : Int), .int .u16 (p3 : Int), .int .u8 (p4 : Int), .int .u8 (p5 : Int), .bool p6, .bool p7, .int .u8 (p8 : Int), .slice A xs.length c] 29)
  have hbWh := Lib.hid hbW
  have hLh := Lib.hid hL
  have hVh := Lib.hid hV
  have hxh := Lib.hid hx
  clear hL hx hbW hV
  go_enter Tryz.func18, Tryz.ntmps18
  go_wp2_with fail
  refine (KE.out _ (hLh.out.below hbWh.out) (hxh.out.belowTop hbWh.out)).mono ?_
  rintro e w1 ⟨v1, rfl, o1, b1⟩
  obtain ⟨A1, c1, rfl, r1⟩ := Rd.of_own o1
  have hb1 := Lib.hid (hbWh.out.trans (b1.mono hbWh.out.size))
  have hr1 := Lib.hid r1
  clear o1 b1 r1
  go_wp2_with fail
  refine (KS.out w1 (hVh.out.below hb1.out) A1 c1 hr1.out).mono ?_
  rintro e w2 ⟨v2, rfl, o2, b2⟩
  have ho2 := Lib.hid (own_base o2 hb1.out.size)
  have hb2 := Lib.hid (hb1.out.trans (b2.mono hb1.out.size))
  clear o2 b2
  go_wp2
  go_ret2
  exact ⟨v2, rfl, ho2.out, hb2.out⟩

/-- A packet and an error number are returned. -/
def ResQ (w : World) (E : Int) (e : Ending) (w' : World) : Prop := ∃ cs, e = .returned (.tuple #[.agg cs, .int .i64 E]) ∧ Below w.heap.size w w'

set_option maxHeartbeats 1600000 in
set_option maxRecDepth 100000 in
theorem receive_bad (w : World) (hV : Lv.Laid w) (A : Option Addr) (c : Nat) (ls : List UInt8) (hx : Rd w w.heap.size A c ls) (hl : ls.length ≤ 100000) (E : Int) (hE : (Lv.recvL ls).2 = E) (h0 : E ≠ 0) :
    Calls Tryz.prog 19 #[.slice A ls.length c] w (ResQ w E) := by
  have KR := Lib.hid fun W hVW hRW => Lv.receive_any W hVW A c ls hRW hl
  rw [hE] at KR
  generalize (Lv.recvL ls).1 = ys at KR
  have t0 : (E == 0) = false := by rw [beq_eq_false_iff_ne]; exact h0
  have t1 : (E != 0) = true := by rw [bne, t0]; rfl
  have hBW := (Below.refl w.heap.size w).alloc (Nat.le_refl _) (.cells (pcells (bare 0)) 29)
  have hb := Lib.hid hBW
  have hr := Lib.hid (heap_alloc_new w (.cells (pcells (bare 0)) 29))
  have KR' := Lib.hid (KR.out _ (hV.below hBW) (hx.belowTop hBW))
  clear hV hx hBW KR hE t0 h0
  go_enter Tryz.func19, Tryz.ntmps19
  go_wp2_with fail
  refine KR'.out.mono ?_
  rintro e w1 ⟨A1, c1, rfl, _, b1, _⟩
  have hr1 := Lib.hid ((b1.block _ (lt_of_block hr.out)).trans hr.out)
  have hb1 := Lib.hid (hb.out.trans (b1.mono hb.out.size))
  have hb10 := Lib.hid (fun v0 v1 v2 v3 v4 v5 v6 v7 v8 v9 => below10 v0 v1 v2 v3 v4 v5 v6 v7 v8 v9 hb1.out (Nat.le_refl w.heap.size))
  clear hr hb b1
  have r0 : w1.cell? ⟨w.heap.size, 0, none⟩ = some (.int .u8 0) := cell_at hr1.out 0
  have r1 : w1.cell? ⟨w.heap.size, 1, none⟩ = some (.int .u8 0) := cell_at hr1.out 1
  have r2 : w1.cell? ⟨w.heap.size, 2, none⟩ = some (.int .u8 0) := cell_at hr1.out 2
  have r3 : w1.cell? ⟨w.heap.size, 3, none⟩ = some (.int .u16 0) := cell_at hr1.out 3
  have r4 : w1.cell? ⟨w.heap.size, 4, none⟩ = some (.int .u8 0) := cell_at hr1.out 4
  have r5 : w1.cell? ⟨w.heap.size, 5, none⟩ = some (.int .u8 0) := cell_at hr1.out 5
  have r6 : w1.cell? ⟨w.heap.size, 6, none⟩ = some (.bool false) := cell_at hr1.out 6
  have r7 : w1.cell? ⟨w.heap.size, 7, none⟩ = some (.bool false) := cell_at hr1.out 7
  have r8 : w1.cell? ⟨w.heap.size, 8, none⟩ = some (.int .u8 0) := cell_at hr1.out 8
  have r9 : w1.cell? ⟨w.heap.size, 9, none⟩ = some (.slice none 0 0) := cell_at hr1.out 9
  have fR : ∀ i, w1.frozen? ⟨w.heap.size, i, none⟩ = false := fun i => by simp [World.frozen?, hr1.out]
  go_wp2
  refine bodyPost_ret (results_row_tmp rfl _ _ w.heap.size _ _ _ _ rfl (store10 _ _ _ _ _ _ _ _ _ _ _ _ _ _ _ _ _ _ _ _ hr1.out) Tryz.underlying29 rfl (by kernel_rfl)) rfl ?_
  exact ⟨_, rfl, hb10.out _ _ _ _ _ _ _ _ _ _⟩

set_option maxHeartbeats 1600000 in
set_option maxRecDepth 100000 in
theorem receive_good (w : World) (hL : Laid w) (hV : Lv.Laid w) (A : Option Addr) (c : Nat) (ls : List UInt8) (hx : Rd w w.heap.size A c ls) (hl : ls.length ≤ 100000) (ys : List UInt8) (hE : Lv.recvL ls = (ys, 0)) :
    Calls Tryz.prog 19 #[.slice A ls.length c] w (ResPk w (decR ys).1 (decR ys).2.1 (decR ys).2.2) := by
  have KR := Lib.hid fun W hVW hRW => Lv.receive_any W hVW A c ls hRW hl
  rw [hE] at KR
  have KD := Lib.hid fun W hLW A' c' hRW => decode_any W hLW A' c' ys hRW
  generalize (decR ys).1 = R at KD ⊢
  generalize (decR ys).2.1 = ds at KD ⊢
  generalize (decR ys).2.2 = E at KD ⊢
  have hBW := (Below.refl w.heap.size w).alloc (Nat.le_refl _) (.cells (pcells (bare 0)) 29)
  have hb := Lib.hid hBW
  have hr := Lib.hid (heap_alloc_new w (.cells (pcells (bare 0)) 29))
  have KR' := Lib.hid (KR.out _ (hV.below hBW) (hx.belowTop hBW))
  have hLh := Lib.hid hL
  clear hV hx hBW KR hE hL
  go_enter Tryz.func19, Tryz.ntmps19
  go_wp2_with fail
  refine KR'.out.mono ?_
  rintro e w1 ⟨A1, c1, rfl, rd1, b1, _⟩
  have hr1 := Lib.hid ((b1.block _ (lt_of_block hr.out)).trans hr.out)
  have hb1 := Lib.hid (hb.out.trans (b1.mono hb.out.size))
  have hrd := Lib.hid rd1
  clear hr hb b1 rd1
  go_wp2_with fail
  refine (KD.out w1 (hLh.out.below hb1.out) A1 c1 hrd.out).mono ?_
  rintro e w7 ⟨v, rfl, hown, hB7⟩
  obtain ⟨A7, c7, rfl, _⟩ := Rd.of_own hown
  have hr7 := Lib.hid ((hB7.block _ (lt_of_block hr1.out)).trans hr1.out)
  have hb7 := Lib.hid (hb1.out.trans (hB7.mono hb1.out.size))
  have hlt := lt_of_block hr1.out
  have hg10 := Lib.hid (fun v0 v1 v2 v3 v4 v5 v6 v7 v8 v9 => own_grown hown (grown10 w7 w.heap.size v0 v1 v2 v3 v4 v5 v6 v7 v8 v9) hlt)
  have hb10 := Lib.hid (fun v0 v1 v2 v3 v4 v5 v6 v7 v8 v9 => below10 v0 v1 v2 v3 v4 v5 v6 v7 v8 v9 hb7.out (Nat.le_refl w.heap.size))
  clear hown hB7
  have r0 : w7.cell? ⟨w.heap.size, 0, none⟩ = some (.int .u8 0) := cell_at hr7.out 0
  have r1 : w7.cell? ⟨w.heap.size, 1, none⟩ = some (.int .u8 0) := cell_at hr7.out 1
  have r2 : w7.cell? ⟨w.heap.size, 2, none⟩ = some (.int .u8 0) := cell_at hr7.out 2
  have r3 : w7.cell? ⟨w.heap.size, 3, none⟩ = some (.int .u16 0) := cell_at hr7.out 3
  have r4 : w7.cell? ⟨w.heap.size, 4, none⟩ = some (.int .u8 0) := cell_at hr7.out 4
  have r5 : w7.cell? ⟨w.heap.size, 5, none⟩ = some (.int .u8 0) := cell_at hr7.out 5
  have r6 : w7.cell? ⟨w.heap.size, 6, none⟩ = some (.bool false) := cell_at hr7.out 6
  have r7 : w7.cell? ⟨w.heap.size, 7, none⟩ = some (.bool false) := cell_at hr7.out 7
  have r8 : w7.cell? ⟨w.heap.size, 8, none⟩ = some (.int .u8 0) := cell_at hr7.out 8
  have r9 : w7.cell? ⟨w.heap.size, 9, none⟩ = some (.slice none 0 0) := cell_at hr7.out 9
  have fR : ∀ i, w7.frozen? ⟨w.heap.size, i, none⟩ = false := fun i => by simp [World.frozen?, hr7.out]
  go_wp2
  refine bodyPost_ret (results_row_tmp rfl _ _ w.heap.size _ _ _ _ rfl (store10 _ _ _ _ _ _ _ _ _ _ _ _ _ _ _ _ _ _ _ _ hr7.out) Tryz.underlying29 rfl (by kernel_rfl)) rfl ?_
  exact ⟨_, rfl, own_base (hg10.out _ _ _ _ _ _ _ _ _ _) (Nat.le_of_lt hlt), hb10.out _ _ _ _ _ _ _ _ _ _⟩

end Go.Proofs.YtjecjiikgejlaaaGreatDoor
