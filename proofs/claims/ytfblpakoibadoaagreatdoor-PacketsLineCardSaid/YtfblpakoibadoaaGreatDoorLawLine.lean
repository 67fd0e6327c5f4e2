/-
  Helper text, several in one; no statement is proved here.
-/
import Derived.Test.YtfblpakoibadoaaGreatDoorDecAll
import Derived.Test.YtfblpakoibadoaaGreatDoorLvRefF
import Derived.Test.YtfblpakoibadoaaGreatDoorErE
import Derived.Test.YtfblpakoibadoaaGreatDoorLawSame
import Derived.Test.YtfblpakoibadoaaGreatDoorPktA
import Derived.Test.YtfblpakoibadoaaGreatDoorLives
import Derived.Test.YtfblpakoibadoaaGreatDoorRow
import Derived.Test.YtfblpakoibadoaaGreatDoorOpenP
namespace Go.Proofs.YtfblpakoibadoaaGreatDoor
open Go Go.RowKit

set_option maxHeartbeats 800000 in
set_option maxRecDepth 100000 in
theorem send3 (w : World) (hL : Laid w) (hV : Lv.Laid w) (r : Rg) (ok : r.Ok) (A : Option Addr) (c : Nat) (xs : List UInt8) (hx : Rd w w.heap.size A c xs) (hd : r.data = .slice A xs.length c) (hE : errR r xs = 0) :
    Calls Tryz.prog 18 #[.agg (pcells r)] w (ResOE w 58 (Lv.sendL (encL r xs)) 0) := by
  have KE := Lib.hid fun W hLW hRW => encode_ok W hLW r ok A c xs hRW hd hE
  have hlen : (encL r xs).length ≤ 1027 := by
    have h1 := err_zero r ok xs hE
    have h2 := contentL_len r xs
    have : xs.length ≤ 1024 := h1.2
    have h3 : (encL r xs).length = (contentL r xs).length + 1 := rfl
    cases hi : isD r.pid
    · have h4 : (contentL r xs).length ≤ 3 := by
        unfold contentL
        rw [hi]
        show (bytesN _ _).length ≤ 3
        rw [bytesN_len]
        exact nbytes_le _
      omega
    · have h4 : (contentL r xs).length = xs.length + 2 := by
        unfold contentL
        rw [hi]
        exact Ck.addL_len xs
      omega
  have hpos : 0 < (encL r xs).length := Nat.succ_pos _
  have KS := Lib.hid fun W hVW A' c' hRW => Lv.send_own W hVW A' c' (encL r xs) hRW hpos hlen
  generalize encL r xs = bs at KE KS
  obtain ⟨p0, p1, p2, p3, p4, p5, p6, p7, p8, p9, p10⟩ := r
  simp only at hd
  subst hd
  simp only [pcells] at KE ⊢
  clear ok hE hlen hpos
  have hbW := (Below.refl w.heap.size w).alloc (Nat.le_refl _) (.cells #[.int .u8 (p0 : Int), .int .u8 (p1 : Int), .int .u8 (p2 : Int), .int .u16 (p3 : Int), .int .u8 (p4 : Int), .int .u8 (p5 : Int), .bool p6, .bool p7, .int .u8 (p8 : Int), .slice A xs.length c] 29)
  have hbWh := Lib.hid hbW
  have hLh := Lib.hid hL
  have hVh := Lib.hid hV
  have hxh := Lib.hid hx
  clear hL hx hbW hV
  go_enter Tryz.func18, Tryz.ntmps18
  go_wp2_with fail
  refine (KE.out _ (hLh.out.below hbWh.out) (hxh.out.belowTop hbWh.out)).mono ?_
  rintro e w1 ⟨v1, rfl, o1, b1⟩
  obtain ⟨A1, c1, rfl, r1⟩ := Rd.of_own o1
  have hb1 := Lib.hid (hbWh.out.trans (b1.mono hbWh.out.size))
  have hr1 := Lib.hid r1
  clear o1 b1 r1
  go_wp2_with fail
  refine (KS.out w1 (hVh.out.below hb1.out) A1 c1 hr1.out).mono ?_
  rintro e w2 ⟨v2, rfl, o2, b2⟩
  have ho2 := Lib.hid (own_base o2 hb1.out.size)
  have hb2 := Lib.hid (hb1.out.trans (b2.mono hb1.out.size))
  clear o2 b2
  go_wp2
  go_ret2
  exact ⟨v2, rfl, ho2.out, hb2.out⟩

/-- A packet and an error number are returned. -/
def ResQ (w : World) (E : Int) (e : Ending) (w' : World) : Prop := ∃ cs, e = .returned (.tuple #[.agg cs, .int .i64 E]) ∧ Below w.heap.size w w'

set_option maxHeartbeats 1600000 in
set_option maxRecDepth 100000 in
theorem receive_bad (w : World) (hV : Lv.Laid w) (A : Option Addr) (c : Nat) (ls : List UInt8) (hx : Rd w w.heap.size A c ls) (hl : ls.length ≤ 100000) (E : Int) (hE : (Lv.recvL ls).2 = E) (h0 : E ≠ 0) :
    Calls Tryz.prog 19 #[.slice A ls.length c] w (ResQ w E) := by
  have KR := Lib.hid fun W hVW hRW => Lv.receive_any W hVW A c ls hRW hl
  rw [hE] at KR
  generalize (Lv.recvL ls).1 = ys at KR
  have t0 : (E == 0) = false := by rw [beq_eq_false_iff_ne]; exact h0
  have t1 : (E != 0) = true := by rw [bne, t0]; rfl
  have hBW := (Below.refl w.heap.size w).alloc (Nat.le_refl _) (.cells (pcells (bare 0)) 29)
  have hb := Lib.hid hBW
  have hr := Lib.hid (heap_alloc_new w (.cells (pcells (bare 0)) 29))
  have KR' := Lib.hid (KR.out _ (hV.below hBW) (hx.belowTop hBW))
  clear hV hx hBW KR hE t0 h0
  go_enter Tryz.func19, Tryz.ntmps19
  go_wp2_with fail
  refine KR'.out.mono ?_
  rintro e w1 ⟨A1, c1, rfl, _, b1, _⟩
  have hr1 := Lib.hid ((b1.block _ (lt_of_block hr.out)).trans hr.out)
  have hb1 := Lib.hid (hb.out.trans (b1.mono hb.out.size))
  have hb10 := Lib.hid (fun v0 v1 v2 v3 v4 v5 v6 v7 v8 v9 => below10 v0 v1 v2 v3 v4 v5 v6 v7 v8 v9 hb1.out (Nat.le_refl w.heap.size))
  clear hr hb b1
  have r0 : w1.cell? ⟨w.heap.size, 0, none⟩ = some (.int .u8 0) := cell_at hr1.out 0
  have r1 : w1.cell? ⟨w.heap.size, 1, none⟩ = some (.int .u8 0) := cell_at hr1.out 1
  have r2 : w1.cell? ⟨w.heap.size, 2, none⟩ = some (.int .u8 0) := cell_at hr1.out 2
  have r3 : w1.cell? ⟨w.heap.size, 3, none⟩ = some (.int .u16 0) := cell_at hr1.out 3
  have r4 : w1.cell? ⟨w.heap.size, 4, none⟩ = some (.int .u8 0) := cell_at hr1.out 4
  have r5 : w1.cell? ⟨w.heap.size, 5, none⟩ = some (.int .u8 0) := cell_at hr1.out 5
  have r6 : w1.cell? ⟨w.heap.size, 6, none⟩ = some (.bool false) := cell_at hr1.out 6
  have r7 : w1.cell? ⟨w.heap.size, 7, none⟩ = some (.bool false) := cell_at hr1.out 7
  have r8 : w1.cell? ⟨w.heap.size, 8, none⟩ = some (.int .u8 0) := cell_at hr1.out 8
  have r9 : w1.cell? ⟨w.heap.size, 9, none⟩ = some (.slice none 0 0) := cell_at hr1.out 9
  have fR : ∀ i, w1.frozen? ⟨w.heap.size, i, none⟩ = false := fun i => by simp [World.frozen?, hr1.out]
  go_wp2
  refine bodyPost_ret (results_row_tmp rfl _ _ w.heap.size _ _ _ _ rfl (store10 _ _ _ _ _ _ _ _ _ _ _ _ _ _ _ _ _ _ _ _ hr1.out) Tryz.underlying29 rfl (by kernel_rfl)) rfl ?_
  exact ⟨_, rfl, hb10.out _ _ _ _ _ _ _ _ _ _⟩

set_option maxHeartbeats 1600000 in
set_option maxRecDepth 100000 in
theorem receive_good (w : World) (hL : Laid w) (hV : Lv.Laid w) (A : Option Addr) (c : Nat) (ls : List UInt8) (hx : Rd w w.heap.size A c ls) (hl : ls.length ≤ 100000) (ys : List UInt8) (hE : Lv.recvL ls = (ys, 0)) :
    Calls Tryz.prog 19 #[.slice A ls.length c] w (ResPk w (decR ys).1 (decR ys).2.1 (decR ys).2.2) := by
  have KR := Lib.hid fun W hVW hRW => Lv.receive_any W hVW A c ls hRW hl
  rw [hE] at KR
  have KD := Lib.hid fun W hLW A' c' hRW => decode_any W hLW A' c' ys hRW
  generalize (decR ys).1 = R at KD ⊢
  generalize (decR ys).2.1 = ds at KD ⊢
  generalize (decR ys).2.2 = E at KD ⊢
  have hBW := (Below.refl w.heap.size w).alloc (Nat.le_refl _) (.cells (pcells (bare 0)) 29)
  have hb := Lib.hid hBW
  have hr := Lib.hid (heap_alloc_new w (.cells (pcells (bare 0)) 29))
  have KR' := Lib.hid (KR.out _ (hV.below hBW) (hx.belowTop hBW))
  have hLh := Lib.hid hL
  clear hV hx hBW KR hE hL
  go_enter Tryz.func19, Tryz.ntmps19
  go_wp2_with fail
  refine KR'.out.mono ?_
  rintro e w1 ⟨A1, c1, rfl, rd1, b1, _⟩
  have hr1 := Lib.hid ((b1.block _ (lt_of_block hr.out)).trans hr.out)
  have hb1 := Lib.hid (hb.out.trans (b1.mono hb.out.size))
  have hrd := Lib.hid rd1
  clear hr hb b1 rd1
  go_wp2_with fail
  refine (KD.out w1 (hLh.out.below hb1.out) A1 c1 hrd.out).mono ?_
  rintro e w7 ⟨v, rfl, hown, hB7⟩
  obtain ⟨A7, c7, rfl, _⟩ := Rd.of_own hown
  have hr7 := Lib.hid ((hB7.block _ (lt_of_block hr1.out)).trans hr1.out)
  have hb7 := Lib.hid (hb1.out.trans (hB7.mono hb1.out.size))
  have hlt := lt_of_block hr1.out
  have hg10 := Lib.hid (fun v0 v1 v2 v3 v4 v5 v6 v7 v8 v9 => own_grown hown (grown10 w7 w.heap.size v0 v1 v2 v3 v4 v5 v6 v7 v8 v9) hlt)
  have hb10 := Lib.hid (fun v0 v1 v2 v3 v4 v5 v6 v7 v8 v9 => below10 v0 v1 v2 v3 v4 v5 v6 v7 v8 v9 hb7.out (Nat.le_refl w.heap.size))
  clear hown hB7
  have r0 : w7.cell? ⟨w.heap.size, 0, none⟩ = some (.int .u8 0) := cell_at hr7.out 0
  have r1 : w7.cell? ⟨w.heap.size, 1, none⟩ = some (.int .u8 0) := cell_at hr7.out 1
  have r2 : w7.cell? ⟨w.heap.size, 2, none⟩ = some (.int .u8 0) := cell_at hr7.out 2
  have r3 : w7.cell? ⟨w.heap.size, 3, none⟩ = some (.int .u16 0) := cell_at hr7.out 3
  have r4 : w7.cell? ⟨w.heap.size, 4, none⟩ = some (.int .u8 0) := cell_at hr7.out 4
  have r5 : w7.cell? ⟨w.heap.size, 5, none⟩ = some (.int .u8 0) := cell_at hr7.out 5
  have r6 : w7.cell? ⟨w.heap.size, 6, none⟩ = some (.bool false) := cell_at hr7.out 6
  have r7 : w7.cell? ⟨w.heap.size, 7, none⟩ = some (.bool false) := cell_at hr7.out 7
  have r8 : w7.cell? ⟨w.heap.size, 8, none⟩ = some (.int .u8 0) := cell_at hr7.out 8
  have r9 : w7.cell? ⟨w.heap.size, 9, none⟩ = some (.slice none 0 0) := cell_at hr7.out 9
  have fR : ∀ i, w7.frozen? ⟨w.heap.size, i, none⟩ = false := fun i => by simp [World.frozen?, hr7.out]
  go_wp2
  refine bodyPost_ret (results_row_tmp rfl _ _ w.heap.size _ _ _ _ rfl (store10 _ _ _ _ _ _ _ _ _ _ _ _ _ _ _ _ _ _ _ _ hr7.out) Tryz.underlying29 rfl (by kernel_rfl)) rfl ?_
  exact ⟨_, rfl, own_base (hg10.out _ _ _ _ _ _ _ _ _ _) (Nat.le_of_lt hlt), hb10.out _ _ _ _ _ _ _ _ _ _⟩

end Go.Proofs.YtfblpakoibadoaaGreatDoor

namespace Go.Proofs.YtfblpakoibadoaaGreatDoor
open Go Go.RowKit

set_option maxHeartbeats 1600000 in
set_option maxRecDepth 100000 in
theorem receive_zero (w : World) (hV : Lv.Laid w) (A : Option Addr) (c : Nat) (ls : List UInt8) (hx : Rd w w.heap.size A c ls) (hl : ls.length ≤ 100000) (E : Nat) (hE : (Lv.recvL ls).2 = (E : Int)) (h0 : E ≠ 0) :
    Calls Tryz.prog 19 #[.slice A ls.length c] w (ResPk w (bare 0) [] E) := by
  have KR := Lib.hid fun W hVW hRW => Lv.receive_any W hVW A c ls hRW hl
  rw [hE] at KR
  generalize (Lv.recvL ls).1 = ys at KR
  have tn : ¬ (E : Int) = 0 := by omega
  have t0 : ((E : Int) == 0) = false := beq_eq_false_iff_ne.2 tn
  have t1 : ((E : Int) != 0) = true := by rw [bne, t0]; rfl
  have hBW := (Below.refl w.heap.size w).alloc (Nat.le_refl _) (.cells (pcells (bare 0)) 29)
  have hb := Lib.hid hBW
  have hr := Lib.hid (heap_alloc_new w (.cells (pcells (bare 0)) 29))
  have KR' := Lib.hid (KR.out _ (hV.below hBW) (hx.belowTop hBW))
  clear hV hx hBW KR hE t0 h0
  go_enter Tryz.func19, Tryz.ntmps19
  go_wp2_with fail
  refine KR'.out.mono ?_
  rintro e w1 ⟨A1, c1, rfl, _, b1, _⟩
  have hr1 := Lib.hid ((b1.block _ (lt_of_block hr.out)).trans hr.out)
  have hb1 := Lib.hid (hb.out.trans (b1.mono hb.out.size))
  have hb10 := Lib.hid (fun v0 v1 v2 v3 v4 v5 v6 v7 v8 v9 => below10 v0 v1 v2 v3 v4 v5 v6 v7 v8 v9 hb1.out (Nat.le_refl w.heap.size))
  clear hr hb b1
  have r0 : w1.cell? ⟨w.heap.size, 0, none⟩ = some (.int .u8 0) := cell_at hr1.out 0
  have r1 : w1.cell? ⟨w.heap.size, 1, none⟩ = some (.int .u8 0) := cell_at hr1.out 1
  have r2 : w1.cell? ⟨w.heap.size, 2, none⟩ = some (.int .u8 0) := cell_at hr1.out 2
  have r3 : w1.cell? ⟨w.heap.size, 3, none⟩ = some (.int .u16 0) := cell_at hr1.out 3
  have r4 : w1.cell? ⟨w.heap.size, 4, none⟩ = some (.int .u8 0) := cell_at hr1.out 4
  have r5 : w1.cell? ⟨w.heap.size, 5, none⟩ = some (.int .u8 0) := cell_at hr1.out 5
  have r6 : w1.cell? ⟨w.heap.size, 6, none⟩ = some (.bool false) := cell_at hr1.out 6
  have r7 : w1.cell? ⟨w.heap.size, 7, none⟩ = some (.bool false) := cell_at hr1.out 7
  have r8 : w1.cell? ⟨w.heap.size, 8, none⟩ = some (.int .u8 0) := cell_at hr1.out 8
  have r9 : w1.cell? ⟨w.heap.size, 9, none⟩ = some (.slice none 0 0) := cell_at hr1.out 9
  have fR : ∀ i, w1.frozen? ⟨w.heap.size, i, none⟩ = false := fun i => by simp [World.frozen?, hr1.out]
  go_wp2
  refine bodyPost_ret (results_row_tmp rfl _ _ w.heap.size _ _ _ _ rfl (store10 _ _ _ _ _ _ _ _ _ _ _ _ _ _ _ _ _ _ _ _ hr1.out) Tryz.underlying29 rfl (by kernel_rfl)) rfl ?_
  exact ⟨_, rfl, own_nil _ _ _, hb10.out _ _ _ _ _ _ _ _ _ _⟩

/-- What is received from states: the packet, its data and the error. -/
def lineR (ls : List UInt8) : Rg × List UInt8 × Nat := if (Lv.recvL ls).2 = 0 then decR (Lv.recvL ls).1 else (bare 0, [], (Lv.recvL ls).2.toNat)
theorem recv_nat (ls : List UInt8) : ((Lv.recvL ls).2.toNat : Int) = (Lv.recvL ls).2 := by
  have h : ∀ xs, 0 ≤ (Lv.contentL xs).2 := fun xs => by
    unfold Lv.contentL
    repeat' split
    all_goals first | decide | exact Int.le_refl _
  have h2 : 0 ≤ (Lv.recvL ls).2 := by
    unfold Lv.recvL
    repeat' split
    all_goals first | decide | exact h _
  exact Int.toNat_of_nonneg h2
theorem receive_line (w : World) (hL : Laid w) (hV : Lv.Laid w) (A : Option Addr) (c : Nat) (ls : List UInt8) (hx : Rd w w.heap.size A c ls) (hl : ls.length ≤ 100000) :
    Calls Tryz.prog 19 #[.slice A ls.length c] w (ResPk w (lineR ls).1 (lineR ls).2.1 (lineR ls).2.2) := by
  unfold lineR
  by_cases h : (Lv.recvL ls).2 = 0
  · rw [if_pos h]
    exact receive_good w hL hV A c ls hx hl (Lv.recvL ls).1 (Prod.ext rfl h)
  · rw [if_neg h]
    exact receive_zero w hV A c ls hx hl _ (recv_nat ls).symm (fun e => h (by have h2 := recv_nat ls; have e : (Lv.recvL ls).2.toNat = 0 := e; rw [e] at h2; exact h2.symm))

end Go.Proofs.YtfblpakoibadoaaGreatDoor

namespace Go.Proofs.YtfblpakoibadoaaGreatDoor
open Go Go.RowKit

/-- One packet, sent and received. -/
structure Sent (r rb : Rg) (ys bs st : List UInt8) : Prop where
  len : bs.length ≤ 1027 ∧ st.length ≤ 60000
  send : ∀ W v A c, Laid W → Lv.Laid W → Rd W W.heap.size A c ys → v = .slice A ys.length c → Calls Tryz.prog 18 #[.agg (pcells { r with data := v })] W (ResOE W 58 st 0)
  receive : ∀ W A c, Laid W → Lv.Laid W → Rd W W.heap.size A c st → Calls Tryz.prog 19 #[.slice A st.length c] W (ResPk W rb ys 0)
  differ : ∀ W v v2 A c A' c', Rd W W.heap.size A c ys → Rd W W.heap.size A' c' ys → v = .slice A ys.length c → v2 = .slice A' ys.length c' → Calls Tryz.prog 16 #[.agg (pcells { r with data := v }), .agg (pcells { rb with data := v2 })] W fun e w' => e = .returned (.int .i64 0) ∧ Below W.heap.size W w'
  encode : ∀ W v A c, Rd W W.heap.size A c ys → v = .slice A ys.length c → Calls Tryz.prog 13 #[.agg (pcells { r with data := v })] W (ResO W 5 bs)
  states : ∀ W A c, Rd W W.heap.size A c st → Calls Tryz.prog 20 #[.slice A st.length c] W (Res1 W st)
  sent : ∀ W A c, Rd W W.heap.size A c bs → Calls Tryz.prog 21 #[.slice A bs.length c] W (ResO W 5 st)

theorem sendL_short {bs : List UInt8} (h : bs.length ≤ 1027) : (Lv.sendL bs).length ≤ 60000 := by
  unfold Lv.sendL
  have h1 := Lv.stuffL_len (Lv.syncL ++ Lv.bitsL bs)
  have h2 := Lv.bitsL_len bs
  have h3 : Lv.syncL.length = 8 := rfl
  have h4 : Lv.endL.length = 3 := rfl
  rw [List.length_append] at h1
  rw [List.length_append, Lv.encL_len]
  omega
theorem encL_short {r : Rg} {ys : List UInt8} (hyl : ys.length ≤ 1024) : (encL r ys).length ≤ 1027 := by
  have h3 : (encL r ys).length = (contentL r ys).length + 1 := rfl
  cases hi : isD r.pid
  · have h4 : (contentL r ys).length ≤ 3 := by
      unfold contentL
      rw [hi]
      show (bytesN _ _).length ≤ 3
      rw [bytesN_len]
      exact nbytes_le _
    omega
  · have h4 : (contentL r ys).length = ys.length + 2 := by
      unfold contentL
      rw [hi]
      exact Ck.addL_len ys
    omega
theorem sent_any {r : Rg} {ys : List UInt8} (ok : r.Ok) (hf : Fit r ys) (hyl : ys.length ≤ 1024) : Sent r (backR r) ys (encL r ys) (Lv.sendL (encL r ys)) := by
  have hlen := encL_short (r := r) hyl
  have hpos : 0 < (encL r ys).length := Nat.succ_pos _
  have hst := sendL_short hlen
  refine ⟨⟨hlen, hst⟩, ?_, ?_, ?_, ?_, ?_, ?_⟩
  · intro W v A c hLW hVW hR hv
    have h := send3 W hLW hVW { r with data := v } (okD ok v) A c ys hR hv (errD (okD ok v) (fitD hf v) hyl)
    rw [encL_data] at h
    exact h
  · intro W A c hLW hVW hR
    have h := receive_good W hLW hVW A c _ hR (by omega) _ (Lv.recv_send _ hpos hlen)
    rw [trip ok hf hyl] at h
    exact h
  · intro W v v2 A c A' c' hR hR' hv hv2
    have h := differ_any W { r with data := v } { backR r with data := v2 } A A' c c' ys ys hR hR' hv hv2
    have hs : sameB { r with data := v } { backR r with data := v2 } ys ys = true := back_same ok hf ys rfl
    rw [hs] at h
    exact h
  · intro W v A c hR hv
    have h := refEnc_any W { r with data := v } (okD ok v) A c ys (fitD hf v) hR hv (by omega)
    rw [encL_data] at h
    exact h
  · intro W A c hR
    exact Lv.states_any W A c _ hR (by omega)
  · intro W A c hR
    exact Lv.refSend_own W A c _ hR (by omega)

end Go.Proofs.YtfblpakoibadoaaGreatDoor

namespace Go.Proofs.YtfblpakoibadoaaGreatDoor
open Go Go.RowKit

/-- What is received from states, three ways: no bytes, bytes of no packet, a packet. -/
inductive Got (R : Rg) (ds : List UInt8) (E : Nat) (b : List UInt8) (F : Int) : Prop where
  | none (hF : ¬ F = 0) (hE : (E : Int) = F) (hR : R = bare 0) (hd : ds = [])
  | bad (hF : F = 0) (hE : ¬ (E : Int) = 0) (hR : R = bare 0) (hd : ds = []) (error : ∀ W A c, Rd W W.heap.size A c b → Calls Tryz.prog 17 #[.slice A b.length c] W (ResI W (E : Int)))
  | good (hF : F = 0) (hE : E = 0) (error : ∀ W A c, Rd W W.heap.size A c b → Calls Tryz.prog 17 #[.slice A b.length c] W (ResI W 0))
      (encode : ∀ W v A c, Rd W W.heap.size A c ds → v = .slice A ds.length c → Calls Tryz.prog 13 #[.agg (pcells { R with data := v })] W (ResO W 5 b))

theorem got_any (ls : List UInt8) (hl : ls.length ≤ 600) : ∃ R ds E b F, Got R ds E b F ∧
    (∀ W A c, Laid W → Lv.Laid W → Rd W W.heap.size A c ls → Calls Tryz.prog 19 #[.slice A ls.length c] W (ResPk W R ds E)) ∧
    (∀ W A c, Rd W W.heap.size A c ls → Calls Tryz.prog 23 #[.slice A ls.length c] W (ResE W b F)) ∧
    (∀ W A c, Rd W W.heap.size A c ls → Calls Tryz.prog 22 #[.slice A ls.length c] W (Res1 W ls)) := by
  refine ⟨(lineR ls).1, (lineR ls).2.1, (lineR ls).2.2, (Lv.recvL ls).1, (Lv.recvL ls).2, ?_, fun W A c hLW hVW hR => receive_line W hLW hVW A c ls hR (by omega), fun W A c hR => Lv.refReceive_any W A c ls hR (by omega), fun W A c hR => Lv.line_any W A c ls hR (by omega)⟩
  unfold lineR
  by_cases h : (Lv.recvL ls).2 = 0
  · rw [if_pos h]
    have hz := inv_any (Lv.recvL ls).1
    have KE := fun W A c hR => refErr_any W A c (Lv.recvL ls).1 hR
    generalize (Lv.recvL ls).1 = b at hz KE ⊢
    generalize (decR b).1 = R at hz ⊢
    generalize (decR b).2.1 = ds at hz ⊢
    generalize (decR b).2.2 = E at hz KE ⊢
    by_cases hE : E = 0
    · subst hE
      obtain ⟨ok, hf, hyl, henc⟩ := hz.1 rfl
      refine .good h rfl KE fun W v A c hR hv => ?_
      have hk := refEnc_any W { R with data := v } (okD ok v) A c ds (fitD hf v) hR hv (by omega)
      rw [encL_data, henc] at hk
      exact hk
    · obtain ⟨rfl, rfl⟩ := hz.2 hE
      exact .bad h (by omega) rfl rfl KE
  · rw [if_neg h]
    exact .none h (recv_nat ls) rfl rfl

end Go.Proofs.YtfblpakoibadoaaGreatDoor

namespace Go.Proofs.YtfblpakoibadoaaGreatDoor
open Go Go.RowKit

theorem lawLine_skip (w : World) (wt a b fr fl : Nat) (A A' : Option Addr) (n c n' c' : Nat) (h : 300 < n ∨ 600 < n') :
    Calls Tryz.prog 6 #[.agg (xcells wt a b fr fl (.slice A n c)), .slice A' n' c'] w (ResB w true) := by
  simp only [xcells]
  by_cases h1 : 300 < n
  · have t1 : (300 : Int) < (n : Int) := by omega
    go_enter Tryz.func6, Tryz.ntmps6
    go_wp2
    go_ret
    exact ⟨rfl, (Below.refl _ w).alloc (Nat.le_refl _) _⟩
  · have t1 : ¬ (300 : Int) < (n : Int) := by omega
    have t2 : (600 : Int) < (n' : Int) := by omega
    clear h h1
    go_enter Tryz.func6, Tryz.ntmps6
    go_wp2
    go_ret
    exact ⟨rfl, (Below.refl _ w).alloc (Nat.le_refl _) _⟩

set_option pp.maxSteps 400000 in
set_option pp.deepTerms true in
set_option maxHeartbeats 3200000 in
set_option maxRecDepth 100000 in
theorem lawLine_in (w : World) (hL : Laid w) (hV : Lv.Laid w) (wt a b fr fl : Nat) (hwt : wt < 256) (ha : a < 256) (hb : b < 256) (hfr : fr < 65536) (hfl : fl < 256) (A : Option Addr) (c : Nat) (xs : List UInt8) (hx : Rd w w.heap.size A c xs) (hl : xs.length ≤ 300)
    (A' : Option Addr) (c' : Nat) (ls : List UInt8) (hx' : Rd w w.heap.size A' c' ls) (hl' : ls.length ≤ 600) :
    Calls Tryz.prog 6 #[.agg (xcells wt a b fr fl (.slice A xs.length c)), .slice A' ls.length c'] w (ResB w true) := by
  have t1 : ¬ (300 : Int) < (xs.length : Int) := by omega
  have t2 : ¬ (600 : Int) < (ls.length : Int) := by omega
  have hbW := (Below.refl w.heap.size w).alloc (Nat.le_refl _) (.cells (xcells wt a b fr fl (.slice A xs.length c)) 40)
  obtain ⟨r, ys, ok, hf, hyl, KP⟩ := pkt_any (w.alloc (.cells (xcells wt a b fr fl (.slice A xs.length c)) 40)) wt a b fr fl hwt ha hb hfr hfl A c xs (hx.belowTop hbW) (by omega)
  have S := sent_any ok hf hyl
  obtain ⟨R, ds, E, b', F, hG, KV1, KV2, KV3⟩ := got_any ls hl'
  have hG := Lib.hid hG
  have KV1 := Lib.hid KV1
  have KV2 := Lib.hid KV2
  have KV3 := Lib.hid KV3
  generalize backR r = rb at S
  generalize encL r ys = bs at S
  generalize Lv.sendL bs = st at S
  obtain ⟨p0, p1, p2, p3, p4, p5, p6, p7, p8, p9, p10⟩ := r
  obtain ⟨s0, s1, s2, s3, s4, s5, s6, s7, s8, s9, s10⟩ := rb
  have S1 := S.send
  have S2 := S.receive
  have S3 := S.differ
  have S4 := S.encode
  have S5 := Lib.hid S.states
  have S6 := Lib.hid S.sent
  simp only [pcells, ResPk] at S1 S2 S3 S4
  have S1 := Lib.hid S1
  have S2 := Lib.hid S2
  have S3 := Lib.hid S3
  have S4 := Lib.hid S4
  have KPh := Lib.hid KP
  have hbWh := Lib.hid hbW
  have hLh := Lib.hid hL
  have hVh := Lib.hid hV
  have KL := Lib.hid fun (W : World) (b : Below w.heap.size w W) => lives_any W (hLh.out.below b)
  have hX := Lib.hid hx'
  clear KP hbW hL hV hx hx' ok hf S
  simp only [xcells, ResX, pcells] at KPh hbWh ⊢
  go_enter Tryz.func6, Tryz.ntmps6
  go_wp2_with fail
  refine KPh.out.mono ?_
  rintro e w1 ⟨v1, rfl, o1, b1⟩
  obtain ⟨A1, c1, rfl, r1⟩ := Rd.of_own o1
  have hb1 := Lib.hid (hbWh.out.trans (b1.mono hbWh.out.size))
  have hr1 := Lib.hid r1
  clear o1 b1 r1 KPh hbWh
  go_wp2_with fail
  have hn1 := Lib.hid (heap_alloc_new w1 (.cells #[.int .u8 (p0 : Int), .int .u8 (p1 : Int), .int .u8 (p2 : Int), .int .u16 (p3 : Int), .int .u8 (p4 : Int), .int .u8 (p5 : Int), .bool p6, .bool p7, .int .u8 (p8 : Int), .slice A1 ys.length c1] 29))
  have hb2 := Lib.hid (hb1.out.alloc hb1.out.size (.cells #[.int .u8 (p0 : Int), .int .u8 (p1 : Int), .int .u8 (p2 : Int), .int .u16 (p3 : Int), .int .u8 (p4 : Int), .int .u8 (p5 : Int), .bool p6, .bool p7, .int .u8 (p8 : Int), .slice A1 ys.length c1] 29))
  have hr2 := Lib.hid (hr1.out.belowTop ((Below.refl w1.heap.size w1).alloc (Nat.le_refl _) (.cells #[.int .u8 (p0 : Int), .int .u8 (p1 : Int), .int .u8 (p2 : Int), .int .u16 (p3 : Int), .int .u8 (p4 : Int), .int .u8 (p5 : Int), .bool p6, .bool p7, .int .u8 (p8 : Int), .slice A1 ys.length c1] 29)))
  clear hr1 hb1
  generalize w1.alloc (.cells #[.int .u8 (p0 : Int), .int .u8 (p1 : Int), .int .u8 (p2 : Int), .int .u16 (p3 : Int), .int .u8 (p4 : Int), .int .u8 (p5 : Int), .bool p6, .bool p7, .int .u8 (p8 : Int), .slice A1 ys.length c1] 29) = W1 at hn1 hb2 hr2 ⊢
  generalize w1.heap.size = G1 at hn1 ⊢
  refine (S1.out W1 _ A1 c1 (hLh.out.below hb2.out) (hVh.out.below hb2.out) hr2.out rfl).mono ?_
  rintro e w2 ⟨v2, rfl, o2, b2⟩
  obtain ⟨A2, c2, rfl, r2⟩ := Rd.of_own o2
  have hb3 := Lib.hid (hb2.out.trans (b2.mono hb2.out.size))
  have hn3 := Lib.hid ((b2.block _ (lt_of_block hn1.out)).trans hn1.out)
  have hr3 := Lib.hid (hr2.out.belowTop b2)
  have hs3 := Lib.hid r2
  clear o2 b2 r2 S1 hn1 hb2 hr2
  go_wp2_with fail
  refine (S2.out w2 A2 c2 (hLh.out.below hb3.out) (hVh.out.below hb3.out) hs3.out).mono ?_
  rintro e w3 ⟨v3, rfl, o3, b3⟩
  obtain ⟨A3, c3, rfl, r3⟩ := Rd.of_own o3
  have hb4 := Lib.hid (hb3.out.trans (b3.mono hb3.out.size))
  have hn4 := Lib.hid ((b3.block _ (lt_of_block hn3.out)).trans hn3.out)
  have hr4 := Lib.hid (hr3.out.belowTop b3)
  have hs4 := Lib.hid (hs3.out.belowTop b3)
  have hq4 := Lib.hid r3
  clear o3 b3 r3 S2 hn3 hb3 hr3 hs3
  have hal := (Below.refl w3.heap.size w3).alloc (Nat.le_refl _) (.cells #[.int .u8 (s0 : Int), .int .u8 (s1 : Int), .int .u8 (s2 : Int), .int .u16 (s3 : Int), .int .u8 (s4 : Int), .int .u8 (s5 : Int), .bool s6, .bool s7, .int .u8 (s8 : Int), .slice A3 ys.length c3] 29)
  have hn5 := Lib.hid ((hal.block _ (lt_of_block hn4.out)).trans hn4.out)
  have hm5 := Lib.hid (heap_alloc_new w3 (.cells #[.int .u8 (s0 : Int), .int .u8 (s1 : Int), .int .u8 (s2 : Int), .int .u16 (s3 : Int), .int .u8 (s4 : Int), .int .u8 (s5 : Int), .bool s6, .bool s7, .int .u8 (s8 : Int), .slice A3 ys.length c3] 29))
  have hb5 := Lib.hid (hb4.out.alloc hb4.out.size (.cells #[.int .u8 (s0 : Int), .int .u8 (s1 : Int), .int .u8 (s2 : Int), .int .u16 (s3 : Int), .int .u8 (s4 : Int), .int .u8 (s5 : Int), .bool s6, .bool s7, .int .u8 (s8 : Int), .slice A3 ys.length c3] 29))
  have hr5 := Lib.hid (hr4.out.belowTop hal)
  have hs5 := Lib.hid (hs4.out.belowTop hal)
  have hq5 := Lib.hid (hq4.out.belowTop hal)
  have hG2 : Hid (w.heap.size ≤ w3.heap.size) := hb4.out.size
  clear hal hn4 hb4 hr4 hs4 hq4
  have kc0 := block_at (i := 0) hn5.out rfl
  have kc1 := block_at (i := 1) hn5.out rfl
  have kc2 := block_at (i := 2) hn5.out rfl
  have kc3 := block_at (i := 3) hn5.out rfl
  have kc4 := block_at (i := 4) hn5.out rfl
  have kc5 := block_at (i := 5) hn5.out rfl
  have kc6 := block_at (i := 6) hn5.out rfl
  have kc7 := block_at (i := 7) hn5.out rfl
  have kc8 := block_at (i := 8) hn5.out rfl
  have kc9 := block_at (i := 9) hn5.out rfl
  have kd0 := block_at (i := 0) hm5.out rfl
  have kd1 := block_at (i := 1) hm5.out rfl
  have kd2 := block_at (i := 2) hm5.out rfl
  have kd3 := block_at (i := 3) hm5.out rfl
  have kd4 := block_at (i := 4) hm5.out rfl
  have kd5 := block_at (i := 5) hm5.out rfl
  have kd6 := block_at (i := 6) hm5.out rfl
  have kd7 := block_at (i := 7) hm5.out rfl
  have kd8 := block_at (i := 8) hm5.out rfl
  have kd9 := block_at (i := 9) hm5.out rfl
  go_wp2_with fail
  refine startG 22 (l := #[false, false, false, false, false, false, false, false, false, false, false, false, false, false, false, false, false, false, false, false, false, false]) (by kernel_rfl) rfl rfl ?_
  have hn6 : Hid ((w3.alloc (.cells #[.int .u8 (s0 : Int), .int .u8 (s1 : Int), .int .u8 (s2 : Int), .int .u16 (s3 : Int), .int .u8 (s4 : Int), .int .u8 (s5 : Int), .bool s6, .bool s7, .int .u8 (s8 : Int), .slice A3 ys.length c3] 29)).drew.heap[G1]? = _) := hn5
  have hm6 : Hid ((w3.alloc (.cells #[.int .u8 (s0 : Int), .int .u8 (s1 : Int), .int .u8 (s2 : Int), .int .u16 (s3 : Int), .int .u8 (s4 : Int), .int .u8 (s5 : Int), .bool s6, .bool s7, .int .u8 (s8 : Int), .slice A3 ys.length c3] 29)).drew.heap[w3.heap.size]? = _) := hm5
  have hb6 : Hid (Below w.heap.size w (w3.alloc (.cells #[.int .u8 (s0 : Int), .int .u8 (s1 : Int), .int .u8 (s2 : Int), .int .u16 (s3 : Int), .int .u8 (s4 : Int), .int .u8 (s5 : Int), .bool s6, .bool s7, .int .u8 (s8 : Int), .slice A3 ys.length c3] 29)).drew) := Lib.hid hb5.out.drew
  have hr6 : Hid (Rd (w3.alloc (.cells #[.int .u8 (s0 : Int), .int .u8 (s1 : Int), .int .u8 (s2 : Int), .int .u16 (s3 : Int), .int .u8 (s4 : Int), .int .u8 (s5 : Int), .bool s6, .bool s7, .int .u8 (s8 : Int), .slice A3 ys.length c3] 29)).drew (w3.alloc (.cells #[.int .u8 (s0 : Int), .int .u8 (s1 : Int), .int .u8 (s2 : Int), .int .u16 (s3 : Int), .int .u8 (s4 : Int), .int .u8 (s5 : Int), .bool s6, .bool s7, .int .u8 (s8 : Int), .slice A3 ys.length c3] 29)).drew.heap.size A1 c1 ys) := hr5.out.drew
  have hs6 : Hid (Rd (w3.alloc (.cells #[.int .u8 (s0 : Int), .int .u8 (s1 : Int), .int .u8 (s2 : Int), .int .u16 (s3 : Int), .int .u8 (s4 : Int), .int .u8 (s5 : Int), .bool s6, .bool s7, .int .u8 (s8 : Int), .slice A3 ys.length c3] 29)).drew (w3.alloc (.cells #[.int .u8 (s0 : Int), .int .u8 (s1 : Int), .int .u8 (s2 : Int), .int .u16 (s3 : Int), .int .u8 (s4 : Int), .int .u8 (s5 : Int), .bool s6, .bool s7, .int .u8 (s8 : Int), .slice A3 ys.length c3] 29)).drew.heap.size A2 c2 st) := hs5.out.drew
  have hq6 : Hid (Rd (w3.alloc (.cells #[.int .u8 (s0 : Int), .int .u8 (s1 : Int), .int .u8 (s2 : Int), .int .u16 (s3 : Int), .int .u8 (s4 : Int), .int .u8 (s5 : Int), .bool s6, .bool s7, .int .u8 (s8 : Int), .slice A3 ys.length c3] 29)).drew (w3.alloc (.cells #[.int .u8 (s0 : Int), .int .u8 (s1 : Int), .int .u8 (s2 : Int), .int .u16 (s3 : Int), .int .u8 (s4 : Int), .int .u8 (s5 : Int), .bool s6, .bool s7, .int .u8 (s8 : Int), .slice A3 ys.length c3] 29)).drew.heap.size A3 c3 ys) := hq5.out.drew
  clear kc0 kc1 kc2 kc3 kc4 kc5 kc6 kc7 kc8 kc9 kd0 kd1 kd2 kd3 kd4 kd5 kd6 kd7 kd8 kd9 hn5 hm5 hb5 hr5 hs5 hq5
  generalize (w3.alloc (.cells #[.int .u8 (s0 : Int), .int .u8 (s1 : Int), .int .u8 (s2 : Int), .int .u16 (s3 : Int), .int .u8 (s4 : Int), .int .u8 (s5 : Int), .bool s6, .bool s7, .int .u8 (s8 : Int), .slice A3 ys.length c3] 29)).drew = w6 at hn6 hm6 hb6 hr6 hs6 hq6 ⊢
  generalize w3.heap.size = G2 at hm6 hG2 ⊢
  ((first | (refine takeG 0 (v := ?_) rfl (by decide +kernel) (by decide +kernel) (by decide +kernel) (fun _ _ _ h => h) (Or.inl ⟨by rfl, ?_⟩) ?_; rotate_left 1; (focus (intro W hW; go_simp; first | done | with_reducible rfl)); try simp only [Act.put, List.setIfInBounds_toArray, List.set_cons_zero, List.set_cons_succ]) | (refine takeG 0 rfl (by decide +kernel) (by decide +kernel) (by decide +kernel) (fun _ _ _ h => h) (Or.inr ⟨by rfl, rfl⟩) ?_; try simp only [Act.put, List.setIfInBounds_toArray, List.set_cons_zero, List.set_cons_succ]) | skip); (first | (refine takeG 1 (v := ?_) rfl (by decide +kernel) (by decide +kernel) (by decide +kernel) (fun _ _ _ h => h) (Or.inl ⟨by rfl, ?_⟩) ?_; rotate_left 1; (focus (intro W hW; go_simp; first | done | with_reducible rfl)); try simp only [Act.put, List.setIfInBounds_toArray, List.set_cons_zero, List.set_cons_succ]) | (refine takeG 1 rfl (by decide +kernel) (by decide +kernel) (by decide +kernel) (fun _ _ _ h => h) (Or.inr ⟨by rfl, rfl⟩) ?_; try simp only [Act.put, List.setIfInBounds_toArray, List.set_cons_zero, List.set_cons_succ]) | skip); (first | (refine takeG 2 (v := ?_) rfl (by decide +kernel) (by decide +kernel) (by decide +kernel) (fun _ _ _ h => h) (Or.inl ⟨by rfl, ?_⟩) ?_; rotate_left 1; (focus (intro W hW; go_simp; first | done | with_reducible rfl)); try simp only [Act.put, List.setIfInBounds_toArray, List.set_cons_zero, List.set_cons_succ]) | (refine takeG 2 rfl (by decide +kernel) (by decide +kernel) (by decide +kernel) (fun _ _ _ h => h) (Or.inr ⟨by rfl, rfl⟩) ?_; try simp only [Act.put, List.setIfInBounds_toArray, List.set_cons_zero, List.set_cons_succ]) | skip); (first | (refine takeG 3 (v := ?_) rfl (by decide +kernel) (by decide +kernel) (by decide +kernel) (fun _ _ _ h => h) (Or.inl ⟨by rfl, ?_⟩) ?_; rotate_left 1; (focus (intro W hW; go_simp; first | done | with_reducible rfl)); try simp only [Act.put, List.setIfInBounds_toArray, List.set_cons_zero, List.set_cons_succ]) | (refine takeG 3 rfl (by decide +kernel) (by decide +kernel) (by decide +kernel) (fun _ _ _ h => h) (Or.inr ⟨by rfl, rfl⟩) ?_; try simp only [Act.put, List.setIfInBounds_toArray, List.set_cons_zero, List.set_cons_succ]) | skip); (first | (refine takeG 4 (v := ?_) rfl (by decide +kernel) (by decide +kernel) (by decide +kernel) (fun _ _ _ h => h) (Or.inl ⟨by rfl, ?_⟩) ?_; rotate_left 1; (focus (intro W hW; go_simp; first | done | with_reducible rfl)); try simp only [Act.put, List.setIfInBounds_toArray, List.set_cons_zero, List.set_cons_succ]) | (refine takeG 4 rfl (by decide +kernel) (by decide +kernel) (by decide +kernel) (fun _ _ _ h => h) (Or.inr ⟨by rfl, rfl⟩) ?_; try simp only [Act.put, List.setIfInBounds_toArray, List.set_cons_zero, List.set_cons_succ]) | skip); (first | (refine takeG 5 (v := ?_) rfl (by decide +kernel) (by decide +kernel) (by decide +kernel) (fun _ _ _ h => h) (Or.inl ⟨by rfl, ?_⟩) ?_; rotate_left 1; (focus (intro W hW; go_simp; first | done | with_reducible rfl)); try simp only [Act.put, List.setIfInBounds_toArray, List.set_cons_zero, List.set_cons_succ]) | (refine takeG 5 rfl (by decide +kernel) (by decide +kernel) (by decide +kernel) (fun _ _ _ h => h) (Or.inr ⟨by rfl, rfl⟩) ?_; try simp only [Act.put, List.setIfInBounds_toArray, List.set_cons_zero, List.set_cons_succ]) | skip); (first | (refine takeG 6 (v := ?_) rfl (by decide +kernel) (by decide +kernel) (by decide +kernel) (fun _ _ _ h => h) (Or.inl ⟨by rfl, ?_⟩) ?_; rotate_left 1; (focus (intro W hW; go_simp; first | done | with_reducible rfl)); try simp only [Act.put, List.setIfInBounds_toArray, List.set_cons_zero, List.set_cons_succ]) | (refine takeG 6 rfl (by decide +kernel) (by decide +kernel) (by decide +kernel) (fun _ _ _ h => h) (Or.inr ⟨by rfl, rfl⟩) ?_; try simp only [Act.put, List.setIfInBounds_toArray, List.set_cons_zero, List.set_cons_succ]) | skip))
  refine takeG 7 (v := .agg #[.int .u8 (p0 : Int), .int .u8 (p1 : Int), .int .u8 (p2 : Int), .int .u16 (p3 : Int), .int .u8 (p4 : Int), .int .u8 (p5 : Int), .bool p6, .bool p7, .int .u8 (p8 : Int), .slice A1 ys.length c1]) rfl (by decide +kernel) (by decide +kernel) (by decide +kernel) (fun _ _ _ h => h) (Or.inl ⟨by rfl, ?_⟩) ?_
  · intro W hW
    have hnl := (hW.block _ (lt_of_block hn6.out)).trans hn6.out
    have q0 := block_at (i := 0) hnl rfl
    have q1 := block_at (i := 1) hnl rfl
    have q2 := block_at (i := 2) hnl rfl
    have q3 := block_at (i := 3) hnl rfl
    have q4 := block_at (i := 4) hnl rfl
    have q5 := block_at (i := 5) hnl rfl
    have q6 := block_at (i := 6) hnl rfl
    have q7 := block_at (i := 7) hnl rfl
    have q8 := block_at (i := 8) hnl rfl
    have q9 := block_at (i := 9) hnl rfl
    clear hnl hW
    go_simp
    first | done | with_reducible rfl
  try simp only [Act.put, List.setIfInBounds_toArray, List.set_cons_zero, List.set_cons_succ]
  refine takeG 8 (v := .agg #[.int .u8 (s0 : Int), .int .u8 (s1 : Int), .int .u8 (s2 : Int), .int .u16 (s3 : Int), .int .u8 (s4 : Int), .int .u8 (s5 : Int), .bool s6, .bool s7, .int .u8 (s8 : Int), .slice A3 ys.length c3]) rfl (by decide +kernel) (by decide +kernel) (by decide +kernel) (fun _ _ _ h => h) (Or.inl ⟨by rfl, ?_⟩) ?_
  · intro W hW
    have hnl := (hW.block _ (lt_of_block hm6.out)).trans hm6.out
    have q0 := block_at (i := 0) hnl rfl
    have q1 := block_at (i := 1) hnl rfl
    have q2 := block_at (i := 2) hnl rfl
    have q3 := block_at (i := 3) hnl rfl
    have q4 := block_at (i := 4) hnl rfl
    have q5 := block_at (i := 5) hnl rfl
    have q6 := block_at (i := 6) hnl rfl
    have q7 := block_at (i := 7) hnl rfl
    have q8 := block_at (i := 8) hnl rfl
    have q9 := block_at (i := 9) hnl rfl
    clear hnl hW
    go_simp
    first | done | with_reducible rfl
  try simp only [Act.put, List.setIfInBounds_toArray, List.set_cons_zero, List.set_cons_succ]
  refine stepG 9 rfl (by decide +kernel) (by rfl) ?_
  intro K hK
  go_simp
  refine (S3.out w6 _ _ A1 c1 A3 c3 hr6.out hq6.out rfl rfl).mono ?_
  rintro e w7 ⟨rfl, b7⟩
  refine hK _ _ b7 ?_
  have hn7 := Lib.hid ((b7.block _ (lt_of_block hn6.out)).trans hn6.out)
  have hm7 := Lib.hid ((b7.block _ (lt_of_block hm6.out)).trans hm6.out)
  have hb7 := Lib.hid (hb6.out.trans (b7.mono hb6.out.size))
  have hr7 := Lib.hid (hr6.out.belowTop b7)
  have hs7 := Lib.hid (hs6.out.belowTop b7)
  clear hK K b7 hn6 hm6 hb6 hr6 hs6 hq6 S3
  try simp only [Act.put, List.setIfInBounds_toArray, List.set_cons_zero, List.set_cons_succ]
  ((first | (refine takeG 10 (v := ?_) rfl (by decide +kernel) (by decide +kernel) (by decide +kernel) (fun _ _ _ h => h) (Or.inl ⟨by rfl, ?_⟩) ?_; rotate_left 1; (focus (intro W hW; go_simp; first | done | with_reducible rfl)); try simp only [Act.put, List.setIfInBounds_toArray, List.set_cons_zero, List.set_cons_succ]) | (refine takeG 10 rfl (by decide +kernel) (by decide +kernel) (by decide +kernel) (fun _ _ _ h => h) (Or.inr ⟨by rfl, rfl⟩) ?_; try simp only [Act.put, List.setIfInBounds_toArray, List.set_cons_zero, List.set_cons_succ]) | skip); (first | (refine takeG 11 (v := ?_) rfl (by decide +kernel) (by decide +kernel) (by decide +kernel) (fun _ _ _ h => h) (Or.inl ⟨by rfl, ?_⟩) ?_; rotate_left 1; (focus (intro W hW; go_simp; first | done | with_reducible rfl)); try simp only [Act.put, List.setIfInBounds_toArray, List.set_cons_zero, List.set_cons_succ]) | (refine takeG 11 rfl (by decide +kernel) (by decide +kernel) (by decide +kernel) (fun _ _ _ h => h) (Or.inr ⟨by rfl, rfl⟩) ?_; try simp only [Act.put, List.setIfInBounds_toArray, List.set_cons_zero, List.set_cons_succ]) | skip); (first | (refine takeG 12 (v := ?_) rfl (by decide +kernel) (by decide +kernel) (by decide +kernel) (fun _ _ _ h => h) (Or.inl ⟨by rfl, ?_⟩) ?_; rotate_left 1; (focus (intro W hW; go_simp; first | done | with_reducible rfl)); try simp only [Act.put, List.setIfInBounds_toArray, List.set_cons_zero, List.set_cons_succ]) | (refine takeG 12 rfl (by decide +kernel) (by decide +kernel) (by decide +kernel) (fun _ _ _ h => h) (Or.inr ⟨by rfl, rfl⟩) ?_; try simp only [Act.put, List.setIfInBounds_toArray, List.set_cons_zero, List.set_cons_succ]) | skip); (first | (refine takeG 13 (v := ?_) rfl (by decide +kernel) (by decide +kernel) (by decide +kernel) (fun _ _ _ h => h) (Or.inl ⟨by rfl, ?_⟩) ?_; rotate_left 1; (focus (intro W hW; go_simp; first | done | with_reducible rfl)); try simp only [Act.put, List.setIfInBounds_toArray, List.set_cons_zero, List.set_cons_succ]) | (refine takeG 13 rfl (by decide +kernel) (by decide +kernel) (by decide +kernel) (fun _ _ _ h => h) (Or.inr ⟨by rfl, rfl⟩) ?_; try simp only [Act.put, List.setIfInBounds_toArray, List.set_cons_zero, List.set_cons_succ]) | skip))
  refine takeG 16 (v := .agg #[.int .u8 (p0 : Int), .int .u8 (p1 : Int), .int .u8 (p2 : Int), .int .u16 (p3 : Int), .int .u8 (p4 : Int), .int .u8 (p5 : Int), .bool p6, .bool p7, .int .u8 (p8 : Int), .slice A1 ys.length c1]) rfl (by decide +kernel) (by decide +kernel) (by decide +kernel) (fun _ _ _ h => h) (Or.inl ⟨by rfl, ?_⟩) ?_
  · intro W hW
    have hnl := (hW.block _ (lt_of_block hn7.out)).trans hn7.out
    have q0 := block_at (i := 0) hnl rfl
    have q1 := block_at (i := 1) hnl rfl
    have q2 := block_at (i := 2) hnl rfl
    have q3 := block_at (i := 3) hnl rfl
    have q4 := block_at (i := 4) hnl rfl
    have q5 := block_at (i := 5) hnl rfl
    have q6 := block_at (i := 6) hnl rfl
    have q7 := block_at (i := 7) hnl rfl
    have q8 := block_at (i := 8) hnl rfl
    have q9 := block_at (i := 9) hnl rfl
    clear hnl hW
    go_simp
    first | done | with_reducible rfl
  try simp only [Act.put, List.setIfInBounds_toArray, List.set_cons_zero, List.set_cons_succ]
  refine stepG 14 rfl (by decide +kernel) (by rfl) ?_
  intro K hK
  go_simp
  refine (S5.out w7 A2 c2 hs7.out).mono ?_
  rintro e w8 ⟨A8, c8, rfl, r8, b8⟩
  refine hK _ _ b8 ?_
  have hm8 := Lib.hid ((b8.block _ (lt_of_block hm7.out)).trans hm7.out)
  have hb8 := Lib.hid (hb7.out.trans (b8.mono hb7.out.size))
  have hr8 := Lib.hid (hr7.out.belowTop b8)
  have z8 := r8.cus
  clear hK K b8 r8 hn7 hm7 hb7 hr7 hs7 S5
  try simp only [Act.put, List.setIfInBounds_toArray, List.set_cons_zero, List.set_cons_succ]
  refine takeG 15 (v := .string ⟨st.toArray⟩) rfl (by decide +kernel) (by decide +kernel) (by decide +kernel) (fun _ _ _ h => h) (Or.inl ⟨by rfl, ?_⟩) ?_
  · intro W hW
    have q := z8 W hW
    go_simp
    first | done | with_reducible rfl
  try simp only [Act.put, List.setIfInBounds_toArray, List.set_cons_zero, List.set_cons_succ]
  clear z8
  refine stepG 17 rfl (by decide +kernel) (by rfl) ?_
  intro K hK
  go_simp
  refine (S4.out w8 _ A1 c1 hr8.out rfl).mono ?_
  rintro e w9 ⟨v9, rfl, o9, b9⟩
  obtain ⟨A9, c9, rfl, r9⟩ := Rd.of_own o9
  refine hK _ _ b9 ?_
  have hm9 := Lib.hid ((b9.block _ (lt_of_block hm8.out)).trans hm8.out)
  have hb9 := Lib.hid (hb8.out.trans (b9.mono hb8.out.size))
  have hr9 := Lib.hid r9
  clear hK K b9 o9 r9 hm8 hb8 hr8 S4
  try simp only [Act.put, List.setIfInBounds_toArray, List.set_cons_zero, List.set_cons_succ]
  refine stepG 18 rfl (by decide +kernel) (by rfl) ?_
  intro K hK
  go_simp
  refine (S6.out w9 A9 c9 hr9.out).mono ?_
  rintro e w10 ⟨v10, rfl, o10, b10⟩
  obtain ⟨A10, c10, rfl, r10⟩ := Rd.of_own o10
  refine hK _ _ b10 ?_
  have hm10 := Lib.hid ((b10.block _ (lt_of_block hm9.out)).trans hm9.out)
  have hb10 := Lib.hid (hb9.out.trans (b10.mono hb9.out.size))
  have z10 := r10.cus
  clear hK K b10 o10 r10 hm9 hb9 hr9 S6
  try simp only [Act.put, List.setIfInBounds_toArray, List.set_cons_zero, List.set_cons_succ]
  refine takeG 19 (v := .string ⟨st.toArray⟩) rfl (by decide +kernel) (by decide +kernel) (by decide +kernel) (fun _ _ _ h => h) (Or.inl ⟨by rfl, ?_⟩) ?_
  · intro W hW
    have q := z10 W hW
    go_simp
    first | done | with_reducible rfl
  try simp only [Act.put, List.setIfInBounds_toArray, List.set_cons_zero, List.set_cons_succ]
  clear z10
  ((first | (refine takeG 20 (v := ?_) rfl (by decide +kernel) (by decide +kernel) (by decide +kernel) (fun _ _ _ h => h) (Or.inl ⟨by rfl, ?_⟩) ?_; rotate_left 1; (focus (intro W hW; go_simp; first | done | with_reducible rfl)); try simp only [Act.put, List.setIfInBounds_toArray, List.set_cons_zero, List.set_cons_succ]) | (refine takeG 20 rfl (by decide +kernel) (by decide +kernel) (by decide +kernel) (fun _ _ _ h => h) (Or.inr ⟨by rfl, rfl⟩) ?_; try simp only [Act.put, List.setIfInBounds_toArray, List.set_cons_zero, List.set_cons_succ]) | skip); (first | (refine takeG 21 (v := ?_) rfl (by decide +kernel) (by decide +kernel) (by decide +kernel) (fun _ _ _ h => h) (Or.inl ⟨by rfl, ?_⟩) ?_; rotate_left 1; (focus (intro W hW; go_simp; first | done | with_reducible rfl)); try simp only [Act.put, List.setIfInBounds_toArray, List.set_cons_zero, List.set_cons_succ]) | (refine takeG 21 rfl (by decide +kernel) (by decide +kernel) (by decide +kernel) (fun _ _ _ h => h) (Or.inr ⟨by rfl, rfl⟩) ?_; try simp only [Act.put, List.setIfInBounds_toArray, List.set_cons_zero, List.set_cons_succ]) | skip))
  refine doneG (by kernel_rfl) ?_
  have hX10 := Lib.hid (hX.out.belowTop hb10.out)
  go_wp2_with fail
  rcases hG.out with ⟨m0, rfl, rfl, rfl⟩ | ⟨rfl, m0, rfl, rfl, he⟩ | ⟨rfl, rfl, he, he2⟩
  · have KF : Hid (∀ W A c, Rd W W.heap.size A c [] → Calls Tryz.prog 16 #[.agg #[.int .u8 0, .int .u8 0, .int .u8 0, .int .u16 0, .int .u8 0, .int .u8 0, .bool false, .bool false, .int .u8 0, .slice A 0 c], .agg #[.int .u8 0, .int .u8 0, .int .u8 0, .int .u16 0, .int .u8 0, .int .u8 0, .bool false, .bool false, .int .u8 0, .slice none 0 0]] W fun e w' => e = .returned (.int .i64 0) ∧ Below W.heap.size W w') := fun W A c hR => differ_any W { bare 0 with data := .slice A 0 c } (bare 0) A none c 0 [] [] hR (Rd.nil _ _) rfl rfl
    have m1 : ((E : Int) == 0) = false := beq_eq_false_iff_ne.2 m0
    have m2 : ((E : Int) != 0) = true := by rw [bne, m1]; rfl
    have KV0 : Hid (∀ W A c, Laid W → Lv.Laid W → Rd W W.heap.size A c ls → Calls Tryz.prog 19 #[.slice A ls.length c] W fun e w' => ∃ v, e = .returned (.tuple #[.agg #[.int .u8 0, .int .u8 0, .int .u8 0, .int .u16 0, .int .u8 0, .int .u8 0, .bool false, .bool false, .int .u8 0, v], .int .i64 (E : Int)]) ∧ w'.ownsRow W.heap.size 5 1 v ([] : List UInt8).length (([] : List UInt8).map bv) ∧ Below W.heap.size W w') := fun W A c h1 h2 h3 => KV1.out W A c h1 h2 h3
    clear KV1 hG
    refine (KV3.out w10 A' c' hX10.out).mono ?_
    rintro e w11 ⟨A11, c11, rfl, r11, b11⟩
    have hb11 := Lib.hid (hb10.out.trans (b11.mono hb10.out.size))
    have hm11 := Lib.hid ((b11.block _ (lt_of_block hm10.out)).trans hm10.out)
    have hX11 := Lib.hid (hX10.out.belowTop b11)
    have hr11 := Lib.hid r11
    clear b11 r11 hb10 hm10 hX10 KV3
    go_wp2_with fail
    refine (KV0.out w11 A11 c11 (hLh.out.below hb11.out) (hVh.out.below hb11.out) hr11.out).mono ?_
    rintro e w12 ⟨v12, rfl, o12, b12⟩
    obtain ⟨A12, c12, rfl, r12⟩ := Rd.of_own o12
    have hb12 := Lib.hid (hb11.out.trans (b12.mono hb11.out.size))
    have hm12 := Lib.hid ((b12.block _ (lt_of_block hm11.out)).trans hm11.out)
    have hX12 := Lib.hid (hX11.out.belowTop b12)
    have hlt := lt_of_block hm11.out
    have fR : ∀ i, w12.frozen? ⟨G2, i, none⟩ = false := fun i => by simp [World.frozen?, hm12.out]
    have rc0 := block_at (i := 0) hm12.out rfl
    have rc1 := block_at (i := 1) hm12.out rfl
    have rc2 := block_at (i := 2) hm12.out rfl
    have rc3 := block_at (i := 3) hm12.out rfl
    have rc4 := block_at (i := 4) hm12.out rfl
    have rc5 := block_at (i := 5) hm12.out rfl
    have rc6 := block_at (i := 6) hm12.out rfl
    have rc7 := block_at (i := 7) hm12.out rfl
    have rc8 := block_at (i := 8) hm12.out rfl
    have rc9 := block_at (i := 9) hm12.out rfl
    clear b12 r12 hb11 hm11 hX11 hr11 KV0
    have hm13 : Hid (((((((((((w12.setCell ⟨G2, 0, none⟩ (.int .u8 0)).setCell ⟨G2, 1, none⟩ (.int .u8 0)).setCell ⟨G2, 2, none⟩ (.int .u8 0)).setCell ⟨G2, 3, none⟩ (.int .u16 0)).setCell ⟨G2, 4, none⟩ (.int .u8 0)).setCell ⟨G2, 5, none⟩ (.int .u8 0)).setCell ⟨G2, 6, none⟩ (.bool false)).setCell ⟨G2, 7, none⟩ (.bool false)).setCell ⟨G2, 8, none⟩ (.int .u8 0)).setCell ⟨G2, 9, none⟩ (.slice A12 0 c12)).heap[G2]? = _) := store10 _ _ _ _ _ _ _ _ _ _ (.int .u8 0) (.int .u8 0) (.int .u8 0) (.int .u16 0) (.int .u8 0) (.int .u8 0) (.bool false) (.bool false) (.int .u8 0) (.slice A12 0 c12) hm12.out
    have hb13 : Hid (Below w.heap.size w ((((((((((w12.setCell ⟨G2, 0, none⟩ (.int .u8 0)).setCell ⟨G2, 1, none⟩ (.int .u8 0)).setCell ⟨G2, 2, none⟩ (.int .u8 0)).setCell ⟨G2, 3, none⟩ (.int .u16 0)).setCell ⟨G2, 4, none⟩ (.int .u8 0)).setCell ⟨G2, 5, none⟩ (.int .u8 0)).setCell ⟨G2, 6, none⟩ (.bool false)).setCell ⟨G2, 7, none⟩ (.bool false)).setCell ⟨G2, 8, none⟩ (.int .u8 0)).setCell ⟨G2, 9, none⟩ (.slice A12 0 c12))) := below10 (.int .u8 0) (.int .u8 0) (.int .u8 0) (.int .u16 0) (.int .u8 0) (.int .u8 0) (.bool false) (.bool false) (.int .u8 0) (.slice A12 0 c12) hb12.out hG2.out
    have ho13 : Hid (((((((((((w12.setCell ⟨G2, 0, none⟩ (.int .u8 0)).setCell ⟨G2, 1, none⟩ (.int .u8 0)).setCell ⟨G2, 2, none⟩ (.int .u8 0)).setCell ⟨G2, 3, none⟩ (.int .u16 0)).setCell ⟨G2, 4, none⟩ (.int .u8 0)).setCell ⟨G2, 5, none⟩ (.int .u8 0)).setCell ⟨G2, 6, none⟩ (.bool false)).setCell ⟨G2, 7, none⟩ (.bool false)).setCell ⟨G2, 8, none⟩ (.int .u8 0)).setCell ⟨G2, 9, none⟩ (.slice A12 0 c12)).ownsRow w11.heap.size 5 1 (.slice A12 0 c12) ([] : List UInt8).length (([] : List UInt8).map bv)) := own_grown o12 (grown10 w12 G2 (.int .u8 0) (.int .u8 0) (.int .u8 0) (.int .u16 0) (.int .u8 0) (.int .u8 0) (.bool false) (.bool false) (.int .u8 0) (.slice A12 0 c12)) hlt
    have hX13 := Lib.hid (hX.out.belowTop hb13.out)
    clear o12 hlt hb12 hX12
    go_wp2_with fail
    clear rc0 rc1 rc2 rc3 rc4 rc5 rc6 rc7 rc8 rc9 fR hm12
    have hr13 := Lib.hid (Rd.of_own_at ho13.out)
    generalize ((((((((((w12.setCell ⟨G2, 0, none⟩ (.int .u8 0)).setCell ⟨G2, 1, none⟩ (.int .u8 0)).setCell ⟨G2, 2, none⟩ (.int .u8 0)).setCell ⟨G2, 3, none⟩ (.int .u16 0)).setCell ⟨G2, 4, none⟩ (.int .u8 0)).setCell ⟨G2, 5, none⟩ (.int .u8 0)).setCell ⟨G2, 6, none⟩ (.bool false)).setCell ⟨G2, 7, none⟩ (.bool false)).setCell ⟨G2, 8, none⟩ (.int .u8 0)).setCell ⟨G2, 9, none⟩ (.slice A12 0 c12)) = w13 at hm13 hb13 ho13 hX13 hr13 ⊢
    refine (KV2.out w13 A' c' hX13.out).mono ?_
    rintro e w14 ⟨A14, c14, rfl, r14, b14⟩
    have hm14 := Lib.hid ((b14.block _ (lt_of_block hm13.out)).trans hm13.out)
    have hb14 := Lib.hid (hb13.out.trans (b14.mono hb13.out.size))
    have hr14 := Lib.hid (hr13.out.belowTop b14)
    have hy14 := Lib.hid r14
    clear b14 r14 hm13 hb13 ho13 hX13 hr13 KV2 hX
    have k0 := block_at (i := 0) hm14.out rfl
    have k1 := block_at (i := 1) hm14.out rfl
    have k2 := block_at (i := 2) hm14.out rfl
    have k3 := block_at (i := 3) hm14.out rfl
    have k4 := block_at (i := 4) hm14.out rfl
    have k5 := block_at (i := 5) hm14.out rfl
    have k6 := block_at (i := 6) hm14.out rfl
    have k7 := block_at (i := 7) hm14.out rfl
    have k8 := block_at (i := 8) hm14.out rfl
    have k9 := block_at (i := 9) hm14.out rfl
    go_wp2_with fail
    refine (KF.out w14 A12 c12 hr14.out).mono ?_
    rintro e w16 ⟨rfl, b16⟩
    have hb16 := Lib.hid (hb14.out.trans (b16.mono hb14.out.size))
    clear k0 k1 k2 k3 k4 k5 k6 k7 k8 k9 b16 hm14 hb14 hr14 hy14 KF
    go_wp2_with fail
    refine (KL.out w16 hb16.out).mono ?_
    rintro e w17 ⟨rfl, b17⟩
    go_wp2
    go_ret
    exact ⟨rfl, hb16.out.trans (b17.mono hb16.out.size)⟩
  · have he := Lib.hid he
    have KF : Hid (∀ W A c, Rd W W.heap.size A c [] → Calls Tryz.prog 16 #[.agg #[.int .u8 0, .int .u8 0, .int .u8 0, .int .u16 0, .int .u8 0, .int .u8 0, .bool false, .bool false, .int .u8 0, .slice A 0 c], .agg #[.int .u8 0, .int .u8 0, .int .u8 0, .int .u16 0, .int .u8 0, .int .u8 0, .bool false, .bool false, .int .u8 0, .slice none 0 0]] W fun e w' => e = .returned (.int .i64 0) ∧ Below W.heap.size W w') := fun W A c hR => differ_any W { bare 0 with data := .slice A 0 c } (bare 0) A none c 0 [] [] hR (Rd.nil _ _) rfl rfl
    have m1 : ((E : Int) == 0) = false := beq_eq_false_iff_ne.2 m0
    have m2 : ((E : Int) != 0) = true := by rw [bne, m1]; rfl
    have KV0 : Hid (∀ W A c, Laid W → Lv.Laid W → Rd W W.heap.size A c ls → Calls Tryz.prog 19 #[.slice A ls.length c] W fun e w' => ∃ v, e = .returned (.tuple #[.agg #[.int .u8 0, .int .u8 0, .int .u8 0, .int .u16 0, .int .u8 0, .int .u8 0, .bool false, .bool false, .int .u8 0, v], .int .i64 (E : Int)]) ∧ w'.ownsRow W.heap.size 5 1 v ([] : List UInt8).length (([] : List UInt8).map bv) ∧ Below W.heap.size W w') := fun W A c h1 h2 h3 => KV1.out W A c h1 h2 h3
    clear KV1 hG
    refine (KV3.out w10 A' c' hX10.out).mono ?_
    rintro e w11 ⟨A11, c11, rfl, r11, b11⟩
    have hb11 := Lib.hid (hb10.out.trans (b11.mono hb10.out.size))
    have hm11 := Lib.hid ((b11.block _ (lt_of_block hm10.out)).trans hm10.out)
    have hX11 := Lib.hid (hX10.out.belowTop b11)
    have hr11 := Lib.hid r11
    clear b11 r11 hb10 hm10 hX10 KV3
    go_wp2_with fail
    refine (KV0.out w11 A11 c11 (hLh.out.below hb11.out) (hVh.out.below hb11.out) hr11.out).mono ?_
    rintro e w12 ⟨v12, rfl, o12, b12⟩
    obtain ⟨A12, c12, rfl, r12⟩ := Rd.of_own o12
    have hb12 := Lib.hid (hb11.out.trans (b12.mono hb11.out.size))
    have hm12 := Lib.hid ((b12.block _ (lt_of_block hm11.out)).trans hm11.out)
    have hX12 := Lib.hid (hX11.out.belowTop b12)
    have hlt := lt_of_block hm11.out
    have fR : ∀ i, w12.frozen? ⟨G2, i, none⟩ = false := fun i => by simp [World.frozen?, hm12.out]
    have rc0 := block_at (i := 0) hm12.out rfl
    have rc1 := block_at (i := 1) hm12.out rfl
    have rc2 := block_at (i := 2) hm12.out rfl
    have rc3 := block_at (i := 3) hm12.out rfl
    have rc4 := block_at (i := 4) hm12.out rfl
    have rc5 := block_at (i := 5) hm12.out rfl
    have rc6 := block_at (i := 6) hm12.out rfl
    have rc7 := block_at (i := 7) hm12.out rfl
    have rc8 := block_at (i := 8) hm12.out rfl
    have rc9 := block_at (i := 9) hm12.out rfl
    clear b12 r12 hb11 hm11 hX11 hr11 KV0
    have hm13 : Hid (((((((((((w12.setCell ⟨G2, 0, none⟩ (.int .u8 0)).setCell ⟨G2, 1, none⟩ (.int .u8 0)).setCell ⟨G2, 2, none⟩ (.int .u8 0)).setCell ⟨G2, 3, none⟩ (.int .u16 0)).setCell ⟨G2, 4, none⟩ (.int .u8 0)).setCell ⟨G2, 5, none⟩ (.int .u8 0)).setCell ⟨G2, 6, none⟩ (.bool false)).setCell ⟨G2, 7, none⟩ (.bool false)).setCell ⟨G2, 8, none⟩ (.int .u8 0)).setCell ⟨G2, 9, none⟩ (.slice A12 0 c12)).heap[G2]? = _) := store10 _ _ _ _ _ _ _ _ _ _ (.int .u8 0) (.int .u8 0) (.int .u8 0) (.int .u16 0) (.int .u8 0) (.int .u8 0) (.bool false) (.bool false) (.int .u8 0) (.slice A12 0 c12) hm12.out
    have hb13 : Hid (Below w.heap.size w ((((((((((w12.setCell ⟨G2, 0, none⟩ (.int .u8 0)).setCell ⟨G2, 1, none⟩ (.int .u8 0)).setCell ⟨G2, 2, none⟩ (.int .u8 0)).setCell ⟨G2, 3, none⟩ (.int .u16 0)).setCell ⟨G2, 4, none⟩ (.int .u8 0)).setCell ⟨G2, 5, none⟩ (.int .u8 0)).setCell ⟨G2, 6, none⟩ (.bool false)).setCell ⟨G2, 7, none⟩ (.bool false)).setCell ⟨G2, 8, none⟩ (.int .u8 0)).setCell ⟨G2, 9, none⟩ (.slice A12 0 c12))) := below10 (.int .u8 0) (.int .u8 0) (.int .u8 0) (.int .u16 0) (.int .u8 0) (.int .u8 0) (.bool false) (.bool false) (.int .u8 0) (.slice A12 0 c12) hb12.out hG2.out
    have ho13 : Hid (((((((((((w12.setCell ⟨G2, 0, none⟩ (.int .u8 0)).setCell ⟨G2, 1, none⟩ (.int .u8 0)).setCell ⟨G2, 2, none⟩ (.int .u8 0)).setCell ⟨G2, 3, none⟩ (.int .u16 0)).setCell ⟨G2, 4, none⟩ (.int .u8 0)).setCell ⟨G2, 5, none⟩ (.int .u8 0)).setCell ⟨G2, 6, none⟩ (.bool false)).setCell ⟨G2, 7, none⟩ (.bool false)).setCell ⟨G2, 8, none⟩ (.int .u8 0)).setCell ⟨G2, 9, none⟩ (.slice A12 0 c12)).ownsRow w11.heap.size 5 1 (.slice A12 0 c12) ([] : List UInt8).length (([] : List UInt8).map bv)) := own_grown o12 (grown10 w12 G2 (.int .u8 0) (.int .u8 0) (.int .u8 0) (.int .u16 0) (.int .u8 0) (.int .u8 0) (.bool false) (.bool false) (.int .u8 0) (.slice A12 0 c12)) hlt
    have hX13 := Lib.hid (hX.out.belowTop hb13.out)
    clear o12 hlt hb12 hX12
    go_wp2_with fail
    clear rc0 rc1 rc2 rc3 rc4 rc5 rc6 rc7 rc8 rc9 fR hm12
    have hr13 := Lib.hid (Rd.of_own_at ho13.out)
    generalize ((((((((((w12.setCell ⟨G2, 0, none⟩ (.int .u8 0)).setCell ⟨G2, 1, none⟩ (.int .u8 0)).setCell ⟨G2, 2, none⟩ (.int .u8 0)).setCell ⟨G2, 3, none⟩ (.int .u16 0)).setCell ⟨G2, 4, none⟩ (.int .u8 0)).setCell ⟨G2, 5, none⟩ (.int .u8 0)).setCell ⟨G2, 6, none⟩ (.bool false)).setCell ⟨G2, 7, none⟩ (.bool false)).setCell ⟨G2, 8, none⟩ (.int .u8 0)).setCell ⟨G2, 9, none⟩ (.slice A12 0 c12)) = w13 at hm13 hb13 ho13 hX13 hr13 ⊢
    refine (KV2.out w13 A' c' hX13.out).mono ?_
    rintro e w14 ⟨A14, c14, rfl, r14, b14⟩
    have hm14 := Lib.hid ((b14.block _ (lt_of_block hm13.out)).trans hm13.out)
    have hb14 := Lib.hid (hb13.out.trans (b14.mono hb13.out.size))
    have hr14 := Lib.hid (hr13.out.belowTop b14)
    have hy14 := Lib.hid r14
    clear b14 r14 hm13 hb13 ho13 hX13 hr13 KV2 hX
    go_wp2_with fail
    refine (he.out w14 A14 c14 hy14.out).mono ?_
    rintro e w15 ⟨rfl, b15⟩
    have hm15 := Lib.hid ((b15.block _ (lt_of_block hm14.out)).trans hm14.out)
    have hb15 := Lib.hid (hb14.out.trans (b15.mono hb14.out.size))
    have hr15 := Lib.hid (hr14.out.belowTop b15)
    have hy15 := Lib.hid (hy14.out.belowTop b15)
    clear b15 hm14 hb14 hr14 hy14 he
    have k0 := block_at (i := 0) hm15.out rfl
    have k1 := block_at (i := 1) hm15.out rfl
    have k2 := block_at (i := 2) hm15.out rfl
    have k3 := block_at (i := 3) hm15.out rfl
    have k4 := block_at (i := 4) hm15.out rfl
    have k5 := block_at (i := 5) hm15.out rfl
    have k6 := block_at (i := 6) hm15.out rfl
    have k7 := block_at (i := 7) hm15.out rfl
    have k8 := block_at (i := 8) hm15.out rfl
    have k9 := block_at (i := 9) hm15.out rfl
    go_wp2_with fail
    refine (KF.out w15 A12 c12 hr15.out).mono ?_
    rintro e w16 ⟨rfl, b16⟩
    have hb16 := Lib.hid (hb15.out.trans (b16.mono hb15.out.size))
    clear k0 k1 k2 k3 k4 k5 k6 k7 k8 k9 b16 hm15 hb15 hr15 hy15 KF
    go_wp2_with fail
    refine (KL.out w16 hb16.out).mono ?_
    rintro e w17 ⟨rfl, b17⟩
    go_wp2
    go_ret
    exact ⟨rfl, hb16.out.trans (b17.mono hb16.out.size)⟩
  · have he := Lib.hid he
    obtain ⟨u0, u1, u2, u3, u4, u5, u6, u7, u8, u9, u10⟩ := R
    simp only [pcells] at he2
    have he2 := Lib.hid he2
    have KV0 : Hid (∀ W A c, Laid W → Lv.Laid W → Rd W W.heap.size A c ls → Calls Tryz.prog 19 #[.slice A ls.length c] W fun e w' => ∃ v, e = .returned (.tuple #[.agg #[.int .u8 (u0 : Int), .int .u8 (u1 : Int), .int .u8 (u2 : Int), .int .u16 (u3 : Int), .int .u8 (u4 : Int), .int .u8 (u5 : Int), .bool u6, .bool u7, .int .u8 (u8 : Int), v], .int .i64 0]) ∧ w'.ownsRow W.heap.size 5 1 v ds.length (ds.map bv) ∧ Below W.heap.size W w') := fun W A c h1 h2 h3 => KV1.out W A c h1 h2 h3
    clear KV1 hG
    refine (KV3.out w10 A' c' hX10.out).mono ?_
    rintro e w11 ⟨A11, c11, rfl, r11, b11⟩
    have hb11 := Lib.hid (hb10.out.trans (b11.mono hb10.out.size))
    have hm11 := Lib.hid ((b11.block _ (lt_of_block hm10.out)).trans hm10.out)
    have hX11 := Lib.hid (hX10.out.belowTop b11)
    have hr11 := Lib.hid r11
    clear b11 r11 hb10 hm10 hX10 KV3
    go_wp2_with fail
    refine (KV0.out w11 A11 c11 (hLh.out.below hb11.out) (hVh.out.below hb11.out) hr11.out).mono ?_
    rintro e w12 ⟨v12, rfl, o12, b12⟩
    obtain ⟨A12, c12, rfl, r12⟩ := Rd.of_own o12
    have hb12 := Lib.hid (hb11.out.trans (b12.mono hb11.out.size))
    have hm12 := Lib.hid ((b12.block _ (lt_of_block hm11.out)).trans hm11.out)
    have hX12 := Lib.hid (hX11.out.belowTop b12)
    have hlt := lt_of_block hm11.out
    have fR : ∀ i, w12.frozen? ⟨G2, i, none⟩ = false := fun i => by simp [World.frozen?, hm12.out]
    have rc0 := block_at (i := 0) hm12.out rfl
    have rc1 := block_at (i := 1) hm12.out rfl
    have rc2 := block_at (i := 2) hm12.out rfl
    have rc3 := block_at (i := 3) hm12.out rfl
    have rc4 := block_at (i := 4) hm12.out rfl
    have rc5 := block_at (i := 5) hm12.out rfl
    have rc6 := block_at (i := 6) hm12.out rfl
    have rc7 := block_at (i := 7) hm12.out rfl
    have rc8 := block_at (i := 8) hm12.out rfl
    have rc9 := block_at (i := 9) hm12.out rfl
    clear b12 r12 hb11 hm11 hX11 hr11 KV0
    have hm13 : Hid (((((((((((w12.setCell ⟨G2, 0, none⟩ (.int .u8 (u0 : Int))).setCell ⟨G2, 1, none⟩ (.int .u8 (u1 : Int))).setCell ⟨G2, 2, none⟩ (.int .u8 (u2 : Int))).setCell ⟨G2, 3, none⟩ (.int .u16 (u3 : Int))).setCell ⟨G2, 4, none⟩ (.int .u8 (u4 : Int))).setCell ⟨G2, 5, none⟩ (.int .u8 (u5 : Int))).setCell ⟨G2, 6, none⟩ (.bool u6)).setCell ⟨G2, 7, none⟩ (.bool u7)).setCell ⟨G2, 8, none⟩ (.int .u8 (u8 : Int))).setCell ⟨G2, 9, none⟩ (.slice A12 ds.length c12)).heap[G2]? = _) := store10 _ _ _ _ _ _ _ _ _ _ (.int .u8 (u0 : Int)) (.int .u8 (u1 : Int)) (.int .u8 (u2 : Int)) (.int .u16 (u3 : Int)) (.int .u8 (u4 : Int)) (.int .u8 (u5 : Int)) (.bool u6) (.bool u7) (.int .u8 (u8 : Int)) (.slice A12 ds.length c12) hm12.out
    have hb13 : Hid (Below w.heap.size w ((((((((((w12.setCell ⟨G2, 0, none⟩ (.int .u8 (u0 : Int))).setCell ⟨G2, 1, none⟩ (.int .u8 (u1 : Int))).setCell ⟨G2, 2, none⟩ (.int .u8 (u2 : Int))).setCell ⟨G2, 3, none⟩ (.int .u16 (u3 : Int))).setCell ⟨G2, 4, none⟩ (.int .u8 (u4 : Int))).setCell ⟨G2, 5, none⟩ (.int .u8 (u5 : Int))).setCell ⟨G2, 6, none⟩ (.bool u6)).setCell ⟨G2, 7, none⟩ (.bool u7)).setCell ⟨G2, 8, none⟩ (.int .u8 (u8 : Int))).setCell ⟨G2, 9, none⟩ (.slice A12 ds.length c12))) := below10 (.int .u8 (u0 : Int)) (.int .u8 (u1 : Int)) (.int .u8 (u2 : Int)) (.int .u16 (u3 : Int)) (.int .u8 (u4 : Int)) (.int .u8 (u5 : Int)) (.bool u6) (.bool u7) (.int .u8 (u8 : Int)) (.slice A12 ds.length c12) hb12.out hG2.out
    have ho13 : Hid (((((((((((w12.setCell ⟨G2, 0, none⟩ (.int .u8 (u0 : Int))).setCell ⟨G2, 1, none⟩ (.int .u8 (u1 : Int))).setCell ⟨G2, 2, none⟩ (.int .u8 (u2 : Int))).setCell ⟨G2, 3, none⟩ (.int .u16 (u3 : Int))).setCell ⟨G2, 4, none⟩ (.int .u8 (u4 : Int))).setCell ⟨G2, 5, none⟩ (.int .u8 (u5 : Int))).setCell ⟨G2, 6, none⟩ (.bool u6)).setCell ⟨G2, 7, none⟩ (.bool u7)).setCell ⟨G2, 8, none⟩ (.int .u8 (u8 : Int))).setCell ⟨G2, 9, none⟩ (.slice A12 ds.length c12)).ownsRow w11.heap.size 5 1 (.slice A12 ds.length c12) ds.length (ds.map bv)) := own_grown o12 (grown10 w12 G2 (.int .u8 (u0 : Int)) (.int .u8 (u1 : Int)) (.int .u8 (u2 : Int)) (.int .u16 (u3 : Int)) (.int .u8 (u4 : Int)) (.int .u8 (u5 : Int)) (.bool u6) (.bool u7) (.int .u8 (u8 : Int)) (.slice A12 ds.length c12)) hlt
    have hX13 := Lib.hid (hX.out.belowTop hb13.out)
    clear o12 hlt hb12 hX12
    go_wp2_with fail
    clear rc0 rc1 rc2 rc3 rc4 rc5 rc6 rc7 rc8 rc9 fR hm12
    have hr13 := Lib.hid (Rd.of_own_at ho13.out)
    generalize ((((((((((w12.setCell ⟨G2, 0, none⟩ (.int .u8 (u0 : Int))).setCell ⟨G2, 1, none⟩ (.int .u8 (u1 : Int))).setCell ⟨G2, 2, none⟩ (.int .u8 (u2 : Int))).setCell ⟨G2, 3, none⟩ (.int .u16 (u3 : Int))).setCell ⟨G2, 4, none⟩ (.int .u8 (u4 : Int))).setCell ⟨G2, 5, none⟩ (.int .u8 (u5 : Int))).setCell ⟨G2, 6, none⟩ (.bool u6)).setCell ⟨G2, 7, none⟩ (.bool u7)).setCell ⟨G2, 8, none⟩ (.int .u8 (u8 : Int))).setCell ⟨G2, 9, none⟩ (.slice A12 ds.length c12)) = w13 at hm13 hb13 ho13 hX13 hr13 ⊢
    refine (KV2.out w13 A' c' hX13.out).mono ?_
    rintro e w14 ⟨A14, c14, rfl, r14, b14⟩
    have hm14 := Lib.hid ((b14.block _ (lt_of_block hm13.out)).trans hm13.out)
    have hb14 := Lib.hid (hb13.out.trans (b14.mono hb13.out.size))
    have hr14 := Lib.hid (hr13.out.belowTop b14)
    have hy14 := Lib.hid r14
    clear b14 r14 hm13 hb13 ho13 hX13 hr13 KV2 hX
    go_wp2_with fail
    refine (he.out w14 A14 c14 hy14.out).mono ?_
    rintro e w15 ⟨rfl, b15⟩
    have hm15 := Lib.hid ((b15.block _ (lt_of_block hm14.out)).trans hm14.out)
    have hb15 := Lib.hid (hb14.out.trans (b15.mono hb14.out.size))
    have hr15 := Lib.hid (hr14.out.belowTop b15)
    have hy15 := Lib.hid (hy14.out.belowTop b15)
    clear b15 hm14 hb14 hr14 hy14 he
    go_wp2_with fail
    refine startG 10 (l := #[false, false, false, false, false, false, false, false, false, false]) (by kernel_rfl) rfl rfl ?_
    have hm16 : Hid (w15.drew.heap[G2]? = _) := hm15
    have hb16 : Hid (Below w.heap.size w w15.drew) := Lib.hid hb15.out.drew
    have hr16 : Hid (Rd w15.drew w15.drew.heap.size A12 c12 ds) := hr15.out.drew
    have hy16 : Hid (Rd w15.drew w15.drew.heap.size A14 c14 b') := hy15.out.drew
    clear hm15 hb15 hr15 hy15
    generalize w15.drew = w16 at hm16 hb16 hr16 hy16 ⊢
    have z16 := hy16.out.cus
    refine takeG 0 (v := .agg #[.int .u8 (u0 : Int), .int .u8 (u1 : Int), .int .u8 (u2 : Int), .int .u16 (u3 : Int), .int .u8 (u4 : Int), .int .u8 (u5 : Int), .bool u6, .bool u7, .int .u8 (u8 : Int), .slice A12 ds.length c12]) rfl (by decide +kernel) (by decide +kernel) (by decide +kernel) (fun _ _ _ h => h) (Or.inl ⟨by rfl, ?_⟩) ?_
    · intro W hW
      have hnl := (hW.block _ (lt_of_block hm16.out)).trans hm16.out
      have q0 := block_at (i := 0) hnl rfl
      have q1 := block_at (i := 1) hnl rfl
      have q2 := block_at (i := 2) hnl rfl
      have q3 := block_at (i := 3) hnl rfl
      have q4 := block_at (i := 4) hnl rfl
      have q5 := block_at (i := 5) hnl rfl
      have q6 := block_at (i := 6) hnl rfl
      have q7 := block_at (i := 7) hnl rfl
      have q8 := block_at (i := 8) hnl rfl
      have q9 := block_at (i := 9) hnl rfl
      clear hnl hW
      go_simp
      first | done | with_reducible rfl
    try simp only [Act.put, List.setIfInBounds_toArray, List.set_cons_zero, List.set_cons_succ]
    ((first | (refine takeG 3 (v := ?_) rfl (by decide +kernel) (by decide +kernel) (by decide +kernel) (fun _ _ _ h => h) (Or.inl ⟨by rfl, ?_⟩) ?_; rotate_left 1; (focus (intro W hW; go_simp; first | done | with_reducible rfl)); try simp only [Act.put, List.setIfInBounds_toArray, List.set_cons_zero, List.set_cons_succ]) | (refine takeG 3 rfl (by decide +kernel) (by decide +kernel) (by decide +kernel) (fun _ _ _ h => h) (Or.inr ⟨by rfl, rfl⟩) ?_; try simp only [Act.put, List.setIfInBounds_toArray, List.set_cons_zero, List.set_cons_succ]) | skip))
    refine takeG 4 (v := .string ⟨b'.toArray⟩) rfl (by decide +kernel) (by decide +kernel) (by decide +kernel) (fun _ _ _ h => h) (Or.inl ⟨by rfl, ?_⟩) ?_
    · intro W hW
      have q := z16 W hW
      go_simp
      first | done | with_reducible rfl
    try simp only [Act.put, List.setIfInBounds_toArray, List.set_cons_zero, List.set_cons_succ]
    clear z16 hm16 hy16
    refine stepG 1 rfl (by decide +kernel) (by rfl) ?_
    intro K hK
    go_simp
    refine (he2.out w16 _ A12 c12 hr16.out rfl).mono ?_
    rintro e w17 ⟨v17, rfl, o17, b17⟩
    obtain ⟨A17, c17, rfl, r17⟩ := Rd.of_own o17
    refine hK _ _ b17 ?_
    have hb17 := Lib.hid (hb16.out.trans (b17.mono hb16.out.size))
    have z17 := r17.cus
    clear hK K b17 o17 r17 hb16 hr16 he2
    try simp only [Act.put, List.setIfInBounds_toArray, List.set_cons_zero, List.set_cons_succ]
    refine takeG 2 (v := .string ⟨b'.toArray⟩) rfl (by decide +kernel) (by decide +kernel) (by decide +kernel) (fun _ _ _ h => h) (Or.inl ⟨by rfl, ?_⟩) ?_
    · intro W hW
      have q := z17 W hW
      go_simp
      first | done | with_reducible rfl
    try simp only [Act.put, List.setIfInBounds_toArray, List.set_cons_zero, List.set_cons_succ]
    clear z17
    ((first | (refine takeG 5 (v := ?_) rfl (by decide +kernel) (by decide +kernel) (by decide +kernel) (fun _ _ _ h => h) (Or.inl ⟨by rfl, ?_⟩) ?_; rotate_left 1; (focus (intro W hW; go_simp; first | done | with_reducible rfl)); try simp only [Act.put, List.setIfInBounds_toArray, List.set_cons_zero, List.set_cons_succ]) | (refine takeG 5 rfl (by decide +kernel) (by decide +kernel) (by decide +kernel) (fun _ _ _ h => h) (Or.inr ⟨by rfl, rfl⟩) ?_; try simp only [Act.put, List.setIfInBounds_toArray, List.set_cons_zero, List.set_cons_succ]) | skip); (first | (refine takeG 6 (v := ?_) rfl (by decide +kernel) (by decide +kernel) (by decide +kernel) (fun _ _ _ h => h) (Or.inl ⟨by rfl, ?_⟩) ?_; rotate_left 1; (focus (intro W hW; go_simp; first | done | with_reducible rfl)); try simp only [Act.put, List.setIfInBounds_toArray, List.set_cons_zero, List.set_cons_succ]) | (refine takeG 6 rfl (by decide +kernel) (by decide +kernel) (by decide +kernel) (fun _ _ _ h => h) (Or.inr ⟨by rfl, rfl⟩) ?_; try simp only [Act.put, List.setIfInBounds_toArray, List.set_cons_zero, List.set_cons_succ]) | skip))
    refine stepG 7 rfl (by decide +kernel) (by rfl) ?_
    intro K hK
    go_simp
    refine (KL.out w17 hb17.out).mono ?_
    rintro e w18 ⟨rfl, b18⟩
    refine hK _ _ b18 ?_
    have hb18 := Lib.hid (hb17.out.trans (b18.mono hb17.out.size))
    clear hK K b18 hb17
    try simp only [Act.put, List.setIfInBounds_toArray, List.set_cons_zero, List.set_cons_succ]
    ((first | (refine takeG 8 (v := ?_) rfl (by decide +kernel) (by decide +kernel) (by decide +kernel) (fun _ _ _ h => h) (Or.inl ⟨by rfl, ?_⟩) ?_; rotate_left 1; (focus (intro W hW; go_simp; first | done | with_reducible rfl)); try simp only [Act.put, List.setIfInBounds_toArray, List.set_cons_zero, List.set_cons_succ]) | (refine takeG 8 rfl (by decide +kernel) (by decide +kernel) (by decide +kernel) (fun _ _ _ h => h) (Or.inr ⟨by rfl, rfl⟩) ?_; try simp only [Act.put, List.setIfInBounds_toArray, List.set_cons_zero, List.set_cons_succ]) | skip); (first | (refine takeG 9 (v := ?_) rfl (by decide +kernel) (by decide +kernel) (by decide +kernel) (fun _ _ _ h => h) (Or.inl ⟨by rfl, ?_⟩) ?_; rotate_left 1; (focus (intro W hW; go_simp; first | done | with_reducible rfl)); try simp only [Act.put, List.setIfInBounds_toArray, List.set_cons_zero, List.set_cons_succ]) | (refine takeG 9 rfl (by decide +kernel) (by decide +kernel) (by decide +kernel) (fun _ _ _ h => h) (Or.inr ⟨by rfl, rfl⟩) ?_; try simp only [Act.put, List.setIfInBounds_toArray, List.set_cons_zero, List.set_cons_succ]) | skip))
    refine doneG (by kernel_rfl) ?_
    go_wp2
    go_ret
    exact ⟨rfl, hb18.out⟩

theorem lawLine_any (w : World) (hLV : Laid w ∧ Lv.Laid w) (wt a b fr fl : Nat) (hwt : wt < 256) (ha : a < 256) (hb : b < 256) (hfr : fr < 65536) (hfl : fl < 256) (A : Option Addr) (c : Nat) (xs : List UInt8) (hx : Rd w w.heap.size A c xs)
    (A' : Option Addr) (c' : Nat) (ls : List UInt8) (hx' : Rd w w.heap.size A' c' ls) :
    Calls Tryz.prog 6 #[.agg (xcells wt a b fr fl (.slice A xs.length c)), .slice A' ls.length c'] w (ResB w true) := by
  by_cases h : 300 < xs.length ∨ 600 < ls.length
  · exact lawLine_skip w wt a b fr fl A A' _ c _ c' h
  · exact lawLine_in w hLV.1 hLV.2 wt a b fr fl hwt ha hb hfr hfl A c xs hx (by omega) A' c' ls hx' (by omega)

end Go.Proofs.YtfblpakoibadoaaGreatDoor

namespace Go.Proofs.YtfblpakoibadoaaGreatDoor
open Go Go.ChangeShapes Go.WideShapes Go.ChangeAt Go.RowKit Go.Joins Go.Deep

theorem gSync : Tryz.prog.globalNamed "plugboard/levels.syncBits" = some 3 := by kernel_rfl
theorem gEnds : Tryz.prog.globalNamed "plugboard/levels.endStates" = some 4 := by kernel_rfl
theorem tSync : (Tryz.prog.globals[3]?).map (·.type) = some 125 := by kernel_rfl
theorem tEnds : (Tryz.prog.globals[4]?).map (·.type) = some 126 := by kernel_rfl

/-- What the rows of the line list. -/
abbrev laidAllL : List (String × DataW Unit) := [("math/bits.deBruijn32tab", Rows.laid_math_bits_deBruijn32tab), ("math/bits.deBruijn64tab", Rows.laid_math_bits_deBruijn64tab), ("internal/strconv.uint64pow10", Rows.laid_internal_strconv_uint64pow10),
  ("plugboard/checks.behindOne", Rows.laid_plugboard_checks_behindOne), ("plugboard/checks.behindFour", Rows.laid_plugboard_checks_behindFour), ("plugboard/levels.syncBits", Rows.laid_plugboard_levels_syncBits), ("plugboard/levels.endStates", Rows.laid_plugboard_levels_endStates), ("plugboard/packets.pidNames", Rows.laid_plugboard_packets_pidNames), ("plugboard/packets.stepNames", Rows.laid_plugboard_packets_stepNames), ("plugboard/packets.kindNames", Rows.laid_plugboard_packets_kindNames)]

theorem door_metL (os : Os) (args : Array Value) : laidMetH Tryz.prog laidAllL ((World.doorLaid Tryz.prog 400 os).forCall (fun _ _ => 0) ⟨#[], args, []⟩).memory :=
  laidMetH_of_parts3 (fuel := 8) (laidMet_of_run' 8 (by kernel_rfl) (by kernel_rfl)) (by kernel_rfl) (by kernel_rfl)

theorem laid_ofL {W : World} (h : laidMetH Tryz.prog laidAllL W) : Laid W ∧ Lv.Laid W := by
  rw [MakeChecks.laidMetH_plain _ _ _ (by kernel_rfl)] at h
  obtain ⟨ps, ⟨_, _, _, _, _, _, _, _, _, _, ⟨_, _, _, _, _, _, _, _, _, _, ⟨g2, t2, cs2, f2, p2, q2, hg2, ht2, hv2, hd2, ⟨g3, t3, cs3, f3, p3, q3, hg3, ht3, hv3, hd3, ⟨g4, t4, cs4, f4, p4, q4, hg4, ht4, hv4, hd4,
    ⟨g8, t8, cs8, f8, p8, q8, hg8, ht8, hv8, hd8, ⟨g9, t9, cs9, f9, p9, q9, hg9, ht9, hv9, hd9, ⟨g5, t5, cs5, f5, p5, q5, hg5, ht5, hv5, hd5, ⟨g6, t6, cs6, f6, p6, q6, hg6, ht6, hv6, hd6, ⟨g7, t7, cs7, f7, p7, q7, hg7, ht7, hv7, hd7, _, _⟩, _⟩, _⟩, _⟩, _⟩, _⟩, _⟩, _⟩, _⟩, _⟩, _, _⟩ := h
  obtain rfl := Option.some.inj (gPow.symm.trans hg2)
  obtain rfl := Option.some.inj (gOne.symm.trans hg3)
  obtain rfl := Option.some.inj (gFour.symm.trans hg4)
  obtain rfl := Option.some.inj (gPid.symm.trans hg5)
  obtain rfl := Option.some.inj (gStep.symm.trans hg6)
  obtain rfl := Option.some.inj (gKind.symm.trans hg7)
  obtain rfl := Option.some.inj (gSync.symm.trans hg8)
  obtain rfl := Option.some.inj (gEnds.symm.trans hg9)
  obtain rfl := Option.some.inj (tSync.symm.trans ht8)
  obtain rfl := Option.some.inj (tEnds.symm.trans ht9)
  obtain rfl := Option.some.inj (tPow.symm.trans ht2)
  obtain rfl := Option.some.inj (tOne.symm.trans ht3)
  obtain rfl := Option.some.inj (tFour.symm.trans ht4)
  obtain rfl := Option.some.inj (tPid.symm.trans ht5)
  obtain rfl := Option.some.inj (tStep.symm.trans ht6)
  obtain rfl := Option.some.inj (tKind.symm.trans ht7)
  have e2 : cs2.toList = Lib.pow10Tab.map fun z => Value.int .u64 z :=
    Lib.cells_of_tab (k := .u64) (zs := Lib.pow10Tab) Tryz.underlying150 Tryz.underlying67 (by kernel_rfl) (by kernel_rfl) hd2
  have e3 : cs3.toList = ([0, 20] : List Int).map fun z => Value.int .u8 z :=
    Lib.cells_of_tab (k := .u8) (zs := [0, 20]) Tryz.underlying133 Tryz.underlying5 (by kernel_rfl) (by kernel_rfl) hd3
  have e4 : cs4.toList = ([0, 52225, 55297, 5120, 61441, 15360, 10240, 58369, 40961, 27648, 30720, 46081, 20480, 39937, 34817, 17408] : List Int).map fun z => Value.int .u16 z :=
    Lib.cells_of_tab (k := .u16) (zs := [0, 52225, 55297, 5120, 61441, 15360, 10240, 58369, 40961, 27648, 30720, 46081, 20480, 39937, 34817, 17408]) Tryz.underlying128 Tryz.underlying23 (by kernel_rfl) (by kernel_rfl) hd4
  have e8 : cs8.toList = ([0, 0, 0, 0, 0, 0, 0, 1] : List Int).map fun z => Value.int .u8 z :=
    Lib.cells_of_tab (k := .u8) (zs := [0, 0, 0, 0, 0, 0, 0, 1]) Tryz.underlying125 Tryz.underlying5 (by kernel_rfl) (by kernel_rfl) hd8
  have e9 : cs9.toList = ([2, 2, 0] : List Int).map fun z => Value.int .u8 z :=
    Lib.cells_of_tab (k := .u8) (zs := [2, 2, 0]) Tryz.underlying126 Tryz.underlying58 (by kernel_rfl) (by kernel_rfl) hd9
  have e5 : cs5.toList = pidL.map sv := cells_of_strs (zs := pidL) Tryz.underlying89 Tryz.underlying9 (by kernel_rfl) (by kernel_rfl) hd5
  have e6 : cs6.toList = stepL.map sv := cells_of_strs (zs := stepL) Tryz.underlying121 Tryz.underlying9 (by kernel_rfl) (by kernel_rfl) hd6
  have e7 : cs7.toList = kindL.map sv := cells_of_strs (zs := kindL) Tryz.underlying123 Tryz.underlying9 (by kernel_rfl) (by kernel_rfl) hd7
  have hpow : Lib.TabIs Tryz.prog W "internal/strconv.uint64pow10" .u64 Lib.pow10Tab := by
    unfold Lib.TabIs
    rw [hv2, ← e2]
  have at_str : ∀ (zs : List (List UInt8)) (cs : Array Value) (j : Nat), cs.toList = zs.map sv → j < zs.length → cs[j]? = some (sv (zs.getD j [])) := fun zs cs j e hj => by
    rw [← Array.getElem?_toList, e, List.getElem?_map, List.getElem?_eq_getElem hj, List.getD_eq_getElem?_getD, List.getElem?_eq_getElem hj]
    rfl
  refine ⟨⟨⟨fun j hj => ?_, fun j hj => ?_⟩, fun j hj => ?_, fun j hj => ?_, fun j hj => ?_, fun w' hb => TabIs_below gPow hpow hb⟩, ⟨fun j hj => ?_, fun j hj => ?_⟩⟩
  · rw [World.var?_cell hg3 hv3 j, ← Array.getElem?_toList, e3]
    rcases (by omega : j = 0 ∨ j = 1) with rfl | rfl <;> rfl
  · rw [World.var?_cell hg4 hv4 j, ← Array.getElem?_toList, e4]
    rcases (by omega : j = 0 ∨ j = 1 ∨ j = 2 ∨ j = 3 ∨ j = 4 ∨ j = 5 ∨ j = 6 ∨ j = 7 ∨ j = 8 ∨ j = 9 ∨ j = 10 ∨ j = 11 ∨ j = 12 ∨ j = 13 ∨ j = 14 ∨ j = 15) with rfl | rfl | rfl | rfl | rfl | rfl | rfl | rfl | rfl | rfl | rfl | rfl | rfl | rfl | rfl | rfl <;> rfl
  · rw [World.var?_cell hg5 hv5 j]; exact at_str _ _ _ e5 hj
  · rw [World.var?_cell hg6 hv6 j]; exact at_str _ _ _ e6 hj
  · rw [World.var?_cell hg7 hv7 j]; exact at_str _ _ _ e7 hj

  · rw [World.var?_cell hg8 hv8 j, ← Array.getElem?_toList, e8]
    rcases (by omega : j = 0 ∨ j = 1 ∨ j = 2 ∨ j = 3 ∨ j = 4 ∨ j = 5 ∨ j = 6 ∨ j = 7) with rfl | rfl | rfl | rfl | rfl | rfl | rfl | rfl <;> rfl
  · rw [World.var?_cell hg9 hv9 j, ← Array.getElem?_toList, e9]
    rcases (by omega : j = 0 ∨ j = 1 ∨ j = 2) with rfl | rfl | rfl <;> rfl

theorem array6 {cs : Array Value} (h : cs.size = 6) : ∃ c0 c1 c2 c3 c4 c5, cs = #[c0, c1, c2, c3, c4, c5] := by
  obtain ⟨l⟩ := cs
  match l, h with
  | [a, b, c, d, e, f], _ => exact ⟨a, b, c, d, e, f, rfl⟩
section
variable {H : Type} {enc : TypeId × Value → H} {W : World}
set_option maxRecDepth 100000 in
theorem open_P {base : Nat} {v : Value} {d : DataW H} {p : List MemPlace} (hv : Value.okWide Tryz.prog W .any base 40 v) (h : DataW.Trod enc Tryz.prog W 0 (fun _ => true) true 40 v d p) :
    ∃ (wt a b fr fl : Nat) (A : Option Addr) (c : Nat) (xs : List UInt8), v = .agg #[.int .u8 (wt : Int), .int .u8 (a : Int), .int .u8 (b : Int), .int .u16 (fr : Int), .int .u8 (fl : Int), .slice A xs.length c] ∧ wt < 256 ∧ a < 256 ∧ b < 256 ∧ fr < 65536 ∧ fl < 256 ∧ Rd W W.heap.size A c xs := by
  obtain ⟨cs, rfl, hsz⟩ := okWide_struct Tryz.underlying40 hv
  obtain ⟨c0, c1, c2, c3, c4, c5, rfl⟩ := array6 (hsz.trans (by kernel_rfl))
  obtain ⟨fuel, hf⟩ := h
  obtain ⟨xs, k, _, _, _, hlen, hx⟩ := DataW.trod_struct Tryz.underlying40 hf
  have hlen : xs.length = 6 := hlen
  have e0 := hx 0 _ rfl
  have e1 := hx 1 _ rfl
  have e2 := hx 2 _ rfl
  have e3 := hx 3 _ rfl
  have e4 := hx 4 _ rfl
  have e5 := hx 5 _ rfl
  rw [List.getElem?_eq_getElem (by omega)] at e0 e1 e2 e3 e4 e5
  have g0 : DataW.trod enc Tryz.prog W 0 (fun _ => true) true k 5 [c0] = some _ := e0
  have g1 : DataW.trod enc Tryz.prog W 0 (fun _ => true) true k 5 [c1] = some _ := e1
  have g2 : DataW.trod enc Tryz.prog W 0 (fun _ => true) true k 5 [c2] = some _ := e2
  have g3 : DataW.trod enc Tryz.prog W 0 (fun _ => true) true k 23 [c3] = some _ := e3
  have g4 : DataW.trod enc Tryz.prog W 0 (fun _ => true) true k 5 [c4] = some _ := e4
  have g5 : DataW.trod enc Tryz.prog W 0 (fun _ => true) true k 27 [c5] = some _ := e5
  obtain ⟨m0, rfl, h0⟩ := open_u8 Tryz.underlying5 g0
  obtain ⟨m1, rfl, h1⟩ := open_u8 Tryz.underlying5 g1
  obtain ⟨m2, rfl, h2⟩ := open_u8 Tryz.underlying5 g2
  obtain ⟨m3, rfl, h3⟩ := open_u16 g3
  obtain ⟨m4, rfl, h4⟩ := open_u8 Tryz.underlying5 g4
  obtain ⟨A, c, bs, rfl, hr⟩ := open_bytes g5
  exact ⟨m0, m1, m2, m3, m4, A, c, bs, rfl, h0, h1, h2, h3, h4, hr⟩
end

end Go.Proofs.YtfblpakoibadoaaGreatDoor

