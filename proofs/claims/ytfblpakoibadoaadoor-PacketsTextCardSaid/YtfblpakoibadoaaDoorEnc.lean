/-
  Helper text: the bytes of a packet; no statement is proved here.
-/
import Derived.Test.YtfblpakoibadoaaDoorChk
import Derived.Test.YtfblpakoibadoaaDoorCkAdd
import Derived.Test.YtfblpakoibadoaaDoorCkPart
namespace Go.Proofs.YtfblpakoibadoaaDoor
open Go Go.RowKit

/-- The bytes of a number, the lowest one first. -/
def bytesN (J nb : Nat) : List UInt8 := (List.range nb).map fun i => UInt8.ofNat (J / 2 ^ (8 * i))
theorem bytesN_len (J nb : Nat) : (bytesN J nb).length = nb := by simp [bytesN]
/-- How many bytes the fields have. -/
def nbytes (fs : List Fd) : Nat := if fs.length = 0 then 0 else (placeN fs fs.length + 5) / 8

set_option maxRecDepth 100000 in
theorem first_any (w : World) (p : Nat) (hp : p ≤ 15) : Calls Tryd.prog 22 #[.int .u8 (p : Int)] w fun e w' => e = .returned (.int .u8 ((p + 16 * (15 - p) : Nat) : Int)) ∧ w' = w := by
  have h1 : (15 : Int) - p = ((15 - p : Nat) : Int) := by omega
  have h2 := Lib.hid (show (p : Int) + 16 * (15 - (p : Int)) = ((p + 16 * (15 - p) : Nat) : Int) by omega)
  clear h1
  go_enter Tryd.func22, Tryd.ntmps22
  go_wp2
  go_ret
  rw [← h2.out]
  exact ⟨rfl, rfl⟩

set_option maxRecDepth 100000 in
theorem numberBytes_none (w : World) (A : Option Addr) : Calls Tryd.prog 40 #[.slice A 0 0] w fun e w' => e = .returned (.int .i64 0) ∧ Below w.heap.size w w' := by
  go_enter Tryd.func40, Tryd.ntmps40
  go_wp2
  go_ret
  exact ⟨rfl, Below.refl _ _⟩
set_option maxRecDepth 100000 in
theorem numberBytes_core (w : World) (A : Option Addr) (n p nb : Nat) (h0 : 0 < n) (hn : n ≤ 100) (hp : p ≤ 1100) (hnb : nb = (p + 5) / 8)
    (KW : Calls Tryd.prog 39 #[.slice A n n] w fun e w' => e = .returned (.int .i64 (p : Int)) ∧ Below w.heap.size w w') :
    Calls Tryd.prog 40 #[.slice A n n] w fun e w' => e = .returned (.int .i64 (nb : Int)) ∧ Below w.heap.size w w' := by
  have KWh := Lib.hid KW
  have h1 : ((n : Int) == 0) = false := by rw [beq_eq_false_iff_ne]; omega
  have h2 := Lib.hid (show ((p : Int) + 5) / 8 = (nb : Int) by omega)
  clear KW hnb
  go_enter Tryd.func40, Tryd.ntmps40
  go_wp2_with fail
  refine KWh.out.mono ?_
  rintro e w1 ⟨rfl, hb⟩
  go_wp2
  go_ret
  rw [← h2.out]
  exact ⟨rfl, hb⟩
theorem placeN_bound (fs : List Fd) (hn : fs.length ≤ 100) : placeN fs fs.length ≤ 1100 := Nat.le_trans (placeN_le _ _) (by omega)
theorem numberBytes_any (w : World) (A : Option Addr) (fs : List Fd) (hF : FRd w A fs) (hn : fs.length ≤ 100) :
    Calls Tryd.prog 40 #[.slice A fs.length fs.length] w fun e w' => e = .returned (.int .i64 (nbytes fs : Int)) ∧ Below w.heap.size w w' := by
  unfold nbytes
  rcases Nat.eq_zero_or_pos fs.length with h | h
  · rw [if_pos h, h]
    exact numberBytes_none w A
  · rw [if_neg (by omega)]
    exact numberBytes_core w A fs.length (placeN fs fs.length) _ h hn (placeN_bound fs hn) rfl (widthOf_any w A fs hF hn)

theorem FRd.below {w w' : World} {A : Option Addr} {fs : List Fd} (h : FRd w A fs) (hb : Below w.heap.size w w') : FRd w' A fs := fun hl => by
  obtain ⟨g, e, hr⟩ := h hl
  exact ⟨g, e, (hb.block g (lt_of_block hr)).trans hr⟩
theorem own_nil (w : World) (base t : Nat) : w.ownsRow base t 1 (.slice none 0 0) ([] : List UInt8).length (([] : List UInt8).map bv) := ⟨rfl, .inl ⟨rfl, rfl⟩⟩

set_option maxHeartbeats 800000 in
set_option maxRecDepth 100000 in
theorem content_data (w : World) (hL : Laid w) (r : Rg) (A : Option Addr) (c : Nat) (xs : List UInt8) (hx : Rd w w.heap.size A c xs) (hd : r.data = .slice A xs.length c) (hi : isD r.pid = true) (hl : xs.length ≤ 100000) :
    Calls Tryd.prog 21 #[.agg (pcells r)] w (ResOE w 5 (Ck.addL xs) 0) := by
  have KD := Lib.hid fun W => isData_any W r.pid
  rw [hi] at KD
  clear hi
  obtain ⟨p0, p1, p2, p3, p4, p5, p6, p7, p8, p9, p10⟩ := r
  simp only at hd KD
  subst hd
  simp only [pcells]
  have hbW := (Below.refl w.heap.size w).alloc (Nat.le_refl _) (.cells #[.int .u8 (p0 : Int), .int .u8 (p1 : Int), .int .u8 (p2 : Int), .int .u16 (p3 : Int), .int .u8 (p4 : Int), .int .u8 (p5 : Int), .bool p6, .bool p7, .int .u8 (p8 : Int), .slice A xs.length c] 29)
  have KA := Lib.hid (Ck.add_any (w.alloc (.cells #[.int .u8 (p0 : Int), .int .u8 (p1 : Int), .int .u8 (p2 : Int), .int .u16 (p3 : Int), .int .u8 (p4 : Int), .int .u8 (p5 : Int), .bool p6, .bool p7, .int .u8 (p8 : Int), .slice A xs.length c] 29)) (hL.below hbW).ck A c xs (hx.belowTop hbW) hl)
  have hbWh := Lib.hid hbW
  clear hbW
  go_enter Tryd.func21, Tryd.ntmps21
  go_wp2_with fail
  refine (KD.out _).mono ?_
  rintro e w1 ⟨rfl, rfl⟩
  go_wp2_with fail
  refine KA.out.mono ?_
  rintro e w2 ⟨v, rfl, hown, hb⟩
  have hown := Lib.hid (own_base hown hbWh.out.size)
  have hb := Lib.hid (hbWh.out.trans (hb.mono hbWh.out.size))
  go_wp2
  go_ret2
  exact ⟨v, rfl, hown.out, hb.out⟩

set_option maxHeartbeats 800000 in
set_option maxRecDepth 100000 in
theorem content_none (w : World) (r : Rg) (ok : r.Ok) (A : Option Addr) (n c : Nat) (hd : r.data = .slice A n c) (hi : isD r.pid = false) (hf : fieldsL r.pid = []) :
    Calls Tryd.prog 21 #[.agg (pcells r)] w (ResOE w 5 [] 0) := by
  have KD := Lib.hid fun W => isData_any W r.pid
  have KF := Lib.hid fun W => fieldsOf_any W r.pid ok.pid
  rw [hi] at KD
  rw [hf] at KF
  clear hi hf ok
  obtain ⟨p0, p1, p2, p3, p4, p5, p6, p7, p8, p9, p10⟩ := r
  simp only at hd KD KF
  subst hd
  simp only [pcells]
  have hbWh := Lib.hid ((Below.refl w.heap.size w).alloc (Nat.le_refl _) (.cells #[.int .u8 (p0 : Int), .int .u8 (p1 : Int), .int .u8 (p2 : Int), .int .u16 (p3 : Int), .int .u8 (p4 : Int), .int .u8 (p5 : Int), .bool p6, .bool p7, .int .u8 (p8 : Int), .slice A n c] 29))
  go_enter Tryd.func21, Tryd.ntmps21
  go_wp2_with fail
  refine (KD.out _).mono ?_
  rintro e w1 ⟨rfl, rfl⟩
  go_wp2_with fail
  refine (KF.out _).mono ?_
  rintro e w2 ⟨A2, rfl, _, hb, _⟩
  have hb := Lib.hid (hbWh.out.trans (hb.mono hbWh.out.size))
  simp only [List.length_nil]
  go_wp2
  go_ret2
  exact ⟨_, rfl, own_nil _ _ _, hb.out⟩

set_option maxHeartbeats 1600000 in
set_option maxRecDepth 100000 in
theorem content_num (w : World) (hL : Laid w) (r : Rg) (ok : r.Ok) (A : Option Addr) (c : Nat) (xs : List UInt8) (hd : r.data = .slice A xs.length c) (hi : isD r.pid = false) (fs : List Fd) (hf : fieldsL r.pid = fs) (hf0 : 0 < fs.length) (hn : fs.length ≤ 100)
    (n v J nb : Nat) (hpn : placeN fs fs.length = n) (hn24 : n ≤ 24) (hv : packN fs { r with spare := 0 } fs.length = v) (hv2 : v < 2 ^ n) (hJ : v + 2 ^ n * Ck.chk 20 5 n v = J) (hnb : nbytes fs = nb) (hnb3 : nb ≤ 3) (hJ32 : J < 2 ^ 32) :
    Calls Tryd.prog 21 #[.agg (pcells r)] w (ResOE w 5 (bytesN J nb) 0) := by
  have KD := Lib.hid fun W => isData_any W r.pid
  have KF := Lib.hid fun W => fieldsOf_any W r.pid ok.pid
  have hpl := fields_place r.pid
  rw [hi] at KD
  rw [hf] at KF hpl
  have KP := Lib.hid fun W B A h1 h2 => packed_any W B { r with spare := 0 } A fs h1 ⟨ok.pid, ok.addr, ok.endp, ok.frame, ok.hub, ok.port, ok.kind, Nat.succ_pos _⟩ h2 hn hpl
  have KW := Lib.hid fun W A h => widthOf_any W A fs h hn
  have KN := Lib.hid fun W A h => numberBytes_any W A fs h hn
  have KJ := Lib.hid fun W hLW => Ck.Join_good W hLW v n hn24 hv2
  rw [hv] at KP
  rw [hpn] at KW
  rw [hnb] at KN
  rw [hJ] at KJ
  have hmk := fun W : World => Ck.make_full (nb : Int) W (by omega) (by omega)
  rw [Int.toNat_natCast] at hmk
  have hmk := Lib.hid hmk
  clear hi hf ok hpl hv hpn hnb hJ
  obtain ⟨p0, p1, p2, p3, p4, p5, p6, p7, p8, p9, p10⟩ := r
  simp only at hd KD KF KP
  subst hd
  simp only [pcells]
  have hb0 := heap_alloc_new w (.cells #[.int .u8 (p0 : Int), .int .u8 (p1 : Int), .int .u8 (p2 : Int), .int .u16 (p3 : Int), .int .u8 (p4 : Int), .int .u8 (p5 : Int), .bool p6, .bool p7, .int .u8 (p8 : Int), .slice A xs.length c] 29)
  have hbWh := Lib.hid ((Below.refl w.heap.size w).alloc (Nat.le_refl _) (.cells #[.int .u8 (p0 : Int), .int .u8 (p1 : Int), .int .u8 (p2 : Int), .int .u16 (p3 : Int), .int .u8 (p4 : Int), .int .u8 (p5 : Int), .bool p6, .bool p7, .int .u8 (p8 : Int), .slice A xs.length c] 29))
  have hLh := Lib.hid hL
  clear hL
  have t1 : ((fs.length : Int) == 0) = false := by rw [beq_eq_false_iff_ne]; omega
  go_enter Tryd.func21, Tryd.ntmps21
  go_wp2_with fail
  refine (KD.out _).mono ?_
  rintro e w0 ⟨rfl, rfl⟩
  go_wp2_with fail
  refine (KF.out _).mono ?_
  rintro e w1 ⟨A1, rfl, hF1, hB1, _⟩
  have hb1 := Lib.hid ((hB1.block _ (lt_of_block hb0)).trans hb0)
  have hB1h := Lib.hid (hbWh.out.trans (hB1.mono hbWh.out.size))
  have hF1h := Lib.hid hF1
  clear hb0 hB1 hF1
  have hbl := lt_of_block hb1.out
  have c0 : w1.cell? ⟨w.heap.size, 0, none⟩ = some (.int .u8 (p0 : Int)) := cell_at hb1.out 0
  have c1 : w1.cell? ⟨w.heap.size, 1, none⟩ = some (.int .u8 (p1 : Int)) := cell_at hb1.out 1
  have c2 : w1.cell? ⟨w.heap.size, 2, none⟩ = some (.int .u8 (p2 : Int)) := cell_at hb1.out 2
  have c3 : w1.cell? ⟨w.heap.size, 3, none⟩ = some (.int .u16 (p3 : Int)) := cell_at hb1.out 3
  have c4 : w1.cell? ⟨w.heap.size, 4, none⟩ = some (.int .u8 (p4 : Int)) := cell_at hb1.out 4
  have c5 : w1.cell? ⟨w.heap.size, 5, none⟩ = some (.int .u8 (p5 : Int)) := cell_at hb1.out 5
  have c6 : w1.cell? ⟨w.heap.size, 6, none⟩ = some (.bool p6) := cell_at hb1.out 6
  have c7 : w1.cell? ⟨w.heap.size, 7, none⟩ = some (.bool p7) := cell_at hb1.out 7
  have c8 : w1.cell? ⟨w.heap.size, 8, none⟩ = some (.int .u8 (p8 : Int)) := cell_at hb1.out 8
  have c9 : w1.cell? ⟨w.heap.size, 9, none⟩ = some (.slice A xs.length c) := cell_at hb1.out 9
  go_wp2_with fail
  have hX := heap_alloc_new w1 (.cells #[.int .u8 (p0 : Int), .int .u8 (p1 : Int), .int .u8 (p2 : Int), .int .u16 (p3 : Int), .int .u8 (p4 : Int), .int .u8 (p5 : Int), .bool p6, .bool p7, .int .u8 (p8 : Int), .slice A xs.length c, .int .u32 0] 78)
  have hBX := (Below.refl w1.heap.size w1).alloc (Nat.le_refl _) (.cells #[.int .u8 (p0 : Int), .int .u8 (p1 : Int), .int .u8 (p2 : Int), .int .u16 (p3 : Int), .int .u8 (p4 : Int), .int .u8 (p5 : Int), .bool p6, .bool p7, .int .u8 (p8 : Int), .slice A xs.length c, .int .u32 0] 78)
  refine (KP.out _ w1.heap.size A1 hX (hF1h.out.below hBX)).mono ?_
  rintro e w2 ⟨rfl, hB2⟩
  have hB2h := Lib.hid (hBX.trans (hB2.mono hBX.size))
  clear hX hBX hB2 c0 c1 c2 c3 c4 c5 c6 c7 c8 c9
  go_wp2_with fail
  refine (KW.out _ A1 (hF1h.out.below hB2h.out)).mono ?_
  rintro e w3 ⟨rfl, hB3⟩
  have hB3h := Lib.hid (hB2h.out.trans (hB3.mono hB2h.out.size))
  clear hB3 hB2h
  go_wp2_with fail
  refine (KJ.out _ (hLh.out.below (hB1h.out.trans (hB3h.out.mono hB1h.out.size))).ck).mono ?_
  rintro e w4 ⟨rfl, hB4⟩
  have hB4h := Lib.hid (hB3h.out.trans (hB4.mono hB3h.out.size))
  clear hB4 hB3h
  go_wp2_with fail
  refine (KN.out _ A1 (hF1h.out.below hB4h.out)).mono ?_
  rintro e w5 ⟨rfl, hB5⟩
  have hB5h := Lib.hid (hB1h.out.trans ((hB4h.out.trans (hB5.mono hB4h.out.size)).mono hB1h.out.size))
  clear hB5 hB4h
  have hm := hmk.out
  have hm6 := hB5h.out.alloc hB5h.out.size (.cells (madeCells #[.int .u8 0] nb) 5)
  have hg6 := hB5h.out.size
  have hrow6 := Row.made w5 nb 5
  go_wp2_with fail
  clear hm
  go_loopw [40] (fun i wr => ∃ k : Nat, k ≤ nb ∧ i = .int .i64 k ∧ Row wr w5.heap.size 5 (fillL nb k fun j => UInt8.ofNat (J / 2 ^ (8 * j))) ∧ Below w.heap.size w wr) (fun i _ => nb - (intOf i).toNat)
  case atStart => exact ⟨0, Nat.zero_le _, rfl, by rw [fillL_zero]; exact hrow6, hm6⟩
  case round =>
    clear hrow6 hm6
    obtain ⟨k, hk, rfl, hrow, hb⟩ := hrel
    by_cases hlt : k < nb
    · have hcell := hrow.cell (i := k) (by rw [fillL_len]; omega)
      have hfr := hrow.frozen k
      have hval := Lib.hid (show Value.int .u8 ((J : Int) / 2 ^ (8 * k) % 256) = bv (UInt8.ofNat (J / 2 ^ (8 * k))) by
        show Value.int .u8 _ = Value.int .u8 _
        rw [show ((UInt8.ofNat (J / 2 ^ (8 * k))).toNat : Int) = ((J / 2 ^ (8 * k) % 256 : Nat) : Int) from by rw [UInt8.toNat_ofNat']]
        simp only [Int.natCast_emod, Int.natCast_ediv, Int.natCast_pow]; rfl)
      have hstep := Lib.hid (hrow.set k hval.out)
      rw [fillL_set] at hstep
      have hb2 := Lib.hid (hb.setCell (p := ⟨w5.heap.size, k, none⟩) hg6 (.int .u8 ((J : Int) / 2 ^ (8 * k) % 256)))
      have h8 : (8 * (k : Int)).toNat = 8 * k := by omega
      go_wp2_with fail
      exact ⟨⟨k + 1, by omega, by go_num, hstep.out, hb2.out⟩, by simp [intOf]; omega⟩
    · have hk9 : k = nb := by omega
      subst hk9
      rw [fillL_full] at hrow
      have hown := Lib.hid (Ck.row_own hrow hg6 (by simp; omega))
      have hbl := Lib.hid (bytesN_len J k)
      go_wp2
      go_ret2
      refine ⟨_, rfl, ?_, hb⟩
      have h1 := hown.out
      have h2 : ((List.range k).map fun j => UInt8.ofNat (J / 2 ^ (8 * j))).length = k := by simp
      rw [h2] at h1
      have h3 := hbl.out
      rw [h3]
      exact h1

end Go.Proofs.YtfblpakoibadoaaDoor
