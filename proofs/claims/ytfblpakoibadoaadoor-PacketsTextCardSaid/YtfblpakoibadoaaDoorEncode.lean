/-
  Helper text: Encode; no statement is proved here.
-/
import Derived.Test.YtfblpakoibadoaaDoorEnc
namespace Go.Proofs.YtfblpakoibadoaaDoor
open Go Go.RowKit

theorem slice_from (A : Option Addr) (n c : Nat) (l : Int) (W : World) (h0 : 0 ≤ l) (h1 : l ≤ n) : (Instr.slice 27 (.slice A n c) (some (.int .i64 l)) none none).run Tryd.prog W = .ok (sliced A l.toNat n c 1) W := by
  have hs : (sizeOf (Tryd.prog.elem 27)).run Tryd.prog W = .ok 1 W := by kernel_rfl
  rw [run_slice_l W 27 A n c (by kernel_rfl) .i64 l h0 h1, hs]
  rfl
theorem slice_one (g n : Nat) : ∃ dp : Option Addr, (0 < n → dp = some ⟨g, 1, none⟩) ∧ ∀ W : World, (Instr.slice 27 (.slice (some ⟨g, 0, none⟩) (n + 1) (n + 1)) (some (.int .i64 1)) none none).run Tryd.prog W = .ok (.slice dp n n) W := by
  refine ⟨if n + 1 = 1 then some ⟨g, 0, none⟩ else (some ⟨g, 0, none⟩ : Option Addr).map (·.add 1), fun h => ?_, fun W => ?_⟩
  · rw [if_neg (by omega)]; simp [Go.WideShapes.add_plain]
  · rw [slice_from (some ⟨g, 0, none⟩) (n + 1) (n + 1) 1 W (by omega) (by omega)]
    simp [sliced]
/-- The bytes that a row of the call's own is copied behind its first one. -/
theorem wpl_copy1 {P : Program} {w : World} {ops : Array Oper} {rest : List Oper} {o : Oper} {a : Act} {Q : Exit → Act → World → Prop} (hgd : o.guard = none) (d s : Operand) (dT sT elem : TypeId)
    (ho : o.op = .call { callee := .builtin .copy, args := #[d, s], argTypes := #[dT, sT] }) (hu : P.underlying dT = some (.slice elem)) (hsz : (P.info? elem).map (fun i => (i.zero, i.size, i.bytes)) = some (some (.int .u8 0), 1, 1))
    (g t dc n : Nat) (z : UInt8) (zs : List UInt8) (hzn : n = zs.length) (hrow : Row w g t (z :: zs)) (dp : Option Addr) (hdp : 0 < n → dp = some ⟨g, 1, none⟩) (hd : a.eval d = .slice dp n dc) (A : Option Addr) (B c : Nat) (xs : List UInt8) (hr : Rd w B A c xs) (hs : a.eval s = .slice A n c) (hxn : xs.length = n)
    (B0 : Nat) (w0 : World) (hb : Below B0 w0 w) (hBg : B0 ≤ g)
    (h : ∀ w', Hid (Row w' g t (z :: xs)) → Below B0 w0 w' → wpList P ops Q rest (a.put o.dst (goInt n)) w') : wpList P ops Q (o :: rest) a w := by
  obtain ⟨i0, hi, _, hz1, _⟩ := info_parts hsz
  refine wpList_copy_splice hgd d s dT sT ho elem hu (by rw [hi]; exact congrArg some hz1) dp A n dc n c hd hs g 1 ((z :: zs).map bv) t hrow (xs.map bv) (by rw [List.length_map, hxn]; exact (Nat.min_self n).symm) ?_ ?_ ?_ B0 w0 hb hBg ?_
  · intro hpos
    rw [List.length_map] at hpos
    obtain ⟨b, off, rfl, _, hc⟩ := hr.cells hpos
    refine ⟨hdp (by omega), _, rfl, fun j v hj => ?_⟩
    rw [List.getElem?_map] at hj
    rcases Nat.lt_or_ge j xs.length with hl | hl
    · rw [Go.WideShapes.add_plain, hc j hl]
      rw [List.getElem?_eq_getElem hl] at hj
      simpa [List.getD, List.getElem?_eq_getElem hl] using hj
    · rw [List.getElem?_eq_none hl] at hj
      cases hj
  · rw [List.length_map, List.length_map, List.length_cons, hxn, hzn]; exact Nat.le_of_eq (Nat.add_comm _ _)
  · intro v hv
    obtain ⟨_, _, rfl⟩ := List.mem_map.1 hv
    rfl
  · intro w' hH hb'
    rw [List.length_map, hxn]
    refine h w' ?_ hb'
    have hH2 : w'.heap[g]? = some (.cells (splice ((z :: zs).map bv) 1 (xs.map bv)).toArray t (0, 0)) := hH
    have e : splice ((z :: zs).map bv) 1 (xs.map bv) = (z :: xs).map bv := by
      unfold splice
      simp [hxn, hzn]
      omega
    rw [e] at hH2
    exact hH2

set_option maxHeartbeats 800000 in
set_option maxRecDepth 100000 in
theorem encode_bad (w : World) (hL : Laid w) (r : Rg) (ok : r.Ok) (A : Option Addr) (c : Nat) (xs : List UInt8) (hx : Rd w w.heap.size A c xs) (hd : r.data = .slice A xs.length c) (E : Nat) (hE : errR r xs = E) (h0 : E ≠ 0) :
    Calls Tryd.prog 12 #[.agg (pcells r)] w (ResOE w 5 [] E) := by
  have KC := Lib.hid fun W hLW hRW => check_any W hLW r ok A c xs hRW hd
  rw [hE] at KC
  obtain ⟨p0, p1, p2, p3, p4, p5, p6, p7, p8, p9, p10⟩ := r
  simp only at hd KC
  subst hd
  simp only [pcells] at KC ⊢
  clear ok hE
  have t0 : ((E : Int) == 0) = false := by rw [beq_eq_false_iff_ne]; omega
  have t1 : ((E : Int) != 0) = true := by rw [bne, t0]; rfl
  clear t0
  have hbWh := Lib.hid ((Below.refl w.heap.size w).alloc (Nat.le_refl _) (.cells #[.int .u8 (p0 : Int), .int .u8 (p1 : Int), .int .u8 (p2 : Int), .int .u16 (p3 : Int), .int .u8 (p4 : Int), .int .u8 (p5 : Int), .bool p6, .bool p7, .int .u8 (p8 : Int), .slice A xs.length c] 29))
  have hLh := Lib.hid hL
  have hxh := Lib.hid hx
  clear hL hx
  go_enter Tryd.func12, Tryd.ntmps12
  go_wp2_with fail
  refine (KC.out _ (hLh.out.below hbWh.out) (hxh.out.belowTop hbWh.out)).mono ?_
  rintro e w1 ⟨rfl, hb⟩
  have hb := Lib.hid (hbWh.out.trans (hb.mono hbWh.out.size))
  go_wp2
  go_ret2
  exact ⟨_, rfl, own_nil _ _ _, hb.out⟩

set_option maxHeartbeats 1600000 in
set_option maxRecDepth 100000 in
theorem encode_core (w : World) (hL : Laid w) (r : Rg) (ok : r.Ok) (A : Option Addr) (c : Nat) (xs : List UInt8) (hx : Rd w w.heap.size A c xs) (hd : r.data = .slice A xs.length c) (hE : errR r xs = 0) (ys : List UInt8)
    (KT : ∀ W, Laid W → Rd W W.heap.size A c xs → Calls Tryd.prog 21 #[.agg (pcells r)] W (ResOE W 5 ys 0)) (hyl : ys.length ≤ 200000) (hp : r.pid ≤ 15) (y : UInt8) (hy : UInt8.ofNat (r.pid + 16 * (15 - r.pid)) = y) :
    Calls Tryd.prog 12 #[.agg (pcells r)] w (ResOE w 5 (y :: ys) 0) := by
  have KC := Lib.hid fun W hLW hRW => check_any W hLW r ok A c xs hRW hd
  rw [hE] at KC
  have KTh := Lib.hid KT
  have K1 := Lib.hid fun W => first_any W r.pid hp
  have hfb : (r.pid + 16 * (15 - r.pid)) < 256 := by omega
  obtain ⟨p0, p1, p2, p3, p4, p5, p6, p7, p8, p9, p10⟩ := r
  simp only at hd KC K1 KTh hfb hy
  subst hd
  simp only [pcells] at KC KTh ⊢
  clear ok hE KT hp
  have hval := Lib.hid (show Value.int .u8 ((p0 + 16 * (15 - p0) : Nat) : Int) = bv y by
    rw [← hy]
    show Value.int .u8 _ = Value.int .u8 _
    rw [UInt8.toNat_ofNat', Nat.mod_eq_of_lt hfb])
  generalize p0 + 16 * (15 - p0) = q at K1 hval hfb
  have hbW := (Below.refl w.heap.size w).alloc (Nat.le_refl _) (.cells #[.int .u8 (p0 : Int), .int .u8 (p1 : Int), .int .u8 (p2 : Int), .int .u16 (p3 : Int), .int .u8 (p4 : Int), .int .u8 (p5 : Int), .bool p6, .bool p7, .int .u8 (p8 : Int), .slice A xs.length c] 29)
  have hbWh := Lib.hid hbW
  have hb0 := heap_alloc_new w (.cells #[.int .u8 (p0 : Int), .int .u8 (p1 : Int), .int .u8 (p2 : Int), .int .u16 (p3 : Int), .int .u8 (p4 : Int), .int .u8 (p5 : Int), .bool p6, .bool p7, .int .u8 (p8 : Int), .slice A xs.length c] 29)
  have hLh := Lib.hid hL
  have hxh := Lib.hid hx
  clear hL hx hbW hy
  have hmk := fun W : World => Ck.make_full (1 + (ys.length : Int)) W (by omega) (by omega)
  rw [show (1 + (ys.length : Int)).toNat = ys.length + 1 from by omega] at hmk
  have hmkh := Lib.hid hmk
  clear hmk
  go_enter Tryd.func12, Tryd.ntmps12
  go_wp2_with fail
  refine (KC.out _ (hLh.out.below hbWh.out) (hxh.out.belowTop hbWh.out)).mono ?_
  rintro e w1 ⟨rfl, hB1⟩
  have hb1 := Lib.hid ((hB1.block _ (lt_of_block hb0)).trans hb0)
  have hB1h := Lib.hid (hbWh.out.trans (hB1.mono hbWh.out.size))
  clear hb0 hB1
  have c0 : w1.cell? ⟨w.heap.size, 0, none⟩ = some (.int .u8 (p0 : Int)) := cell_at hb1.out 0
  have c1 : w1.cell? ⟨w.heap.size, 1, none⟩ = some (.int .u8 (p1 : Int)) := cell_at hb1.out 1
  have c2 : w1.cell? ⟨w.heap.size, 2, none⟩ = some (.int .u8 (p2 : Int)) := cell_at hb1.out 2
  have c3 : w1.cell? ⟨w.heap.size, 3, none⟩ = some (.int .u16 (p3 : Int)) := cell_at hb1.out 3
  have c4 : w1.cell? ⟨w.heap.size, 4, none⟩ = some (.int .u8 (p4 : Int)) := cell_at hb1.out 4
  have c5 : w1.cell? ⟨w.heap.size, 5, none⟩ = some (.int .u8 (p5 : Int)) := cell_at hb1.out 5
  have c6 : w1.cell? ⟨w.heap.size, 6, none⟩ = some (.bool p6) := cell_at hb1.out 6
  have c7 : w1.cell? ⟨w.heap.size, 7, none⟩ = some (.bool p7) := cell_at hb1.out 7
  have c8 : w1.cell? ⟨w.heap.size, 8, none⟩ = some (.int .u8 (p8 : Int)) := cell_at hb1.out 8
  have c9 : w1.cell? ⟨w.heap.size, 9, none⟩ = some (.slice A xs.length c) := cell_at hb1.out 9
  go_wp2_with fail
  clear c0 c1 c2 c3 c4 c5 c6 c7 c8 c9
  refine (KTh.out _ (hLh.out.below hB1h.out) (hxh.out.belowTop hB1h.out)).mono ?_
  rintro e w2 ⟨v2, rfl, hown2, hB2⟩
  obtain ⟨A2, c2, rfl, hr2⟩ := Rd.of_own hown2
  have hb2 := Lib.hid ((hB2.block _ (lt_of_block hb1.out)).trans hb1.out)
  have hB2h := Lib.hid (hB1h.out.trans (hB2.mono hB1h.out.size))
  have hr2h := Lib.hid hr2
  clear hown2 hB2 hr2 hb1
  have c0 : w2.cell? ⟨w.heap.size, 0, none⟩ = some (.int .u8 (p0 : Int)) := cell_at hb2.out 0
  have hlw := lt_of_block hb2.out
  have hm := hmkh.out
  have hrow3 := Row.made w2 (ys.length + 1) 5
  have hB3 := hB2h.out.alloc hB2h.out.size (.cells (madeCells #[.int .u8 0] (ys.length + 1)) 5)
  have hr3 := hr2h.out.alloc (Nat.le_refl _) (.cells (madeCells #[.int .u8 0] (ys.length + 1)) 5)
  have cR : (w2.alloc (.cells (madeCells #[.int .u8 0] (ys.length + 1)) 5)).cell? ⟨w2.heap.size, 0, none⟩ = some (.int .u8 0) := by
    have := hrow3.cell (i := 0) (by simp)
    exact this
  have fR := hrow3.frozen 0
  have hrow4 := Lib.hid (hrow3.set 0 hval.out)
  have hB4 := Lib.hid (hB3.setCell (p := ⟨w2.heap.size, 0, none⟩) hB2h.out.size (.int .u8 (q : Int)))
  have hr4 := Lib.hid (hr3.setCell (p := ⟨w2.heap.size, 0, none⟩) (Nat.le_refl _) (.int .u8 (q : Int)))
  have hsz3 : w2.heap.size < (w2.alloc (.cells (madeCells #[.int .u8 0] (ys.length + 1)) 5)).heap.size := by simp
  go_wp2_with fail
  refine (K1.out _).mono ?_
  rintro e w3 ⟨rfl, rfl⟩
  clear hm hrow3 hB3 hr3 c0
  generalize w2.alloc (.cells (madeCells #[.int .u8 0] (ys.length + 1)) 5) = W3 at cR fR hrow4 hB4 hr4 hsz3 ⊢
  obtain ⟨dp, hdp, hsl⟩ := slice_one w2.heap.size ys.length
  have hsz2 := hB2h.out.size
  replace hrow4 : Hid (Row (W3.setCell ⟨w2.heap.size, 0, none⟩ (.int .u8 (q : Int))) w2.heap.size 5 (y :: List.replicate ys.length 0)) := hrow4
  go_wp2_with (with_reducible refine wpl_copy1 rfl _ _ _ _ 5 rfl Tryd.underlying27 Ck.Tryd.info5 w2.heap.size 5 ys.length ys.length y (List.replicate ys.length 0) (List.length_replicate).symm hrow4.out dp hdp rfl A2 w2.heap.size c2 ys hr4.out rfl rfl w.heap.size w hB4.out hsz2 ?_; intro w5 hrow5 hb5; clear hsl cR fR)
  go_ret2
  refine ⟨_, rfl, ?_, hb5⟩
  exact Ck.row_own hrow5.out hsz2 (by simp; omega)

/-- The first byte of an identifier. -/
def firstU (p : Nat) : UInt8 := UInt8.ofNat (p + 16 * (15 - p))
/-- The number that the fields of a packet make, with its check. -/
def joinR (r : Rg) : Nat :=
  packN (fieldsL r.pid) { r with spare := 0 } (fieldsL r.pid).length + 2 ^ placeN (fieldsL r.pid) (fieldsL r.pid).length * Ck.chk 20 5 (placeN (fieldsL r.pid) (fieldsL r.pid).length) (packN (fieldsL r.pid) { r with spare := 0 } (fieldsL r.pid).length)
/-- The bytes of a packet behind the first one. -/
def contentL (r : Rg) (xs : List UInt8) : List UInt8 := bif isD r.pid then Ck.addL xs else bytesN (joinR r) (nbytes (fieldsL r.pid))

end Go.Proofs.YtfblpakoibadoaaDoor
