/-
  Helper text: copy into a row of the call's own; Add; no statement is proved here.
-/
import Derived.Test.YtfblpakoibadoaaDoorCkSixteen
import Derived.Laws.CopyOwn
namespace Go.Proofs.YtfblpakoibadoaaDoor.Ck
open Go Go.RowKit

theorem Tryd.info5 : (Tryd.prog.info? 5).map (fun i => (i.zero, i.size, i.bytes)) = some (some (.int .u8 0), 1, 1) := by kernel_rfl
/-- make([]byte, n). -/
theorem make_full (n : Int) (W : World) (h0 : 0 ≤ n) (h : n ≤ 10000000) : (Instr.makeSlice 27 (.int .i64 n) (.int .i64 n)).run Tryd.prog W = .ok (.slice (some ⟨W.heap.size, 0, none⟩) n.toNat n.toNat) (W.alloc (.cells (madeCells #[.int .u8 0] n.toNat) 5)) := by
  obtain ⟨i0, hi, hz0, hz1, hz2⟩ := info_parts Tryd.info5
  have := run_make (P := Tryd.prog) W 27 5 i0 (.int .u8 0) Tryd.underlying27 hi hz0 .i64 .i64 n n (by omega) (by omega) (by rw [hz2]; omega) (by omega)
  rw [this, hz1]
  simp [Value.cells]

/-- copy into a row of the call's own. -/
theorem wpl_copy {P : Program} {w : World} {ops : Array Oper} {rest : List Oper} {o : Oper} {a : Act} {Q : Exit → Act → World → Prop} (hgd : o.guard = none) (d s : Operand) (dT sT elem : TypeId)
    (ho : o.op = .call { callee := .builtin .copy, args := #[d, s], argTypes := #[dT, sT] }) (hu : P.underlying dT = some (.slice elem)) (hsz : (P.info? elem).map (fun i => (i.zero, i.size, i.bytes)) = some (some (.int .u8 0), 1, 1))
    (g t dc n : Nat) (zs : List UInt8) (hzn : n = zs.length) (hrow : Row w g t zs) (hd : a.eval d = .slice (some ⟨g, 0, none⟩) n dc) (A : Option Addr) (B c : Nat) (xs : List UInt8) (hr : Rd w B A c xs) (hs : a.eval s = .slice A xs.length c)
    (B0 : Nat) (w0 : World) (hb : Below B0 w0 w) (hBg : B0 ≤ g)
    (h : ∀ w', Hid (Row w' g t (xs.take zs.length ++ zs.drop xs.length)) → Below B0 w0 w' → wpList P ops Q rest (a.put o.dst (goInt (xs.take zs.length).length)) w') : wpList P ops Q (o :: rest) a w := by
  subst hzn
  obtain ⟨i0, hi, _, hz1, _⟩ := info_parts hsz
  have hlen : ((xs.take zs.length).map bv).length = Nat.min xs.length zs.length := by rw [List.length_map, List.length_take]; exact Nat.min_comm _ _
  refine wpList_copy_splice hgd d s dT sT ho elem hu (by rw [hi]; exact congrArg some hz1) (some ⟨g, 0, none⟩) A zs.length dc xs.length c hd hs g 0 (zs.map bv) t hrow ((xs.take zs.length).map bv) hlen ?_ ?_ ?_ B0 w0 hb hBg ?_
  · intro hpos
    rw [hlen] at hpos
    have hx : 0 < xs.length := Nat.lt_of_lt_of_le hpos (Nat.min_le_left _ _)
    obtain ⟨b, off, rfl, _, hc⟩ := hr.cells hx
    refine ⟨rfl, _, rfl, fun j v hj => ?_⟩
    rw [List.getElem?_map] at hj
    rcases Nat.lt_or_ge j (xs.take zs.length).length with hl | hl
    · have hl2 : j < xs.length := by rw [List.length_take] at hl; omega
      rw [Go.WideShapes.add_plain, hc j hl2]
      rw [List.getElem?_eq_getElem hl] at hj
      simpa [List.getD, List.getElem?_eq_getElem hl2] using hj
    · rw [List.getElem?_eq_none hl] at hj
      cases hj
  · rw [hlen, List.length_map, Nat.zero_add]; exact Nat.min_le_right _ _
  · intro v hv
    obtain ⟨_, _, rfl⟩ := List.mem_map.1 hv
    rfl
  · intro w' hH hb'
    rw [List.length_map]
    refine h w' ?_ hb'
    have e : splice (zs.map bv) 0 ((xs.take zs.length).map bv) = (xs.take zs.length ++ zs.drop xs.length).map bv := by
      unfold splice
      rw [List.take_zero, List.nil_append, Nat.zero_add, List.length_map, List.length_take, List.map_append, List.map_drop]
      congr 1
      rcases Nat.le_total xs.length zs.length with h1 | h1
      · rw [Nat.min_eq_right h1]
      · rw [Nat.min_eq_left h1, List.drop_of_length_le (by rw [List.length_map]; exact Nat.le_refl _), List.drop_of_length_le (by rw [List.length_map]; exact h1)]
    have hH2 : w'.heap[g]? = some (.cells (splice (zs.map bv) 0 ((xs.take zs.length).map bv)).toArray t (0, 0)) := hH
    rw [e] at hH2
    exact hH2
theorem row_own {w : World} {g t base : Nat} {ys : List UInt8} (h : Row w g t ys) (hg : base ≤ g) (hl : ys.length ≤ 1000000000) : w.ownsRow base t 1 (.slice (some ⟨g, 0, none⟩) ys.length ys.length) ys.length (ys.map bv) :=
  ⟨by simp, .inr ⟨g, ys.length, _, rfl, hg, h, Nat.le_refl _, by unfold maxLen; omega, by simp, by simp; rw [List.take_of_length_le (by simp)]⟩⟩

/-- Bytes with their check behind them. -/
def addL (xs : List UInt8) : List UInt8 := xs ++ [UInt8.ofNat (chkL xs), UInt8.ofNat (chkL xs / 256)]
theorem addL_len (xs : List UInt8) : (addL xs).length = xs.length + 2 := by simp [addL]
theorem add_sets (xs : List UInt8) (y z : UInt8) : (((xs.take (List.replicate (xs.length + 2) (0 : UInt8)).length ++ (List.replicate (xs.length + 2) (0 : UInt8)).drop xs.length).set xs.length y).set (xs.length + 1) z) = xs ++ [y, z] := by
  rw [List.length_replicate, List.take_of_length_le (by omega), List.drop_replicate, show xs.length + 2 - xs.length = 2 from by omega]
  simp [List.replicate, List.set_append]

theorem add_stores {w w1 w3 : World} {t q : Nat} {xs zs : List UInt8} {y z : UInt8} (hg : w.heap.size ≤ w1.heap.size) (H1 : Hid (Value.int .u8 ((q : Int) % 256) = bv y)) (H2 : Hid (Value.int .u8 ((q : Int) / 256) = bv z))
    (h : Hid (Row w3 w1.heap.size t (xs.take (List.replicate (xs.length + 2) (0 : UInt8)).length ++ (List.replicate (xs.length + 2) (0 : UInt8)).drop xs.length)))
    (HF : Hid (((xs.take (List.replicate (xs.length + 2) (0 : UInt8)).length ++ (List.replicate (xs.length + 2) (0 : UInt8)).drop xs.length).set xs.length y).set (xs.length + 1) z = zs)) (hb3 : Below w.heap.size w w3) :
    ∃ o1 o2 : UInt8, w3.cell? ⟨w1.heap.size, xs.length, none⟩ = some (bv o1) ∧ w3.frozen? ⟨w1.heap.size, xs.length, none⟩ = false ∧
      (w3.setCell ⟨w1.heap.size, xs.length, none⟩ (.int .u8 ((q : Int) % 256))).cell? ⟨w1.heap.size, xs.length + 1, none⟩ = some (bv o2) ∧ (w3.setCell ⟨w1.heap.size, xs.length, none⟩ (.int .u8 ((q : Int) % 256))).frozen? ⟨w1.heap.size, xs.length + 1, none⟩ = false ∧
      Hid (Row ((w3.setCell ⟨w1.heap.size, xs.length, none⟩ (.int .u8 ((q : Int) % 256))).setCell ⟨w1.heap.size, xs.length + 1, none⟩ (.int .u8 ((q : Int) / 256))) w1.heap.size t zs) ∧
      Below w.heap.size w ((w3.setCell ⟨w1.heap.size, xs.length, none⟩ (.int .u8 ((q : Int) % 256))).setCell ⟨w1.heap.size, xs.length + 1, none⟩ (.int .u8 ((q : Int) / 256))) := by
  have hrow3 := h.out
  have hL3 : (xs.take (List.replicate (xs.length + 2) (0 : UInt8)).length ++ (List.replicate (xs.length + 2) (0 : UInt8)).drop xs.length).length = xs.length + 2 := by
    rw [List.length_append, List.length_take, List.length_drop, List.length_replicate]; omega
  have hf3 := HF.out
  generalize (xs.take (List.replicate (xs.length + 2) (0 : UInt8)).length ++ (List.replicate (xs.length + 2) (0 : UInt8)).drop xs.length) = Z at hrow3 hL3 hf3
  have hrow4 := hrow3.set xs.length (u := .int .u8 ((q : Int) % 256)) H1.out
  have hrow5 := hrow4.set (xs.length + 1) (u := .int .u8 ((q : Int) / 256)) H2.out
  rw [hf3] at hrow5
  exact ⟨_, _, hrow3.cell (by omega), hrow3.frozen _, hrow4.cell (by rw [List.length_set]; omega), hrow4.frozen _, hrow5, (hb3.setCell (p := ⟨w1.heap.size, xs.length, none⟩) hg _).setCell (p := ⟨w1.heap.size, xs.length + 1, none⟩) hg _⟩

set_option maxHeartbeats 1600000 in
set_option maxRecDepth 100000 in
theorem add_any (w : World) (hL : Laid w) (A : Option Addr) (c : Nat) (xs : List UInt8) (h : Rd w w.heap.size A c xs) (hl : xs.length ≤ 100000) :
    Calls Tryd.prog 35 #[.slice A xs.length c] w (ResO w 5 (addL xs)) := by
  have hmk := fun W : World => make_full ((xs.length : Int) + 2) W (by omega) (by omega)
  rw [show ((xs.length : Int) + 2).toNat = xs.length + 2 from by omega] at hmk
  have hq := chkL_lt xs
  have hadd : addL xs = xs ++ [UInt8.ofNat (chkL xs), UInt8.ofNat (chkL xs / 256)] := rfl
  have KS := Lib.hid (sixteen_any w hL A c xs h)
  have hfin := add_sets xs (UInt8.ofNat (chkL xs)) (UInt8.ofNat (chkL xs / 256))
  rw [← hadd] at hfin
  have e1 : Value.int .u8 ((chkL xs : Int) % 256) = bv (UInt8.ofNat (chkL xs)) := by
    show Value.int .u8 _ = Value.int .u8 _
    rw [show ((UInt8.ofNat (chkL xs)).toNat : Int) = (chkL xs : Int) % 256 from by rw [UInt8.toNat_ofNat']; omega]
  have e2 : Value.int .u8 ((chkL xs : Int) / 256) = bv (UInt8.ofNat (chkL xs / 256)) := by
    show Value.int .u8 _ = Value.int .u8 _
    rw [show ((UInt8.ofNat (chkL xs / 256)).toNat : Int) = (chkL xs : Int) / 256 from by rw [UInt8.toNat_ofNat']; omega]
  generalize UInt8.ofNat (chkL xs) = y at e1 hfin
  generalize UInt8.ofNat (chkL xs / 256) = z at e2 hfin
  generalize chkL xs = q at KS hq e1 e2
  generalize hzs : addL xs = zs at hfin ⊢
  have hzl : zs.length = xs.length + 2 := by rw [← hzs, addL_len]
  clear hadd hzs
  have HF := Lib.hid hfin
  have HZ := Lib.hid hzl
  have H1 := Lib.hid e1
  have H2 := Lib.hid e2
  clear hfin hzl e1 e2
  go_enter Tryd.func35, Tryd.ntmps35
  go_wp2_with fail
  refine KS.out.mono ?_
  rintro e w1 ⟨rfl, hb1⟩
  have hrow := Row.made w1 (xs.length + 2) 5
  have hb2 := hb1.alloc hb1.size (.cells (madeCells #[.int .u8 0] (xs.length + 2)) 5)
  have hr2 := h.below hb2
  have hg := hb1.size
  go_wp2_with (with_reducible refine wpl_copy rfl _ _ _ _ 5 rfl Tryd.underlying27 Tryd.info5 w1.heap.size 5 (xs.length + 2) (xs.length + 2) (List.replicate (xs.length + 2) 0) (List.length_replicate).symm hrow rfl A w.heap.size c xs hr2 rfl w.heap.size w hb2 hg ?_; intro w3 hrow3h hb3; obtain ⟨o1, o2, c3, f3, c4, f4, Hrow5, hb5⟩ := add_stores hg H1 H2 hrow3h HF hb3; clear hrow hb1 hb2 hr2 hmk hrow3h)
  clear c3 f3 c4 f4
  go_wp2
  go_ret
  have hown := row_own Hrow5.out hg (by have := HZ.out; omega)
  have hz := HZ.out
  refine ⟨_, rfl, ?_, hb5⟩
  rw [← hz]
  exact hown

end Go.Proofs.YtfblpakoibadoaaDoor.Ck
