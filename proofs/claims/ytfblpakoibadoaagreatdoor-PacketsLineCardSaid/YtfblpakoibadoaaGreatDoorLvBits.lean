/-
  Helper text: contracts of levels.Bits.
-/
import Derived.Test.YtfblpakoibadoaaGreatDoorLvPure
import Derived.Test.YtfblpakoibadoaaGreatDoorProg
import Derived.Test.YtfblpakoibadoaaGreatDoorChecked
import Derived.Outline
namespace Go.Proofs.YtfblpakoibadoaaGreatDoor.Lv
open Go Go.RowKit

theorem Tryz.info5 : (Tryz.prog.info? 5).map (fun i => (i.zero, i.size, i.bytes)) = some (some (.int .u8 0), 1, 1) := by kernel_rfl

theorem bits_val (x : UInt8) (j : Nat) (h : j < 8) : Value.int .u8 (bits .and .u8 ((x.toNat : Int) / 2 ^ j) 1) = bv ((x >>> UInt8.ofNat j) &&& 1) := by
  have H : ∀ x : Fin 256, ∀ j : Fin 8, bits .and .u8 ((x.val : Int) / 2 ^ j.val) 1 = (((UInt8.ofNat x.val >>> UInt8.ofNat j.val) &&& 1).toNat : Int) := by decide +kernel
  have := H ⟨x.toNat, x.toNat_lt⟩ ⟨j, h⟩
  simp only [UInt8.ofNat_toNat] at this
  rw [this]

/-- make([]byte, 0, n). -/
theorem make_cap (n : Int) (W : World) (h0 : 0 ≤ n) (h : n ≤ 10000000) : (Instr.makeSlice 27 (.int .i64 0) (.int .i64 n)).run Tryz.prog W = .ok (.slice (some ⟨W.heap.size, 0, none⟩) 0 n.toNat) (W.alloc (.cells (madeCells #[.int .u8 0] n.toNat) 5)) := by
  obtain ⟨i0, hi, hz0, hz1, hz2⟩ := info_parts Tryz.info5
  have := run_make (P := Tryz.prog) W 27 5 i0 (.int .u8 0) Tryz.underlying27 hi hz0 .i64 .i64 0 n (by omega) (by omega) (by rw [hz2]; omega) (by omega)
  rw [this, hz1]
  simp [Value.cells]

/-- make([]byte, n). -/
theorem make_full (n : Int) (W : World) (h0 : 0 ≤ n) (h : n ≤ 10000000) : (Instr.makeSlice 27 (.int .i64 n) (.int .i64 n)).run Tryz.prog W = .ok (.slice (some ⟨W.heap.size, 0, none⟩) n.toNat n.toNat) (W.alloc (.cells (madeCells #[.int .u8 0] n.toNat) 5)) := by
  obtain ⟨i0, hi, hz0, hz1, hz2⟩ := info_parts Tryz.info5
  have := run_make (P := Tryz.prog) W 27 5 i0 (.int .u8 0) Tryz.underlying27 hi hz0 .i64 .i64 n n (by omega) (by omega) (by rw [hz2]; omega) (by omega)
  rw [this, hz1]
  simp [Value.cells]
theorem Tryz.info58 : (Tryz.prog.info? 58).map (fun i => (i.zero, i.size, i.bytes)) = some (some (.int .u8 0), 1, 1) := by kernel_rfl
/-- make([]State, n). -/
theorem makeS_full (n : Int) (W : World) (h0 : 0 ≤ n) (h : n ≤ 10000000) : (Instr.makeSlice 48 (.int .i64 n) (.int .i64 n)).run Tryz.prog W = .ok (.slice (some ⟨W.heap.size, 0, none⟩) n.toNat n.toNat) (W.alloc (.cells (madeCells #[.int .u8 0] n.toNat) 58)) := by
  obtain ⟨i0, hi, hz0, hz1, hz2⟩ := info_parts Tryz.info58
  have := run_make (P := Tryz.prog) W 48 58 i0 (.int .u8 0) Tryz.underlying48 hi hz0 .i64 .i64 n n (by omega) (by omega) (by rw [hz2]; omega) (by omega)
  rw [this, hz1]
  simp [Value.cells]
theorem makeS_cap (n : Int) (W : World) (h0 : 0 ≤ n) (h : n ≤ 10000000) : (Instr.makeSlice 48 (.int .i64 0) (.int .i64 n)).run Tryz.prog W = .ok (.slice (some ⟨W.heap.size, 0, none⟩) 0 n.toNat) (W.alloc (.cells (madeCells #[.int .u8 0] n.toNat) 58)) := by
  obtain ⟨i0, hi, hz0, hz1, hz2⟩ := info_parts Tryz.info58
  have := run_make (P := Tryz.prog) W 48 58 i0 (.int .u8 0) Tryz.underlying48 hi hz0 .i64 .i64 0 n (by omega) (by omega) (by rw [hz2]; omega) (by omega)
  rw [this, hz1]
  simp [Value.cells]

theorem slice_from (A : Option Addr) (n c : Nat) (l : Int) (W : World) (h0 : 0 ≤ l) (h1 : l ≤ n) : (Instr.slice 27 (.slice A n c) (some (.int .i64 l)) none none).run Tryz.prog W = .ok (sliced A l.toNat n c 1) W := by
  have hs : (sizeOf (Tryz.prog.elem 27)).run Tryz.prog W = .ok 1 W := by kernel_rfl
  rw [run_slice_l W 27 A n c (by kernel_rfl) .i64 l h0 h1, hs]
  rfl
theorem slice_lh (A : Option Addr) (n c : Nat) (l h : Int) (W : World) (h0 : 0 ≤ l) (h1 : l ≤ h) (h2 : h ≤ c) : (Instr.slice 27 (.slice A n c) (some (.int .i64 l)) (some (.int .i64 h)) none).run Tryz.prog W = .ok (sliced A l.toNat h.toNat c 1) W := by
  have hs : (sizeOf (Tryz.prog.elem 27)).run Tryz.prog W = .ok 1 W := by kernel_rfl
  rw [run_slice_lh W 27 A n c (by kernel_rfl) .i64 .i64 l h h0 h1 h2, hs]
  rfl
theorem sliceS_lh (A : Option Addr) (n c : Nat) (l h : Int) (W : World) (h0 : 0 ≤ l) (h1 : l ≤ h) (h2 : h ≤ c) : (Instr.slice 48 (.slice A n c) (some (.int .i64 l)) (some (.int .i64 h)) none).run Tryz.prog W = .ok (sliced A l.toNat h.toNat c 1) W := by
  have hs : (sizeOf (Tryz.prog.elem 48)).run Tryz.prog W = .ok 1 W := by kernel_rfl
  rw [run_slice_lh W 48 A n c (by kernel_rfl) .i64 .i64 l h h0 h1 h2, hs]
  rfl

theorem sliceS_h (A : Option Addr) (n c : Nat) (h : Int) (W : World) (h0 : 0 ≤ h) (h2 : h ≤ c) : (Instr.slice 48 (.slice A n c) none (some (.int .i64 h)) none).run Tryz.prog W = .ok (.slice A h.toNat c) W := by
  have hs : (sizeOf (Tryz.prog.elem 48)).run Tryz.prog W = .ok 1 W := by kernel_rfl
  rw [run_slice_h W 48 A n c (by kernel_rfl) .i64 h h0 h2, hs]
  simp [sliced, Result.andThen]
  intro _; cases A <;> simp [Addr.add]
theorem slice_h (A : Option Addr) (n c : Nat) (h : Int) (W : World) (h0 : 0 ≤ h) (h2 : h ≤ c) : (Instr.slice 27 (.slice A n c) none (some (.int .i64 h)) none).run Tryz.prog W = .ok (.slice A h.toNat c) W := by
  have hs : (sizeOf (Tryz.prog.elem 27)).run Tryz.prog W = .ok 1 W := by kernel_rfl
  rw [run_slice_h W 27 A n c (by kernel_rfl) .i64 h h0 h2, hs]
  simp [sliced, Result.andThen]
  intro _; cases A <;> simp [Addr.add]

set_option maxHeartbeats 800000 in
set_option maxRecDepth 100000 in
theorem bits_any (w : World) (A : Option Addr) (c : Nat) (xs : List UInt8) (h : Rd w w.heap.size A c xs) (hl : xs.length ≤ 20000) :
    Calls Tryz.prog 76 #[.slice A xs.length c] w (Res1 w (bitsL xs)) := by
  obtain ⟨i0, hi, hz0, hz1, hz2⟩ := info_parts Tryz.info5
  have hmk := fun W : World => make_cap (8 * (xs.length : Int)) W (by omega) (by omega)
  rw [show (8 * (xs.length : Int)).toNat = 8 * xs.length from by omega] at hmk
  go_enter Tryz.func76, Tryz.ntmps76
  go_wp2
  clear hmk
  go_loopw [3, 13] (fun o i wr => ∃ k : Nat, k ≤ xs.length ∧ i = .int .i64 k ∧ wr.ownsRow w.heap.size 5 1 o (bitsL (xs.take k)).length ((bitsL (xs.take k)).map bv) ∧ Below w.heap.size w wr) (fun _ i _ => xs.length - (intOf i).toNat)
  case atStart => exact ⟨0, Nat.zero_le _, rfl, World.ownsRow_made w _ _ (Nat.le_refl _) (by unfold maxLen; omega) (by simp [size_madeCells]), (Below.refl _ _).alloc (Nat.le_refl _) _⟩
  case round =>
    obtain ⟨k, hk, rfl, hown, hb⟩ := hrel
    by_cases hlt : k < xs.length
    · obtain ⟨b, off, rfl, hbB, hcell⟩ := (h.below hb).at_ hlt
      have hys : (bitsL (xs.take k)).length ≤ 160000 := by rw [bitsL_len, List.length_take]; omega
      have hnext : bitsL (xs.take (k + 1)) = bitsL (xs.take k) ++ byteL (xs.getD k 0) := by rw [take_snoc xs hlt, bitsL_append, bitsL_one]
      generalize hx : xs.getD k 0 = x at hcell hnext
      generalize hy : bitsL (xs.take k) = ys at hown hys hnext
      have Hn := Lib.hid hnext
      clear hx hy hnext
      obtain ⟨wo, rfl⟩ : ∃ wo : World, wo = wr := ⟨_, rfl⟩
      go_wp2
      go_loopw [3, 17] (fun o j wi => ∃ t : Nat, t ≤ 8 ∧ j = .int .i64 t ∧ wi.ownsRow w.heap.size 5 1 o (ys ++ (byteL x).take t).length ((ys ++ (byteL x).take t).map bv) ∧ Below w.heap.size w wi) (fun _ j _ => 8 - (intOf j).toNat)
      case atStart => exact ⟨0, by omega, rfl, by simpa using hown, hb⟩
      case round =>
        obtain ⟨t, ht, rfl, hown1, hb1⟩ := hrel
        have hlen1 : (ys ++ (byteL x).take t).length ≤ 160008 := by rw [List.length_append, List.length_take, byteL_len]; omega
        by_cases ht8 : t < 8
        · have hv := bits_val x t ht8
          have hn1 : (ys ++ (byteL x).take t) ++ [(x >>> UInt8.ofNat t) &&& 1] = ys ++ (byteL x).take (t + 1) := by rw [List.append_assoc, ← byteL_take x ht8]
          generalize (ys ++ (byteL x).take t) = zs at hown1 hn1 hlen1
          have Hv := Lib.hid hv
          have Hn1 := Lib.hid hn1
          clear hv hn1
          go_wp2_with (at_builtin; refine wpl_append1 Tryz.underlying27 Tryz.info5 rfl (.tmp 20) (.tmp 25) rfl w.heap.size u3 zs rfl hown1 ((x >>> UInt8.ofNat t) &&& 1) _ Hv.out rfl (by omega) hb1.size ?_; intro v' w1 hown2 hb2)
          go_roundw
          case rel => exact ⟨t + 1, by omega, by go_num, by rw [← Hn1.out]; exact hown2, hb1.trans hb2⟩
          case measure => simp [intOf]; omega
        · have ht9 : t = 8 := by omega
          subst ht9
          go_wp2
          go_roundw
          case rel => exact ⟨k + 1, by omega, by go_num, by rw [Hn.out]; rwa [List.take_of_length_le (by rw [byteL_len]; omega)] at hown1, hb1⟩
          case measure => simp [intOf]; omega
    · have hk9 : k = xs.length := by omega
      subst hk9
      rw [List.take_length] at hown
      go_wp2
      obtain ⟨A', c', rfl, hr⟩ := Rd.of_own hown
      go_ret
      exact ⟨A', c', rfl, hr, hb⟩

end Go.Proofs.YtfblpakoibadoaaGreatDoor.Lv
