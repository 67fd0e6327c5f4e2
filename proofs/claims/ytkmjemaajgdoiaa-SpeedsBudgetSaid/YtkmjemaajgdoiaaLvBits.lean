/-
  Helper text: contracts of levels.Bits.
-/
import Derived.Test.YtkmjemaajgdoiaaLvPure
import Derived.Test.YtkmjemaajgdoiaaProg
import Derived.Test.YtkmjemaajgdoiaaChecked
import Derived.Outline
namespace Go.Proofs.Ytkmjemaajgdoiaa.Lv
open Go Go.RowKit

theorem Try.info5 : (Try.prog.info? 5).map (fun i => (i.zero, i.size, i.bytes)) = some (some (.int .u8 0), 1, 1) := by kernel_rfl

theorem bits_val (x : UInt8) (j : Nat) (h : j < 8) : Value.int .u8 (bits .and .u8 ((x.toNat : Int) / 2 ^ j) 1) = bv ((x >>> UInt8.ofNat j) &&& 1) := by
  have H : ∀ x : Fin 256, ∀ j : Fin 8, bits .and .u8 ((x.val : Int) / 2 ^ j.val) 1 = (((UInt8.ofNat x.val >>> UInt8.ofNat j.val) &&& 1).toNat : Int) := by decide +kernel
  have := H ⟨x.toNat, x.toNat_lt⟩ ⟨j, h⟩
  simp only [UInt8.ofNat_toNat] at this
  rw [this]

/-- make([]byte, 0, n). -/
theorem make_cap (n : Int) (W : World) (h0 : 0 ≤ n) (h : n ≤ 10000000) : (Instr.makeSlice 50 (.int .i64 0) (.int .i64 n)).run Try.prog W = .ok (.slice (some ⟨W.heap.size, 0, none⟩) 0 n.toNat) (W.alloc (.cells (madeCells #[.int .u8 0] n.toNat) 5)) := by
  obtain ⟨i0, hi, hz0, hz1, hz2⟩ := info_parts Try.info5
  have := run_make (P := Try.prog) W 50 5 i0 (.int .u8 0) Try.underlying50 hi hz0 .i64 .i64 0 n (by omega) (by omega) (by rw [hz2]; omega) (by omega)
  rw [this, hz1]
  simp [Value.cells]

/-- make([]byte, n). -/
theorem make_full (n : Int) (W : World) (h0 : 0 ≤ n) (h : n ≤ 10000000) : (Instr.makeSlice 50 (.int .i64 n) (.int .i64 n)).run Try.prog W = .ok (.slice (some ⟨W.heap.size, 0, none⟩) n.toNat n.toNat) (W.alloc (.cells (madeCells #[.int .u8 0] n.toNat) 5)) := by
  obtain ⟨i0, hi, hz0, hz1, hz2⟩ := info_parts Try.info5
  have := run_make (P := Try.prog) W 50 5 i0 (.int .u8 0) Try.underlying50 hi hz0 .i64 .i64 n n (by omega) (by omega) (by rw [hz2]; omega) (by omega)
  rw [this, hz1]
  simp [Value.cells]
theorem slice_from (A : Option Addr) (n c : Nat) (l : Int) (W : World) (h0 : 0 ≤ l) (h1 : l ≤ n) : (Instr.slice 50 (.slice A n c) (some (.int .i64 l)) none none).run Try.prog W = .ok (sliced A l.toNat n c 1) W := by
  have hs : (sizeOf (Try.prog.elem 50)).run Try.prog W = .ok 1 W := by kernel_rfl
  rw [run_slice_l W 50 A n c (by kernel_rfl) .i64 l h0 h1, hs]
  rfl
theorem slice_lh (A : Option Addr) (n c : Nat) (l h : Int) (W : World) (h0 : 0 ≤ l) (h1 : l ≤ h) (h2 : h ≤ c) : (Instr.slice 50 (.slice A n c) (some (.int .i64 l)) (some (.int .i64 h)) none).run Try.prog W = .ok (sliced A l.toNat h.toNat c 1) W := by
  have hs : (sizeOf (Try.prog.elem 50)).run Try.prog W = .ok 1 W := by kernel_rfl
  rw [run_slice_lh W 50 A n c (by kernel_rfl) .i64 .i64 l h h0 h1 h2, hs]
  rfl
theorem slice_h (A : Option Addr) (n c : Nat) (h : Int) (W : World) (h0 : 0 ≤ h) (h2 : h ≤ c) : (Instr.slice 50 (.slice A n c) none (some (.int .i64 h)) none).run Try.prog W = .ok (.slice A h.toNat c) W := by
  have hs : (sizeOf (Try.prog.elem 50)).run Try.prog W = .ok 1 W := by kernel_rfl
  rw [run_slice_h W 50 A n c (by kernel_rfl) .i64 h h0 h2, hs]
  simp [sliced, Result.andThen]
  intro _; cases A <;> simp [Addr.add]

end Go.Proofs.Ytkmjemaajgdoiaa.Lv
