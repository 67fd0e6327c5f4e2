/-
  Helper text: the two tables of the package, and the contracts of the functions that read them; no statement is proved here.
-/
import Derived.Test.YtkmjemaajgdoiaaDoorLvStuff
namespace Go.Proofs.YtkmjemaajgdoiaaDoor.Lv
open Go Go.RowKit

def syncL : List UInt8 := [0, 0, 0, 0, 0, 0, 0, 1]
def endL : List UInt8 := [2, 2, 0]
/-- The two tables hold what the text lays. -/
structure Laid (w : World) : Prop where
  sync : ∀ j, j < 8 → w.cell? ⟨0, j, none⟩ = some (bv (syncL.getD j 0))
  ends : ∀ j, j < 3 → w.cell? ⟨1, j, none⟩ = some (bv (endL.getD j 0))
theorem Laid.below {w w' : World} (h : Laid w) (hb : Below w.heap.size w w') : Laid w' :=
  ⟨fun j hj => (hb.cell (World.block_lt_of_cell? _ _ (h.sync j hj))).trans (h.sync j hj), fun j hj => (hb.cell (World.block_lt_of_cell? _ _ (h.ends j hj))).trans (h.ends j hj)⟩

/-- The two tables as values. -/
abbrev syncV : Value := .agg #[.int .u8 0, .int .u8 0, .int .u8 0, .int .u8 0, .int .u8 0, .int .u8 0, .int .u8 0, .int .u8 1]
abbrev endV : Value := .agg #[.int .u8 2, .int .u8 2, .int .u8 0]
theorem index_sync (k : Nat) (h : k < 8) (w : World) : (Instr.index 64 syncV (.int .i64 (k : Int))).run Tryd.prog w = .ok (bv (syncL.getD k 0)) w := by
  rcases (by omega : k = 0 ∨ k = 1 ∨ k = 2 ∨ k = 3 ∨ k = 4 ∨ k = 5 ∨ k = 6 ∨ k = 7) with rfl | rfl | rfl | rfl | rfl | rfl | rfl | rfl <;> kernel_rfl
theorem index_end (k : Nat) (h : k < 3) (w : World) : (Instr.index 66 endV (.int .i64 (k : Int))).run Tryd.prog w = .ok (bv (endL.getD k 0)) w := by
  rcases (by omega : k = 0 ∨ k = 1 ∨ k = 2) with rfl | rfl | rfl <;> kernel_rfl

set_option maxHeartbeats 800000 in
set_option maxRecDepth 100000 in
theorem withSync_any (w : World) (hL : Laid w) (A : Option Addr) (c : Nat) (xs : List UInt8) (h : Rd w w.heap.size A c xs) (hl : xs.length ≤ 100000) :
    Calls Tryd.prog 21 #[.slice A xs.length c] w (Res1 w (syncL ++ xs)) := by
  have hmk := fun W : World => make_cap (8 + (xs.length : Int)) W (by omega) (by omega)
  rw [show (8 + (xs.length : Int)).toNat = 8 + xs.length from by omega] at hmk
  have hL1 := hL.below ((Below.refl _ _).alloc (Nat.le_refl _) (.cells (madeCells #[.int .u8 0] (8 + xs.length)) 5))
  have s0 : (w.alloc (.cells (madeCells #[.int .u8 0] (8 + xs.length)) 5)).cell? ⟨0, 0, none⟩ = some (.int .u8 0) := hL1.sync 0 (by omega)
  have s1 : (w.alloc (.cells (madeCells #[.int .u8 0] (8 + xs.length)) 5)).cell? ⟨0, 1, none⟩ = some (.int .u8 0) := hL1.sync 1 (by omega)
  have s2 : (w.alloc (.cells (madeCells #[.int .u8 0] (8 + xs.length)) 5)).cell? ⟨0, 2, none⟩ = some (.int .u8 0) := hL1.sync 2 (by omega)
  have s3 : (w.alloc (.cells (madeCells #[.int .u8 0] (8 + xs.length)) 5)).cell? ⟨0, 3, none⟩ = some (.int .u8 0) := hL1.sync 3 (by omega)
  have s4 : (w.alloc (.cells (madeCells #[.int .u8 0] (8 + xs.length)) 5)).cell? ⟨0, 4, none⟩ = some (.int .u8 0) := hL1.sync 4 (by omega)
  have s5 : (w.alloc (.cells (madeCells #[.int .u8 0] (8 + xs.length)) 5)).cell? ⟨0, 5, none⟩ = some (.int .u8 0) := hL1.sync 5 (by omega)
  have s6 : (w.alloc (.cells (madeCells #[.int .u8 0] (8 + xs.length)) 5)).cell? ⟨0, 6, none⟩ = some (.int .u8 0) := hL1.sync 6 (by omega)
  have s7 : (w.alloc (.cells (madeCells #[.int .u8 0] (8 + xs.length)) 5)).cell? ⟨0, 7, none⟩ = some (.int .u8 1) := hL1.sync 7 (by omega)
  go_enter Tryd.func21, Tryd.ntmps21
  go_wp2
  clear hmk s0 s1 s2 s3 s4 s5 s6 s7
  go_loopw [3, 11] (fun o i wr => ∃ k : Nat, k ≤ 8 ∧ i = .int .i64 k ∧ wr.ownsRow w.heap.size 5 1 o (syncL.take k).length ((syncL.take k).map bv) ∧ Below w.heap.size w wr) (fun _ i _ => 8 - (intOf i).toNat)
  case atStart => exact ⟨0, Nat.zero_le _, rfl, World.ownsRow_made w _ _ (Nat.le_refl _) (by unfold maxLen; omega) (by simp [size_madeCells]), (Below.refl _ _).alloc (Nat.le_refl _) _⟩
  case round =>
    obtain ⟨k, hk, rfl, hown, hb⟩ := hrel
    by_cases hlt : k < 8
    · have hix := index_sync k hlt
      have hn := take_snoc syncL (k := k) (by simpa [syncL] using hlt)
      have hlz : (syncL.take k).length ≤ 8 := by rw [List.length_take]; simp [syncL]; omega
      generalize syncL.getD k 0 = x at hix hn
      generalize syncL.take k = zs at hown hn hlz
      have Hn := Lib.hid hn
      clear hn
      go_wp2_with (at_builtin; refine wpl_append1 Tryd.underlying22 Tryd.info5 rfl (.tmp 14) (.tmp 16) rfl w.heap.size u3 zs rfl hown x _ rfl rfl (by omega) hb.size ?_; intro v' w1 hown2 hb2)
      go_roundw
      case rel => exact ⟨k + 1, by omega, by go_num, by rw [Hn.out]; exact hown2, hb.trans hb2⟩
      case measure => simp [intOf]; omega
    · have hk9 : k = 8 := by omega
      subst hk9
      have hown8 : wr.ownsRow w.heap.size 5 1 u3 syncL.length (syncL.map bv) := hown
      have hl8 : syncL.length = 8 := rfl
      generalize hz : syncL = zs at hown8 hl8
      have Hz := Lib.hid hz
      clear hz
      have Hl8 := Lib.hid hl8
      clear hl8 hown
      go_wp2_with (at_builtin; refine wpl_appendN Tryd.underlying22 Tryd.info5 rfl (.tmp 19) (.tmp 20) rfl w.heap.size u3 zs rfl hown8 w.heap.size c A xs (h.below hb) rfl (by rw [Hl8.out]; omega) hb.size ?_; intro v' w1 hown2 hb2)
      obtain ⟨A', c', rfl, hr⟩ := Rd.of_own hown2
      go_ret
      obtain rfl := Hz.out
      exact ⟨A', c', rfl, hr, hb.trans hb2⟩

set_option maxHeartbeats 800000 in
set_option maxRecDepth 100000 in
theorem withEnd_own (w : World) (hL : Laid w) (A : Option Addr) (c : Nat) (xs : List UInt8) (h : Rd w w.heap.size A c xs) (hl : xs.length ≤ 300000) :
    Calls Tryd.prog 23 #[.slice A xs.length c] w (ResO w 65 (xs ++ endL)) := by
  have hmk := fun W : World => makeS_cap ((xs.length : Int) + 3) W (by omega) (by omega)
  rw [show ((xs.length : Int) + 3).toNat = xs.length + 3 from by omega] at hmk
  have hown0 : (w.alloc (.cells (madeCells #[.int .u8 0] (xs.length + 3)) 65)).ownsRow w.heap.size 65 1 (.slice (some ⟨w.heap.size, 0, none⟩) 0 (xs.length + 3)) ([] : List UInt8).length (([] : List UInt8).map bv) :=
    World.ownsRow_made w _ _ (Nat.le_refl _) (by unfold maxLen; omega) (by simp [size_madeCells])
  have hb0 := (Below.refl w.heap.size w).alloc (Nat.le_refl _) (.cells (madeCells #[.int .u8 0] (xs.length + 3)) 65)
  go_enter Tryd.func23, Tryd.ntmps23
  go_wp2_with (at_builtin; refine wpl_appendN Tryd.underlying28 Tryd.info65 rfl (.tmp 10) (.tmp 11) rfl w.heap.size _ [] rfl hown0 w.heap.size c A xs (h.below hb0) rfl (by simp; omega) hb0.size ?_; intro v1 w1 hown1 hb1; have hL1 := hL.below (hb0.trans hb1); have s0 : w1.cell? ⟨1, 0, none⟩ = some (.int .u8 2) := hL1.ends 0 (by omega); have s1 : w1.cell? ⟨1, 1, none⟩ = some (.int .u8 2) := hL1.ends 1 (by omega); have s2 : w1.cell? ⟨1, 2, none⟩ = some (.int .u8 0) := hL1.ends 2 (by omega))
  clear hmk s0 s1 s2
  rw [List.nil_append] at hown1
  go_loopw [3, 14] (fun o i wr => ∃ k : Nat, k ≤ 3 ∧ i = .int .i64 k ∧ wr.ownsRow w.heap.size 65 1 o (xs ++ endL.take k).length ((xs ++ endL.take k).map bv) ∧ Below w.heap.size w wr) (fun _ i _ => 3 - (intOf i).toNat)
  case atStart => exact ⟨0, Nat.zero_le _, rfl, by simpa using hown1, hb0.trans hb1⟩
  case round =>
    obtain ⟨k, hk, rfl, hown, hb⟩ := hrel
    by_cases hlt : k < 3
    · have hix := index_end k hlt
      have hn : xs ++ endL.take (k + 1) = (xs ++ endL.take k) ++ [endL.getD k 0] := by rw [take_snoc endL (k := k) (by simpa [endL] using hlt), List.append_assoc]
      have hlz : (xs ++ endL.take k).length ≤ 300003 := by rw [List.length_append, List.length_take]; simp [endL]; omega
      generalize endL.getD k 0 = x at hix hn
      generalize xs ++ endL.take k = zs at hown hn hlz
      have Hn := Lib.hid hn
      clear hn
      go_wp2_with (at_builtin; refine wpl_append1 Tryd.underlying28 Tryd.info65 rfl (.tmp 17) (.tmp 19) rfl w.heap.size u3 zs rfl hown x _ rfl rfl (by omega) hb.size ?_; intro v' w1 hown2 hb2)
      go_roundw
      case rel => exact ⟨k + 1, by omega, by go_num, by rw [Hn.out]; exact hown2, hb.trans hb2⟩
      case measure => simp [intOf]; omega
    · have hk9 : k = 3 := by omega
      subst hk9
      have hown8 : wr.ownsRow w.heap.size 65 1 u3 (xs ++ endL).length ((xs ++ endL).map bv) := hown
      clear hown
      go_wp2
      go_ret
      exact ⟨_, rfl, hown8, hb⟩

theorem withEnd_any (w : World) (hL : Laid w) (A : Option Addr) (c : Nat) (xs : List UInt8) (h : Rd w w.heap.size A c xs) (hl : xs.length ≤ 300000) :
    Calls Tryd.prog 23 #[.slice A xs.length c] w (Res1 w (xs ++ endL)) :=
  (withEnd_own w hL A c xs h hl).mono fun _ _ hh => hh.to1

end Go.Proofs.YtkmjemaajgdoiaaDoor.Lv
