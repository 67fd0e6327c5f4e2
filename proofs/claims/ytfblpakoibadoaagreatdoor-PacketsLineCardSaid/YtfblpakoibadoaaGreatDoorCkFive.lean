/-
  Helper text: the two tables as they are laid; the check of five bits; no statement is proved here.
-/
import Derived.Test.YtfblpakoibadoaaGreatDoorCkReg5
namespace Go.Proofs.YtfblpakoibadoaaGreatDoor.Ck
open Go Go.RowKit

def tabL16 : List Nat := [0, 52225, 55297, 5120, 61441, 15360, 10240, 58369, 40961, 27648, 30720, 46081, 20480, 39937, 34817, 17408]
def tab16 (j : Nat) : Nat := tabL16.getD j 0
/-- The two tables hold what the text lays. -/
structure Laid (w : World) : Prop where
  one : ∀ j, j < 2 → w.cell? ⟨6, j, none⟩ = some (.int .u8 (tab5 j : Int))
  four : ∀ j, j < 16 → w.cell? ⟨5, j, none⟩ = some (.int .u16 (tab16 j : Int))
theorem Laid.below {w w' : World} (h : Laid w) (hb : Below w.heap.size w w') : Laid w' :=
  ⟨fun j hj => (hb.cell (World.block_lt_of_cell? _ _ (h.one j hj))).trans (h.one j hj), fun j hj => (hb.cell (World.block_lt_of_cell? _ _ (h.four j hj))).trans (h.four j hj)⟩

set_option maxHeartbeats 800000 in
set_option maxRecDepth 100000 in
theorem five_any (w : World) (hL : Laid w) (n v : Nat) (hn : n ≤ 29) (hv : v < 2 ^ n) :
    Calls Tryz.prog 90 #[.int .u32 (v : Int), .int .i64 (n : Int)] w
      fun e w' => e = .returned (.int .u8 (chk 20 5 n v : Int)) ∧ Below w.heap.size w w' := by
  have hmf : ∀ (fn : Fn) (first cap : Array Value) (w : World), (Instr.makeFunc fn first cap).run Tryz.prog w = .ok (.func fn first cap) w := fun _ _ _ _ => rfl
  have hb2 := ((Below.refl w.heap.size w).alloc (Nat.le_refl _) (.cells #[.int .u32 (v : Int)] 81)).alloc (by simp) (.cells #[.int .i64 (n : Int)] 3)
  have hL2 := hL.below hb2
  have s0 : ((w.alloc (.cells #[.int .u32 (v : Int)] 81)).alloc (.cells #[.int .i64 (n : Int)] 3)).cell? ⟨6, 0, none⟩ = some (.int .u8 0) := hL2.one 0 (by omega)
  have s1 : ((w.alloc (.cells #[.int .u32 (v : Int)] 81)).alloc (.cells #[.int .i64 (n : Int)] 3)).cell? ⟨6, 1, none⟩ = some (.int .u8 20) := hL2.one 1 (by omega)
  go_enter Tryz.func90, Tryz.ntmps90
  go_wp2_with fail
  have h0 : ∀ (W : World) (o o' : Obj) (k : Nat), W.heap[k]? = some o' → (W.alloc o).heap[k]? = some o' := fun W o o' k h => (Below.heap_alloc W o k (lt_of_block h)).trans h
  have cv := h0 _ (.cells #[.int .u8 0, .int .u8 20] 133) _ _ (h0 _ (.cells #[.int .i64 (n : Int)] 3) _ _ (heap_alloc_new w (.cells #[.int .u32 (v : Int)] 81)))
  have cn := h0 _ (.cells #[.int .u8 0, .int .u8 20] 133) _ _ (heap_alloc_new (w.alloc (.cells #[.int .u32 (v : Int)] 81)) (.cells #[.int .i64 (n : Int)] 3))
  have ct := heap_alloc_new ((w.alloc (.cells #[.int .u32 (v : Int)] 81)).alloc (.cells #[.int .i64 (n : Int)] 3)) (.cells #[.int .u8 0, .int .u8 20] 133)
  have hz1 : (w.alloc (.cells #[.int .u32 (v : Int)] 81)).heap.size = w.heap.size + 1 := by simp
  have hz2 : ((w.alloc (.cells #[.int .u32 (v : Int)] 81)).alloc (.cells #[.int .i64 (n : Int)] 3)).heap.size = w.heap.size + 1 + 1 := by simp
  rw [hz1] at cn
  rw [hz2] at ct
  have hb3 := hb2.alloc (by simp; omega) (.cells #[.int .u8 0, .int .u8 20] 133)
  refine (reg5 _ (w.heap.size + 1 + 1) (w.heap.size + 1) w.heap.size n v hn hv (lt_of_block ct) ?_ cn cv).mono ?_
  · intro j hj
    rw [cell_of_row _ _ _ _ _ _ ct]
    rcases (by omega : j = 0 ∨ j = 1) with rfl | rfl <;> rfl
  rintro e w2 ⟨rfl, hb4⟩
  have hlt : sN 20 n (31 ^^^ v) < 2 ^ 5 := sN_taken (d := 5) (by decide) hv
  have e1 : bits .xor .u8 (sN 20 n (31 ^^^ v) : Int) 31 = (chk 20 5 n v : Int) := bxor8 (b := 31) (by omega) (by omega)
  generalize sN 20 n (31 ^^^ v) = r at e1
  go_wp2
  go_ret
  exact ⟨rfl, hb3.trans (hb4.mono hb3.size)⟩

end Go.Proofs.YtfblpakoibadoaaGreatDoor.Ck
