/-
  Helper text: the check of sixteen bits, as it is returned; no statement is proved here.
-/
import Derived.Test.YtfblpakoibadoaaGreatDoorCkSend16
namespace Go.Proofs.YtfblpakoibadoaaGreatDoor.Ck
open Go Go.RowKit

set_option maxHeartbeats 800000 in
set_option maxRecDepth 100000 in
theorem reg16 (w : World) (Bt Bs : Nat) (A : Option Addr) (c : Nat) (xs : List UInt8) (hr : Rd w w.heap.size A c xs) (ht : Bt < w.heap.size) (tab : ∀ j, j < 16 → w.cell? ⟨Bt, j, none⟩ = some (.int .u16 (tab16 j : Int)))
    (cs : w.heap[Bs]? = some (.cells #[.slice A xs.length c] 27 (0, 0))) :
    Calls Tryz.prog 105 #[.int .u16 65535, .slice (some ⟨Bt, 0, none⟩) 16 16, .func (.func 106) #[] #[.pointer (some ⟨Bs, 0, none⟩)]] w
      fun e w' => e = .returned (.int .u16 (crcL 65535 xs : Int)) ∧ Below w.heap.size w w' := by
  have hmf : ∀ (fn : Fn) (first cap : Array Value) (w : World), (Instr.makeFunc fn first cap).run Tryz.prog w = .ok (.func fn first cap) w := fun _ _ _ _ => rfl
  go_enter Tryz.func105, Tryz.ntmps105
  go_wp2_with fail
  refine (len_15 _).mono ?_
  rintro e w1 ⟨rfl, rfl⟩
  go_wp2_with fail
  have hB := four_below w .u16 23 130 Bt 16 4 15 65535
  refine (send16 _ Bt w.heap.size (w.heap.size + 1 + 1 + 1) (w.heap.size + 1) (w.heap.size + 1 + 1) Bs w.heap.size A c xs (mach_new w .u16 23 130 Bt 16 tab16 4 15 65535 ht tab) (hr.below hB) hB.size (Nat.le_refl _) ((hB.block _ (lt_of_block cs)).trans cs)
    (fun e => by have := lt_of_block cs; omega)).mono ?_
  rintro e w2 ⟨rfl, hm, hg⟩
  have c1 := cell_of_one hm.reg
  go_wp2
  go_ret
  exact ⟨rfl, hB.grown hg hB.size fun k e => by cases e; exact Nat.le_refl _⟩

/-- The check of bytes. -/
def chkL (xs : List UInt8) : Nat := chk m16 16 (8 * xs.length) (leV xs)
theorem leV_lt (xs : List UInt8) : leV xs < 2 ^ (8 * xs.length) := by
  induction xs with
  | nil => decide
  | cons b bs ih =>
    have h1 : b.toNat < 256 := b.toNat_lt
    show b.toNat + 2 ^ 8 * leV bs < 2 ^ (8 * (bs.length + 1))
    rw [show 8 * (bs.length + 1) = 8 * bs.length + 8 from by omega, Nat.pow_add]
    omega
theorem chkL_eq (xs : List UInt8) : crcL 65535 xs ^^^ 65535 = chkL xs := by rw [crcL_eq]; rfl
theorem chkL_lt (xs : List UInt8) : chkL xs < 65536 := chk_lt (d := 16) (by decide) (leV_lt xs)

set_option maxHeartbeats 800000 in
set_option maxRecDepth 100000 in
theorem sixteen_any (w : World) (hL : Laid w) (A : Option Addr) (c : Nat) (xs : List UInt8) (hr : Rd w w.heap.size A c xs) :
    Calls Tryz.prog 85 #[.slice A xs.length c] w
      fun e w' => e = .returned (.int .u16 (chkL xs : Int)) ∧ Below w.heap.size w w' := by
  have hmf : ∀ (fn : Fn) (first cap : Array Value) (w : World), (Instr.makeFunc fn first cap).run Tryz.prog w = .ok (.func fn first cap) w := fun _ _ _ _ => rfl
  have hb1 := (Below.refl w.heap.size w).alloc (Nat.le_refl _) (.cells #[.slice A xs.length c] 27)
  have hL2 := hL.below hb1
  have s0 : (w.alloc (.cells #[.slice A xs.length c] 27)).cell? ⟨5, 0, none⟩ = some (.int .u16 0) := hL2.four 0 (by omega)
  have s1 : (w.alloc (.cells #[.slice A xs.length c] 27)).cell? ⟨5, 1, none⟩ = some (.int .u16 52225) := hL2.four 1 (by omega)
  have s2 : (w.alloc (.cells #[.slice A xs.length c] 27)).cell? ⟨5, 2, none⟩ = some (.int .u16 55297) := hL2.four 2 (by omega)
  have s3 : (w.alloc (.cells #[.slice A xs.length c] 27)).cell? ⟨5, 3, none⟩ = some (.int .u16 5120) := hL2.four 3 (by omega)
  have s4 : (w.alloc (.cells #[.slice A xs.length c] 27)).cell? ⟨5, 4, none⟩ = some (.int .u16 61441) := hL2.four 4 (by omega)
  have s5 : (w.alloc (.cells #[.slice A xs.length c] 27)).cell? ⟨5, 5, none⟩ = some (.int .u16 15360) := hL2.four 5 (by omega)
  have s6 : (w.alloc (.cells #[.slice A xs.length c] 27)).cell? ⟨5, 6, none⟩ = some (.int .u16 10240) := hL2.four 6 (by omega)
  have s7 : (w.alloc (.cells #[.slice A xs.length c] 27)).cell? ⟨5, 7, none⟩ = some (.int .u16 58369) := hL2.four 7 (by omega)
  have s8 : (w.alloc (.cells #[.slice A xs.length c] 27)).cell? ⟨5, 8, none⟩ = some (.int .u16 40961) := hL2.four 8 (by omega)
  have s9 : (w.alloc (.cells #[.slice A xs.length c] 27)).cell? ⟨5, 9, none⟩ = some (.int .u16 27648) := hL2.four 9 (by omega)
  have s10 : (w.alloc (.cells #[.slice A xs.length c] 27)).cell? ⟨5, 10, none⟩ = some (.int .u16 30720) := hL2.four 10 (by omega)
  have s11 : (w.alloc (.cells #[.slice A xs.length c] 27)).cell? ⟨5, 11, none⟩ = some (.int .u16 46081) := hL2.four 11 (by omega)
  have s12 : (w.alloc (.cells #[.slice A xs.length c] 27)).cell? ⟨5, 12, none⟩ = some (.int .u16 20480) := hL2.four 12 (by omega)
  have s13 : (w.alloc (.cells #[.slice A xs.length c] 27)).cell? ⟨5, 13, none⟩ = some (.int .u16 39937) := hL2.four 13 (by omega)
  have s14 : (w.alloc (.cells #[.slice A xs.length c] 27)).cell? ⟨5, 14, none⟩ = some (.int .u16 34817) := hL2.four 14 (by omega)
  have s15 : (w.alloc (.cells #[.slice A xs.length c] 27)).cell? ⟨5, 15, none⟩ = some (.int .u16 17408) := hL2.four 15 (by omega)
  go_enter Tryz.func85, Tryz.ntmps85
  go_wp2_with fail
  have h0 : ∀ (W : World) (o o' : Obj) (k : Nat), W.heap[k]? = some o' → (W.alloc o).heap[k]? = some o' := fun W o o' k h => (Below.heap_alloc W o k (lt_of_block h)).trans h
  have cs := h0 _ (.cells #[.int .u16 0, .int .u16 52225, .int .u16 55297, .int .u16 5120, .int .u16 61441, .int .u16 15360, .int .u16 10240, .int .u16 58369, .int .u16 40961, .int .u16 27648, .int .u16 30720, .int .u16 46081, .int .u16 20480, .int .u16 39937, .int .u16 34817, .int .u16 17408] 128) _ _ (heap_alloc_new w (.cells #[.slice A xs.length c] 27))
  have ct := heap_alloc_new (w.alloc (.cells #[.slice A xs.length c] 27)) (.cells #[.int .u16 0, .int .u16 52225, .int .u16 55297, .int .u16 5120, .int .u16 61441, .int .u16 15360, .int .u16 10240, .int .u16 58369, .int .u16 40961, .int .u16 27648, .int .u16 30720, .int .u16 46081, .int .u16 20480, .int .u16 39937, .int .u16 34817, .int .u16 17408] 128)
  have hz1 : (w.alloc (.cells #[.slice A xs.length c] 27)).heap.size = w.heap.size + 1 := by simp
  rw [hz1] at ct
  have hb3 := hb1.alloc (by simp) (.cells #[.int .u16 0, .int .u16 52225, .int .u16 55297, .int .u16 5120, .int .u16 61441, .int .u16 15360, .int .u16 10240, .int .u16 58369, .int .u16 40961, .int .u16 27648, .int .u16 30720, .int .u16 46081, .int .u16 20480, .int .u16 39937, .int .u16 34817, .int .u16 17408] 128)
  refine (reg16 _ (w.heap.size + 1) w.heap.size A c xs (hr.belowTop hb3) (lt_of_block ct) ?_ cs).mono ?_
  · intro j hj
    rw [cell_of_row _ _ _ _ _ _ ct]
    rcases (by omega : j = 0 ∨ j = 1 ∨ j = 2 ∨ j = 3 ∨ j = 4 ∨ j = 5 ∨ j = 6 ∨ j = 7 ∨ j = 8 ∨ j = 9 ∨ j = 10 ∨ j = 11 ∨ j = 12 ∨ j = 13 ∨ j = 14 ∨ j = 15) with rfl | rfl | rfl | rfl | rfl | rfl | rfl | rfl | rfl | rfl | rfl | rfl | rfl | rfl | rfl | rfl <;> rfl
  rintro e w2 ⟨rfl, hb4⟩
  have hlt := crcL_lt (r := 65535) (by decide) xs
  have e1 : bits .xor .u16 (crcL 65535 xs : Int) 65535 = (chkL xs : Int) := by rw [← chkL_eq]; exact bxor16 (b := 65535) hlt (by decide)
  generalize crcL 65535 xs = r at e1
  clear s0 s1 s2 s3 s4 s5 s6 s7 s8 s9 s10 s11 s12 s13 s14 s15
  go_wp2
  go_ret
  exact ⟨rfl, hb3.trans (hb4.mono hb3.size)⟩

end Go.Proofs.YtfblpakoibadoaaGreatDoor.Ck
