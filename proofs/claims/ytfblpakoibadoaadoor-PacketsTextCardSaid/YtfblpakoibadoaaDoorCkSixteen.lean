/-
  Helper text, several in one; no statement is proved here.
-/
import Derived.Test.YtfblpakoibadoaaDoorCkFive
namespace Go.Proofs.YtfblpakoibadoaaDoor.Ck
open Go Go.RowKit

abbrev m16 : Nat := 40961
def leV : List UInt8 → Nat
  | [] => 0
  | b :: bs => b.toNat + 2 ^ 8 * leV bs
/-- The register behind bytes. -/
def crcL (r : Nat) : List UInt8 → Nat
  | [] => r
  | b :: bs => crcL (sN m16 8 (r ^^^ b.toNat)) bs
theorem crcL_snoc (r : Nat) (xs : List UInt8) (x : UInt8) : crcL r (xs ++ [x]) = sN m16 8 (crcL r xs ^^^ x.toNat) := by
  induction xs generalizing r with
  | nil => rfl
  | cons b bs ih => exact ih _
theorem crcL_eq (r : Nat) (xs : List UInt8) : crcL r xs = sN m16 (8 * xs.length) (r ^^^ leV xs) := by
  induction xs generalizing r with
  | nil => simp [crcL, leV, sN]
  | cons b bs ih =>
    show crcL (sN m16 8 (r ^^^ b.toNat)) bs = _
    rw [ih, List.length_cons, show 8 * (bs.length + 1) = 8 + 8 * bs.length from by omega]
    exact (sN_take m16 8 (8 * bs.length) r b.toNat (leV bs) b.toNat_lt).symm
theorem crcL_lt {r : Nat} (hr : r < 2 ^ 16) (xs : List UInt8) : crcL r xs < 2 ^ 16 := by
  induction xs generalizing r with
  | nil => exact hr
  | cons b bs ih => exact ih (sN_lt (by decide) 8 (Nat.xor_lt_two_pow hr (Nat.lt_of_lt_of_le b.toNat_lt (by decide))))
theorem tab16_eq (l : Nat) (h : l < 16) : tab16 l = sN m16 4 l := by
  have H : ∀ l : Fin 16, tab16 l.val = sN m16 4 l.val := by decide +kernel
  exact H ⟨l, h⟩
theorem tab16_lt (l : Nat) (h : l < 16) : tab16 l < 65536 := by
  have H : ∀ l : Fin 16, tab16 l.val < 65536 := by decide +kernel
  exact H ⟨l, h⟩
theorem four_step (x : Nat) : (x >>> 4) ^^^ tab16 (x % 16) = sN m16 4 x := by
  have h := sN_take m16 4 0 0 (x % 2 ^ 4) (x / 2 ^ 4) (Nat.mod_lt _ (by decide))
  rw [Nat.mod_add_div, Nat.zero_xor, Nat.zero_xor] at h
  rw [tab16_eq _ (Nat.mod_lt _ (by decide)), Nat.shiftRight_eq_div_pow]
  show _ = sN m16 (4 + 0) x
  rw [h, Nat.xor_comm]
  rfl

theorem wraps_u16 (n : Int) (h0 : 0 ≤ n) (h1 : n < 2 ^ 16) : IntKind.u16.wrap n = n := by rw [IntKind.wrap_u16]; omega
theorem bxor16 {a b : Nat} (ha : a < 2 ^ 16) (hb : b < 2 ^ 16) : bits .xor .u16 (a : Int) (b : Int) = ((a ^^^ b : Nat) : Int) := by
  have h : a ^^^ b < 2 ^ 16 := Nat.xor_lt_two_pow ha hb
  have e : bits .xor .u16 (a : Int) (b : Int) = IntKind.u16.wrap (((a % 2 ^ 16) ^^^ (b % 2 ^ 16) : Nat) : Int) := by
    simp only [bits, BitVec.ofInt_natCast, BitVec.toNat_xor, BitVec.toNat_ofNat]; rfl
  rw [e, Nat.mod_eq_of_lt ha, Nat.mod_eq_of_lt hb]
  exact wraps_u16 _ (by omega) (by omega)
theorem band16 {a b : Nat} (ha : a < 2 ^ 16) (hb : b < 2 ^ 16) : bits .and .u16 (a : Int) (b : Int) = ((a &&& b : Nat) : Int) :=
  (bits_nat .u16 16 (by decide) wraps_u16 a b ha hb).1

set_option maxHeartbeats 800000 in
set_option maxRecDepth 100000 in
theorem take16 (w : World) (Bt Br Bw Bb Bl r g : Nat) (h : Mach .u16 23 102 Bt 16 tab16 4 15 Br Bw Bb Bl r w) (hr : r < 2 ^ 16) (hg : g < 16) :
    Calls Tryd.prog 88 #[.int .u16 (g : Int), .pointer (some ⟨Br, 0, none⟩), .pointer (some ⟨Bw, 0, none⟩), .pointer (some ⟨Bb, 0, none⟩), .pointer (some ⟨Bl, 0, none⟩)] w
      fun e w' => e = .returned (.tuple #[]) ∧ Mach .u16 23 102 Bt 16 tab16 4 15 Br Bw Bb Bl (sN m16 4 (r ^^^ g)) w' ∧ w.grownBy w' (some Br) := by
  have c1 := cell_of_one h.reg
  have f1 := free_of_one h.reg
  have c2 := cell_of_one h.wid
  have c3 := cell_of_one h.beh
  have c4 := cell_of_one h.low
  have hx : r ^^^ g < 2 ^ 16 := Nat.xor_lt_two_pow hr (by omega)
  have e1 := bxor16 (a := r) (b := g) hr (by omega)
  have e2 : bits .and .u16 ((r ^^^ g : Nat) : Int) 15 = (((r ^^^ g) % 16 : Nat) : Int) := by
    have := band16 (a := r ^^^ g) (b := 15) hx (by omega)
    rw [Nat.and_two_pow_sub_one_eq_mod (r ^^^ g) 4] at this
    exact this
  have hq : (r ^^^ g) % 16 < 16 := Nat.mod_lt _ (by omega)
  have c5 := h.tab ((r ^^^ g) % 16) hq
  have ht := tab16_lt _ hq
  have hs : (r >>> 4) ^^^ tab16 ((r ^^^ g) % 16) = sN m16 4 (r ^^^ g) := by
    rw [← four_step, Nat.shiftRight_xor_distrib, show g >>> 4 = 0 from by simp only [Nat.shiftRight_eq_div_pow]; omega, Nat.xor_zero]
  have e3 := bxor16 (a := r >>> 4) (b := tab16 ((r ^^^ g) % 16)) (by rw [Nat.shiftRight_eq_div_pow]; omega) (by omega)
  rw [hs, show ((r >>> 4 : Nat) : Int) = (r : Int) / 16 from by rw [Nat.shiftRight_eq_div_pow]; omega] at e3
  generalize tab16 ((r ^^^ g) % 16) = T at c5 e3 ht
  generalize sN m16 4 (r ^^^ g) = R at e3
  generalize (r ^^^ g) % 16 = q at e2 c5 hq
  generalize r ^^^ g = x at e1 e2 hx
  clear hs
  go_enter Tryd.func88, Tryd.ntmps88
  go_wp2
  go_region
  all_goals (go_end0; exact ⟨rfl, h.store R⟩)

end Go.Proofs.YtfblpakoibadoaaDoor.Ck

namespace Go.Proofs.YtfblpakoibadoaaDoor.Ck
open Go Go.RowKit

theorem nibbles {b : Nat} (m r : Nat) : sN m 4 (sN m 4 (r ^^^ (b % 16)) ^^^ (b / 16)) = sN m 8 (r ^^^ b) := by
  have := sN_take m 4 4 r (b % 2 ^ 4) (b / 2 ^ 4) (Nat.mod_lt _ (by decide))
  rw [Nat.mod_add_div] at this
  exact this.symm

set_option maxHeartbeats 1600000 in
set_option maxRecDepth 100000 in
theorem send16 (w : World) (Bt Br Bw Bb Bl Bs B : Nat) (A : Option Addr) (c : Nat) (xs : List UInt8) (h : Mach .u16 23 102 Bt 16 tab16 4 15 Br Bw Bb Bl 65535 w) (hr : Rd w B A c xs) (hB : B ≤ w.heap.size) (hBr : B ≤ Br)
    (cs : w.heap[Bs]? = some (.cells #[.slice A xs.length c] 27 (0, 0))) (ns : Br ≠ Bs) :
    Calls Tryd.prog 62 #[takeV 88 Br Bw Bb Bl, .pointer (some ⟨Bs, 0, none⟩)] w
      fun e w' => e = .returned (.tuple #[]) ∧ Mach .u16 23 102 Bt 16 tab16 4 15 Br Bw Bb Bl (crcL 65535 xs) w' ∧ w.grownBy w' (some Br) := by
  have c1 := cell_of_one cs
  have hcap := hr.cap
  have hle := hr.le
  go_enter Tryd.func62, Tryd.ntmps62
  go_wp2
  go_loopw [4, 7] (fun _ i wr => ∃ k : Nat, k ≤ xs.length ∧ i = .int .i64 k ∧ Mach .u16 23 102 Bt 16 tab16 4 15 Br Bw Bb Bl (crcL 65535 (xs.take k)) wr ∧ w.grownBy wr (some Br)) (fun _ i _ => xs.length - (intOf i).toNat)
  case atStart => exact ⟨0, Nat.zero_le _, rfl, by simpa [crcL] using h, grown_refl _ _⟩
  case round =>
    obtain ⟨k, hk, rfl, hm, hg⟩ := hrel
    by_cases hlt : k < xs.length
    · have hr1 := hr.grown hg hB (fun g e => by cases e; exact hBr)
      obtain ⟨b, off, rfl, hbB, hcell0⟩ := hr1.at_ hlt
      have hcell : wr.cell? ⟨b, off + k, none⟩ = some (.int .u8 ((xs.getD k 0).toNat : Int)) := hcell0
      clear hcell0
      have hs := crcL_snoc 65535 (xs.take k) (xs.getD k 0)
      rw [← take_snoc xs hlt, ← nibbles] at hs
      have hst := crcL_lt (r := 65535) (by decide) (xs.take k)
      have hx8 : (xs.getD k 0).toNat < 256 := (xs.getD k 0).toNat_lt
      generalize (xs.getD k 0).toNat = x at hcell hs hx8
      generalize crcL 65535 (xs.take k) = r at hm hst hs
      have Hs := Lib.hid hs
      clear hs
      have e1 : bits .and .u8 (x : Int) 15 = ((x % 16 : Nat) : Int) := by
        have := band8 (a := x) (b := 15) hx8 (by omega)
        rw [Nat.and_two_pow_sub_one_eq_mod x 4] at this
        exact this
      have hst2 : sN m16 4 (r ^^^ (x % 16)) < 2 ^ 16 := sN_lt (by decide) 4 (Nat.xor_lt_two_pow hst (by omega))
      go_wp2_with fail
      refine (take16 wr Bt Br Bw Bb Bl r (x % 16) hm hst (Nat.mod_lt _ (by omega))).mono ?_
      rintro e w1 ⟨rfl, hm1, hg1⟩
      go_wp2_with fail
      refine (take16 w1 Bt Br Bw Bb Bl _ (x / 16) hm1 hst2 (by omega)).mono ?_
      rintro e w2 ⟨rfl, hm2, hg2⟩
      rw [← Hs.out] at hm2
      clear Hs e1
      go_wp2
      go_roundw
      case rel => exact ⟨k + 1, by omega, by go_num, hm2, grown_trans hg (grown_trans hg1 hg2)⟩
      case measure => simp [intOf]; omega
    · have hk9 : k = xs.length := by omega
      subst hk9
      rw [List.take_length] at hm
      go_wp2
      go_end0
      exact ⟨rfl, hm, hg⟩

end Go.Proofs.YtfblpakoibadoaaDoor.Ck

namespace Go.Proofs.YtfblpakoibadoaaDoor.Ck
open Go Go.RowKit

set_option maxHeartbeats 800000 in
set_option maxRecDepth 100000 in
theorem reg16 (w : World) (Bt Bs : Nat) (A : Option Addr) (c : Nat) (xs : List UInt8) (hr : Rd w w.heap.size A c xs) (ht : Bt < w.heap.size) (tab : ∀ j, j < 16 → w.cell? ⟨Bt, j, none⟩ = some (.int .u16 (tab16 j : Int)))
    (cs : w.heap[Bs]? = some (.cells #[.slice A xs.length c] 27 (0, 0))) :
    Calls Tryd.prog 61 #[.int .u16 65535, .slice (some ⟨Bt, 0, none⟩) 16 16, .func (.func 62) #[] #[.pointer (some ⟨Bs, 0, none⟩)]] w
      fun e w' => e = .returned (.int .u16 (crcL 65535 xs : Int)) ∧ Below w.heap.size w w' := by
  have hmf : ∀ (fn : Fn) (first cap : Array Value) (w : World), (Instr.makeFunc fn first cap).run Tryd.prog w = .ok (.func fn first cap) w := fun _ _ _ _ => rfl
  go_enter Tryd.func61, Tryd.ntmps61
  go_wp2_with fail
  refine (len_15 _).mono ?_
  rintro e w1 ⟨rfl, rfl⟩
  go_wp2_with fail
  have hB := four_below w .u16 23 102 Bt 16 4 15 65535
  refine (send16 _ Bt w.heap.size (w.heap.size + 1 + 1 + 1) (w.heap.size + 1) (w.heap.size + 1 + 1) Bs w.heap.size A c xs (mach_new w .u16 23 102 Bt 16 tab16 4 15 65535 ht tab) (hr.below hB) hB.size (Nat.le_refl _) ((hB.block _ (lt_of_block cs)).trans cs)
    (fun e => by have := lt_of_block cs; omega)).mono ?_
  rintro e w2 ⟨rfl, hm, hg⟩
  have c1 := cell_of_one hm.reg
  go_wp2
  go_ret
  exact ⟨rfl, hB.grown hg hB.size fun k e => by cases e; exact Nat.le_refl _⟩

/-- The check of bytes. -/
def chkL (xs : List UInt8) : Nat := chk m16 16 (8 * xs.length) (leV xs)
theorem leV_lt (xs : List UInt8) : leV xs < 2 ^ (8 * xs.length) := by
  induction xs with
  | nil => decide
  | cons b bs ih =>
    have h1 : b.toNat < 256 := b.toNat_lt
    show b.toNat + 2 ^ 8 * leV bs < 2 ^ (8 * (bs.length + 1))
    rw [show 8 * (bs.length + 1) = 8 * bs.length + 8 from by omega, Nat.pow_add]
    omega
theorem chkL_eq (xs : List UInt8) : crcL 65535 xs ^^^ 65535 = chkL xs := by rw [crcL_eq]; rfl
theorem chkL_lt (xs : List UInt8) : chkL xs < 65536 := chk_lt (d := 16) (by decide) (leV_lt xs)

set_option maxHeartbeats 800000 in
set_option maxRecDepth 100000 in
theorem sixteen_any (w : World) (hL : Laid w) (A : Option Addr) (c : Nat) (xs : List UInt8) (hr : Rd w w.heap.size A c xs) :
    Calls Tryd.prog 48 #[.slice A xs.length c] w
      fun e w' => e = .returned (.int .u16 (chkL xs : Int)) ∧ Below w.heap.size w w' := by
  have hmf : ∀ (fn : Fn) (first cap : Array Value) (w : World), (Instr.makeFunc fn first cap).run Tryd.prog w = .ok (.func fn first cap) w := fun _ _ _ _ => rfl
  have hb1 := (Below.refl w.heap.size w).alloc (Nat.le_refl _) (.cells #[.slice A xs.length c] 27)
  have hL2 := hL.below hb1
  have s0 : (w.alloc (.cells #[.slice A xs.length c] 27)).cell? ⟨3, 0, none⟩ = some (.int .u16 0) := hL2.four 0 (by omega)
  have s1 : (w.alloc (.cells #[.slice A xs.length c] 27)).cell? ⟨3, 1, none⟩ = some (.int .u16 52225) := hL2.four 1 (by omega)
  have s2 : (w.alloc (.cells #[.slice A xs.length c] 27)).cell? ⟨3, 2, none⟩ = some (.int .u16 55297) := hL2.four 2 (by omega)
  have s3 : (w.alloc (.cells #[.slice A xs.length c] 27)).cell? ⟨3, 3, none⟩ = some (.int .u16 5120) := hL2.four 3 (by omega)
  have s4 : (w.alloc (.cells #[.slice A xs.length c] 27)).cell? ⟨3, 4, none⟩ = some (.int .u16 61441) := hL2.four 4 (by omega)
  have s5 : (w.alloc (.cells #[.slice A xs.length c] 27)).cell? ⟨3, 5, none⟩ = some (.int .u16 15360) := hL2.four 5 (by omega)
  have s6 : (w.alloc (.cells #[.slice A xs.length c] 27)).cell? ⟨3, 6, none⟩ = some (.int .u16 10240) := hL2.four 6 (by omega)
  have s7 : (w.alloc (.cells #[.slice A xs.length c] 27)).cell? ⟨3, 7, none⟩ = some (.int .u16 58369) := hL2.four 7 (by omega)
  have s8 : (w.alloc (.cells #[.slice A xs.length c] 27)).cell? ⟨3, 8, none⟩ = some (.int .u16 40961) := hL2.four 8 (by omega)
  have s9 : (w.alloc (.cells #[.slice A xs.length c] 27)).cell? ⟨3, 9, none⟩ = some (.int .u16 27648) := hL2.four 9 (by omega)
  have s10 : (w.alloc (.cells #[.slice A xs.length c] 27)).cell? ⟨3, 10, none⟩ = some (.int .u16 30720) := hL2.four 10 (by omega)
  have s11 : (w.alloc (.cells #[.slice A xs.length c] 27)).cell? ⟨3, 11, none⟩ = some (.int .u16 46081) := hL2.four 11 (by omega)
  have s12 : (w.alloc (.cells #[.slice A xs.length c] 27)).cell? ⟨3, 12, none⟩ = some (.int .u16 20480) := hL2.four 12 (by omega)
  have s13 : (w.alloc (.cells #[.slice A xs.length c] 27)).cell? ⟨3, 13, none⟩ = some (.int .u16 39937) := hL2.four 13 (by omega)
  have s14 : (w.alloc (.cells #[.slice A xs.length c] 27)).cell? ⟨3, 14, none⟩ = some (.int .u16 34817) := hL2.four 14 (by omega)
  have s15 : (w.alloc (.cells #[.slice A xs.length c] 27)).cell? ⟨3, 15, none⟩ = some (.int .u16 17408) := hL2.four 15 (by omega)
  go_enter Tryd.func48, Tryd.ntmps48
  go_wp2_with fail
  have h0 : ∀ (W : World) (o o' : Obj) (k : Nat), W.heap[k]? = some o' → (W.alloc o).heap[k]? = some o' := fun W o o' k h => (Below.heap_alloc W o k (lt_of_block h)).trans h
  have cs := h0 _ (.cells #[.int .u16 0, .int .u16 52225, .int .u16 55297, .int .u16 5120, .int .u16 61441, .int .u16 15360, .int .u16 10240, .int .u16 58369, .int .u16 40961, .int .u16 27648, .int .u16 30720, .int .u16 46081, .int .u16 20480, .int .u16 39937, .int .u16 34817, .int .u16 17408] 100) _ _ (heap_alloc_new w (.cells #[.slice A xs.length c] 27))
  have ct := heap_alloc_new (w.alloc (.cells #[.slice A xs.length c] 27)) (.cells #[.int .u16 0, .int .u16 52225, .int .u16 55297, .int .u16 5120, .int .u16 61441, .int .u16 15360, .int .u16 10240, .int .u16 58369, .int .u16 40961, .int .u16 27648, .int .u16 30720, .int .u16 46081, .int .u16 20480, .int .u16 39937, .int .u16 34817, .int .u16 17408] 100)
  have hz1 : (w.alloc (.cells #[.slice A xs.length c] 27)).heap.size = w.heap.size + 1 := by simp
  rw [hz1] at ct
  have hb3 := hb1.alloc (by simp) (.cells #[.int .u16 0, .int .u16 52225, .int .u16 55297, .int .u16 5120, .int .u16 61441, .int .u16 15360, .int .u16 10240, .int .u16 58369, .int .u16 40961, .int .u16 27648, .int .u16 30720, .int .u16 46081, .int .u16 20480, .int .u16 39937, .int .u16 34817, .int .u16 17408] 100)
  refine (reg16 _ (w.heap.size + 1) w.heap.size A c xs (hr.belowTop hb3) (lt_of_block ct) ?_ cs).mono ?_
  · intro j hj
    rw [cell_of_row _ _ _ _ _ _ ct]
    rcases (by omega : j = 0 ∨ j = 1 ∨ j = 2 ∨ j = 3 ∨ j = 4 ∨ j = 5 ∨ j = 6 ∨ j = 7 ∨ j = 8 ∨ j = 9 ∨ j = 10 ∨ j = 11 ∨ j = 12 ∨ j = 13 ∨ j = 14 ∨ j = 15) with rfl | rfl | rfl | rfl | rfl | rfl | rfl | rfl | rfl | rfl | rfl | rfl | rfl | rfl | rfl | rfl <;> rfl
  rintro e w2 ⟨rfl, hb4⟩
  have hlt := crcL_lt (r := 65535) (by decide) xs
  have e1 : bits .xor .u16 (crcL 65535 xs : Int) 65535 = (chkL xs : Int) := by rw [← chkL_eq]; exact bxor16 (b := 65535) hlt (by decide)
  generalize crcL 65535 xs = r at e1
  clear s0 s1 s2 s3 s4 s5 s6 s7 s8 s9 s10 s11 s12 s13 s14 s15
  go_wp2
  go_ret
  exact ⟨rfl, hb3.trans (hb4.mono hb3.size)⟩

end Go.Proofs.YtfblpakoibadoaaDoor.Ck

