/-
  Helper text, several in one; no statement is proved here.
-/
import Derived.Test.YtfblpakoibadoaaDoorCkAlg
import Derived.Test.YtfblpakoibadoaaDoorProg
import Derived.Test.YtfblpakoibadoaaDoorChecked
import Derived.Outline
import Derived.RegionTactic
namespace Go.Proofs.YtfblpakoibadoaaDoor.Ck
open Go Go.RowKit

/-- What a closure over a register has captured. -/
structure Mach (K : IntKind) (tR tS : TypeId) (Bt len : Nat) (tab : Nat → Nat) (wd : Nat) (lo : Nat) (Br Bw Bb Bl : Nat) (r : Nat) (w : World) : Prop where
  reg : w.heap[Br]? = some (.cells #[.int K (r : Int)] tR (0, 0))
  wid : w.heap[Bw]? = some (.cells #[.int .i64 (wd : Int)] 3 (0, 0))
  beh : w.heap[Bb]? = some (.cells #[.slice (some ⟨Bt, 0, none⟩) len len] tS (0, 0))
  low : w.heap[Bl]? = some (.cells #[.int K (lo : Int)] tR (0, 0))
  tab : ∀ j, j < len → w.cell? ⟨Bt, j, none⟩ = some (.int K (tab j : Int))
  nw : Br ≠ Bw
  nb : Br ≠ Bb
  nl : Br ≠ Bl
  nt : Br ≠ Bt

def tab5 (j : Nat) : Nat := if j = 0 then 0 else 20

theorem grown_refl (w : World) (r : Option Nat) : w.grownBy w r := ⟨rfl, rfl, rfl, Nat.le_refl _, fun _ _ _ => rfl⟩
theorem grown_trans {a b c : World} {r : Option Nat} (h : a.grownBy b r) (k : b.grownBy c r) : a.grownBy c r :=
  ⟨k.os.trans h.os, k.tape.trans h.tape, k.output.trans h.output, Nat.le_trans h.size k.size, fun i hi hn => (k.block i (Nat.lt_of_lt_of_le hi h.size) hn).trans (h.block i hi hn)⟩
theorem grown_drew {a b : World} {r : Option Nat} (h : a.grownBy b r) : a.grownBy b.drew r := ⟨h.os, h.tape, h.output, h.size, h.block⟩

theorem bxor8 {a b : Nat} (ha : a < 256) (hb : b < 256) : bits .xor .u8 (a : Int) (b : Int) = ((a ^^^ b : Nat) : Int) := by
  have h : a ^^^ b < 2 ^ 8 := Nat.xor_lt_two_pow (by simpa using ha) (by simpa using hb)
  have e : bits .xor .u8 (a : Int) (b : Int) = IntKind.u8.wrap (((a % 2 ^ 8) ^^^ (b % 2 ^ 8) : Nat) : Int) := by
    simp only [bits, BitVec.ofInt_natCast, BitVec.toNat_xor, BitVec.toNat_ofNat]; rfl
  rw [e, Nat.mod_eq_of_lt (by omega : a < 2 ^ 8), Nat.mod_eq_of_lt (by omega : b < 2 ^ 8), IntKind.wrap_u8]
  omega
theorem band8 {a b : Nat} (ha : a < 256) (hb : b < 256) : bits .and .u8 (a : Int) (b : Int) = ((a &&& b : Nat) : Int) :=
  (bits_nat .u8 8 (by decide) wraps_u8 a b (by simpa using ha) (by simpa using hb)).1
theorem and_one' (x : Nat) : x &&& 1 = x % 2 := by
  exact Nat.and_two_pow_sub_one_eq_mod x 1

theorem grown_setCell (w : World) (p : Addr) (u : Value) : w.grownBy (w.setCell p u) (some p.block) :=
  ⟨rfl, rfl, rfl, by simp, fun k _ hn => Below.heap_setCell _ _ _ _ (fun e => hn (by rw [e]))⟩
/-- A store into the register. -/
theorem Mach.store {K : IntKind} {tR tS : TypeId} {Bt len : Nat} {tab : Nat → Nat} {wd lo Br Bw Bb Bl r : Nat} {w : World} (h : Mach K tR tS Bt len tab wd lo Br Bw Bb Bl r w) (R : Nat) :
    Mach K tR tS Bt len tab wd lo Br Bw Bb Bl R (w.drew.setCell ⟨Br, 0, none⟩ (.int K (R : Int))) ∧ w.grownBy (w.drew.setCell ⟨Br, 0, none⟩ (.int K (R : Int))) (some Br) := by
  have hg : w.drew.grownBy (w.drew.setCell ⟨Br, 0, none⟩ (.int K (R : Int))) (some Br) := grown_setCell _ _ _
  have hd : w.grownBy w.drew (some Br) := grown_drew (grown_refl w _)
  have hb : ∀ k o, k ≠ Br → w.heap[k]? = some o → (w.drew.setCell ⟨Br, 0, none⟩ (.int K (R : Int))).heap[k]? = some o := fun k o hk ho => by
    rw [hg.block k (lt_of_block ho) (fun e => hk (by injection e))]; exact ho
  refine ⟨⟨one_setCell h.reg, hb _ _ h.nw.symm h.wid, hb _ _ h.nb.symm h.beh, hb _ _ h.nl.symm h.low, fun j hj => ?_, h.nw, h.nb, h.nl, h.nt⟩, grown_trans hd hg⟩
  have := h.tab j hj
  rw [← this]
  exact World.cell?_setCell_other w.drew ⟨Br, 0, none⟩ ⟨Bt, j, none⟩ _ (fun e => h.nt (congrArg Addr.block e))

set_option maxHeartbeats 800000 in
set_option maxRecDepth 100000 in
theorem take5 (w : World) (Bt Br Bw Bb Bl r g : Nat) (h : Mach .u8 5 27 Bt 2 tab5 1 1 Br Bw Bb Bl r w) (hr : r < 32) (hg : g < 2) :
    Calls Tryd.prog 89 #[.int .u8 (g : Int), .pointer (some ⟨Br, 0, none⟩), .pointer (some ⟨Bw, 0, none⟩), .pointer (some ⟨Bb, 0, none⟩), .pointer (some ⟨Bl, 0, none⟩)] w
      fun e w' => e = .returned (.tuple #[]) ∧ Mach .u8 5 27 Bt 2 tab5 1 1 Br Bw Bb Bl (sS 20 (r ^^^ g)) w' ∧ w.grownBy w' (some Br) := by
  have c1 := cell_of_one h.reg
  have f1 := free_of_one h.reg
  have c2 := cell_of_one h.wid
  have c3 := cell_of_one h.beh
  have c4 := cell_of_one h.low
  have hx : r ^^^ g < 2 ^ 5 := Nat.xor_lt_two_pow (by simpa using hr) (by omega)
  have e1 := bxor8 (a := r) (b := g) (by omega) (by omega)
  have e2 : bits .and .u8 ((r ^^^ g : Nat) : Int) 1 = (((r ^^^ g) % 2 : Nat) : Int) := by
    have := band8 (a := r ^^^ g) (b := 1) (by omega) (by omega)
    rw [and_one'] at this
    exact this
  have hq : (r ^^^ g) % 2 < 2 := Nat.mod_lt _ (by omega)
  have c5 := h.tab ((r ^^^ g) % 2) hq
  have ht : tab5 ((r ^^^ g) % 2) = if (r ^^^ g) % 2 = 1 then 20 else 0 := by
    unfold tab5
    rcases (by omega : (r ^^^ g) % 2 = 0 ∨ (r ^^^ g) % 2 = 1) with h | h <;> rw [h] <;> rfl
  have hs : (r >>> 1) ^^^ tab5 ((r ^^^ g) % 2) = sS 20 (r ^^^ g) := by
    unfold sS
    rw [ht, Nat.shiftRight_xor_distrib, show g >>> 1 = 0 from by simp only [Nat.shiftRight_eq_div_pow]; omega, Nat.xor_zero]
  have e3 := bxor8 (a := r >>> 1) (b := tab5 ((r ^^^ g) % 2)) (by rw [Nat.shiftRight_eq_div_pow]; omega) (by rw [ht]; split <;> omega)
  rw [hs, show ((r >>> 1 : Nat) : Int) = (r : Int) / 2 from by rw [Nat.shiftRight_eq_div_pow]; omega] at e3
  generalize tab5 ((r ^^^ g) % 2) = T at c5 e3
  generalize sS 20 (r ^^^ g) = R at e3
  generalize (r ^^^ g) % 2 = q at e2 c5 hq
  generalize r ^^^ g = x at e1 e2
  go_enter Tryd.func89, Tryd.ntmps89
  go_wp2
  go_region
  all_goals (go_end0; exact ⟨rfl, h.store R⟩)

/-- The value of the closure that takes a group. -/
abbrev takeV (f Br Bw Bb Bl : Nat) : Value := .func (.func f) #[] #[.pointer (some ⟨Br, 0, none⟩), .pointer (some ⟨Bw, 0, none⟩), .pointer (some ⟨Bb, 0, none⟩), .pointer (some ⟨Bl, 0, none⟩)]

theorem st_succ (m r v k : Nat) : sN m (k + 1) (r ^^^ (v % 2 ^ (k + 1))) = sS m (sN m k (r ^^^ (v % 2 ^ k)) ^^^ (v / 2 ^ k % 2)) := by
  rw [Nat.mod_pow_succ, sN_take m k 1 r _ _ (Nat.mod_lt _ (Nat.two_pow_pos k))]
  rfl

theorem low_bit8 (v k : Nat) : bits .and .u8 ((v : Int) / 2 ^ k % 256) 1 = ((v / 2 ^ k % 2 : Nat) : Int) := by
  have h1 : (v : Int) / 2 ^ k % 256 = ((v / 2 ^ k % 256 : Nat) : Int) := by simp only [Int.natCast_emod, Int.natCast_ediv, Int.natCast_pow]; rfl
  have := band8 (a := v / 2 ^ k % 256) (b := 1) (Nat.mod_lt _ (by omega)) (by omega)
  rw [and_one', show v / 2 ^ k % 256 % 2 = v / 2 ^ k % 2 from by omega] at this
  rw [h1]
  exact this

set_option maxHeartbeats 800000 in
set_option maxRecDepth 100000 in
theorem send5 (w : World) (Bt Br Bw Bb Bl Bn Bv n v : Nat) (h : Mach .u8 5 27 Bt 2 tab5 1 1 Br Bw Bb Bl 31 w) (hn : n ≤ 29) (hv : v < 2 ^ n)
    (cn : w.heap[Bn]? = some (.cells #[.int .i64 (n : Int)] 3 (0, 0))) (cv : w.heap[Bv]? = some (.cells #[.int .u32 (v : Int)] 72 (0, 0))) (nn : Br ≠ Bn) (nv : Br ≠ Bv) :
    Calls Tryd.prog 82 #[takeV 89 Br Bw Bb Bl, .pointer (some ⟨Bn, 0, none⟩), .pointer (some ⟨Bv, 0, none⟩)] w
      fun e w' => e = .returned (.tuple #[]) ∧ Mach .u8 5 27 Bt 2 tab5 1 1 Br Bw Bb Bl (sN 20 n (31 ^^^ v)) w' ∧ w.grownBy w' (some Br) := by
  have c1 := cell_of_one cn
  go_enter Tryd.func82, Tryd.ntmps82
  go_wp2
  go_loopw [4, 6] (fun _ i wr => ∃ k : Nat, k ≤ n ∧ i = .int .i64 k ∧ Mach .u8 5 27 Bt 2 tab5 1 1 Br Bw Bb Bl (sN 20 k (31 ^^^ (v % 2 ^ k))) wr ∧ w.grownBy wr (some Br)) (fun _ i _ => n - (intOf i).toNat)
  case atStart => exact ⟨0, Nat.zero_le _, rfl, by simpa [Nat.mod_one, sN] using h, grown_refl _ _⟩
  case round =>
    obtain ⟨k, hk, rfl, hm, hg⟩ := hrel
    by_cases hlt : k < n
    · have c2 : wr.cell? ⟨Bv, 0, none⟩ = some (.int .u32 (v : Int)) := by
        rw [World.cell?_of_block (hg.block Bv (lt_of_block cv) (fun e => nv (by injection e with e; exact e.symm)))]; exact cell_of_one cv
      have e1 := low_bit8 v k
      have hst : sN 20 k (31 ^^^ (v % 2 ^ k)) < 32 := sN_taken (d := 5) (by decide) (Nat.mod_lt _ (Nat.two_pow_pos k))
      have hs := st_succ 20 31 v k
      have Hs := Lib.hid hs
      clear hs
      generalize sN 20 k (31 ^^^ (v % 2 ^ k)) = r at hm hst Hs
      go_wp2_with fail
      rw [show (v : Int) / 2 ^ k % 2 = ((v / 2 ^ k % 2 : Nat) : Int) from by simp only [Int.natCast_emod, Int.natCast_ediv, Int.natCast_pow]; rfl]
      refine (take5 wr Bt Br Bw Bb Bl r (v / 2 ^ k % 2) hm hst (Nat.mod_lt _ (by omega))).mono ?_
      rintro e w1 ⟨rfl, hm1, hg1⟩
      rw [← Hs.out] at hm1
      clear Hs e1
      go_wp2
      go_roundw
      case rel => exact ⟨k + 1, by omega, by go_num, hm1, grown_trans hg hg1⟩
      case measure => simp [intOf]; omega
    · have hk9 : k = n := by omega
      subst hk9
      rw [Nat.mod_eq_of_lt hv] at hm
      go_wp2
      go_end0
      exact ⟨rfl, hm, hg⟩

end Go.Proofs.YtfblpakoibadoaaDoor.Ck

namespace Go.Proofs.YtfblpakoibadoaaDoor.Ck
open Go Go.RowKit

set_option maxHeartbeats 800000 in
set_option maxRecDepth 100000 in
theorem len64_1 (w : World) : Calls Tryd.prog 91 #[.int .u64 1] w fun e w' => e = .returned (.int .i64 1) ∧ w' = w := by
  go_enter Tryd.func91, Tryd.ntmps91
  go_wp2
  go_ret
  exact ⟨by kernel_rfl, rfl⟩
set_option maxHeartbeats 800000 in
set_option maxRecDepth 100000 in
theorem len64_15 (w : World) : Calls Tryd.prog 91 #[.int .u64 15] w fun e w' => e = .returned (.int .i64 4) ∧ w' = w := by
  go_enter Tryd.func91, Tryd.ntmps91
  go_wp2
  go_ret
  exact ⟨by kernel_rfl, rfl⟩
set_option maxHeartbeats 800000 in
set_option maxRecDepth 100000 in
theorem len_1 (w : World) : Calls Tryd.prog 87 #[.int .u64 1] w fun e w' => e = .returned (.int .i64 1) ∧ w' = w := by
  go_enter Tryd.func87, Tryd.ntmps87
  go_wp2_with fail
  refine (len64_1 w).mono ?_
  rintro e w1 ⟨rfl, rfl⟩
  go_wp2
  go_ret
  exact ⟨rfl, rfl⟩
set_option maxHeartbeats 800000 in
set_option maxRecDepth 100000 in
theorem len_15 (w : World) : Calls Tryd.prog 87 #[.int .u64 15] w fun e w' => e = .returned (.int .i64 4) ∧ w' = w := by
  go_enter Tryd.func87, Tryd.ntmps87
  go_wp2_with fail
  refine (len64_15 w).mono ?_
  rintro e w1 ⟨rfl, rfl⟩
  go_wp2
  go_ret
  exact ⟨rfl, rfl⟩

end Go.Proofs.YtfblpakoibadoaaDoor.Ck

namespace Go.Proofs.YtfblpakoibadoaaDoor.Ck
open Go Go.RowKit

/-- The four blocks that are new behind the boxes. -/
abbrev four (w : World) (K : IntKind) (tR tS : TypeId) (Bt len wd lo r : Nat) : World :=
  (((w.alloc (.cells #[.int K (r : Int)] tR)).alloc (.cells #[.slice (some ⟨Bt, 0, none⟩) len len] tS)).alloc (.cells #[.int K (lo : Int)] tR)).alloc (.cells #[.int .i64 (wd : Int)] 3)
theorem four_below (w : World) (K : IntKind) (tR tS : TypeId) (Bt len wd lo r : Nat) : Below w.heap.size w (four w K tR tS Bt len wd lo r) :=
  (((((Below.refl w.heap.size w).alloc (Nat.le_refl _) _).alloc (by simp) _).alloc (by simp; omega) _).alloc (by simp; omega) _)
theorem mach_new (w : World) (K : IntKind) (tR tS : TypeId) (Bt len : Nat) (tab : Nat → Nat) (wd lo r : Nat) (ht : Bt < w.heap.size) (htab : ∀ j, j < len → w.cell? ⟨Bt, j, none⟩ = some (.int K (tab j : Int))) :
    Mach K tR tS Bt len tab wd lo w.heap.size (w.heap.size + 1 + 1 + 1) (w.heap.size + 1) (w.heap.size + 1 + 1) r (four w K tR tS Bt len wd lo r) := by
  have hsz : ∀ (W : World) (o : Obj), (W.alloc o).heap.size = W.heap.size + 1 := fun W o => by simp
  have h0 : ∀ (W : World) (o o' : Obj) (k : Nat), W.heap[k]? = some o' → (W.alloc o).heap[k]? = some o' := fun W o o' k h => (Below.heap_alloc W o k (lt_of_block h)).trans h
  refine ⟨?_, ?_, ?_, ?_, fun j hj => ?_, by omega, by omega, by omega, by omega⟩
  · exact h0 _ _ _ _ (h0 _ _ _ _ (h0 _ _ _ _ (heap_alloc_new w _)))
  · have := heap_alloc_new (((w.alloc (.cells #[.int K (r : Int)] tR)).alloc (.cells #[.slice (some ⟨Bt, 0, none⟩) len len] tS)).alloc (.cells #[.int K (lo : Int)] tR)) (.cells #[.int .i64 (wd : Int)] 3)
    rwa [hsz, hsz, hsz] at this
  · have := heap_alloc_new (w.alloc (.cells #[.int K (r : Int)] tR)) (.cells #[.slice (some ⟨Bt, 0, none⟩) len len] tS)
    rw [hsz] at this
    exact h0 _ _ _ _ (h0 _ _ _ _ this)
  · have := heap_alloc_new ((w.alloc (.cells #[.int K (r : Int)] tR)).alloc (.cells #[.slice (some ⟨Bt, 0, none⟩) len len] tS)) (.cells #[.int K (lo : Int)] tR)
    rw [hsz, hsz] at this
    exact h0 _ _ _ _ this
  · exact ((four_below w K tR tS Bt len wd lo r).cell (p := ⟨Bt, j, none⟩) ht).trans (htab j hj)

set_option maxHeartbeats 800000 in
set_option maxRecDepth 100000 in
theorem reg5 (w : World) (Bt Bn Bv n v : Nat) (hn : n ≤ 29) (hv : v < 2 ^ n) (ht : Bt < w.heap.size) (tab : ∀ j, j < 2 → w.cell? ⟨Bt, j, none⟩ = some (.int .u8 (tab5 j : Int)))
    (cn : w.heap[Bn]? = some (.cells #[.int .i64 (n : Int)] 3 (0, 0))) (cv : w.heap[Bv]? = some (.cells #[.int .u32 (v : Int)] 72 (0, 0))) :
    Calls Tryd.prog 81 #[.int .u8 31, .slice (some ⟨Bt, 0, none⟩) 2 2, .func (.func 82) #[] #[.pointer (some ⟨Bn, 0, none⟩), .pointer (some ⟨Bv, 0, none⟩)]] w
      fun e w' => e = .returned (.int .u8 (sN 20 n (31 ^^^ v) : Int)) ∧ Below w.heap.size w w' := by
  have hmf : ∀ (fn : Fn) (first cap : Array Value) (w : World), (Instr.makeFunc fn first cap).run Tryd.prog w = .ok (.func fn first cap) w := fun _ _ _ _ => rfl
  go_enter Tryd.func81, Tryd.ntmps81
  go_wp2_with fail
  refine (len_1 _).mono ?_
  rintro e w1 ⟨rfl, rfl⟩
  go_wp2_with fail
  have hB := four_below w .u8 5 27 Bt 2 1 1 31
  refine (send5 _ Bt w.heap.size (w.heap.size + 1 + 1 + 1) (w.heap.size + 1) (w.heap.size + 1 + 1) Bn Bv n v (mach_new w .u8 5 27 Bt 2 tab5 1 1 31 ht tab) hn hv ((hB.block _ (lt_of_block cn)).trans cn) ((hB.block _ (lt_of_block cv)).trans cv)
    (fun e => by have := lt_of_block cn; omega) (fun e => by have := lt_of_block cv; omega)).mono ?_
  rintro e w2 ⟨rfl, hm, hg⟩
  have c1 := cell_of_one hm.reg
  go_wp2
  go_ret
  exact ⟨rfl, hB.grown hg hB.size fun k e => by cases e; exact Nat.le_refl _⟩

end Go.Proofs.YtfblpakoibadoaaDoor.Ck

namespace Go.Proofs.YtfblpakoibadoaaDoor.Ck
open Go Go.RowKit

def tabL16 : List Nat := [0, 52225, 55297, 5120, 61441, 15360, 10240, 58369, 40961, 27648, 30720, 46081, 20480, 39937, 34817, 17408]
def tab16 (j : Nat) : Nat := tabL16.getD j 0
/-- The two tables hold what the text lays. -/
structure Laid (w : World) : Prop where
  one : ∀ j, j < 2 → w.cell? ⟨4, j, none⟩ = some (.int .u8 (tab5 j : Int))
  four : ∀ j, j < 16 → w.cell? ⟨3, j, none⟩ = some (.int .u16 (tab16 j : Int))
theorem Laid.below {w w' : World} (h : Laid w) (hb : Below w.heap.size w w') : Laid w' :=
  ⟨fun j hj => (hb.cell (World.block_lt_of_cell? _ _ (h.one j hj))).trans (h.one j hj), fun j hj => (hb.cell (World.block_lt_of_cell? _ _ (h.four j hj))).trans (h.four j hj)⟩

set_option maxHeartbeats 800000 in
set_option maxRecDepth 100000 in
theorem five_any (w : World) (hL : Laid w) (n v : Nat) (hn : n ≤ 29) (hv : v < 2 ^ n) :
    Calls Tryd.prog 53 #[.int .u32 (v : Int), .int .i64 (n : Int)] w
      fun e w' => e = .returned (.int .u8 (chk 20 5 n v : Int)) ∧ Below w.heap.size w w' := by
  have hmf : ∀ (fn : Fn) (first cap : Array Value) (w : World), (Instr.makeFunc fn first cap).run Tryd.prog w = .ok (.func fn first cap) w := fun _ _ _ _ => rfl
  have hb2 := ((Below.refl w.heap.size w).alloc (Nat.le_refl _) (.cells #[.int .u32 (v : Int)] 72)).alloc (by simp) (.cells #[.int .i64 (n : Int)] 3)
  have hL2 := hL.below hb2
  have s0 : ((w.alloc (.cells #[.int .u32 (v : Int)] 72)).alloc (.cells #[.int .i64 (n : Int)] 3)).cell? ⟨4, 0, none⟩ = some (.int .u8 0) := hL2.one 0 (by omega)
  have s1 : ((w.alloc (.cells #[.int .u32 (v : Int)] 72)).alloc (.cells #[.int .i64 (n : Int)] 3)).cell? ⟨4, 1, none⟩ = some (.int .u8 20) := hL2.one 1 (by omega)
  go_enter Tryd.func53, Tryd.ntmps53
  go_wp2_with fail
  have h0 : ∀ (W : World) (o o' : Obj) (k : Nat), W.heap[k]? = some o' → (W.alloc o).heap[k]? = some o' := fun W o o' k h => (Below.heap_alloc W o k (lt_of_block h)).trans h
  have cv := h0 _ (.cells #[.int .u8 0, .int .u8 20] 105) _ _ (h0 _ (.cells #[.int .i64 (n : Int)] 3) _ _ (heap_alloc_new w (.cells #[.int .u32 (v : Int)] 72)))
  have cn := h0 _ (.cells #[.int .u8 0, .int .u8 20] 105) _ _ (heap_alloc_new (w.alloc (.cells #[.int .u32 (v : Int)] 72)) (.cells #[.int .i64 (n : Int)] 3))
  have ct := heap_alloc_new ((w.alloc (.cells #[.int .u32 (v : Int)] 72)).alloc (.cells #[.int .i64 (n : Int)] 3)) (.cells #[.int .u8 0, .int .u8 20] 105)
  have hz1 : (w.alloc (.cells #[.int .u32 (v : Int)] 72)).heap.size = w.heap.size + 1 := by simp
  have hz2 : ((w.alloc (.cells #[.int .u32 (v : Int)] 72)).alloc (.cells #[.int .i64 (n : Int)] 3)).heap.size = w.heap.size + 1 + 1 := by simp
  rw [hz1] at cn
  rw [hz2] at ct
  have hb3 := hb2.alloc (by simp; omega) (.cells #[.int .u8 0, .int .u8 20] 105)
  refine (reg5 _ (w.heap.size + 1 + 1) (w.heap.size + 1) w.heap.size n v hn hv (lt_of_block ct) ?_ cn cv).mono ?_
  · intro j hj
    rw [cell_of_row _ _ _ _ _ _ ct]
    rcases (by omega : j = 0 ∨ j = 1) with rfl | rfl <;> rfl
  rintro e w2 ⟨rfl, hb4⟩
  have hlt : sN 20 n (31 ^^^ v) < 2 ^ 5 := sN_taken (d := 5) (by decide) hv
  have e1 : bits .xor .u8 (sN 20 n (31 ^^^ v) : Int) 31 = (chk 20 5 n v : Int) := bxor8 (b := 31) (by omega) (by omega)
  generalize sN 20 n (31 ^^^ v) = r at e1
  go_wp2
  go_ret
  exact ⟨rfl, hb3.trans (hb4.mono hb3.size)⟩

end Go.Proofs.YtfblpakoibadoaaDoor.Ck

