/-
  Helper text: packets without data are read from their bytes; no statement is proved here.
-/
import Derived.Test.YtfblpakoibadoaaDoorDecD
namespace Go.Proofs.YtfblpakoibadoaaDoor
open Go Go.RowKit

/-- Bytes as one number, the lowest byte first. -/
def leL : List UInt8 → Nat
  | [] => 0
  | b :: bs => b.toNat + 256 * leL bs
theorem leL_append (xs ys : List UInt8) : leL (xs ++ ys) = leL xs + 2 ^ (8 * xs.length) * leL ys := by
  induction xs with
  | nil => simp [leL]
  | cons x xs ih =>
    rw [List.cons_append]
    show x.toNat + 256 * leL (xs ++ ys) = x.toNat + 256 * leL xs + 2 ^ (8 * (xs.length + 1)) * leL ys
    rw [ih, show 8 * (xs.length + 1) = 8 * xs.length + 8 from by omega, Nat.pow_add, Nat.mul_add, ← Nat.mul_assoc, Nat.mul_comm 256 (2 ^ (8 * xs.length)), Nat.add_assoc]
theorem leL_lt (xs : List UInt8) : leL xs < 2 ^ (8 * xs.length) := by
  induction xs with
  | nil => exact Nat.one_pos
  | cons x xs ih =>
    show x.toNat + 256 * leL xs < 2 ^ (8 * (xs.length + 1))
    have := x.toNat_lt
    rw [show 8 * (xs.length + 1) = 8 * xs.length + 8 from by omega, Nat.pow_add]
    omega
theorem leL_snoc (zs : List UInt8) {k : Nat} (h : k < zs.length) : leL (zs.take (k + 1)) = leL (zs.take k) ||| (zs.getD k 0).toNat * 2 ^ (8 * k) := by
  have hl : (zs.take k).length = k := by rw [List.length_take]; omega
  have h1 := leL_lt (zs.take k)
  rw [hl] at h1
  rw [take_snoc zs h, leL_append, hl, orA h1]
  show _ + 2 ^ (8 * k) * ((zs.getD k 0).toNat + 256 * 0) = _
  rw [Nat.mul_zero, Nat.add_zero, Nat.mul_comm]

set_option maxHeartbeats 800000 in
set_option maxRecDepth 100000 in
theorem decN_width (w : World) (p : Nat) (hp : p < 256) (A : Option Addr) (n c : Nat) (fs : List Fd) (hf : fieldsL p = fs) (hn : fs.length ≤ 100) (h : n ≠ nbytes fs) :
    Calls Tryd.prog 26 #[.int .u8 (p : Int), .slice A n c] w (ResPk w (bare 0) [] 5) := by
  have KF := Lib.hid fun W => fieldsOf_any W p hp
  rw [hf] at KF
  have KN := Lib.hid fun W A h => numberBytes_any W A fs h hn
  have hb := Lib.hid ((Below.refl w.heap.size w).alloc (Nat.le_refl _) (.cells (pcells (bare 0)) 29))
  have hr := Lib.hid (heap_alloc_new w (.cells (pcells (bare 0)) 29))
  have t0 : ((n : Int) == (nbytes fs : Int)) = false := by rw [beq_eq_false_iff_ne]; omega
  have t1 : ((n : Int) != (nbytes fs : Int)) = true := by rw [bne, t0]; rfl
  generalize nbytes fs = nb at KN t0 t1
  clear hf h t0
  go_enter Tryd.func26, Tryd.ntmps26
  go_wp2_with fail
  refine (KF.out _).mono ?_
  rintro e w1 ⟨A1, rfl, hF1, hB1, _⟩
  have hF1 := Lib.hid hF1
  have hr1 := Lib.hid ((hB1.block _ (lt_of_block hr.out)).trans hr.out)
  have hb1 := Lib.hid (hb.out.trans (hB1.mono hb.out.size))
  clear hB1 hb hr
  go_wp2_with fail
  refine (KN.out _ A1 hF1.out).mono ?_
  rintro e w2 ⟨rfl, hB2⟩
  have hr2 := Lib.hid ((hB2.block _ (lt_of_block hr1.out)).trans hr1.out)
  have hb2 := Lib.hid (hb1.out.trans (hB2.mono hb1.out.size))
  clear hB2 hb1 hr1
  have r0 : w2.cell? ⟨w.heap.size, 0, none⟩ = some (.int .u8 0) := cell_at hr2.out 0
  have r1 : w2.cell? ⟨w.heap.size, 1, none⟩ = some (.int .u8 0) := cell_at hr2.out 1
  have r2 : w2.cell? ⟨w.heap.size, 2, none⟩ = some (.int .u8 0) := cell_at hr2.out 2
  have r3 : w2.cell? ⟨w.heap.size, 3, none⟩ = some (.int .u16 0) := cell_at hr2.out 3
  have r4 : w2.cell? ⟨w.heap.size, 4, none⟩ = some (.int .u8 0) := cell_at hr2.out 4
  have r5 : w2.cell? ⟨w.heap.size, 5, none⟩ = some (.int .u8 0) := cell_at hr2.out 5
  have r6 : w2.cell? ⟨w.heap.size, 6, none⟩ = some (.bool false) := cell_at hr2.out 6
  have r7 : w2.cell? ⟨w.heap.size, 7, none⟩ = some (.bool false) := cell_at hr2.out 7
  have r8 : w2.cell? ⟨w.heap.size, 8, none⟩ = some (.int .u8 0) := cell_at hr2.out 8
  have r9 : w2.cell? ⟨w.heap.size, 9, none⟩ = some (.slice none 0 0) := cell_at hr2.out 9
  have fR : ∀ i, w2.frozen? ⟨w.heap.size, i, none⟩ = false := fun i => by simp [World.frozen?, hr2.out]
  have hb10 := Lib.hid (fun v0 v1 v2 v3 v4 v5 v6 v7 v8 v9 => below10 v0 v1 v2 v3 v4 v5 v6 v7 v8 v9 hb2.out (Nat.le_refl w.heap.size))
  go_wp2
  refine bodyPost_ret (results_row_tmp rfl _ _ w.heap.size _ _ _ _ rfl (store10 _ _ _ _ _ _ _ _ _ _ _ _ _ _ _ _ _ _ _ _ hr2.out) Tryd.underlying29 rfl (by kernel_rfl)) rfl ?_
  exact resPk_none w 0 5 _ (hb10.out _ _ _ _ _ _ _ _ _ _)

set_option maxHeartbeats 800000 in
set_option maxRecDepth 100000 in
theorem decN_none (w : World) (p : Nat) (hp : p < 256) (A : Option Addr) (c : Nat) (hf : fieldsL p = []) :
    Calls Tryd.prog 26 #[.int .u8 (p : Int), .slice A 0 c] w (ResPk w (bare p) [] 0) := by
  have KF := Lib.hid fun W => fieldsOf_any W p hp
  rw [hf] at KF
  have KN := Lib.hid fun W A h => numberBytes_any W A [] h (by simp)
  rw [show nbytes [] = 0 from rfl] at KN
  simp only [List.length_nil] at KN
  have hb := Lib.hid ((Below.refl w.heap.size w).alloc (Nat.le_refl _) (.cells (pcells (bare 0)) 29))
  have hr := Lib.hid (heap_alloc_new w (.cells (pcells (bare 0)) 29))
  clear hf
  go_enter Tryd.func26, Tryd.ntmps26
  go_wp2_with fail
  refine (KF.out _).mono ?_
  rintro e w1 ⟨A1, rfl, hF1, hB1, _⟩
  have hF1 := Lib.hid hF1
  have hr1 := Lib.hid ((hB1.block _ (lt_of_block hr.out)).trans hr.out)
  have hb1 := Lib.hid (hb.out.trans (hB1.mono hb.out.size))
  clear hB1 hb hr
  simp only [List.length_nil]
  go_wp2_with fail
  refine (KN.out _ A1 hF1.out).mono ?_
  rintro e w2 ⟨rfl, hB2⟩
  have hr2 := Lib.hid ((hB2.block _ (lt_of_block hr1.out)).trans hr1.out)
  have hb2 := Lib.hid (hb1.out.trans (hB2.mono hb1.out.size))
  have hlt := lt_of_block hr2.out
  clear hB2 hb1 hr1
  have r0 : w2.cell? ⟨w.heap.size, 0, none⟩ = some (.int .u8 0) := cell_at hr2.out 0
  have r1 : w2.cell? ⟨w.heap.size, 1, none⟩ = some (.int .u8 0) := cell_at hr2.out 1
  have r2 : w2.cell? ⟨w.heap.size, 2, none⟩ = some (.int .u8 0) := cell_at hr2.out 2
  have r3 : w2.cell? ⟨w.heap.size, 3, none⟩ = some (.int .u16 0) := cell_at hr2.out 3
  have r4 : w2.cell? ⟨w.heap.size, 4, none⟩ = some (.int .u8 0) := cell_at hr2.out 4
  have r5 : w2.cell? ⟨w.heap.size, 5, none⟩ = some (.int .u8 0) := cell_at hr2.out 5
  have r6 : w2.cell? ⟨w.heap.size, 6, none⟩ = some (.bool false) := cell_at hr2.out 6
  have r7 : w2.cell? ⟨w.heap.size, 7, none⟩ = some (.bool false) := cell_at hr2.out 7
  have r8 : w2.cell? ⟨w.heap.size, 8, none⟩ = some (.int .u8 0) := cell_at hr2.out 8
  have r9 : w2.cell? ⟨w.heap.size, 9, none⟩ = some (.slice none 0 0) := cell_at hr2.out 9
  have fR : ∀ i, w2.frozen? ⟨w.heap.size, i, none⟩ = false := fun i => by simp [World.frozen?, hr2.out]
  have hb10 := Lib.hid (fun v0 v1 v2 v3 v4 v5 v6 v7 v8 v9 => below10 v0 v1 v2 v3 v4 v5 v6 v7 v8 v9 hb2.out (Nat.le_refl w.heap.size))
  have h0h := Lib.hid (fun (W : World) (o o' : Obj) (k : Nat) (h : W.heap[k]? = some o') => (Below.heap_alloc W o k (lt_of_block h)).trans h)
  go_wp2
  refine bodyPost_ret (results_row_tmp rfl _ _ w.heap.size _ _ _ _ rfl (h0h.out _ _ _ _ (store10 _ _ _ _ _ _ _ _ _ _ _ _ _ _ _ _ _ _ _ _ hr2.out)) Tryd.underlying29 rfl (by kernel_rfl)) rfl ?_
  exact resPk_none w p 0 _ ((hb10.out _ _ _ _ _ _ _ _ _ _).alloc (hb10.out _ _ _ _ _ _ _ _ _ _).size _)

set_option maxHeartbeats 3200000 in
set_option maxRecDepth 100000 in
theorem decN_core (w : World) (hL : Laid w) (p : Nat) (hp : p < 256) (A : Option Addr) (c : Nat) (zs : List UInt8) (hx : Rd w w.heap.size A c zs) (fs : List Fd) (hf : fieldsL p = fs) (h0 : 0 < fs.length) (n J v : Nat) (E0 : Int) (hpn : placeN fs fs.length = n) (hn : n ≤ 19)
    (hz : zs.length = nbytes fs) (hz3 : zs.length ≤ 3) (hJ : leL zs = J) (E : Nat) (R : Rg) (hv32 : v < 2 ^ 32)
    (KT : ∀ W, Laid W → Calls Tryd.prog 42 #[.int .u32 (J : Int), .int .i64 ((n + 5 : Nat) : Int)] W (Ck.ResN W .u32 v E0))
    (hE : (E0 = 10 ∧ E = 10 ∧ R = bare 0) ∨ (E0 = 0 ∧ (unpackN fs v (bare p) fs.length).spare ≠ 0 ∧ E = 4 ∧ R = bare 0) ∨ (E0 = 0 ∧ (unpackN fs v (bare p) fs.length).spare = 0 ∧ E = 0 ∧ R = unpackN fs v (bare p) fs.length)) :
    Calls Tryd.prog 26 #[.int .u8 (p : Int), .slice A zs.length c] w (ResPk w R [] E) := by
  have hlen100 : fs.length ≤ 100 := by rw [← hf]; exact fields_len p
  have hpl := fields_place p
  rw [hf] at hpl
  have KF := Lib.hid fun W => fieldsOf_any W p hp
  rw [hf] at KF
  have KN := Lib.hid fun W A h => numberBytes_any W A fs h hlen100
  rw [← hz] at KN
  have KW := Lib.hid fun W A h => widthOf_any W A fs h hlen100
  rw [hpn] at KW
  have KU := Lib.hid fun W B A h1 h2 h3 => unpack_any W B (bare p) A fs v hv32 h1 h2 hlen100 hpl h3
  have KTh := Lib.hid KT
  have hEh := Lib.hid hE
  have hJh := Lib.hid hJ
  have hLh := Lib.hid hL
  have hxh := Lib.hid hx
  have hb := Lib.hid ((Below.refl w.heap.size w).alloc (Nat.le_refl _) (.cells (pcells (bare 0)) 29))
  have hr := Lib.hid (heap_alloc_new w (.cells (pcells (bare 0)) 29))
  have h0h := Lib.hid (fun (W : World) (o o' : Obj) (k : Nat) (h : W.heap[k]? = some o') => (Below.heap_alloc W o k (lt_of_block h)).trans h)
  have t1 : ((fs.length : Int) == 0) = false := by rw [beq_eq_false_iff_ne]; omega
  have t2 : (((zs.length : Nat) : Int) != ((zs.length : Nat) : Int)) = false := by rw [bne, beq_self_eq_true]; rfl
  have t3 := Lib.hid (show (n : Int) + 5 = ((n + 5 : Nat) : Int) by omega)
  clear hf hz hpl hpn KT hE hJ hL hx
  go_enter Tryd.func26, Tryd.ntmps26
  go_wp2_with fail
  refine (KF.out _).mono ?_
  rintro e w1 ⟨A1, rfl, hF1, hB1, _⟩
  have hF1 := Lib.hid hF1
  have hr1 := Lib.hid ((hB1.block _ (lt_of_block hr.out)).trans hr.out)
  have hb1 := Lib.hid (hb.out.trans (hB1.mono hb.out.size))
  clear hB1 hb hr
  go_wp2_with fail
  refine (KN.out _ A1 hF1.out).mono ?_
  rintro e w2 ⟨rfl, hB2⟩
  have hr2 := Lib.hid ((hB2.block _ (lt_of_block hr1.out)).trans hr1.out)
  have hb2 := Lib.hid (hb1.out.trans (hB2.mono hb1.out.size))
  have hF2 := Lib.hid (hF1.out.below hB2)
  have hLn := Lib.hid (heap_alloc_new w2 (.cells (rcells (bare p)) 78))
  have hbL := Lib.hid ((Below.refl w2.heap.size w2).alloc (Nat.le_refl _) (.cells (rcells (bare p)) 78))
  clear hB2 hb1 hr1 hF1
  go_wp2
  replace hLn : Hid ((w2.alloc (.cells #[.int .u8 (p : Int), .int .u8 0, .int .u8 0, .int .u16 0, .int .u8 0, .int .u8 0, .bool false, .bool false, .int .u8 0, .slice none 0 0, .int .u32 0] 78)).heap[w2.heap.size]? = some (.cells (rcells (bare p)) 78 (0, 0))) := hLn
  replace hbL : Hid (Below w2.heap.size w2 (w2.alloc (.cells #[.int .u8 (p : Int), .int .u8 0, .int .u8 0, .int .u16 0, .int .u8 0, .int .u8 0, .bool false, .bool false, .int .u8 0, .slice none 0 0, .int .u32 0] 78))) := hbL
  generalize hW3 : w2.alloc (.cells #[.int .u8 (p : Int), .int .u8 0, .int .u8 0, .int .u16 0, .int .u8 0, .int .u8 0, .bool false, .bool false, .int .u8 0, .slice none 0 0, .int .u32 0] 78) = W3 at hLn hbL ⊢
  clear hW3
  go_loopw [8, 31] (fun j i wr => ∃ k : Nat, k ≤ zs.length ∧ i = .int .i64 k ∧ j = .int .u32 (leL (zs.take k) : Int) ∧ wr = W3) (fun _ i _ => zs.length - (intOf i).toNat)
  case atStart => exact ⟨0, Nat.zero_le _, rfl, rfl, rfl⟩
  case round =>
    obtain ⟨k, hk, rfl, rfl, rfl⟩ := hrel
    by_cases hlt : k < zs.length
    · have hrd : Rd wr wr.heap.size A c zs := (hxh.out.belowTop hb2.out).belowTop hbL.out
      obtain ⟨b, off, rfl, hbB, hcell⟩ := hrd.at_ hlt
      have hsn := leL_snoc zs hlt
      have hle1 : leL (zs.take k) < 2 ^ 32 := Nat.lt_of_lt_of_le (leL_lt _) (Nat.pow_le_pow_right (by omega) (by rw [List.length_take]; omega))
      generalize zs.getD k 0 = z8 at hcell hsn
      have hxl : z8.toNat < 256 := z8.toNat_lt
      replace hcell : wr.cell? ⟨b, off + k, none⟩ = some (.int .u8 (z8.toNat : Int)) := hcell
      generalize z8.toNat = x at hcell hsn hxl
      have hp8 : 2 ^ (8 * k) ≤ 2 ^ 16 := Nat.pow_le_pow_right (by omega) (by omega)
      have hxm : x * 2 ^ (8 * k) < 2 ^ 32 := by
        have := Nat.mul_le_mul (show x ≤ 255 by omega) hp8
        omega
      have hor := Lib.hid (bor32 (a := leL (zs.take k)) (b := x * 2 ^ (8 * k)) hle1 hxm)
      rw [← hsn] at hor
      have hsh := Lib.hid (show (x : Int) * 2 ^ (8 * k) % 4294967296 = ((x * 2 ^ (8 * k) : Nat) : Int) by
        rw [show (x : Int) * 2 ^ (8 * k) = ((x * 2 ^ (8 * k) : Nat) : Int) from by rw [Int.natCast_mul, Int.natCast_pow]; rfl]
        omega)
      have h8 : (8 * (k : Int)).toNat = 8 * k := by omega
      clear hsn
      generalize leL (zs.take k) = y at hor ⊢
      go_wp2
      exact ⟨⟨k + 1, by omega, by go_num, by rw [hsh.out, hor.out], trivial⟩, by simp [intOf]; omega⟩
    · obtain rfl : k = zs.length := by omega
      rw [List.take_length, hJh.out]
      have hr3 := Lib.hid ((hbL.out.block _ (lt_of_block hr2.out)).trans hr2.out)
      have hb3 := Lib.hid (hb2.out.trans (hbL.out.mono hb2.out.size))
      have hF3 := Lib.hid (hF2.out.below hbL.out)
      go_wp2_with fail
      refine (KW.out _ A1 hF3.out).mono ?_
      rintro e w4 ⟨rfl, hB4⟩
      have hr4 := Lib.hid ((hB4.block _ (lt_of_block hr3.out)).trans hr3.out)
      have hb4 := Lib.hid (hb3.out.trans (hB4.mono hb3.out.size))
      have hF4 := Lib.hid (hF3.out.below hB4)
      have hL4 := Lib.hid ((hB4.block _ (lt_of_block hLn.out)).trans hLn.out)
      clear hB4 hr3 hb3 hF3
      go_wp2_with fail
      rw [t3.out]
      refine (KTh.out w4 (hLh.out.below hb4.out)).mono ?_
      rintro e w5 ⟨rfl, hB5⟩
      have hr5 := Lib.hid ((hB5.block _ (lt_of_block hr4.out)).trans hr4.out)
      have hb5 := Lib.hid (hb4.out.trans (hB5.mono hb4.out.size))
      have hF5 := Lib.hid (hF4.out.below hB5)
      have hL5 := Lib.hid ((hB5.block _ (lt_of_block hL4.out)).trans hL4.out)
      have hA5 := Lib.hid (fun g (e : A1 = some ⟨g, 0, none⟩) (hl : 0 < fs.length) => (by
        obtain ⟨g', e', hr'⟩ := hF2.out hl
        rw [e] at e'
        obtain rfl : g = g' := by injection e' with e'; injection e'
        have := lt_of_block hr'
        omega : w2.heap.size ≠ g))
      have hlt2 := lt_of_block hr2.out
      clear hB5 hr4 hb4 hF4 hL4
      rcases hEh.out with ⟨rfl, rfl, rfl⟩ | ⟨rfl, hsp, rfl, rfl⟩ | ⟨rfl, hsp, rfl, rfl⟩
      · have hb10 := Lib.hid (fun v0 v1 v2 v3 v4 v5 v6 v7 v8 v9 => below10 v0 v1 v2 v3 v4 v5 v6 v7 v8 v9 hb5.out (Nat.le_refl w.heap.size))
        have r0 : w5.cell? ⟨w.heap.size, 0, none⟩ = some (.int .u8 0) := cell_at hr5.out 0
        have r1 : w5.cell? ⟨w.heap.size, 1, none⟩ = some (.int .u8 0) := cell_at hr5.out 1
        have r2 : w5.cell? ⟨w.heap.size, 2, none⟩ = some (.int .u8 0) := cell_at hr5.out 2
        have r3 : w5.cell? ⟨w.heap.size, 3, none⟩ = some (.int .u16 0) := cell_at hr5.out 3
        have r4 : w5.cell? ⟨w.heap.size, 4, none⟩ = some (.int .u8 0) := cell_at hr5.out 4
        have r5 : w5.cell? ⟨w.heap.size, 5, none⟩ = some (.int .u8 0) := cell_at hr5.out 5
        have r6 : w5.cell? ⟨w.heap.size, 6, none⟩ = some (.bool false) := cell_at hr5.out 6
        have r7 : w5.cell? ⟨w.heap.size, 7, none⟩ = some (.bool false) := cell_at hr5.out 7
        have r8 : w5.cell? ⟨w.heap.size, 8, none⟩ = some (.int .u8 0) := cell_at hr5.out 8
        have r9 : w5.cell? ⟨w.heap.size, 9, none⟩ = some (.slice none 0 0) := cell_at hr5.out 9
        have fR : ∀ i, w5.frozen? ⟨w.heap.size, i, none⟩ = false := fun i => by simp [World.frozen?, hr5.out]
        go_wp2
        refine bodyPost_ret (results_row_tmp rfl _ _ w.heap.size _ _ _ _ rfl (store10 _ _ _ _ _ _ _ _ _ _ _ _ _ _ _ _ _ _ _ _ hr5.out) Tryd.underlying29 rfl (by kernel_rfl)) rfl ?_
        exact resPk_none w 0 10 _ (hb10.out _ _ _ _ _ _ _ _ _ _)
      · go_wp2_with fail
        refine (KU.out w5 w2.heap.size A1 hL5.out hF5.out hA5.out).mono ?_
        rintro e w6 ⟨rfl, hLU, hg6⟩
        obtain ⟨U, hU⟩ : ∃ U, unpackN fs v (bare p) fs.length = U := ⟨_, rfl⟩
        have hu9 := unpackN_data fs v (bare p) fs.length
        rw [hU] at hLU hu9 hsp
        have hUh := Lib.hid hU
        clear hU
        obtain ⟨u0, u1, u2, u3, u4, u5, u6, u7, u8, u9, u10⟩ := U
        replace hu9 : u9 = .slice none 0 0 := hu9
        subst hu9
        simp only at hsp
        have hL6 := Lib.hid hLU
        have hr6 := Lib.hid ((hg6.block _ (lt_of_block hr5.out) (fun e => by injection e; omega)).trans hr5.out)
        have hb6 := Lib.hid (hb5.out.grown hg6 hb5.out.size fun k e => by cases e; omega)
        clear hg6 hLU
        have hb10 := Lib.hid (fun v0 v1 v2 v3 v4 v5 v6 v7 v8 v9 => below10 v0 v1 v2 v3 v4 v5 v6 v7 v8 v9 hb6.out (Nat.le_refl w.heap.size))
        have r0 : w6.cell? ⟨w.heap.size, 0, none⟩ = some (.int .u8 0) := cell_at hr6.out 0
        have r1 : w6.cell? ⟨w.heap.size, 1, none⟩ = some (.int .u8 0) := cell_at hr6.out 1
        have r2 : w6.cell? ⟨w.heap.size, 2, none⟩ = some (.int .u8 0) := cell_at hr6.out 2
        have r3 : w6.cell? ⟨w.heap.size, 3, none⟩ = some (.int .u16 0) := cell_at hr6.out 3
        have r4 : w6.cell? ⟨w.heap.size, 4, none⟩ = some (.int .u8 0) := cell_at hr6.out 4
        have r5 : w6.cell? ⟨w.heap.size, 5, none⟩ = some (.int .u8 0) := cell_at hr6.out 5
        have r6 : w6.cell? ⟨w.heap.size, 6, none⟩ = some (.bool false) := cell_at hr6.out 6
        have r7 : w6.cell? ⟨w.heap.size, 7, none⟩ = some (.bool false) := cell_at hr6.out 7
        have r8 : w6.cell? ⟨w.heap.size, 8, none⟩ = some (.int .u8 0) := cell_at hr6.out 8
        have r9 : w6.cell? ⟨w.heap.size, 9, none⟩ = some (.slice none 0 0) := cell_at hr6.out 9
        have fR : ∀ i, w6.frozen? ⟨w.heap.size, i, none⟩ = false := fun i => by simp [World.frozen?, hr6.out]
        have l0 : w6.cell? ⟨w2.heap.size, 0, none⟩ = some (.int .u8 (u0 : Int)) := cell_at hL6.out 0
        have l1 : w6.cell? ⟨w2.heap.size, 1, none⟩ = some (.int .u8 (u1 : Int)) := cell_at hL6.out 1
        have l2 : w6.cell? ⟨w2.heap.size, 2, none⟩ = some (.int .u8 (u2 : Int)) := cell_at hL6.out 2
        have l3 : w6.cell? ⟨w2.heap.size, 3, none⟩ = some (.int .u16 (u3 : Int)) := cell_at hL6.out 3
        have l4 : w6.cell? ⟨w2.heap.size, 4, none⟩ = some (.int .u8 (u4 : Int)) := cell_at hL6.out 4
        have l5 : w6.cell? ⟨w2.heap.size, 5, none⟩ = some (.int .u8 (u5 : Int)) := cell_at hL6.out 5
        have l6 : w6.cell? ⟨w2.heap.size, 6, none⟩ = some (.bool u6) := cell_at hL6.out 6
        have l7 : w6.cell? ⟨w2.heap.size, 7, none⟩ = some (.bool u7) := cell_at hL6.out 7
        have l8 : w6.cell? ⟨w2.heap.size, 8, none⟩ = some (.int .u8 (u8 : Int)) := cell_at hL6.out 8
        have l9 : w6.cell? ⟨w2.heap.size, 9, none⟩ = some (.slice none 0 0) := cell_at hL6.out 9
        have l10 : w6.cell? ⟨w2.heap.size, 10, none⟩ = some (.int .u32 (u10 : Int)) := cell_at hL6.out 10
        have ne1 : w2.heap.size ≠ w.heap.size := by omega
        have ne2 : w.heap.size ≠ w2.heap.size := by omega
        have s0 : ((u10 : Int) == 0) = false := by rw [beq_eq_false_iff_ne]; omega
        have s1 : ((u10 : Int) != 0) = true := by rw [bne, s0]; rfl
        clear s0
        go_wp2
        refine bodyPost_ret (results_row_tmp rfl _ _ w.heap.size _ _ _ _ rfl (store10 _ _ _ _ _ _ _ _ _ _ _ _ _ _ _ _ _ _ _ _ hr6.out) Tryd.underlying29 rfl (by kernel_rfl)) rfl ?_
        exact resPk_none w 0 4 _ (hb10.out _ _ _ _ _ _ _ _ _ _)
      · go_wp2_with fail
        refine (KU.out w5 w2.heap.size A1 hL5.out hF5.out hA5.out).mono ?_
        rintro e w6 ⟨rfl, hLU, hg6⟩
        obtain ⟨U, hU⟩ : ∃ U, unpackN fs v (bare p) fs.length = U := ⟨_, rfl⟩
        have hu9 := unpackN_data fs v (bare p) fs.length
        rw [hU] at hLU hu9 hsp
        have hUh := Lib.hid hU
        clear hU
        obtain ⟨u0, u1, u2, u3, u4, u5, u6, u7, u8, u9, u10⟩ := U
        replace hu9 : u9 = .slice none 0 0 := hu9
        subst hu9
        simp only at hsp
        have hL6 := Lib.hid hLU
        have hr6 := Lib.hid ((hg6.block _ (lt_of_block hr5.out) (fun e => by injection e; omega)).trans hr5.out)
        have hb6 := Lib.hid (hb5.out.grown hg6 hb5.out.size fun k e => by cases e; omega)
        clear hg6 hLU
        have hb10 := Lib.hid (fun v0 v1 v2 v3 v4 v5 v6 v7 v8 v9 => below10 v0 v1 v2 v3 v4 v5 v6 v7 v8 v9 hb6.out (Nat.le_refl w.heap.size))
        have r0 : w6.cell? ⟨w.heap.size, 0, none⟩ = some (.int .u8 0) := cell_at hr6.out 0
        have r1 : w6.cell? ⟨w.heap.size, 1, none⟩ = some (.int .u8 0) := cell_at hr6.out 1
        have r2 : w6.cell? ⟨w.heap.size, 2, none⟩ = some (.int .u8 0) := cell_at hr6.out 2
        have r3 : w6.cell? ⟨w.heap.size, 3, none⟩ = some (.int .u16 0) := cell_at hr6.out 3
        have r4 : w6.cell? ⟨w.heap.size, 4, none⟩ = some (.int .u8 0) := cell_at hr6.out 4
        have r5 : w6.cell? ⟨w.heap.size, 5, none⟩ = some (.int .u8 0) := cell_at hr6.out 5
        have r6 : w6.cell? ⟨w.heap.size, 6, none⟩ = some (.bool false) := cell_at hr6.out 6
        have r7 : w6.cell? ⟨w.heap.size, 7, none⟩ = some (.bool false) := cell_at hr6.out 7
        have r8 : w6.cell? ⟨w.heap.size, 8, none⟩ = some (.int .u8 0) := cell_at hr6.out 8
        have r9 : w6.cell? ⟨w.heap.size, 9, none⟩ = some (.slice none 0 0) := cell_at hr6.out 9
        have fR : ∀ i, w6.frozen? ⟨w.heap.size, i, none⟩ = false := fun i => by simp [World.frozen?, hr6.out]
        have l0 : w6.cell? ⟨w2.heap.size, 0, none⟩ = some (.int .u8 (u0 : Int)) := cell_at hL6.out 0
        have l1 : w6.cell? ⟨w2.heap.size, 1, none⟩ = some (.int .u8 (u1 : Int)) := cell_at hL6.out 1
        have l2 : w6.cell? ⟨w2.heap.size, 2, none⟩ = some (.int .u8 (u2 : Int)) := cell_at hL6.out 2
        have l3 : w6.cell? ⟨w2.heap.size, 3, none⟩ = some (.int .u16 (u3 : Int)) := cell_at hL6.out 3
        have l4 : w6.cell? ⟨w2.heap.size, 4, none⟩ = some (.int .u8 (u4 : Int)) := cell_at hL6.out 4
        have l5 : w6.cell? ⟨w2.heap.size, 5, none⟩ = some (.int .u8 (u5 : Int)) := cell_at hL6.out 5
        have l6 : w6.cell? ⟨w2.heap.size, 6, none⟩ = some (.bool u6) := cell_at hL6.out 6
        have l7 : w6.cell? ⟨w2.heap.size, 7, none⟩ = some (.bool u7) := cell_at hL6.out 7
        have l8 : w6.cell? ⟨w2.heap.size, 8, none⟩ = some (.int .u8 (u8 : Int)) := cell_at hL6.out 8
        have l9 : w6.cell? ⟨w2.heap.size, 9, none⟩ = some (.slice none 0 0) := cell_at hL6.out 9
        have l10 : w6.cell? ⟨w2.heap.size, 10, none⟩ = some (.int .u32 (u10 : Int)) := cell_at hL6.out 10
        have ne1 : w2.heap.size ≠ w.heap.size := by omega
        have ne2 : w.heap.size ≠ w2.heap.size := by omega
        subst hsp
        go_wp2
        refine bodyPost_ret (results_row_tmp rfl _ _ w.heap.size _ _ _ _ rfl (store10 _ _ _ _ _ _ _ _ _ _ _ _ _ _ _ _ _ _ _ _ hr6.out) Tryd.underlying29 rfl (by kernel_rfl)) rfl ?_
        rw [hUh.out]
        exact ⟨_, rfl, own_nil _ _ _, hb10.out _ _ _ _ _ _ _ _ _ _⟩

end Go.Proofs.YtfblpakoibadoaaDoor
