/-
  Helper text: the walk of the law ChecksShort; no statement is proved here.
-/
import Derived.Test.YtfpfadenfoehfaaDoorLawFive
namespace Go.Proofs.YtfpfadenfoehfaaDoor
open Go Go.RowKit

theorem xor32 {a b : Nat} (ha : a < 2 ^ 32) (hb : b < 2 ^ 32) : bits .xor .u32 (a : Int) (b : Int) = ((a ^^^ b : Nat) : Int) := by
  have h : a ^^^ b < 2 ^ 32 := Nat.xor_lt_two_pow ha hb
  have e : bits .xor .u32 (a : Int) (b : Int) = IntKind.u32.wrap (((a % 2 ^ 32) ^^^ (b % 2 ^ 32) : Nat) : Int) := by
    simp only [bits, BitVec.ofInt_natCast, BitVec.toNat_xor, BitVec.toNat_ofNat]; rfl
  rw [e, Nat.mod_eq_of_lt ha, Nat.mod_eq_of_lt hb, IntKind.wrap_u32]
  omega

/-- A protected number that is changed: its check fails. -/
theorem part_err (w : World) (hL : Laid w) (v n E : Nat) (hn : n ≤ 24) (hv : v < 2 ^ n) (hE : E < 2 ^ (n + 5)) (hs : sN 20 (n + 5) E ≠ 0) :
    Calls Tryd.prog 12 #[.int .u32 (((v + 2 ^ n * chk 20 5 n v) ^^^ E : Nat) : Int), .int .i64 ((n + 5 : Nat) : Int)] w (ResN w .u32 0 10) := by
  have hJ : v + 2 ^ n * chk 20 5 n v < 2 ^ (n + 5) := by
    have hc := chk_lt (m := 20) (d := 5) (by decide) hv
    have h1 : v + 2 ^ n * chk 20 5 n v < 2 ^ n + 2 ^ n * chk 20 5 n v := by omega
    have h2 : 2 ^ n + 2 ^ n * chk 20 5 n v ≤ 2 ^ n * 2 ^ 5 := by
      have := Nat.mul_le_mul_left (2 ^ n) (show chk 20 5 n v + 1 ≤ 2 ^ 5 by omega)
      rw [Nat.mul_add, Nat.mul_one] at this
      omega
    rw [Nat.pow_add]
    omega
  have hok : okN 20 5 (n + 5) (v + 2 ^ n * chk 20 5 n v) := okN_join (m := 20) (d := 5) hv
  generalize v + 2 ^ n * chk 20 5 n v = J at hJ hok
  have hno : ¬ okN 20 5 (n + 5) (J ^^^ E) := fun h => hs (okN_change (by decide) (by decide) (by omega) hJ hE hok h)
  unfold okN at hno
  rw [Nat.add_sub_cancel] at hno
  have := Part_good w hL (J ^^^ E) n hn (Nat.xor_lt_two_pow hJ hE)
  rwa [if_neg hno, if_neg hno] at this
theorem one_err {n i : Nat} (hi : i < n) : sN 20 n (2 ^ i) ≠ 0 := by
  intro h
  have := burst_found (m := 20) (d := 5) (n := n) (at' := i) (w := 1) (by decide) (by decide) (by omega) (by decide) (by rwa [Nat.mul_one])
  omega
theorem or_bits {i j : Nat} (h : i ≠ j) : 2 ^ i ||| 2 ^ j = 2 ^ i ^^^ 2 ^ j := by
  apply Nat.eq_of_testBit_eq
  intro k
  rw [Nat.testBit_or, Nat.testBit_xor, Nat.testBit_two_pow, Nat.testBit_two_pow]
  by_cases h1 : i = k <;> by_cases h2 : j = k <;> simp [h1, h2]
  omega
theorem back5 (t : Nat) (h0 : 0 < t) (h : t < 31) : sN 20 t 1 ≠ 1 := by
  have H : ∀ t : Fin 31, 0 < t.val → sN 20 t.val 1 ≠ 1 := by decide +kernel
  exact H ⟨t, h⟩ h0
theorem two_err {n i j : Nat} (hi : i < n) (hj : j < n) (hn : n ≤ 29) : sN 20 n (2 ^ i ||| 2 ^ j) ≠ 0 := by
  by_cases h : i = j
  · subst h
    rw [Nat.or_self]
    exact one_err hi
  · rw [or_bits h]
    rcases Nat.lt_or_gt_of_ne h with h1 | h1
    · exact two_found (d := 5) (by decide) (by decide) (by decide) h1 (by omega) (back5 _ (by omega) (by omega))
    · rw [Nat.xor_comm]
      exact two_found (d := 5) (by decide) (by decide) (by decide) h1 (by omega) (back5 _ (by omega) (by omega))
theorem burst_err {n i u : Nat} (hi : i < n) (hu : u < 32) (h : 2 ^ i * u % 2 ^ n ≠ 0) : sN 20 n (2 ^ i * u % 2 ^ n) ≠ 0 := by
  have e : 2 ^ i * u % 2 ^ n = 2 ^ i * (u % 2 ^ (n - i)) := by
    rw [show 2 ^ n = 2 ^ i * 2 ^ (n - i) from by rw [← Nat.pow_add, show i + (n - i) = n from by omega], Nat.mul_mod_mul_left]
  rw [e] at h ⊢
  intro hs
  have := burst_found (m := 20) (d := 5) (n := n) (at' := i) (w := u % 2 ^ (n - i)) (by decide) (by decide) (by omega) (Nat.lt_of_le_of_lt (Nat.mod_le _ _) (by omega)) hs
  rw [this, Nat.mul_zero] at h
  exact h rfl

set_option maxHeartbeats 4000000 in
set_option maxRecDepth 100000 in
theorem lawShort_any (w : World) (hL : Laid w) (V N a0 a1 B : Nat) (hV : V < 2 ^ 32) (hN : N < 256) (h0 : a0 < 256) (h1 : a1 < 256) (hB : B < 256) :
    Calls Tryd.prog 6 #[.agg #[.int .u32 (V : Int), .int .u8 (N : Int), .int .u8 (a0 : Int), .int .u8 (a1 : Int), .int .u8 (B : Int)]] w (ResB w true) := by
  have hn : N % 25 ≤ 24 := by omega
  have f1 : (N : Int) % 25 = ((N % 25 : Nat) : Int) := by omega
  have f1t : (N : Int).tmod 25 = ((N % 25 : Nat) : Int) := by rw [Int.tmod_eq_emod_of_nonneg (by omega)]; omega
  generalize N % 25 = n at hn f1 f1t
  have hp : 2 ^ n ≤ 2 ^ 24 := Nat.pow_le_pow_right (by omega) hn
  have hp0 := Nat.two_pow_pos n
  have hv : V % 2 ^ n < 2 ^ n := Nat.mod_lt _ hp0
  have f2 : (2 : Int) ^ n % 4294967296 = 2 ^ n := by
    have : (2 : Int) ^ n = ((2 ^ n : Nat) : Int) := by simp only [Int.natCast_pow]; rfl
    rw [this]; omega
  have f3 : (V : Int) % 2 ^ n = ((V % 2 ^ n : Nat) : Int) := by simp only [Int.natCast_emod, Int.natCast_pow]; rfl
  generalize V % 2 ^ n = v at hv f3
  have KJ := fun W hLW => Join_good W hLW v n hn hv
  have KE := fun W hLW E hE hs => part_err W hLW v n E hn hv hE hs
  have hJl : v + 2 ^ n * chk 20 5 n v < 2 ^ 32 := by
    have hc := chk_lt (m := 20) (d := 5) (by decide) hv
    have := Nat.mul_le_mul hp (by omega : chk 20 5 n v ≤ 31)
    omega
  generalize v + 2 ^ n * chk 20 5 n v = J at KJ KE hJl
  generalize hM : n + 5 = M at KE
  have HJ := Lib.hid KJ
  have HE := Lib.hid KE
  have HM := Lib.hid hM
  clear KJ KE hM hv hp hp0
  have hb0 := (Below.refl w.heap.size w).alloc (Nat.le_refl _) (.cells #[.int .u32 (V : Int), .int .u8 (N : Int), .int .u8 (a0 : Int), .int .u8 (a1 : Int), .int .u8 (B : Int)] 43)
  go_enter Tryd.func6, Tryd.ntmps6
  go_wp2_with fail
  refine (HJ.out _ (hL.below hb0)).mono ?_
  rintro e w1 ⟨rfl, b1⟩
  have hx := heap_alloc_new w (.cells #[.int .u32 (V : Int), .int .u8 (N : Int), .int .u8 (a0 : Int), .int .u8 (a1 : Int), .int .u8 (B : Int)] 43)
  have hx1 := (b1.block w.heap.size (by simp)).trans hx
  have c0 : w1.cell? ⟨w.heap.size, 2, none⟩ = some (.int .u8 (a0 : Int)) := by rw [cell_of_row _ _ _ _ _ _ hx1]; rfl
  have c1 : w1.cell? ⟨w.heap.size, 3, none⟩ = some (.int .u8 (a1 : Int)) := by rw [cell_of_row _ _ _ _ _ _ hx1]; rfl
  have c2 : w1.cell? ⟨w.heap.size, 4, none⟩ = some (.int .u8 (B : Int)) := by rw [cell_of_row _ _ _ _ _ _ hx1]; rfl
  have b1' := hb0.trans (b1.mono hb0.size)
  have c0' : w1.drew.cell? ⟨w.heap.size, 2, none⟩ = some (.int .u8 (a0 : Int)) := c0
  have c2' : w1.drew.cell? ⟨w.heap.size, 4, none⟩ = some (.int .u8 (B : Int)) := c2
  have C0 := Lib.hid c0'
  have C2 := Lib.hid c2'
  clear hx hx1 b1 f1 f1t f2 f3 c0' c2'
  have f4 : (n : Int) + 5 = (M : Int) := by have := HM.out; omega
  go_wp2
  clear f4
  have hM0 : 0 < M := by have := HM.out; omega
  have hM29 : M ≤ 29 := by have := HM.out; omega
  have g0 : (M : Int) ≠ 0 := by omega
  have g1 : (a0 : Int).tmod (M : Int) = ((a0 % M : Nat) : Int) := by rw [Int.tmod_eq_emod_of_nonneg (by omega)]; simp only [Int.natCast_emod]
  have g2 : (a1 : Int).tmod (M : Int) = ((a1 % M : Nat) : Int) := by rw [Int.tmod_eq_emod_of_nonneg (by omega)]; simp only [Int.natCast_emod]
  have hi := Nat.mod_lt a0 hM0
  have hi2 := Nat.mod_lt a1 hM0
  generalize a0 % M = i at g1 hi
  generalize a1 % M = i2 at g2 hi2
  have g3 : IntKind.i64.wrap (a0 : Int) = (a0 : Int) := IntWalk.i64_in _ (by omega)
  have g4 : IntKind.i64.wrap (a1 : Int) = (a1 : Int) := IntWalk.i64_in _ (by omega)
  have g5 : IntKind.u64.wrap (i : Int) = (i : Int) := by rw [IntKind.wrap_u64]; omega
  have g6 : IntKind.u64.wrap (i2 : Int) = (i2 : Int) := by rw [IntKind.wrap_u64]; omega
  have p1 : 2 ^ i ≤ 2 ^ 28 := Nat.pow_le_pow_right (by omega) (by omega)
  have p2 : 2 ^ i2 ≤ 2 ^ 28 := Nat.pow_le_pow_right (by omega) (by omega)
  have k1 : (2 : Int) ^ i = ((2 ^ i : Nat) : Int) := by simp only [Int.natCast_pow]; rfl
  have k2 : (2 : Int) ^ i2 = ((2 ^ i2 : Nat) : Int) := by simp only [Int.natCast_pow]; rfl
  obtain ⟨o1, ho1⟩ : ∃ o1, 2 ^ i = o1 := ⟨_, rfl⟩
  obtain ⟨o2, ho2⟩ : ∃ o2, 2 ^ i2 = o2 := ⟨_, rfl⟩
  rw [ho1] at p1 k1
  rw [ho2] at p2 k2
  have g7 : IntKind.u32.wrap (o1 : Int) = (o1 : Int) := by rw [IntKind.wrap_u32]; omega
  have g8 : IntKind.u32.wrap (o2 : Int) = (o2 : Int) := by rw [IntKind.wrap_u32]; omega
  have Ho1 := Lib.hid ho1
  have Ho2 := Lib.hid ho2
  clear ho1 ho2
  go_region
  clear g0 g3 g4 g5 g6 g7 g8 c0 c1 c2 k2 g2
  have hh1 : o1 < 2 ^ M := by rw [← Ho1.out]; exact Nat.pow_lt_pow_right (by omega) hi
  have hh2 : o2 < 2 ^ M := by rw [← Ho2.out]; exact Nat.pow_lt_pow_right (by omega) hi2
  have hs1 : sN 20 M o1 ≠ 0 := by rw [← Ho1.out]; exact one_err hi
  have hs2 : sN 20 M (o1 ||| o2) ≠ 0 := by rw [← Ho1.out, ← Ho2.out]; exact two_err hi hi2 hM29
  have hh3 : o1 ||| o2 < 2 ^ M := Nat.or_lt_two_pow hh1 hh2
  have hor : o1 ||| o2 < 2 ^ 32 := Nat.or_lt_two_pow (by omega) (by omega)
  have x1 := xor32 hJl (show o1 < 2 ^ 32 by omega)
  have x2 := bor32 (a := o1) (b := o2) (by omega) (by omega)
  have x3 := xor32 hJl hor
  have E1 := Lib.hid fun W hLW => HE.out W hLW o1 hh1 hs1
  have E2 := Lib.hid fun W hLW => HE.out W hLW (o1 ||| o2) hh3 hs2
  clear hs1 hs2 hh1 hh2 hh3 hor
  generalize o1 ||| o2 = o3 at x2 x3 E2
  generalize J ^^^ o1 = y1 at x1 E1
  generalize J ^^^ o3 = y3 at x3 E2
  have b2 := b1'.drew
  go_wp2_with fail
  refine (E1.out _ (hL.below b2)).mono ?_
  rintro e w2 ⟨rfl, b3⟩
  have b3' := b2.trans (b3.mono b2.size)
  go_wp2_with fail
  refine (E2.out _ (hL.below b3')).mono ?_
  rintro e w3 ⟨rfl, b4⟩
  have b4' := b3'.trans (b4.mono b3'.size)
  have b24 := b3.trans (b4.mono b3.size)
  have d0 : w3.cell? ⟨w.heap.size, 2, none⟩ = some (.int .u8 (a0 : Int)) := (b24.cell (p := ⟨w.heap.size, 2, none⟩) (World.block_lt_of_cell? _ _ C0.out)).trans C0.out
  have d2 : w3.cell? ⟨w.heap.size, 4, none⟩ = some (.int .u8 (B : Int)) := (b24.cell (p := ⟨w.heap.size, 4, none⟩) (World.block_lt_of_cell? _ _ C2.out)).trans C2.out
  clear b3 b4 b24 x1 x2 x3
  have G1 := Lib.hid g1
  clear g1 k1
  go_wp2
  have g0 : (M : Int) ≠ 0 := by omega
  have g1 := G1.out
  have g3 : IntKind.i64.wrap (a0 : Int) = (a0 : Int) := IntWalk.i64_in _ (by omega)
  have g5 : IntKind.u64.wrap (i : Int) = (i : Int) := by rw [IntKind.wrap_u64]; omega
  have g6 : IntKind.u64.wrap (M : Int) = (M : Int) := by rw [IntKind.wrap_u64]; omega
  have k1 : (2 : Int) ^ i = (o1 : Int) := by rw [← Ho1.out]; simp only [Int.natCast_pow]; rfl
  have pM : 2 ^ M ≤ 2 ^ 29 := Nat.pow_le_pow_right (by omega) hM29
  have pM0 := Nat.two_pow_pos M
  have k3 : (2 : Int) ^ M = ((2 ^ M : Nat) : Int) := by simp only [Int.natCast_pow]; rfl
  have u1 : (B : Int).tmod 32 = ((B % 32 : Nat) : Int) := by rw [Int.tmod_eq_emod_of_nonneg (by omega)]; omega
  have hu : B % 32 < 32 := Nat.mod_lt _ (by omega)
  have hch : (B % 32 * o1) % 2 ^ 32 % 2 ^ M = 2 ^ i * (B % 32) % 2 ^ M := by
    rw [Nat.mod_mod_of_dvd _ (Nat.pow_dvd_pow 2 (by omega)), Ho1.out, Nat.mul_comm]
  have k4 : IntKind.u32.wrap (((B % 32 : Nat) : Int) * (o1 : Int)) = (((B % 32 * o1) % 2 ^ 32 : Nat) : Int) := by
    rw [show ((B % 32 : Nat) : Int) * (o1 : Int) = ((B % 32 * o1 : Nat) : Int) from by simp only [Int.natCast_mul]]
    rw [IntKind.wrap_u32]
    omega
  have k5 : IntKind.u32.wrap ((B % 32 : Nat) : Int) = ((B % 32 : Nat) : Int) := by rw [IntKind.wrap_u32]; omega
  have hb := fun h => burst_err (n := M) (i := i) (u := B % 32) hi hu h
  rw [← hch] at hb
  have k6 : ((((B % 32 * o1) % 2 ^ 32 : Nat) : Int)).tmod ((2 ^ M : Nat) : Int) = (((B % 32 * o1) % 2 ^ 32 % 2 ^ M : Nat) : Int) := by
    rw [Int.tmod_eq_emod_of_nonneg (by omega)]; simp only [Int.natCast_emod]
  have hcl : (B % 32 * o1) % 2 ^ 32 % 2 ^ M < 2 ^ M := Nat.mod_lt _ pM0
  generalize (B % 32 * o1) % 2 ^ 32 % 2 ^ M = ch at hb k6 hcl
  generalize (B % 32 * o1) % 2 ^ 32 = P at k4 k6
  generalize B % 32 = u at u1 k4 k5
  have HB := Lib.hid hb
  have Hcl := Lib.hid hcl
  clear hb hch hcl
  obtain ⟨oM, hoM⟩ : ∃ oM, 2 ^ M = oM := ⟨_, rfl⟩
  rw [hoM] at k3 k6 pM pM0
  have k7 : IntKind.u32.wrap (oM : Int) = (oM : Int) := by rw [IntKind.wrap_u32]; omega
  have k8 : (oM : Int) ≠ 0 := by omega
  have HoM := Lib.hid hoM
  clear hoM
  go_region
  clear g0 g1 g3 g5 g6 k1 k3 u1 k4 k5 k6 k7 k8 d0 d2
  have b5 := b4'.drew
  by_cases hz : ch = 0
  · subst hz
    have t1 : (((0 : Nat) : Int) == 0) = true := rfl
    go_wp2_with fail
    refine (lives_any _ (hL.below b5)).mono ?_
    rintro e w5 ⟨rfl, b6⟩
    go_wp2
    go_ret
    exact ⟨rfl, b5.trans (b6.mono b5.size)⟩
  · have t1 : ((ch : Int) == 0) = false := by rw [beq_eq_false_iff_ne]; omega
    have t2 : ¬ (ch : Int) = 0 := by omega
    have E3 := Lib.hid (HE.out w3.drew (hL.below b5) ch Hcl.out (HB.out hz))
    have x4 := xor32 hJl (show ch < 2 ^ 32 by have := Hcl.out; have := HoM.out; omega)
    generalize J ^^^ ch = y4 at x4 E3
    go_wp2_with fail
    refine E3.out.mono ?_
    rintro e w5 ⟨rfl, b6⟩
    have b6' := b5.trans (b6.mono b5.size)
    go_wp2_with fail
    refine (lives_any _ (hL.below b6')).mono ?_
    rintro e w6 ⟨rfl, b7⟩
    go_wp2
    go_ret
    exact ⟨rfl, b6'.trans (b7.mono b6'.size)⟩

end Go.Proofs.YtfpfadenfoehfaaDoor
