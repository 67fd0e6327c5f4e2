/-
  Helper text: the walk of the law PeriodicsPeriod; no statement is proved here.
-/
import Derived.Test.YtochkonjfhhiiaaLv10
import Derived.Test.YtochkonjfhhiiaaPer2
import Derived.Test.YtochkonjfhhiiaaRefPer
namespace Go.Proofs.Ytochkonjfhhiiaa
open Go Go.RowKit

def errI (z : Int) : Int := if z = 0 then 1 else 0
theorem per_any2 (w : World) (s k : Nat) (n : Int) : Calls Try.prog 8 #[.int .u8 (s : Int), .int .u8 (k : Int), .int .i64 n] w fun e w' => e = .returned (.tuple #[.int .i64 (perI s k n), .int .i64 (errI (perI s k n))]) ∧ w' = w := per_any w s k n

set_option maxHeartbeats 3200000 in
set_option maxRecDepth 100000 in
theorem lawPer_zz (w : World) (s k : Nat) (n0 n1 : Int) (ha : perI s k n0 = 0) (hb0 : perI s k n1 = 0) :
    Calls Try.prog 3 #[.int .u8 (s : Int), .int .u8 (k : Int), .agg #[.int .i64 n0, .int .i64 n1]] w (ResB w true) := by
  have KL := Lib.hid lives_any
  have KP := Lib.hid fun W n => per_any2 W s k n
  have KR := Lib.hid fun W n => refPer_any W s k n
  have e0 : errI 0 = 1 := rfl
  have hbox := heap_alloc_new w (.cells #[.int .i64 n0, .int .i64 n1] 22)
  have hb := (Below.refl w.heap.size w).alloc (Nat.le_refl _) (.cells #[.int .i64 n0, .int .i64 n1] 22)
  obtain ⟨B, hB⟩ : ∃ B, w.heap.size = B := ⟨_, rfl⟩
  go_enter Try.func3, Try.ntmps3
  go_wp2_with (first | (go_at_call 8; refine (KP.out _ _).mono ?_; rintro e w' ⟨rfl, e3⟩; rw [e3]; clear e3) | (go_at_call 9; refine (KR.out _ _).mono ?_; rintro e w' ⟨rfl, e3⟩; rw [e3]; clear e3) | (go_at_call 10; refine (KL.out _).mono ?_; rintro e w' ⟨rfl, hb2⟩; have hb2 := Lib.hid (hb.trans (hb2.mono hb.size))))
  have c0 : (w.alloc (.cells #[.int .i64 n0, .int .i64 n1] 22)).cell? ⟨w.heap.size, 0, none⟩ = some (.int .i64 n0) := Ev.cell_row hbox 0
  have c1 : (w.alloc (.cells #[.int .i64 n0, .int .i64 n1] 22)).cell? ⟨w.heap.size, 1, none⟩ = some (.int .i64 n1) := Ev.cell_row hbox 1
  generalize w.alloc (.cells #[.int .i64 n0, .int .i64 n1] 22) = W1 at *
  rw [hB] at c0 c1
  go_loop [11] (fun vi => ∃ i : Int, vi = .int .i64 i ∧ RowKit.Hid (i = 0 ∨ i = 1 ∨ i = 2)) (fun vi => (2 - intOf vi).toNat)
  case atStart => exact ⟨0, rfl, Lib.hid (.inl rfl)⟩
  case round =>
    obtain ⟨i, rfl, hi⟩ := hrel
    rcases hi.out with rfl | rfl | rfl
    · go_wp2_with (go_at_call 9; refine (KR.out _ _).mono ?_; rintro e w' ⟨rfl, e3⟩; rw [e3]; clear e3)
      go_round
      case rel => exact ⟨1, rfl, Lib.hid (.inr (.inl rfl))⟩
      case measure => simp [intOf]
    · go_wp2_with (go_at_call 9; refine (KR.out _ _).mono ?_; rintro e w' ⟨rfl, e3⟩; rw [e3]; clear e3)
      go_round
      case rel => exact ⟨2, rfl, Lib.hid (.inr (.inr rfl))⟩
      case measure => simp [intOf]
    · go_wp2_with (go_at_call 10; refine (KL.out _).mono ?_; rintro e w' ⟨rfl, hb2⟩; have hb2 := Lib.hid (hb.trans (hb2.mono hb.size)))
      go_ret
      exact ⟨rfl, hb2.out⟩
set_option maxHeartbeats 3200000 in
set_option maxRecDepth 100000 in
theorem lawPer_zp (w : World) (s k : Nat) (n0 n1 : Int) (b : Int) (hbp : isPow b = true) (ha : perI s k n0 = 0) (hb0 : perI s k n1 = b) :
    Calls Try.prog 3 #[.int .u8 (s : Int), .int .u8 (k : Int), .agg #[.int .i64 n0, .int .i64 n1]] w (ResB w true) := by
  have KL := Lib.hid lives_any
  have KP := Lib.hid fun W n => per_any2 W s k n
  have KR := Lib.hid fun W n => refPer_any W s k n
  have e0 : errI 0 = 1 := rfl
  have hb1 := isPow_pos hbp
  have eb : errI b = 0 := if_neg (by omega)
  have bz : ¬ b = 0 := by omega
  have b0 : 0 < b := by omega
  have bd : decide (0 < b) = true := decide_eq_true b0
  clear hbp
  have hbox := heap_alloc_new w (.cells #[.int .i64 n0, .int .i64 n1] 22)
  have hb := (Below.refl w.heap.size w).alloc (Nat.le_refl _) (.cells #[.int .i64 n0, .int .i64 n1] 22)
  obtain ⟨B, hB⟩ : ∃ B, w.heap.size = B := ⟨_, rfl⟩
  go_enter Try.func3, Try.ntmps3
  go_wp2_with (first | (go_at_call 8; refine (KP.out _ _).mono ?_; rintro e w' ⟨rfl, e3⟩; rw [e3]; clear e3) | (go_at_call 9; refine (KR.out _ _).mono ?_; rintro e w' ⟨rfl, e3⟩; rw [e3]; clear e3) | (go_at_call 10; refine (KL.out _).mono ?_; rintro e w' ⟨rfl, hb2⟩; have hb2 := Lib.hid (hb.trans (hb2.mono hb.size))))
  have c0 : (w.alloc (.cells #[.int .i64 n0, .int .i64 n1] 22)).cell? ⟨w.heap.size, 0, none⟩ = some (.int .i64 n0) := Ev.cell_row hbox 0
  have c1 : (w.alloc (.cells #[.int .i64 n0, .int .i64 n1] 22)).cell? ⟨w.heap.size, 1, none⟩ = some (.int .i64 n1) := Ev.cell_row hbox 1
  generalize w.alloc (.cells #[.int .i64 n0, .int .i64 n1] 22) = W1 at *
  rw [hB] at c0 c1
  go_loop [11] (fun vi => ∃ i : Int, vi = .int .i64 i ∧ RowKit.Hid (i = 0 ∨ i = 1 ∨ i = 2)) (fun vi => (2 - intOf vi).toNat)
  case atStart => exact ⟨0, rfl, Lib.hid (.inl rfl)⟩
  case round =>
    obtain ⟨i, rfl, hi⟩ := hrel
    rcases hi.out with rfl | rfl | rfl
    · go_wp2_with (go_at_call 9; refine (KR.out _ _).mono ?_; rintro e w' ⟨rfl, e3⟩; rw [e3]; clear e3)
      go_round
      case rel => exact ⟨1, rfl, Lib.hid (.inr (.inl rfl))⟩
      case measure => simp [intOf]
    · go_wp2_with (go_at_call 9; refine (KR.out _ _).mono ?_; rintro e w' ⟨rfl, e3⟩; rw [e3]; clear e3)
      go_round
      case rel => exact ⟨2, rfl, Lib.hid (.inr (.inr rfl))⟩
      case measure => simp [intOf]
    · go_wp2_with (go_at_call 10; refine (KL.out _).mono ?_; rintro e w' ⟨rfl, hb2⟩; have hb2 := Lib.hid (hb.trans (hb2.mono hb.size)))
      go_ret
      exact ⟨rfl, hb2.out⟩
set_option maxHeartbeats 3200000 in
set_option maxRecDepth 100000 in
theorem lawPer_pz (w : World) (s k : Nat) (n0 n1 : Int) (a : Int) (hap : isPow a = true) (ha : perI s k n0 = a) (hb0 : perI s k n1 = 0) :
    Calls Try.prog 3 #[.int .u8 (s : Int), .int .u8 (k : Int), .agg #[.int .i64 n0, .int .i64 n1]] w (ResB w true) := by
  have KL := Lib.hid lives_any
  have KP := Lib.hid fun W n => per_any2 W s k n
  have KR := Lib.hid fun W n => refPer_any W s k n
  have e0 : errI 0 = 1 := rfl
  have ha1 := isPow_pos hap
  have ea : errI a = 0 := if_neg (by omega)
  have az : ¬ a = 0 := by omega
  have a0 : 0 < a := by omega
  have ad : decide (0 < a) = true := decide_eq_true a0
  clear hap
  have hbox := heap_alloc_new w (.cells #[.int .i64 n0, .int .i64 n1] 22)
  have hb := (Below.refl w.heap.size w).alloc (Nat.le_refl _) (.cells #[.int .i64 n0, .int .i64 n1] 22)
  obtain ⟨B, hB⟩ : ∃ B, w.heap.size = B := ⟨_, rfl⟩
  go_enter Try.func3, Try.ntmps3
  go_wp2_with (first | (go_at_call 8; refine (KP.out _ _).mono ?_; rintro e w' ⟨rfl, e3⟩; rw [e3]; clear e3) | (go_at_call 9; refine (KR.out _ _).mono ?_; rintro e w' ⟨rfl, e3⟩; rw [e3]; clear e3) | (go_at_call 10; refine (KL.out _).mono ?_; rintro e w' ⟨rfl, hb2⟩; have hb2 := Lib.hid (hb.trans (hb2.mono hb.size))))
  have c0 : (w.alloc (.cells #[.int .i64 n0, .int .i64 n1] 22)).cell? ⟨w.heap.size, 0, none⟩ = some (.int .i64 n0) := Ev.cell_row hbox 0
  have c1 : (w.alloc (.cells #[.int .i64 n0, .int .i64 n1] 22)).cell? ⟨w.heap.size, 1, none⟩ = some (.int .i64 n1) := Ev.cell_row hbox 1
  generalize w.alloc (.cells #[.int .i64 n0, .int .i64 n1] 22) = W1 at *
  rw [hB] at c0 c1
  go_loop [11] (fun vi => ∃ i : Int, vi = .int .i64 i ∧ RowKit.Hid (i = 0 ∨ i = 1 ∨ i = 2)) (fun vi => (2 - intOf vi).toNat)
  case atStart => exact ⟨0, rfl, Lib.hid (.inl rfl)⟩
  case round =>
    obtain ⟨i, rfl, hi⟩ := hrel
    rcases hi.out with rfl | rfl | rfl
    · go_wp2_with (go_at_call 9; refine (KR.out _ _).mono ?_; rintro e w' ⟨rfl, e3⟩; rw [e3]; clear e3)
      go_round
      case rel => exact ⟨1, rfl, Lib.hid (.inr (.inl rfl))⟩
      case measure => simp [intOf]
    · go_wp2_with (go_at_call 9; refine (KR.out _ _).mono ?_; rintro e w' ⟨rfl, e3⟩; rw [e3]; clear e3)
      go_round
      case rel => exact ⟨2, rfl, Lib.hid (.inr (.inr rfl))⟩
      case measure => simp [intOf]
    · go_wp2_with (go_at_call 10; refine (KL.out _).mono ?_; rintro e w' ⟨rfl, hb2⟩; have hb2 := Lib.hid (hb.trans (hb2.mono hb.size)))
      go_ret
      exact ⟨rfl, hb2.out⟩
set_option maxHeartbeats 3200000 in
set_option maxRecDepth 100000 in
theorem lawPer_pp (w : World) (s k : Nat) (n0 n1 : Int) (b : Int) (hbp : isPow b = true) (a : Int) (hap : isPow a = true) (ha : perI s k n0 = a) (hb0 : perI s k n1 = b) :
    Calls Try.prog 3 #[.int .u8 (s : Int), .int .u8 (k : Int), .agg #[.int .i64 n0, .int .i64 n1]] w (ResB w true) := by
  have KL := Lib.hid lives_any
  have KP := Lib.hid fun W n => per_any2 W s k n
  have KR := Lib.hid fun W n => refPer_any W s k n
  have ha1 := isPow_pos hap
  have ea : errI a = 0 := if_neg (by omega)
  have az : ¬ a = 0 := by omega
  have a0 : 0 < a := by omega
  have ad : decide (0 < a) = true := decide_eq_true a0
  have hb1 := isPow_pos hbp
  have eb : errI b = 0 := if_neg (by omega)
  have bz : ¬ b = 0 := by omega
  have b0 : 0 < b := by omega
  have bd : decide (0 < b) = true := decide_eq_true b0
  have KO := Lib.hid fun W => by have := possible_any W a 0 (by omega); rwa [show posB a 0 = true from posB_iff.2 ⟨hap, by omega, by omega⟩] at this
  have hdiv := Lib.hid (pow_div hap hbp)
  have ma : a.tmod b = a % b := Int.tmod_eq_emod_of_nonneg (by omega)
  have mb : b.tmod a = b % a := Int.tmod_eq_emod_of_nonneg (by omega)
  have xa1 := Int.emod_nonneg a bz
  have xa2 := Int.emod_lt_of_pos a (show 0 < b by omega)
  have xb1 := Int.emod_nonneg b az
  have xb2 := Int.emod_lt_of_pos b (show 0 < a by omega)
  obtain ⟨x, hx⟩ : ∃ x, a % b = x := ⟨_, rfl⟩
  obtain ⟨y, hy⟩ : ∃ y, b % a = y := ⟨_, rfl⟩
  have hxy : x = 0 ∨ (¬ x = 0 ∧ y = 0) := by
    have := hdiv.out
    omega
  rw [hx] at ma xa1 xa2
  rw [hy] at mb xb1 xb2
  clear hx hy
  have hxw : IntKind.i64.wrap x = x := by simp only [IntKind.wrap_i64]; omega
  have hyw : IntKind.i64.wrap y = y := by simp only [IntKind.wrap_i64]; omega
  replace hxy := Lib.hid hxy
  clear hap
  clear hbp
  have hbox := heap_alloc_new w (.cells #[.int .i64 n0, .int .i64 n1] 22)
  have hb := (Below.refl w.heap.size w).alloc (Nat.le_refl _) (.cells #[.int .i64 n0, .int .i64 n1] 22)
  obtain ⟨B, hB⟩ : ∃ B, w.heap.size = B := ⟨_, rfl⟩
  go_enter Try.func3, Try.ntmps3
  go_wp2_with (first | (go_at_call 8; refine (KP.out _ _).mono ?_; rintro e w' ⟨rfl, e3⟩; rw [e3]; clear e3) | (go_at_call 9; refine (KR.out _ _).mono ?_; rintro e w' ⟨rfl, e3⟩; rw [e3]; clear e3) | (go_at_call 10; refine (KL.out _).mono ?_; rintro e w' ⟨rfl, hb2⟩; have hb2 := Lib.hid (hb.trans (hb2.mono hb.size))))
  have c0 : (w.alloc (.cells #[.int .i64 n0, .int .i64 n1] 22)).cell? ⟨w.heap.size, 0, none⟩ = some (.int .i64 n0) := Ev.cell_row hbox 0
  have c1 : (w.alloc (.cells #[.int .i64 n0, .int .i64 n1] 22)).cell? ⟨w.heap.size, 1, none⟩ = some (.int .i64 n1) := Ev.cell_row hbox 1
  generalize w.alloc (.cells #[.int .i64 n0, .int .i64 n1] 22) = W1 at *
  rw [hB] at c0 c1
  go_loop [11] (fun vi => ∃ i : Int, vi = .int .i64 i ∧ RowKit.Hid (i = 0 ∨ i = 1 ∨ i = 2)) (fun vi => (2 - intOf vi).toNat)
  case atStart => exact ⟨0, rfl, Lib.hid (.inl rfl)⟩
  case round =>
    obtain ⟨i, rfl, hi⟩ := hrel
    rcases hi.out with rfl | rfl | rfl
    · go_wp2_with (go_at_call 9; refine (KR.out _ _).mono ?_; rintro e w' ⟨rfl, e3⟩; rw [e3]; clear e3)
      go_round
      case rel => exact ⟨1, rfl, Lib.hid (.inr (.inl rfl))⟩
      case measure => simp [intOf]
    · go_wp2_with (go_at_call 9; refine (KR.out _ _).mono ?_; rintro e w' ⟨rfl, e3⟩; rw [e3]; clear e3)
      go_round
      case rel => exact ⟨2, rfl, Lib.hid (.inr (.inr rfl))⟩
      case measure => simp [intOf]
    · rcases hxy.out with rfl | ⟨h1, rfl⟩
      · go_wp2_with (first | (go_at_call 11; refine (KO.out _).mono ?_; rintro e w' ⟨rfl, e3⟩; rw [e3]; clear e3) | (go_at_call 10; refine (KL.out _).mono ?_; rintro e w' ⟨rfl, hb2⟩; have hb2 := Lib.hid (hb.trans (hb2.mono hb.size))))
        go_ret
        exact ⟨rfl, hb2.out⟩
      · have h2 : (x == 0) = false := by rw [beq_eq_false_iff_ne]; exact h1
        go_wp2_with (first | (go_at_call 11; refine (KO.out _).mono ?_; rintro e w' ⟨rfl, e3⟩; rw [e3]; clear e3) | (go_at_call 10; refine (KL.out _).mono ?_; rintro e w' ⟨rfl, hb2⟩; have hb2 := Lib.hid (hb.trans (hb2.mono hb.size))))
        go_ret
        exact ⟨rfl, hb2.out⟩
theorem lawPer_any (w : World) (s k : Nat) (n0 n1 : Int) :
    Calls Try.prog 3 #[.int .u8 (s : Int), .int .u8 (k : Int), .agg #[.int .i64 n0, .int .i64 n1]] w (ResB w true) := by
  rcases perI_pow s k n0 with ha | ha <;> rcases perI_pow s k n1 with hb | hb
  · exact lawPer_zz w s k n0 n1 ha hb
  · exact lawPer_zp w s k n0 n1 _ hb ha rfl
  · exact lawPer_pz w s k n0 n1 _ ha rfl hb
  · exact lawPer_pp w s k n0 n1 _ hb _ ha rfl rfl
end Go.Proofs.Ytochkonjfhhiiaa
