/-
  Helper text: ControlsNew returns true for any request, any bytes and any number; no statement is proved here.
-/
import Derived.Test.YtgcjhnljlgneiaaGreatDoorNwRun
import Derived.Test.YtgcjhnljlgneiaaGreatDoorLawBytes
open Go Go.Proofs.YtgcjhnljlgneiaaGreatDoor.Ev Go.RowKit
namespace Go.Proofs.YtgcjhnljlgneiaaGreatDoor
structure SaysN (P : Program) (dec d14 d34 d35 d18 : Dec) (args : List AV) (h : Hp) : Prop where
  is : Says (runN P dec d14 d34 d35 d18 args h)
theorem n_of {P : Program} {dec d14 d34 d35 d18 : Dec} {args : List AV} {h : Hp} {Q : Prop} (e : Says (runN P dec d14 d34 d35 d18 args h) = Q) (q : Q) : SaysN P dec d14 d34 d35 d18 args h := ⟨Eq.mpr e q⟩
structure SaysO (P : Program) (xs : List UInt8) (dec d14 d34 d35 d18 : Dec) (args : List AV) (h : Hp) : Prop where
  is : Says (runO P xs dec d14 d34 d35 d18 args h)
theorem o_of {P : Program} {xs : List UInt8} {dec d14 d34 d35 d18 : Dec} {args : List AV} {h : Hp} {Q : Prop} (e : Says (runO P xs dec d14 d34 d35 d18 args h) = Q) (q : Q) : SaysO P xs dec d14 d34 d35 d18 args h := ⟨Eq.mpr e q⟩
theorem refN (d14 d34 d35 d18 : Dec) : Refines (shortD 11 tabs (aCallD Tryz.prog (decsN d14 d34 d35 d18) 60)) (short 11 tabs (aCall Tryz.prog (drawR Tryz.prog) 60)) := shortD_ok (aCallD_ok 60)
theorem isOwn_all (f : Nat → UInt8) (cap : Nat) {n : Nat} (h1 : 0 < n) (h2 : n ≤ 300) : isOwnN Tryz.prog f cap n = true := by
  rcases Nat.lt_or_ge n 101 with a | a
  · exact (List.all_eq_true.1 (owns1 f cap)) n (List.mem_range'_1.2 ⟨by omega, by omega⟩)
  rcases Nat.lt_or_ge n 201 with b | b
  · exact (List.all_eq_true.1 (owns2 f cap)) n (List.mem_range'_1.2 ⟨by omega, by omega⟩)
  · exact (List.all_eq_true.1 (owns3 f cap)) n (List.mem_range'_1.2 ⟨by omega, by omega⟩)
theorem as_range (xs : List UInt8) : (List.range xs.length).map (fun j => xs.getD j 0) = xs := by
  apply List.ext_getElem
  · simp
  · intro i h1 h2
    simp at h1
    simp [List.getD, h1]
theorem own_any {xs : List UInt8} (h1 : 0 < xs.length) (h2 : xs.length ≤ 300) : OwnOK Tryz.prog 36 xs := by
  refine own_ok (noNum_of noNum) mixed (n := 10) h1 fun cap => ?_
  have := isOwn_all (fun j => xs.getD j 0) cap h1 h2
  unfold isOwnN at this
  rw [as_range] at this
  exact this
theorem hcalO {xs : List UInt8} (h1 : 0 < xs.length) (h2 : xs.length ≤ 300) : CalOK Tryz.prog (short 11 tabs (aCallY Tryz.prog (shortOwn 36 xs) 60)) :=
  short_ok (noNum_of noNum) mixed livesT (aCallY_ok (noNum_of noNum) mixed (fun _ hc => shortOwn_ok (own_any h1 h2) hc) 60)
theorem refO (xs : List UInt8) (d14 d34 d35 d18 : Dec) : Refines (shortD 11 tabs (aCallX Tryz.prog (shortOwnD 36 xs) (decsN d14 d34 d35 d18) 60)) (short 11 tabs (aCallY Tryz.prog (shortOwn 36 xs) 60)) := shortD_ok (aCallX_ok (fun _ _ hr => shortOwnD_ok hr) 60)
theorem reqN_V {σ : Sg} (t c v i l : Nat) : V σ (reqN t c v i l) (reqV t c v i l) := by simp [reqN, V, VL]
abbrev Good (W : World) (t c v i l : Nat) (A : Option Addr) (n cp : Nat) (max : Int) : Prop := Calls Tryz.prog 4 #[reqV t c v i l, .slice A n cp, .int .i64 max] W fun e W' => e = .returned (.bool true) ∧ Below W.heap.size W W'
section
variable {W : World} {dec d14 d34 d35 d18 : Dec}
set_option maxRecDepth 100000 in
theorem nway0 (hT : Held W tabs) (t c v i l : Nat) {A : Option Addr} {cp : Nat} {max : Int} {a : AV} (ha : V (σ₀ W) a (.slice A 0 cp)) (hs : SaysN Tryz.prog dec d14 d34 d35 d18 [reqN t c v i l, a, .int .i64 max] (tables tabs)) : Good W t c v i l A 0 cp max := by
  have hs := hs.is
  unfold runN at hs
  refine law_ok (noNum_of noNum) mixed hcal (refN d14 d34 d35 d18) hs (σ := σ₀ W) (ys := [reqV t c v i l, .slice A 0 cp, .int .i64 max]) (held_HR hT) ⟨_, _, rfl, reqN_V t c v i l, _, _, rfl, ha, _, _, rfl, rfl, rfl⟩ (fun id h => by have h : 1001 ≤ id := h; unfold σ₀; rw [if_neg (by omega)]) (by omega) (fun g hg => ⟨_, by simp only [σ₀]; rw [if_pos hg]⟩) tables_only
theorem up_HR (hT : Held W tabs) (b off : Nat) : HR (σ₁ W b off) (tables tabs) W := by
  have x := held_HR hT
  refine ⟨fun id blk hb => ?_, fun i j bi bj p q hi hj hp hq he hw => ?_⟩
  · refine (x.has id blk hb).mono (fun i p hp => ?_) fun p hp => rfl
    unfold σ₀ at hp; unfold σ₁
    split at hp
    · rename_i h; rw [if_pos h]; exact hp
    · simp at hp
  · obtain ⟨_, _, rfl⟩ := tables_ok hi
    obtain ⟨_, _, rfl⟩ := tables_ok hj
    simp [wr] at hw
set_option maxRecDepth 100000 in
theorem nway (hT : Held W tabs) (t c v i l : Nat) {B : Nat} {A : Option Addr} {cp : Nat} {max : Int} {xs : List UInt8} (hr : Rd W B A cp xs) (hx : 0 < xs.length) (hs : SaysN Tryz.prog dec d14 d34 d35 d18 [reqN t c v i l, .sl 1000 0 xs.length (.known cp), .int .i64 max] (tables tabs)) : Good W t c v i l A xs.length cp max := by
  obtain ⟨b, off, rfl, _, hc⟩ := hr.cells hx
  have hs := hs.is
  unfold runN at hs
  refine law_ok (noNum_of noNum) mixed hcal (refN d14 d34 d35 d18) hs (σ := σ₁ W b off) (ys := [reqV t c v i l, .slice (some ⟨b, off, none⟩) xs.length cp, .int .i64 max]) (up_HR hT b off) ⟨_, _, rfl, reqN_V t c v i l, _, _, rfl, ⟨b, off, sizeAt W b, by unfold σ₁; rw [if_neg (by omega), if_pos rfl], cp, by simp, rfl⟩, _, _, rfl, rfl, rfl⟩ (fun id h => by have h : 1001 ≤ id := h; unfold σ₁; rw [if_neg (by omega), if_neg (by omega)]) (by omega) (fun g hg => ⟨_, by simp only [σ₁]; rw [if_pos hg]⟩) tables_only
set_option maxRecDepth 100000 in
theorem oway (hT : Held W tabs) (t c v i l : Nat) {B : Nat} {A : Option Addr} {cp : Nat} {max : Int} {xs : List UInt8} (hr : Rd W B A cp xs) (hx : 0 < xs.length) (hx2 : xs.length ≤ 300) (hs : SaysO Tryz.prog xs dec d14 d34 d35 d18 [reqN t c v i l, .sl 1000 0 xs.length (.known cp), .int .i64 max] (withBytes tabs xs)) : Good W t c v i l A xs.length cp max := by
  obtain ⟨b, off, rfl, _, hc⟩ := hr.cells hx
  have hs := hs.is
  unfold runO at hs
  refine law_ok (noNum_of noNum) mixed (hcalO hx hx2) (refO xs d14 d34 d35 d18) hs (σ := σ₁ W b off) (ys := [reqV t c v i l, .slice (some ⟨b, off, none⟩) xs.length cp, .int .i64 max]) (bytes_HR hT hx hc) ⟨_, _, rfl, reqN_V t c v i l, _, _, rfl, ⟨b, off, sizeAt W b, by unfold σ₁; rw [if_neg (by omega), if_pos rfl], cp, by simp, rfl⟩, _, _, rfl, rfl, rfl⟩ (fun id h => by have h : 1001 ≤ id := h; unfold σ₁; rw [if_neg (by omega), if_neg (by omega)]) (by omega) (fun g hg => ⟨_, by simp only [σ₁]; rw [if_pos hg]⟩) bytes_only
end
theorem tb_any : ∀ t : Fin 256, tb ((t.val : Nat) : Int) = decide (t.val < 128) := by decide +kernel
theorem tb_of {t : Nat} (h : t < 256) : tb (t : Int) = decide (t < 128) := tb_any ⟨t, h⟩
theorem wrap_l {l : Nat} (h : l < 65536) : IntKind.wrap .i64 (l : Int) = (l : Int) := by
  simp [IntKind.wrap, IntKind.bits, IntKind.signed]; omega
theorem beq_req (t c v i l : Int) : AV.beq (reqN t c v i l) (reqN t c v i l) = true := by simp [reqN, AV.beq, AV.beqL]
theorem beqL_cells : ∀ xs : List UInt8, AV.beqL (cellsOf xs) (cellsOf xs) = true
  | [] => by simp [cellsOf, AV.beqL]
  | x :: xs => by
    have := beqL_cells xs
    simp only [cellsOf, List.map_cons, AV.beqL, AV.beq] at this ⊢
    simp [this]
theorem q4_ok {max : Int} (h : max ≠ 8 ∧ max ≠ 16 ∧ max ≠ 32 ∧ max ≠ 64) {R : Prop} (r : R) : q4 max R := by
  unfold q4; simp [h, r]
theorem owesNA_ok {n : Nat} (hn : n ≤ 300) {max : Int} (h : max ≠ 8 ∧ max ≠ 16 ∧ max ≠ 32 ∧ max ≠ 64) : owesNA n max :=
  ⟨by simp; omega, q4_ok h (q4_ok h (q4_ok h (q4_ok h trivial)))⟩
theorem owesW_ok {n t l : Nat} (hn : n ≤ 300) (ht : t < 128) (hl : l < 65536) (h0 : l ≠ 0) (h : n ≠ l) : owesW n t l := by
  unfold owesW; rw [tb_of (by omega), wrap_l hl]; simp [ht]; omega
theorem owesR_ok {n t : Nat} (hn : n ≤ 300) (ht : ¬ t < 128) (ht2 : t < 256) (h : n ≠ 0) : owesR n t := by
  unfold owesR; rw [tb_of ht2]; simp [ht]; omega
theorem owesZ_ok {n t l : Nat} (hn : n ≤ 300) (ht : t < 128) (h0 : l = 0) (h : n ≠ 0) : owesZ n t l := by
  unfold owesZ; rw [tb_of (by omega)]; subst h0; simp [ht]; omega
theorem owesE_ok {t : Nat} (c v i l : Int) (ht : ¬ t < 128) (ht2 : t < 256) : owesE t c v i l := by
  unfold owesE; rw [tb_of ht2, beq_req]; simp [ht]; omega
theorem owesF_ok {t l : Nat} (c v i : Int) (ht : t < 128) (h0 : l = 0) : owesF t c v i l := by
  unfold owesF; rw [tb_of (by omega), beq_req]; subst h0; simp [ht]; omega
theorem owesO_ok {t l : Nat} (c v i : Int) {xs : List UInt8} (hn : xs.length ≤ 300) (ht : t < 128) (hl : l < 65536) (h0 : l ≠ 0) (h : xs.length = l) : owesO t c v i l xs := by
  unfold owesO; rw [tb_of (by omega), wrap_l hl, beq_req, beqL_cells]; simp [ht, h]; omega

set_option maxRecDepth 100000 in
theorem new8 {W : World} (hT : Held W tabs) {t c v i l : Nat} (ht : t < 256) (hl : l < 65536) {B : Nat} {A : Option Addr} {cp : Nat} {xs : List UInt8} (hr : Rd W B A cp xs) (hn : A = none → cp = 0) (hx : xs.length ≤ 300) : Good W t c v i l A xs.length cp 8 := by
  rcases Nat.eq_zero_or_pos xs.length with h0 | h0
  · rw [h0]
    by_cases h1 : t < 128
    · by_cases h2 : l = 0
      · rcases A with _ | a
        · obtain rfl := hn rfl
          exact nway0 hT t c v i l (a := .nilsl) rfl (n_of (nFnilsl8 t c v i l) (owesF_ok c v i h1 h2))
        · exact nway0 hT t c v i l (a := .nsl) ⟨_, _, rfl⟩ (n_of (nFnsl8 t c v i l) (owesF_ok c v i h1 h2))
      · exact nway0 hT t c v i l (a := .esl) ⟨_, _, rfl⟩ (n_of (nWe8 t c v i l) (owesW_ok (by omega) h1 hl h2 (by omega)))
    · rcases A with _ | a
      · obtain rfl := hn rfl
        exact nway0 hT t c v i l (a := .nilsl) rfl (n_of (nEnilsl8 t c v i l) (owesE_ok c v i l h1 ht))
      · exact nway0 hT t c v i l (a := .nsl) ⟨_, _, rfl⟩ (n_of (nEnsl8 t c v i l) (owesE_ok c v i l h1 ht))
  · by_cases h1 : t < 128
    · by_cases h2 : l = 0
      · exact nway hT t c v i l hr h0 (n_of (nZ8 t c v i l _ _) (owesZ_ok hx h1 h2 (by omega)))
      · by_cases h3 : xs.length = l
        · exact oway hT t c v i l hr h0 hx (o_of (nO8 t c v i l _ xs) (owesO_ok c v i hx h1 hl h2 h3))
        · exact nway hT t c v i l hr h0 (n_of (nW8 t c v i l _ _) (owesW_ok hx h1 hl h2 h3))
    · exact nway hT t c v i l hr h0 (n_of (nR8 t c v i l _ _) (owesR_ok hx h1 ht (by omega)))
set_option maxRecDepth 100000 in
theorem new16 {W : World} (hT : Held W tabs) {t c v i l : Nat} (ht : t < 256) (hl : l < 65536) {B : Nat} {A : Option Addr} {cp : Nat} {xs : List UInt8} (hr : Rd W B A cp xs) (hn : A = none → cp = 0) (hx : xs.length ≤ 300) : Good W t c v i l A xs.length cp 16 := by
  rcases Nat.eq_zero_or_pos xs.length with h0 | h0
  · rw [h0]
    by_cases h1 : t < 128
    · by_cases h2 : l = 0
      · rcases A with _ | a
        · obtain rfl := hn rfl
          exact nway0 hT t c v i l (a := .nilsl) rfl (n_of (nFnilsl16 t c v i l) (owesF_ok c v i h1 h2))
        · exact nway0 hT t c v i l (a := .nsl) ⟨_, _, rfl⟩ (n_of (nFnsl16 t c v i l) (owesF_ok c v i h1 h2))
      · exact nway0 hT t c v i l (a := .esl) ⟨_, _, rfl⟩ (n_of (nWe16 t c v i l) (owesW_ok (by omega) h1 hl h2 (by omega)))
    · rcases A with _ | a
      · obtain rfl := hn rfl
        exact nway0 hT t c v i l (a := .nilsl) rfl (n_of (nEnilsl16 t c v i l) (owesE_ok c v i l h1 ht))
      · exact nway0 hT t c v i l (a := .nsl) ⟨_, _, rfl⟩ (n_of (nEnsl16 t c v i l) (owesE_ok c v i l h1 ht))
  · by_cases h1 : t < 128
    · by_cases h2 : l = 0
      · exact nway hT t c v i l hr h0 (n_of (nZ16 t c v i l _ _) (owesZ_ok hx h1 h2 (by omega)))
      · by_cases h3 : xs.length = l
        · exact oway hT t c v i l hr h0 hx (o_of (nO16 t c v i l _ xs) (owesO_ok c v i hx h1 hl h2 h3))
        · exact nway hT t c v i l hr h0 (n_of (nW16 t c v i l _ _) (owesW_ok hx h1 hl h2 h3))
    · exact nway hT t c v i l hr h0 (n_of (nR16 t c v i l _ _) (owesR_ok hx h1 ht (by omega)))
set_option maxRecDepth 100000 in
theorem new32 {W : World} (hT : Held W tabs) {t c v i l : Nat} (ht : t < 256) (hl : l < 65536) {B : Nat} {A : Option Addr} {cp : Nat} {xs : List UInt8} (hr : Rd W B A cp xs) (hn : A = none → cp = 0) (hx : xs.length ≤ 300) : Good W t c v i l A xs.length cp 32 := by
  rcases Nat.eq_zero_or_pos xs.length with h0 | h0
  · rw [h0]
    by_cases h1 : t < 128
    · by_cases h2 : l = 0
      · rcases A with _ | a
        · obtain rfl := hn rfl
          exact nway0 hT t c v i l (a := .nilsl) rfl (n_of (nFnilsl32 t c v i l) (owesF_ok c v i h1 h2))
        · exact nway0 hT t c v i l (a := .nsl) ⟨_, _, rfl⟩ (n_of (nFnsl32 t c v i l) (owesF_ok c v i h1 h2))
      · exact nway0 hT t c v i l (a := .esl) ⟨_, _, rfl⟩ (n_of (nWe32 t c v i l) (owesW_ok (by omega) h1 hl h2 (by omega)))
    · rcases A with _ | a
      · obtain rfl := hn rfl
        exact nway0 hT t c v i l (a := .nilsl) rfl (n_of (nEnilsl32 t c v i l) (owesE_ok c v i l h1 ht))
      · exact nway0 hT t c v i l (a := .nsl) ⟨_, _, rfl⟩ (n_of (nEnsl32 t c v i l) (owesE_ok c v i l h1 ht))
  · by_cases h1 : t < 128
    · by_cases h2 : l = 0
      · exact nway hT t c v i l hr h0 (n_of (nZ32 t c v i l _ _) (owesZ_ok hx h1 h2 (by omega)))
      · by_cases h3 : xs.length = l
        · exact oway hT t c v i l hr h0 hx (o_of (nO32 t c v i l _ xs) (owesO_ok c v i hx h1 hl h2 h3))
        · exact nway hT t c v i l hr h0 (n_of (nW32 t c v i l _ _) (owesW_ok hx h1 hl h2 h3))
    · exact nway hT t c v i l hr h0 (n_of (nR32 t c v i l _ _) (owesR_ok hx h1 ht (by omega)))
set_option maxRecDepth 100000 in
theorem new64 {W : World} (hT : Held W tabs) {t c v i l : Nat} (ht : t < 256) (hl : l < 65536) {B : Nat} {A : Option Addr} {cp : Nat} {xs : List UInt8} (hr : Rd W B A cp xs) (hn : A = none → cp = 0) (hx : xs.length ≤ 300) : Good W t c v i l A xs.length cp 64 := by
  rcases Nat.eq_zero_or_pos xs.length with h0 | h0
  · rw [h0]
    by_cases h1 : t < 128
    · by_cases h2 : l = 0
      · rcases A with _ | a
        · obtain rfl := hn rfl
          exact nway0 hT t c v i l (a := .nilsl) rfl (n_of (nFnilsl64 t c v i l) (owesF_ok c v i h1 h2))
        · exact nway0 hT t c v i l (a := .nsl) ⟨_, _, rfl⟩ (n_of (nFnsl64 t c v i l) (owesF_ok c v i h1 h2))
      · exact nway0 hT t c v i l (a := .esl) ⟨_, _, rfl⟩ (n_of (nWe64 t c v i l) (owesW_ok (by omega) h1 hl h2 (by omega)))
    · rcases A with _ | a
      · obtain rfl := hn rfl
        exact nway0 hT t c v i l (a := .nilsl) rfl (n_of (nEnilsl64 t c v i l) (owesE_ok c v i l h1 ht))
      · exact nway0 hT t c v i l (a := .nsl) ⟨_, _, rfl⟩ (n_of (nEnsl64 t c v i l) (owesE_ok c v i l h1 ht))
  · by_cases h1 : t < 128
    · by_cases h2 : l = 0
      · exact nway hT t c v i l hr h0 (n_of (nZ64 t c v i l _ _) (owesZ_ok hx h1 h2 (by omega)))
      · by_cases h3 : xs.length = l
        · exact oway hT t c v i l hr h0 hx (o_of (nO64 t c v i l _ xs) (owesO_ok c v i hx h1 hl h2 h3))
        · exact nway hT t c v i l hr h0 (n_of (nW64 t c v i l _ _) (owesW_ok hx h1 hl h2 h3))
    · exact nway hT t c v i l hr h0 (n_of (nR64 t c v i l _ _) (owesR_ok hx h1 ht (by omega)))
set_option maxRecDepth 100000 in
theorem new_any {W : World} (hT : Held W tabs) {t : Nat} (c v i : Nat) {l : Nat} (ht : t < 256) (hl : l < 65536) {B : Nat} {A : Option Addr} {cp : Nat} {xs : List UInt8} (hr : Rd W B A cp xs) (hn : A = none → cp = 0) (max : Int) : Good W t c v i l A xs.length cp max := by
  rcases Nat.lt_or_ge 300 xs.length with hx | hx
  · exact nway hT t c v i l hr (by omega) (n_of (n0 t c v i l max _ _) ⟨by simp; omega, trivial⟩)
  by_cases m8 : max = 8
  · subst m8; exact new8 hT ht hl hr hn hx
  by_cases m16 : max = 16
  · subst m16; exact new16 hT ht hl hr hn hx
  by_cases m32 : max = 32
  · subst m32; exact new32 hT ht hl hr hn hx
  by_cases m64 : max = 64
  · subst m64; exact new64 hT ht hl hr hn hx
  rcases Nat.eq_zero_or_pos xs.length with h0 | h0
  · rw [h0]
    exact nway0 hT t c v i l (a := .esl) ⟨_, _, rfl⟩ (n_of (nAe t c v i l max) (owesNA_ok (by omega) ⟨m8, m16, m32, m64⟩))
  · exact nway hT t c v i l hr h0 (n_of (nA t c v i l max _ _) (owesNA_ok hx ⟨m8, m16, m32, m64⟩))
end Go.Proofs.YtgcjhnljlgneiaaGreatDoor
