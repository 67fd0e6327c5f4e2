/-
  Helper text: the first ticks that All yields, as the law file collects them; no statement is proved here.
-/
import Derived.Test.YtochkonjfhhiiaaAll
import Derived.Test.YtochkonjfhhiiaaInts
import Derived.Test.YtochkonjfhhiiaaEvC
namespace Go.Proofs.Ytochkonjfhhiiaa
open Go Go.RowKit Go.Shelf
attribute [local go_sem] Oper.semAt_some

set_option maxRecDepth 100000 in
set_option maxHeartbeats 1000000 in
theorem all0_in (F : Fence) (n : Nat) (h35 : F.fn 35) (h23 : F.fn 23) (hro : F.round = none) (hn : 1 ≤ n) (l Bp Bf Ba n₀ : Nat) (p f a : Int)
    (K1 : RowKit.Hid (∀ W, CallsIn F (n - 1) Try.prog 23 #[.int .i64 p, .int .i64 f] W (Same W (.bool false))))
    (J : List Int → World → Prop) (W : World) (hBp : W.cell? ⟨Bp, 0, none⟩ = some (.int .i64 p)) (hBf : W.cell? ⟨Bf, 0, none⟩ = some (.int .i64 f)) (h0 : J [] W) :
    CallsIn F n Try.prog 35 #[.func (.yield l) #[] #[], .pointer (some ⟨Bp, 0, none⟩), .pointer (some ⟨Bf, 0, none⟩), .pointer (some ⟨Ba, 0, none⟩)] W fun e W' => (∃ v, e = .returned v) ∧ J [] W' := by
  refine callsIn_of_wp Try.func35 rfl h35 ?_ hro
  simp only [Try.ntmps35, List.size_toArray, List.length_cons, List.length_nil, Nat.reduceAdd, Nat.reduceSub, Array.replicate_succ, Array.replicate_zero, List.push_toArray, List.append_toArray, List.nil_append, List.cons_append]
  gi_wp2_with (gi_at_call 23; refine (K1.out _).mono ?_; rintro e w' ⟨rfl, rfl⟩)
  refine bodyPost_ret (results_none rfl _ _ _) rfl ?_
  exact ⟨⟨_, rfl⟩, h0⟩

set_option maxHeartbeats 1000000 in
theorem all_in (F : Fence) (n : Nat) (h25 : F.fn 25) (hro : F.round = none) (p f a : Int) (w : World) :
    CallsIn F n Try.prog 25 #[.int .i64 p, .int .i64 f, .int .i64 a] w fun e w' => e = .returned (.func (.func 35) #[] #[.pointer (some ⟨w.heap.size, 0, none⟩), .pointer (some ⟨w.heap.size + 1, 0, none⟩), .pointer (some ⟨w.heap.size + 2, 0, none⟩)]) ∧
      w' = ((w.alloc (.cells #[.int .i64 p] 3)).alloc (.cells #[.int .i64 f] 3)).alloc (.cells #[.int .i64 a] 3) := by
  refine callsIn_of_wp Try.func25 rfl h25 ?_ hro
  simp only [Try.ntmps25, List.size_toArray, List.length_cons, List.length_nil, Nat.reduceAdd, Nat.reduceSub, Array.replicate_succ, Array.replicate_zero, List.push_toArray, List.append_toArray, List.nil_append, List.cons_append]
  gi_wp2
  go_ret
  exact ⟨rfl, rfl⟩

/-- All the ticks have come; some have come. -/
def AllT (p f a : Int) (ys : List Int) : Prop := (posB p f = true → Tk p (T0 p f a) ys ∧ 1048576 ≤ T0 p f a + ys.length * p) ∧ (posB p f = false → ys = [])
def SomeT (p f a : Int) (ys : List Int) : Prop := posB p f = true ∧ Tk p (T0 p f a) ys

theorem all_stops (n : Nat) (hn : 1 ≤ n) (Bp Bf Ba n₀ : Nat) (p f a : Int) (hpp : p ≤ 9223372036854775807) (w : World) (hb : Bp < w.heap.size ∧ Bf < w.heap.size ∧ Ba < w.heap.size)
    (hBp : w.cell? ⟨Bp, 0, none⟩ = some (.int .i64 p)) (hBf : w.cell? ⟨Bf, 0, none⟩ = some (.int .i64 f)) (hBa : w.cell? ⟨Ba, 0, none⟩ = some (.int .i64 a)) :
    SeqStopsK Fence.wide n Try.prog 35 #[.pointer (some ⟨Bp, 0, none⟩), .pointer (some ⟨Bf, 0, none⟩), .pointer (some ⟨Ba, 0, none⟩)] encT (KpK n₀ Bp Bf) (AllT p f a) (SomeT p f a) 1048577 w := fun l J Jx W hW _ _ hY h0 => by
  have hp' := (hW.cell (p := ⟨Bp, 0, none⟩) hb.1).trans hBp
  have hf' := (hW.cell (p := ⟨Bf, 0, none⟩) hb.2.1).trans hBf
  have ha' := (hW.cell (p := ⟨Ba, 0, none⟩) hb.2.2).trans hBa
  cases hps : posB p f with
  | false =>
    refine (all0_in Fence.wide n trivial trivial rfl hn l Bp Bf Ba n₀ p f a (Lib.hid fun W => callsIn_wide.2 (by have := isPossible_any W p f hpp; rwa [hps] at this)) J W hp' hf' h0).mono ?_
    rintro e W' ⟨he, h⟩
    exact ⟨he, .inl ⟨[], ⟨fun h => (by rw [hps] at h; cases h), fun _ => rfl⟩, h⟩⟩
  | true =>
    obtain ⟨h1, h2, h3⟩ := posB_iff.1 hps
    have hp2 := isPow_pos h1
    have hT := T0_bound hps a
    refine (all1_in Fence.wide n trivial trivial trivial rfl hn l Bp Bf Ba n₀ p f a (min a 1048576) (dB p f (min a 1048576)) (T0 p f a) 1048577 w (Lib.hid hp2)
      (Lib.hid fun W => callsIn_wide.2 (by have := isPossible_any W p f hpp; rwa [hps] at this))
      (Lib.hid fun W x hx => callsIn_wide.2 (by rw [hx]; exact dueBelow_any W p f _ hps (by omega))) (Nat.le_refl _) (Lib.hid rfl) (Lib.hid (by unfold T0; omega)) hT.1 hT.2.1 h2 (by omega) J Jx hY W hp' hf' ha' h0).mono ?_
    rintro e W' ⟨he, ⟨ys, h4, h5⟩ | ⟨pre, h4, h5⟩⟩
    · exact ⟨he, .inl ⟨ys, ⟨fun _ => h4, fun h => by rw [hps] at h; cases h⟩, h5⟩⟩
    · exact ⟨he, .inr ⟨pre, ⟨hps, h4⟩, h5⟩⟩

/-- What first returns. -/
def FstT (p f a : Int) (N : Nat) (ys : List Int) : Prop := ys.length ≤ N ∧ (posB p f = false → ys = []) ∧ (posB p f = true → Tk p (T0 p f a) ys ∧ (ys.length = N ∨ 1048576 ≤ T0 p f a + ys.length * p))

theorem first_zero (w : World) (p f a : Int) : Calls Try.prog 15 #[.int .i64 p, .int .i64 f, .int .i64 a, .int .i64 0] w fun e w' => e = .returned (.slice none 0 0) ∧ Below w.heap.size w w' := by
  go_enter Try.func15, Try.ntmps15
  go_wp2
  go_ret
  exact ⟨rfl, ((Below.refl _ w).alloc (Nat.le_refl _) _).alloc (by simp) _⟩

theorem row_mono {W : World} {a b e size n : Nat} {v : Value} {xs : List Value} (h : W.ownsRow b e size v n xs) (hab : a ≤ b) : W.ownsRow a e size v n xs := by
  refine ⟨h.1, ?_⟩
  rcases h.2 with h2 | ⟨g, cap, cur, h3, h4, h5⟩
  · exact .inl h2
  · exact .inr ⟨g, cap, cur, h3, Nat.le_trans hab h4, h5⟩
theorem row_others {W w1 : World} {b e size n B : Nat} {v v' : Value} {xs : List Value} {tmp : Obj} (h : W.ownsRow b e size v n xs) (hg : (W.alloc tmp).grownBy w1 v.ownBlock) {j : Nat} (hj : j < b) (hB : j ≠ B) (hs : j < W.heap.size) : (w1.setCell ⟨B, 0, none⟩ v').heap[j]? = W.heap[j]? := by
  rw [Below.heap_setCell _ _ _ _ (fun e => hB e), hg.block j (by simp; omega) (fun e => ?_), Below.heap_alloc W tmp j hs]
  rcases h.2 with ⟨rfl, _⟩ | ⟨g, cap, cur, rfl, h4, _⟩
  · cases e
  · have : j = g := by simpa [Value.ownBlock] using e
    omega

/-- What the append of one number to the boxed list leaves: the box is at h + 1; the world behind the store. -/
structure App (h N : Nat) (A0 : Option Addr) (c0 : Nat) (pre : List Int) (x : Int) (W : World) (g' cap' : Nat) (w1 : World) : Prop where
  cell : w1.cell? ⟨h + 1, 0, none⟩ = some (.slice A0 pre.length c0)
  cellN1 : w1.cell? ⟨h, 0, none⟩ = some (.int .i64 (N : Int))
  frozen : w1.frozen? ⟨h + 1, 0, none⟩ = false
  cell2 : (w1.setCell ⟨h + 1, 0, none⟩ (.slice (some ⟨g', 0, none⟩) (pre.length + 1) cap')).cell? ⟨h + 1, 0, none⟩ = some (.slice (some ⟨g', 0, none⟩) (pre.length + 1) cap')
  cellN : (w1.setCell ⟨h + 1, 0, none⟩ (.slice (some ⟨g', 0, none⟩) (pre.length + 1) cap')).cell? ⟨h, 0, none⟩ = some (.int .i64 (N : Int))
  box : Boxed (w1.setCell ⟨h + 1, 0, none⟩ (.slice (some ⟨g', 0, none⟩) (pre.length + 1) cap')) (h + 1) 37 (.slice (some ⟨g', 0, none⟩) (pre.length + 1) cap')
  row : (w1.setCell ⟨h + 1, 0, none⟩ (.slice (some ⟨g', 0, none⟩) (pre.length + 1) cap')).ownsRow (h + 5) 3 1 (.slice (some ⟨g', 0, none⟩) (pre.length + 1) cap') (pre.length + 1) (pre.map iv ++ [iv x])
  keeps : KeepsOthers W (w1.setCell ⟨h + 1, 0, none⟩ (.slice (some ⟨g', 0, none⟩) (pre.length + 1) cap'))
  below : Below h W (w1.setCell ⟨h + 1, 0, none⟩ (.slice (some ⟨g', 0, none⟩) (pre.length + 1) cap'))
  other : ∀ j, j < h + 5 → j ≠ h + 1 → (w1.setCell ⟨h + 1, 0, none⟩ (.slice (some ⟨g', 0, none⟩) (pre.length + 1) cap')).heap[j]? = W.heap[j]?

theorem wplI_app {F : Fence} {n : Nat} {ops : Array Oper} {rest : List Oper} {o : Oper} {ac : Act} {Q : Exit → Act → World → Prop} (h N : Nat) (pre : List Int) (x : Int) (W : World) (A0 : Option Addr) (c0 : Nat)
    (hv : Boxed W (h + 1) 37 (.slice A0 pre.length c0)) (hrow : W.ownsRow (h + 5) 3 1 (.slice A0 pre.length c0) pre.length (pre.map iv)) (hcN : W.cell? ⟨h, 0, none⟩ = some (.int .i64 (N : Int))) (hsz : h + 5 ≤ W.heap.size) (hl : pre.length ≤ 1000)
    (hgd : o.guard = none) (s y : Operand) (hop : o.op = Op.call { callee := Callee.builtin Builtin.append, args := #[s, y], argTypes := #[37, 37] }) (hs : ac.eval s = .slice A0 pre.length c0) (hy : ac.eval y = .slice (some ⟨W.heap.size, 0, none⟩) 1 1)
    (hK : ∀ g' cap' w1, App h N A0 c0 pre x W g' cap' w1 → wpListIn F n Try.prog ops Q rest (ac.put o.dst (.slice (some ⟨g', 0, none⟩) (pre.length + 1) cap')) w1) :
    wpListIn F n Try.prog ops Q (o :: rest) ac (W.alloc (.cells #[iv x] 3)) := by
  obtain ⟨i0, hi, hz0, hz1, hz2⟩ := info_parts Try.info3
  refine wpListIn_append_own _ hgd s y 37 hop (h + 5) 3 i0 (.int .i64 0) 1 8 Try.underlying37 hi hz0 hz1 hz2 rfl (by decide) _ _ _ hs (hrow.alloc _) ⟨W.heap.size, 0, none⟩ 1 1 [iv x] hy rfl (cell_one_new _ _ _) (by simp [Value.oneCell']) (by simp only [maxLen]; omega) (by omega) (by simp; omega) ?_
  intro v' w1 hown' hgrow _
  obtain ⟨g', cap', rfl⟩ := ownsRow_succ hown'
  obtain ⟨hv1, hv2, hr2, hk2, hb2⟩ := hv.appended (by decide) (row_mono hrow (show h ≤ h + 5 by omega)) (by omega) (by omega) (row_mono hown' (show h ≤ h + 5 by omega)) hgrow
  have ho := fun j (h1 : j < h + 5) (h2 : j ≠ h + 1) => row_others (v' := .slice (some ⟨g', 0, none⟩) (pre.length + 1) cap') hrow hgrow h1 h2 (by omega)
  refine hK g' cap' w1 ⟨hv1.cell, ?_, hv1.frozen, hv2.cell, (World.cell?_of_block (a := ⟨h, 0, none⟩) (ho h (by omega) (by omega))).trans hcN, hv2, hown'.kept (grownBy_setCell' w1 (h + 1) _) (.inr (hv1.not_row (by decide) hown').symm), hk2, hb2, ho⟩
  have := (World.cell?_of_block (a := ⟨h, 0, none⟩) (ho h (by omega) (by omega))).trans hcN
  rwa [World.cell?_setCell_other _ _ _ _ (by intro e; injection e with e1; omega)] at this

set_option maxRecDepth 100000 in
set_option maxHeartbeats 4000000 in
theorem first_in (n : Nat) (hn : 3 ≤ n) (w : World) (p f a : Int) (hpp : p ≤ 9223372036854775807) (N : Nat) (hN : 0 < N) (hN2 : N ≤ 1000) :
    CallsIn Fence.wide n Try.prog 15 #[.int .i64 p, .int .i64 f, .int .i64 a, .int .i64 (N : Int)] w fun e w' => ∃ v ys, e = .returned v ∧ FstT p f a N ys ∧ w'.ownsRow (w.heap.size + 5) 3 1 v ys.length (ys.map iv) ∧ Below w.heap.size w w' := by
  have h1 : 1 ≤ n := by omega
  obtain ⟨i0, hi, hz0, hz1, hz2⟩ := info_parts Try.info3
  have qF : ∀ (W : World) (g : Nat) (c : Array Value), (binOp .eql 68 (.func (.func g) #[] c) .nilFunc).run Try.prog W = .ok (.bool false) W := fun W g c => by kernel_rfl
  have KA := Lib.hid fun W => all_in Fence.wide (n - 1) trivial rfl p f a W
  refine callsIn_of_wp_marks Try.func15 rfl trivial ?_ rfl
  simp only [Try.ntmps15, List.size_toArray, List.length_cons, List.length_nil, Nat.reduceAdd, Nat.reduceSub, Array.replicate_succ, Array.replicate_zero, List.push_toArray, List.append_toArray, List.nil_append, List.cons_append]
  gi_wp2_with (refine ⟨trivial, ?_⟩; gi_at_call 25; refine (KA.out _).mono ?_; rintro e w' ⟨rfl, rfl⟩)
  have x0 := heap_alloc_new w (.cells #[.int .i64 (N : Int)] 3)
  obtain ⟨w1, hw1⟩ : ∃ w1, w.alloc (.cells #[.int .i64 (N : Int)] 3) = w1 := ⟨_, rfl⟩
  have z1 : w1.heap.size = w.heap.size + 1 := by rw [← hw1]; simp
  have b1 : Below w.heap.size w w1 := by rw [← hw1]; exact (Below.refl _ w).alloc (Nat.le_refl _) _
  rw [hw1] at x0 ⊢
  have bO := Boxed.new w1 37 (.slice none 0 0)
  obtain ⟨w2, hw2⟩ : ∃ w2, w1.alloc (.cells #[.slice none 0 0] 37) = w2 := ⟨_, rfl⟩
  have z2 : w2.heap.size = w.heap.size + 2 := by rw [← hw2]; simp [z1]
  have b2 : Below w1.heap.size w1 w2 := by rw [← hw2]; exact (Below.refl _ w1).alloc (Nat.le_refl _) _
  rw [hw2] at bO ⊢
  have x2 := heap_alloc_new w2 (.cells #[.int .i64 p] 3)
  obtain ⟨w3, hw3⟩ : ∃ w3, w2.alloc (.cells #[.int .i64 p] 3) = w3 := ⟨_, rfl⟩
  have z3 : w3.heap.size = w.heap.size + 3 := by rw [← hw3]; simp [z2]
  have b3 : Below w2.heap.size w2 w3 := by rw [← hw3]; exact (Below.refl _ w2).alloc (Nat.le_refl _) _
  rw [hw3] at x2 ⊢
  have x3 := heap_alloc_new w3 (.cells #[.int .i64 f] 3)
  obtain ⟨w4, hw4⟩ : ∃ w4, w3.alloc (.cells #[.int .i64 f] 3) = w4 := ⟨_, rfl⟩
  have z4 : w4.heap.size = w.heap.size + 4 := by rw [← hw4]; simp [z3]
  have b4 : Below w3.heap.size w3 w4 := by rw [← hw4]; exact (Below.refl _ w3).alloc (Nat.le_refl _) _
  rw [hw4] at x3 ⊢
  have x4 := heap_alloc_new w4 (.cells #[.int .i64 a] 3)
  obtain ⟨w5, hw5⟩ : ∃ w5, w4.alloc (.cells #[.int .i64 a] 3) = w5 := ⟨_, rfl⟩
  have z5 : w5.heap.size = w.heap.size + 5 := by rw [← hw5]; simp [z4]
  have b5 : Below w4.heap.size w4 w5 := by rw [← hw5]; exact (Below.refl _ w4).alloc (Nat.le_refl _) _
  rw [hw5] at x4 ⊢
  have b15 : Below w1.heap.size w1 w5 := b2.trans ((b3.mono (by omega)).trans ((b4.mono (by omega)).trans (b5.mono (by omega))))
  have b25 : Below w2.heap.size w2 w5 := b3.trans ((b4.mono (by omega)).trans (b5.mono (by omega)))
  have hB0 : Below w.heap.size w w5 := b1.trans (b15.mono (by omega))
  rw [z1] at bO
  rw [z2] at x2
  rw [z3] at x3
  rw [z4] at x4
  have y0 : w5.heap[w.heap.size]? = _ := (b15.block _ (by omega)).trans x0
  have yO : Boxed w5 (w.heap.size + 1) 37 (.slice none 0 0) := (b25.block _ (by omega)).trans bO
  have y2 : w5.heap[w.heap.size + 2]? = _ := ((b4.trans (b5.mono (by omega))).block _ (by omega)).trans x2
  have y3 : w5.heap[w.heap.size + 3]? = _ := (b5.block _ (by omega)).trans x3
  clear hw1 hw2 hw3 hw4 hw5 x0 bO x2 x3 b1 b2 b3 b4 b5 b15 b25 z1 z2 z3 z4 w1 w2 w3 w4
  refine wpIn_rangeFunc_ownG (α := Int) rfl h1 (gf := 35) (lb := #[.pointer (some ⟨w.heap.size + 2, 0, none⟩), .pointer (some ⟨w.heap.size + 3, 0, none⟩), .pointer (some ⟨w.heap.size + 4, 0, none⟩)]) rfl trivial (enters_of Try.func35 (by kernel_rfl) rfl)
    (all_stops (n - 1) (by omega) (w.heap.size + 2) (w.heap.size + 3) (w.heap.size + 4) w.heap.size p f a hpp w5 ⟨by omega, by omega, by omega⟩ (Ev.cell_row y2 0) (Ev.cell_row y3 0) (Ev.cell_row x4 0)) KpK.trans (kpK_b (by omega) (by omega) (by omega)) (Below.refl _ _) (fun _ => rfl)
    (fun pre W => ((∃ v, Boxed W (w.heap.size + 1) 37 v ∧ W.ownsRow (w.heap.size + 5) 3 1 v pre.length (pre.map iv) ∧ pre.length < N) ∧ (W.cell? ⟨w.heap.size, 0, none⟩ = some (.int .i64 (N : Int)) ∧ w.heap.size + 5 ≤ W.heap.size)) ∧ Below w.heap.size w W)
    (fun c pre W => (∃ v, Boxed W (w.heap.size + 1) 37 v ∧ W.ownsRow (w.heap.size + 5) 3 1 v pre.length (pre.map iv) ∧ (c = .exit 0 ∧ pre.length = N)) ∧ Below w.heap.size w W)
    (OwnFrom.and (OwnFrom.and (Own.from (holdsRow_own (w.heap.size + 5) (w.heap.size + 1) 37 3 1 (fun (pre : List Int) => pre.length) (fun pre => pre.map iv) (fun pre _ => pre.length < N)) _) (fun s A B row hs hg hr => ⟨cell_kept hs.1 hg (fun r e => (hr r e).2), Nat.le_trans hs.2 hg.size⟩)) (ownFrom_below (Nat.le_refl _) (by omega)))
    (fun c => OwnFrom.and (Own.from (holdsRow_own (w.heap.size + 5) (w.heap.size + 1) 37 3 1 (fun (pre : List Int) => pre.length) (fun pre => pre.map iv) (fun pre _ => c = .exit 0 ∧ pre.length = N)) _) (ownFrom_below (Nat.le_refl _) (by omega)))
    ⟨⟨⟨_, yO, World.ownsRow_nil _ _ _ _, hN⟩, Ev.cell_row y0 0, by omega⟩, hB0⟩
    (fun x => { tmps := #[.int .i64 p, .int .i64 f, .int .i64 a, .int .i64 (N : Int), undef, undef, undef, .pointer (some ⟨w.heap.size, 0, none⟩), .slice none 0 0, .pointer (some ⟨w.heap.size + 1, 0, none⟩), .func (.func 35) #[] #[.pointer (some ⟨w.heap.size + 2, 0, none⟩), .pointer (some ⟨w.heap.size + 3, 0, none⟩), .pointer (some ⟨w.heap.size + 4, 0, none⟩)], .int .i64 x, .int .i64 (N : Int), .bool false, .int .i64 p, .int .i64 f, .int .i64 a, .func (.func 35) #[] #[.pointer (some ⟨w.heap.size + 2, 0, none⟩), .pointer (some ⟨w.heap.size + 3, 0, none⟩), .pointer (some ⟨w.heap.size + 4, 0, none⟩)], .func (.func 35) #[] #[.pointer (some ⟨w.heap.size + 2, 0, none⟩), .pointer (some ⟨w.heap.size + 3, 0, none⟩), .pointer (some ⟨w.heap.size + 4, 0, none⟩)], .bool false, .func (.func 35) #[] #[.pointer (some ⟨w.heap.size + 2, 0, none⟩), .pointer (some ⟨w.heap.size + 3, 0, none⟩), .pointer (some ⟨w.heap.size + 4, 0, none⟩)], .int .i64 x, undef, undef, undef, undef, undef, undef, undef, undef, undef], defers := [] }) ?assign ?body ?done ?stop
  case assign =>
    intro l x W K hK
    dsimp only [encT]
    gi_wp2
    exact hK
  case body =>
    rintro l pre x W ⟨⟨⟨v, hv, hrow, hl⟩, hcN, hsz⟩, hB⟩ hlt
    obtain ⟨A0, c0, rfl⟩ : ∃ A c, v = .slice A pre.length c := by
      rcases hrow.2 with ⟨h2, h3⟩ | ⟨g, cap, cur, h2, _⟩
      · exact ⟨none, 0, by rw [h2, h3]⟩
      · exact ⟨_, _, h2⟩
    have hc := hv.cell
    by_cases hlast : pre.length + 1 = N
    · have HlN := Lib.hid (show (pre.length : Int) + 1 = (N : Int) by omega)
      gi_wp2_with (gi_at_builtin; refine wplI_app w.heap.size N pre x W A0 c0 hv hrow hcN hsz (by omega) rfl _ _ rfl rfl rfl ?_; intro g' cap' w1 hA; have hc1 := hA.cell; have hf1 := hA.frozen; have hc2 := hA.cell2; have hcN2 := hA.cellN; have hcN1 := hA.cellN1; replace HlN := HlN.out)
      obtain rfl := hlast
      exact ⟨hA.keeps.from _, ⟨_, hA.box, by simpa using hA.row, rfl, by simp⟩, hB.trans hA.below⟩
    · have HlN := Lib.hid (show ¬ (pre.length : Int) + 1 = (N : Int) by omega)
      gi_wp2_with (gi_at_builtin; refine wplI_app w.heap.size N pre x W A0 c0 hv hrow hcN hsz (by omega) rfl _ _ rfl rfl rfl ?_; intro g' cap' w1 hA; have hc1 := hA.cell; have hf1 := hA.frozen; have hc2 := hA.cell2; have hcN2 := hA.cellN; have hcN1 := hA.cellN1; replace HlN := HlN.out)
      exact ⟨hA.keeps.from _, ⟨hA.below, hA.other _ (by omega) (by omega), hA.other _ (by omega) (by omega)⟩, ⟨⟨_, hA.box, by simpa using hA.row, by simp; omega⟩, hA.cellN, Nat.le_trans hsz hA.below.size⟩, hB.trans hA.below⟩
  case done =>
    rintro D ys W hD hys ⟨⟨⟨v, hv, hrow, hl⟩, hcN, hsz⟩, hB⟩ hK
    obtain ⟨A0, c0, rfl⟩ : ∃ A c, v = .slice A ys.length c := by
      rcases hrow.2 with ⟨h2, h3⟩ | ⟨g, cap, cur, h2, _⟩
      · exact ⟨none, 0, by rw [h2, h3]⟩
      · exact ⟨_, _, h2⟩
    have hc := hv.cell
    gi_wp2
    refine ⟨by simp, .inl ⟨_, _, rfl, run_takeDeferred hK, ?_⟩⟩
    exact ⟨_, results_tmp rfl _ _ _, _, ys, rfl, ⟨by omega, hys.2, fun h => ⟨(hys.1 h).1, .inr (hys.1 h).2⟩⟩, ownsRow_putObj hrow _ hK rfl, hB.trans (belowK_b (w := w) (Nat.le_refl _) W D _ _ (by omega) hK rfl rfl)⟩
  case stop =>
    rintro D c pre W hD hsp ⟨⟨v, hv, hrow, rfl, hl⟩, hB⟩ hK
    obtain ⟨A0, c0, rfl⟩ : ∃ A c, v = .slice A pre.length c := by
      rcases hrow.2 with ⟨h2, h3⟩ | ⟨g, cap, cur, h2, _⟩
      · exact ⟨none, 0, by rw [h2, h3]⟩
      · exact ⟨_, _, h2⟩
    have hc := hv.cell
    subst hl
    gi_wp2
    refine ⟨by simp, .inl ⟨_, _, rfl, run_takeDeferred hK, ?_⟩⟩
    exact ⟨_, results_tmp rfl _ _ _, _, pre, rfl, ⟨by omega, fun h => (by rw [hsp.1] at h; cases h), fun _ => ⟨hsp.2, .inl rfl⟩⟩, ownsRow_putObj hrow _ hK rfl, hB.trans (belowK_b (w := w) (Nat.le_refl _) W D _ _ (by omega) hK rfl rfl)⟩

/-- first, for a number of ticks. -/
theorem first_any (w : World) (p f a : Int) (hpp : p ≤ 9223372036854775807) (N : Nat) (hN2 : N ≤ 1000) :
    Calls Try.prog 15 #[.int .i64 p, .int .i64 f, .int .i64 a, .int .i64 (N : Int)] w fun e w' => ∃ A c ys, e = .returned (.slice A ys.length c) ∧ FstT p f a N ys ∧ RdI w' w'.heap.size A c ys ∧ Below w.heap.size w w' := by
  rcases Nat.eq_zero_or_pos N with rfl | hN
  · refine (first_zero w p f a).mono ?_
    rintro e w' ⟨rfl, hb⟩
    exact ⟨none, 0, [], rfl, ⟨Nat.le_refl _, fun _ => rfl, fun _ => ⟨Tk.nil _ _, .inl rfl⟩⟩, ⟨Nat.le_refl _, by omega, fun h => absurd h (by simp)⟩, hb⟩
  · refine (callsIn_wide.1 (first_in 5 (by omega) w p f a hpp N hN hN2)).mono ?_
    rintro e w' ⟨v, ys, rfl, h1, h2, h3⟩
    obtain ⟨A, c, rfl, h4⟩ := RdI.of_own h2
    exact ⟨A, c, ys, rfl, h1, h4, h3⟩
end Go.Proofs.Ytochkonjfhhiiaa
