/-
  Helper text: the ticks that All yields, for every loop over them; no statement is proved here.
-/
import Derived.RangeFuncNested
import Derived.RangeFuncBound
import Derived.RangeFuncCalls
import Derived.RangeFuncLeaves
import Derived.RangeFuncBox
import Derived.RangeFuncGives
import Derived.Shelf.Abstract
import Derived.Shelf.RegionOpen
import Derived.WalkKit
import Derived.OwnWalkIn
import Derived.TacticsInMore
import Derived.LoopNIn
import Derived.LoopIn
import Derived.Maps.AppendAt
import Derived.Test.YtochkonjfhhiiaaRef
namespace Go.Proofs.Ytochkonjfhhiiaa
open Go Go.RowKit Go.Shelf
attribute [local go_sem] Oper.semAt_some

/-- The ticks from t on, p apart, below MaxTicks. -/
def Tk (p t : Int) (ys : List Int) : Prop := ∀ j : Nat, j < ys.length → ys[j]?.getD 0 = t + j * p ∧ t + j * p < 1048576
/-- The first of them. -/
def T0 (p f a : Int) : Int := f + dB p f (min a 1048576) * p
theorem T0_bound {p f : Int} (h : posB p f = true) (a : Int) : 0 ≤ T0 p f a ∧ T0 p f a ≤ 1050000 ∧ 0 ≤ dB p f (min a 1048576) * p ∧ dB p f (min a 1048576) * p ≤ 1050000 := by
  obtain ⟨h1, h2, h3⟩ := posB_iff.1 h
  unfold T0 dB
  rcases isPow_iff.1 h1 with rfl | rfl | rfl | rfl | rfl | rfl | rfl | rfl | rfl <;> (split <;> omega)
theorem Tk.nil (p t : Int) : Tk p t [] := fun j h => absurd h (by simp)
theorem Tk.snoc {p t : Int} {ys : List Int} (h : Tk p t ys) {x : Int} (hx : x = t + ys.length * p) (hl : x < 1048576) : Tk p t (ys ++ [x]) := fun j hj => by
  rcases Nat.lt_or_ge j ys.length with h1 | h1
  · rw [List.getElem?_append_left h1]; exact h j h1
  · have : j = ys.length := by simp at hj; omega
    subst this
    simp
    exact ⟨hx, by rw [← hx]; exact hl⟩

/-- What a round keeps: all below n₀, and two boxes. -/
def KpK (n₀ Bm Bz : Nat) (W W' : World) : Prop := Below n₀ W W' ∧ W'.heap[Bm]? = W.heap[Bm]? ∧ W'.heap[Bz]? = W.heap[Bz]?
theorem KpK.refl (n₀ Bm Bz : Nat) (W : World) : KpK n₀ Bm Bz W W := ⟨Below.refl _ _, rfl, rfl⟩
theorem KpK.trans {n₀ Bm Bz : Nat} {A B C : World} (h : KpK n₀ Bm Bz A B) (k : KpK n₀ Bm Bz B C) : KpK n₀ Bm Bz A C := ⟨h.1.trans k.1, k.2.1.trans h.2.1, k.2.2.trans h.2.2⟩
theorem kpK_b {n₀ Bm Bz : Nat} {w : World} (hn : n₀ ≤ w.heap.size) (hm : Bm < w.heap.size) (hz : Bz < w.heap.size) (W : World) (l : Nat) (o o' : Obj) (hl : w.heap.size ≤ l) (h : W.heap[l]? = some o) (h1 : o.isCells = false) (h2 : o.isWalk = false) : KpK n₀ Bm Bz W (W.putObj l o') :=
  ⟨belowK_b hn W l o o' hl h h1 h2, World.putObj_heap_other (by omega), World.putObj_heap_other (by omega)⟩

def encT (x : Int) : Array Value := #[.int .i64 x]

set_option maxRecDepth 100000 in
set_option maxHeartbeats 2000000 in
theorem all1_in (F : Fence) (n : Nat) (h35 : F.fn 35) (h23 : F.fn 23) (h24 : F.fn 24) (hro : F.round = none) (hn : 1 ≤ n) (l Bp Bf Ba n₀ : Nat) (p f a m d t0 : Int) (N : Nat) (w : World) (hp : RowKit.Hid (1 ≤ p ∧ p ≤ 256))
    (K1 : RowKit.Hid (∀ W, CallsIn F (n - 1) Try.prog 23 #[.int .i64 p, .int .i64 f] W (Same W (.bool true))))
    (K2 : RowKit.Hid (∀ (W : World) (x : Int), x = m → CallsIn F (n - 1) Try.prog 24 #[.int .i64 p, .int .i64 f, .int .i64 x] W (Same W (.int .i64 d))))
    (hN : 1048577 ≤ N) (hm : RowKit.Hid (min a 1048576 = m)) (hd : RowKit.Hid (d * p = t0 - f)) (ht0 : 0 ≤ t0) (ht1 : t0 ≤ 1050000) (hf0 : 0 ≤ f) (hf1 : f < 256)
    (J Jx : List Int → World → Prop)
    (hY : ∀ pre x W, J pre W → pre.length < N → YieldAt F (n - 1) Try.prog l (encT x) W fun e W' =>
      (e = .returned (.bool true) ∧ J (pre ++ [x]) W' ∧ KpK n₀ Bp Bf W W') ∨ (e = .returned (.bool false) ∧ Jx (pre ++ [x]) W'))
    (W : World) (hBp : W.cell? ⟨Bp, 0, none⟩ = some (.int .i64 p)) (hBf : W.cell? ⟨Bf, 0, none⟩ = some (.int .i64 f)) (hBa : W.cell? ⟨Ba, 0, none⟩ = some (.int .i64 a))
    (h0 : J [] W) :
    CallsIn F n Try.prog 35 #[.func (.yield l) #[] #[], .pointer (some ⟨Bp, 0, none⟩), .pointer (some ⟨Bf, 0, none⟩), .pointer (some ⟨Ba, 0, none⟩)] W fun e W' => (∃ v, e = .returned v) ∧
      ((∃ ys, (Tk p t0 ys ∧ 1048576 ≤ t0 + ys.length * p) ∧ J ys W') ∨ (∃ pre, Tk p t0 pre ∧ Jx pre W')) := by
  clear w
  have e1 : IntKind.i64.wrap (d * p) = d * p := by have := hd.out; simp only [IntKind.wrap_i64]; omega
  have e2 : f + d * p = t0 := by have := hd.out; omega
  have e3 : IntKind.i64.wrap (f + d * p) = t0 := by have := hd.out; simp only [IntKind.wrap_i64]; omega
  have e4 : IntKind.i64.wrap t0 = t0 := by simp only [IntKind.wrap_i64]; omega
  refine callsIn_of_wp Try.func35 rfl h35 ?_ hro
  simp only [Try.ntmps35, List.size_toArray, List.length_cons, List.length_nil, Nat.reduceAdd, Nat.reduceSub, Array.replicate_succ, Array.replicate_zero, List.push_toArray, List.append_toArray, List.nil_append, List.cons_append]
  gi_wp2_with (first | (gi_at_call 23; refine (K1.out _).mono ?_; rintro e w' ⟨rfl, rfl⟩) | (gi_at_call 24; refine (K2.out _ _ (by have := hm.out; omega)).mono ?_; rintro e w' ⟨rfl, rfl⟩))
  all_goals
    gi_loopw [6] (fun v wr => ∃ (pre : List Int) (t : Int), v = .int .i64 t ∧ RowKit.Hid (t = t0 + pre.length * p) ∧ 0 ≤ t ∧ t ≤ 1060000 ∧ Tk p t0 pre ∧ J pre wr ∧ KpK n₀ Bp Bf w' wr) (fun v _ => (1100000 - intOf v).toNat)
    case atStart => exact ⟨[], t0, rfl, Lib.hid (by simp), ht0, by omega, Tk.nil _ _, h0, KpK.refl _ _ _ _⟩
    case round =>
      obtain ⟨pre, t, rfl, ht, htn, htm, htk, hJ, hk⟩ := hrel
      have hcp : wr.cell? ⟨Bp, 0, none⟩ = some (.int .i64 p) := (World.cell?_of_block hk.2.1).trans hBp
      have hp1 := hp.out.1
      have hp2 := hp.out.2
      by_cases hlt : t < 1048576
      · have hlen : pre.length < N := by
          have h1 : (pre.length : Int) * 1 ≤ pre.length * p := Int.mul_le_mul_of_nonneg_left hp1 (by omega)
          have h2 := ht.out
          generalize (pre.length : Int) * p = q at h1 h2
          omega
        obtain ⟨fn, tmps, assign, body, hy, hR⟩ := hY pre t wr hJ hlen
        dsimp only [encT] at hy
        gi_wp2
        refine hR.mono ?_
        rintro e W3 (⟨rfl, hJ3, hk3⟩ | ⟨rfl, hJx3⟩)
        · have hcp3 : W3.cell? ⟨Bp, 0, none⟩ = some (.int .i64 p) := (World.cell?_of_block hk3.2.1).trans hcp
          gi_wp2
          go_roundw
          case rel =>
            refine ⟨pre ++ [t], t + p, rfl, Lib.hid ?_, by omega, by omega, htk.snoc ht.out hlt, hJ3, hk.trans hk3⟩
            have h2 := ht.out
            have h3 : ((pre ++ [t]).length : Int) * p = pre.length * p + p := by
              rw [List.length_append]
              simp [Int.add_mul]
            omega
          case measure => simp [intOf]; omega
        · gi_wp2
          refine bodyPost_ret (results_none rfl _ _ _) rfl ?_
          exact ⟨⟨_, rfl⟩, .inr ⟨_, htk.snoc ht.out hlt, hJx3⟩⟩
      · gi_wp2
        go_end0
        exact ⟨⟨_, rfl⟩, .inl ⟨_, ⟨htk, by have := ht.out; omega⟩, hJ⟩⟩
end Go.Proofs.Ytochkonjfhhiiaa
