/-
  Helper text: the iterator over the packets of bytes, for every loop over it; no statement is proved here.
-/
import Derived.RangeFuncNested
import Derived.RangeFuncBound
import Derived.RangeFuncCalls
import Derived.RangeFuncLeaves
import Derived.RangeFuncBox
import Derived.RangeFuncGives
import Derived.Shelf.Abstract
import Derived.Shelf.RegionOpen
import Derived.WalkKit
import Derived.OwnWalkIn
import Derived.TacticsInMore
import Derived.LoopNIn
import Derived.LoopIn
import Derived.Maps.AppendAt
import Derived.Test.YtfaocndelibadaaRegB
import Derived.Test.YtfaocndelibadaaProg
namespace Go.Proofs.Ytfaocndelibadaa
open Go Go.RowKit Go.Shelf
attribute [local go_sem] Oper.semAt_some

/-- The packets of bytes. -/
def cutF (max : Nat) (zero : Bool) : Nat → List UInt8 → List (List UInt8)
  | 0, _ => []
  | f + 1, xs => xs.take max :: (if decide (xs.length < max) || (decide (xs.length ≤ max) && !zero) then [] else cutF max zero f (xs.drop max))

/-- A packet that the iterator hands over: where it lies, and its bytes, in a block below n₀. -/
abbrev Pc (w : World) (n₀ : Nat) (bk : Nat → Prop) := { x : Option Addr × List UInt8 // Rd w n₀ x.1 x.2.length x.2 ∧ x.2.length ≤ 1024 ∧ ∀ a, x.1 = some a → bk a.block }
theorem bk_map {bk : Nat → Prop} {A : Option Addr} (h : ∀ a, A = some a → bk a.block) (k : Nat) : ∀ a, A.map (fun x => x.add k) = some a → bk a.block := fun a e => by
  cases A with
  | none => simp at e
  | some x =>
    simp at e
    subst e
    have := h x rfl
    unfold Addr.add
    split <;> exact this
def encPc {w : World} {n₀ : Nat} {bk : Nat → Prop} (x : Pc w n₀ bk) : Array Value := #[.slice x.1.1 x.1.2.length x.1.2.length]
def bytesPc {w : World} {n₀ : Nat} {bk : Nat → Prop} (l : List (Pc w n₀ bk)) : List (List UInt8) := l.map (·.1.2)

/-- What a round keeps: all below n₀, and two boxes. -/
def KpK (n₀ Bm Bz : Nat) (W W' : World) : Prop := Below n₀ W W' ∧ W'.heap[Bm]? = W.heap[Bm]? ∧ W'.heap[Bz]? = W.heap[Bz]?
theorem KpK.refl (n₀ Bm Bz : Nat) (W : World) : KpK n₀ Bm Bz W W := ⟨Below.refl _ _, rfl, rfl⟩
theorem KpK.trans {n₀ Bm Bz : Nat} {A B C : World} (h : KpK n₀ Bm Bz A B) (k : KpK n₀ Bm Bz B C) : KpK n₀ Bm Bz A C := ⟨h.1.trans k.1, k.2.1.trans h.2.1, k.2.2.trans h.2.2⟩
theorem kpK_b {n₀ Bm Bz : Nat} {w : World} (hn : n₀ ≤ w.heap.size) (hm : Bm < w.heap.size) (hz : Bz < w.heap.size) (W : World) (l : Nat) (o o' : Obj) (hl : w.heap.size ≤ l) (h : W.heap[l]? = some o) (h1 : o.isCells = false) (h2 : o.isWalk = false) : KpK n₀ Bm Bz W (W.putObj l o') :=
  ⟨belowK_b hn W l o o' hl h h1 h2, World.putObj_heap_other (by omega), World.putObj_heap_other (by omega)⟩

def lenOf : Value → Nat
  | .slice _ n _ => n
  | _ => 0

set_option maxRecDepth 100000 in
set_option maxHeartbeats 2000000 in
theorem packets1_in (F : Fence) (n : Nat) (h7 : F.fn 36) (hro : F.round = none) (hn : 1 ≤ n) (l Bb Bm Bz n₀ : Nat) {ob om oz : Nat} (bk : Nat → Prop) (A : Option Addr) (cap max : Nat) (zero : Bool) (xs : List UInt8) (w : World) (hm : 1 ≤ max) (hm2 : max ≤ 1024) (hx : xs.length ≤ 1000000)
    (J Jx : List (Pc w n₀ bk) → World → Prop)
    (hY : ∀ pre x W, J pre W → pre.length < xs.length + 2 → YieldAt F (n - 1) Try.prog l (encPc x) W fun e W' =>
      (e = .returned (.bool true) ∧ J (pre ++ [x]) W' ∧ KpK n₀ Bm Bz W W') ∨ (e = .returned (.bool false) ∧ Jx (pre ++ [x]) W'))
    (W : World) (hBb : W.cell? ⟨Bb, ob, none⟩ = some (.slice A xs.length cap)) (hBm : W.cell? ⟨Bm, om, none⟩ = some (.int .i64 (max : Int))) (hBz : W.cell? ⟨Bz, oz, none⟩ = some (.bool zero))
    (hr : Rd w n₀ A cap xs) (hbk : ∀ a, A = some a → bk a.block) (h0 : J [] W) :
    CallsIn F n Try.prog 36 #[.func (.yield l) #[] #[], .pointer (some ⟨Bb, ob, none⟩), .pointer (some ⟨Bm, om, none⟩), .pointer (some ⟨Bz, oz, none⟩)] W fun e W' => (∃ v, e = .returned v) ∧
      ((∃ ys, bytesPc ys = cutF max zero (xs.length + 2) xs ∧ J ys W') ∨ (∃ pre, Jx pre W')) := by
  refine callsIn_of_wp Try.func36 rfl h7 ?_ hro
  simp only [Try.ntmps36, List.size_toArray, List.length_cons, List.length_nil, Nat.reduceAdd, Nat.reduceSub, Array.replicate_succ, Array.replicate_zero, List.push_toArray, List.append_toArray, List.nil_append, List.cons_append]
  gi_wp2
  gi_loopw [5] (fun i wr => ∃ (pre : List (Pc w n₀ bk)) (rest : List UInt8) (A' : Option Addr) (c' : Nat), i = .slice A' rest.length c' ∧ (∀ a, A' = some a → bk a.block) ∧ Rd w n₀ A' c' rest ∧ rest.length + 1 + pre.length ≤ xs.length + 1 ∧ cutF max zero (xs.length + 2) xs = bytesPc pre ++ cutF max zero (xs.length + 2 - pre.length) rest ∧ J pre wr ∧ KpK n₀ Bm Bz W wr)
    (fun i _ => lenOf i)
  case atStart => exact ⟨[], xs, A, cap, rfl, hbk, hr, by simp, by simp [bytesPc], h0, KpK.refl _ _ _ _⟩
  case round =>
    obtain ⟨pre, rest, A', c', rfl, hbk', hR', hlen, hcut, hJs, hbw⟩ := hrel
    have hcm : wr.cell? ⟨Bm, om, none⟩ = some (.int .i64 (max : Int)) := (World.cell?_of_block hbw.2.1).trans hBm
    have hcz : wr.cell? ⟨Bz, oz, none⟩ = some (.bool zero) := (World.cell?_of_block hbw.2.2).trans hBz
    have hle := hR'.le
    have hcp := hR'.cap
    rcases Nat.lt_or_ge max rest.length with hgt | hge
    · -- another one follows
      have hk : (rest.take max).length = max := by rw [List.length_take]; omega
      obtain ⟨fn, tmps, assign, body, hy, hR⟩ := hY pre ⟨(A', rest.take max), (hR'.take (by omega)).clip, by show (rest.take max).length ≤ 1024; rw [List.length_take]; omega, hbk'⟩ wr hJs (by omega)
      dsimp only [encPc] at hy
      rw [hk] at hy
      gi_wp2
      refine hR.mono ?_
      rintro e W3 (⟨rfl, hJ3, hk3⟩ | ⟨rfl, hJx3⟩)
      · gi_wp2
        go_roundw
        case rel =>
          have hd := hR'.drop (k := max) (by omega)
          rw [if_neg (by omega)] at hd
          refine ⟨_, rest.drop max, _, _, by rw [List.length_drop], bk_map hbk' _, hd, by rw [List.length_drop, List.length_append]; simp; omega, ?_, hJ3, hbw.trans hk3⟩
          rw [hcut]
          obtain ⟨f, hf⟩ : ∃ f, xs.length + 2 - pre.length = f + 1 := ⟨xs.length + 1 - pre.length, by omega⟩
          have hf2 : xs.length + 2 - (pre ++ [(⟨(A', rest.take max), (hR'.take (by omega)).clip, by show (rest.take max).length ≤ 1024; rw [List.length_take]; omega, hbk'⟩ : Pc w n₀ bk)]).length = f := by simp; omega
          rw [hf2, hf]
          have h1 : (decide (rest.length < max) || (decide (rest.length ≤ max) && !zero)) = false := by
            rw [decide_eq_false (by omega), decide_eq_false (by omega)]; rfl
          simp [cutF, h1, bytesPc]
        case measure => simp [lenOf]; omega
      · gi_wp2
        refine bodyPost_ret (results_none rfl _ _ _) rfl ?_
        exact ⟨⟨_, rfl⟩, .inr ⟨_, hJx3⟩⟩
    · obtain ⟨fn, tmps, assign, body, hy, hR⟩ := hY pre ⟨(A', rest), hR'.clip, by show rest.length ≤ 1024; omega, hbk'⟩ wr hJs (by omega)
      dsimp only [encPc] at hy
      obtain ⟨f, hf⟩ : ∃ f, xs.length + 2 - pre.length = f + 1 := ⟨xs.length + 1 - pre.length, by omega⟩
      have htk : rest.take max = rest := List.take_of_length_le hge
      by_cases hlast : rest.length = max ∧ zero = true
      · obtain ⟨heq, rfl⟩ := hlast
        subst heq
        rcases Nat.lt_or_ge rest.length c' with hc | hc
        · have hc0 : ¬ c' = rest.length := by omega
          gi_wp2
          refine hR.mono ?_
          rintro e W3 (⟨rfl, hJ3, hk3⟩ | ⟨rfl, hJx3⟩)
          · gi_wp2
            go_roundw
            case rel =>
              have hd := hR'.drop (k := rest.length) (Nat.le_refl _)
              rw [if_neg hc0] at hd
              refine ⟨_, rest.drop rest.length, _, _, by simp, bk_map hbk' _, hd, by rw [List.length_drop, List.length_append]; simp; omega, ?_, hJ3, hbw.trans hk3⟩
              rw [hcut]
              have hf2 : xs.length + 2 - (pre ++ [(⟨(A', rest), hR'.clip, by show rest.length ≤ 1024; omega, hbk'⟩ : Pc w n₀ bk)]).length = f := by simp; omega
              rw [hf2, hf]
              simp [cutF, bytesPc]
            case measure => simp [lenOf]; omega
          · gi_wp2
            refine bodyPost_ret (results_none rfl _ _ _) rfl ?_
            exact ⟨⟨_, rfl⟩, .inr ⟨_, hJx3⟩⟩
        · obtain rfl : c' = rest.length := by omega
          gi_wp2
          refine hR.mono ?_
          rintro e W3 (⟨rfl, hJ3, hk3⟩ | ⟨rfl, hJx3⟩)
          · gi_wp2
            go_roundw
            case rel =>
              have hd := hR'.drop (k := rest.length) (Nat.le_refl _)
              rw [if_pos rfl] at hd
              refine ⟨_, rest.drop rest.length, _, _, by simp, hbk', hd, by rw [List.length_drop, List.length_append]; simp; omega, ?_, hJ3, hbw.trans hk3⟩
              rw [hcut]
              have hf2 : xs.length + 2 - (pre ++ [(⟨(A', rest), hR'.clip, by show rest.length ≤ 1024; omega, hbk'⟩ : Pc w n₀ bk)]).length = f := by simp; omega
              rw [hf2, hf]
              simp [cutF, bytesPc]
            case measure => simp [lenOf]; omega
          · gi_wp2
            refine bodyPost_ret (results_none rfl _ _ _) rfl ?_
            exact ⟨⟨_, rfl⟩, .inr ⟨_, hJx3⟩⟩
      · have hcutl : cutF max zero (xs.length + 2) xs = bytesPc (pre ++ [(⟨(A', rest), hR'.clip, by show rest.length ≤ 1024; omega, hbk'⟩ : Pc w n₀ bk)]) := by
          rw [hcut, hf]
          have h1 : (decide (rest.length < max) || (decide (rest.length ≤ max) && !zero)) = true := by
            rcases Nat.lt_or_ge rest.length max with h | h
            · rw [decide_eq_true h]; rfl
            · have : zero = false := by
                cases zero with
                | false => rfl
                | true => exact absurd ⟨by omega, rfl⟩ hlast
              subst this
              rw [decide_eq_true (p := rest.length ≤ max) hge]; simp
          simp [cutF, h1, bytesPc, htk]
        rcases Nat.lt_or_ge rest.length max with hlt | hge2
        · rcases Nat.lt_or_ge rest.length c' with hc | hc
          · have hc0 : ¬ c' = rest.length := by omega
            gi_wp2
            refine hR.mono ?_
            rintro e W3 (⟨rfl, hJ3, hk3⟩ | ⟨rfl, hJx3⟩)
            · gi_wp2
              refine bodyPost_ret (results_none rfl _ _ _) rfl ?_
              exact ⟨⟨_, rfl⟩, .inl ⟨_, hcutl.symm, hJ3⟩⟩
            · gi_wp2
              refine bodyPost_ret (results_none rfl _ _ _) rfl ?_
              exact ⟨⟨_, rfl⟩, .inr ⟨_, hJx3⟩⟩
          · obtain rfl : c' = rest.length := by omega
            gi_wp2
            refine hR.mono ?_
            rintro e W3 (⟨rfl, hJ3, hk3⟩ | ⟨rfl, hJx3⟩)
            · gi_wp2
              refine bodyPost_ret (results_none rfl _ _ _) rfl ?_
              exact ⟨⟨_, rfl⟩, .inl ⟨_, hcutl.symm, hJ3⟩⟩
            · gi_wp2
              refine bodyPost_ret (results_none rfl _ _ _) rfl ?_
              exact ⟨⟨_, rfl⟩, .inr ⟨_, hJx3⟩⟩
        · have heq : rest.length = max := by omega
          obtain rfl : zero = false := by
            cases zero with
            | false => rfl
            | true => exact absurd ⟨heq, rfl⟩ hlast
          subst heq
          rcases Nat.lt_or_ge rest.length c' with hc | hc
          · have hc0 : ¬ c' = rest.length := by omega
            gi_wp2
            refine hR.mono ?_
            rintro e W3 (⟨rfl, hJ3, hk3⟩ | ⟨rfl, hJx3⟩)
            · gi_wp2
              refine bodyPost_ret (results_none rfl _ _ _) rfl ?_
              exact ⟨⟨_, rfl⟩, .inl ⟨_, hcutl.symm, hJ3⟩⟩
            · gi_wp2
              refine bodyPost_ret (results_none rfl _ _ _) rfl ?_
              exact ⟨⟨_, rfl⟩, .inr ⟨_, hJx3⟩⟩
          · obtain rfl : c' = rest.length := by omega
            gi_wp2
            refine hR.mono ?_
            rintro e W3 (⟨rfl, hJ3, hk3⟩ | ⟨rfl, hJx3⟩)
            · gi_wp2
              refine bodyPost_ret (results_none rfl _ _ _) rfl ?_
              exact ⟨⟨_, rfl⟩, .inl ⟨_, hcutl.symm, hJ3⟩⟩
            · gi_wp2
              refine bodyPost_ret (results_none rfl _ _ _) rfl ?_
              exact ⟨⟨_, rfl⟩, .inr ⟨_, hJx3⟩⟩

set_option maxHeartbeats 1000000 in
theorem packets_in (F : Fence) (n : Nat) (h5 : F.fn 21) (hro : F.round = none) (A : Option Addr) (len cap : Nat) (max : Int) (zero : Bool) (w : World) :
    CallsIn F n Try.prog 21 #[.slice A len cap, .int .i64 max, .bool zero] w fun e w' => e = .returned (.func (.func 36) #[] #[.pointer (some ⟨w.heap.size, 0, none⟩), .pointer (some ⟨w.heap.size + 1, 0, none⟩), .pointer (some ⟨w.heap.size + 2, 0, none⟩)]) ∧
      w' = ((w.alloc (.cells #[.slice A len cap] 22)).alloc (.cells #[.int .i64 max] 3)).alloc (.cells #[.bool zero] 4) := by
  refine callsIn_of_wp Try.func21 rfl h5 ?_ hro
  simp only [Try.ntmps21, List.size_toArray, List.length_cons, List.length_nil, Nat.reduceAdd, Nat.reduceSub, Array.replicate_succ, Array.replicate_zero, List.push_toArray, List.append_toArray, List.nil_append, List.cons_append]
  gi_wp2
  go_ret
  exact ⟨rfl, rfl⟩

theorem packets_stops (F : Fence) (n : Nat) (h7 : F.fn 36) (hro : F.round = none) (hn : 1 ≤ n) (Bb Bm Bz n₀ : Nat) {ob om oz : Nat} (bk : Nat → Prop) (A : Option Addr) (cap max : Nat) (zero : Bool) (xs : List UInt8) (w : World) (hm : 1 ≤ max) (hm2 : max ≤ 1024) (hx : xs.length ≤ 1000000)
    (hn0 : n₀ ≤ w.heap.size) (hb : Bb < w.heap.size ∧ Bm < w.heap.size ∧ Bz < w.heap.size) (hBb : w.cell? ⟨Bb, ob, none⟩ = some (.slice A xs.length cap)) (hBm : w.cell? ⟨Bm, om, none⟩ = some (.int .i64 (max : Int))) (hBz : w.cell? ⟨Bz, oz, none⟩ = some (.bool zero)) (hr : Rd w n₀ A cap xs) (hbk : ∀ a, A = some a → bk a.block) :
    SeqStopsK F n Try.prog 36 #[.pointer (some ⟨Bb, ob, none⟩), .pointer (some ⟨Bm, om, none⟩), .pointer (some ⟨Bz, oz, none⟩)] (encPc : Pc w n₀ bk → Array Value) (KpK n₀ Bm Bz) (fun ys => bytesPc ys = cutF max zero (xs.length + 2) xs) (fun _ => True) (xs.length + 2) w := fun l J Jx W hW _ _ hY h0 => by
  refine (packets1_in F n h7 hro hn l Bb Bm Bz n₀ bk A cap max zero xs w hm hm2 hx J Jx hY W ((hW.cell (p := ⟨Bb, ob, none⟩) hb.1).trans hBb) ((hW.cell (p := ⟨Bm, om, none⟩) hb.2.1).trans hBm) ((hW.cell (p := ⟨Bz, oz, none⟩) hb.2.2).trans hBz) hr hbk h0).mono ?_
  rintro e W' ⟨he, ⟨ys, h1, h2⟩ | ⟨pre, h1⟩⟩
  · exact ⟨he, .inl ⟨ys, h1, h2⟩⟩
  · exact ⟨he, .inr ⟨pre, trivial, h1⟩⟩
end Go.Proofs.Ytfaocndelibadaa
