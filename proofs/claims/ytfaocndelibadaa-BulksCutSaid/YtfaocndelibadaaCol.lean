/-
  Helper text: the packets of bytes, collected; no statement is proved here.
-/
import Derived.Test.YtfaocndelibadaaIt
namespace Go.Proofs.Ytfaocndelibadaa
open Go Go.RowKit Go.Shelf
attribute [local go_sem] Oper.semAt_some

theorem Try.infoS : (Try.prog.info? 22).map (fun i => (i.zero, i.size, i.bytes)) = some (some (.slice none 0 0), 1, 24) := by kernel_rfl
def valPc {w : World} {n₀ : Nat} {bk : Nat → Prop} (x : Pc w n₀ bk) : Value := .slice x.1.1 x.1.2.length x.1.2.length

set_option maxRecDepth 100000 in
set_option maxHeartbeats 4000000 in
/-- slices.AppendSeq(nil, the packets). -/
theorem appendSeq_in (F : Fence) (n : Nat) (h41 : F.fn 41) (h36 : F.fn 36) (hro : F.round = none) (hn : 3 ≤ n) (Bb Bm Bz n₀ : Nat) {ob om oz : Nat} (bk : Nat → Prop) (A : Option Addr) (cap max : Nat) (zero : Bool) (xs : List UInt8) (w : World) (hm : 1 ≤ max) (hm2 : max ≤ 1024) (hx : xs.length ≤ 1000000)
    (hn0 : n₀ ≤ w.heap.size) (hb : Bb < w.heap.size ∧ Bm < w.heap.size ∧ Bz < w.heap.size) (hBb : w.cell? ⟨Bb, ob, none⟩ = some (.slice A xs.length cap)) (hBm : w.cell? ⟨Bm, om, none⟩ = some (.int .i64 (max : Int))) (hBz : w.cell? ⟨Bz, oz, none⟩ = some (.bool zero)) (hr : Rd w n₀ A cap xs) (hbk : ∀ a, A = some a → bk a.block) :
    CallsIn F n Try.prog 41 #[.slice none 0 0, .func (.func 36) #[] #[.pointer (some ⟨Bb, ob, none⟩), .pointer (some ⟨Bm, om, none⟩), .pointer (some ⟨Bz, oz, none⟩)]] w fun e W' =>
      ∃ (v : Value) (l : List (Pc (w.alloc (.cells #[.slice none 0 0] 23)) n₀ bk)), e = .returned v ∧ bytesPc l = cutF max zero (xs.length + 2) xs ∧ W'.ownsRow w.heap.size 22 1 v l.length (l.map valPc) ∧ Below w.heap.size w W' := by
  have h1 : 1 ≤ n := by omega
  obtain ⟨i0, hi, hz0, hz1, hz2⟩ := info_parts Try.infoS
  refine callsIn_of_wp_marks Try.func41 rfl h41 ?_ hro
  simp only [Try.ntmps41, List.size_toArray, List.length_cons, List.length_nil, Nat.reduceAdd, Nat.reduceSub, Array.replicate_succ, Array.replicate_zero, List.push_toArray, List.append_toArray, List.nil_append, List.cons_append]
  gi_wp2
  have bO := Boxed.new w 23 (.slice none 0 0)
  have hB0 : Below w.heap.size w (w.alloc (.cells #[.slice none 0 0] 23)) := (Below.refl _ w).alloc (Nat.le_refl _) _
  refine wpIn_rangeFunc_ownG (α := Pc (w.alloc (.cells #[.slice none 0 0] 23)) n₀ bk) hro h1 (gf := 36) (lb := #[.pointer (some ⟨Bb, ob, none⟩), .pointer (some ⟨Bm, om, none⟩), .pointer (some ⟨Bz, oz, none⟩)]) rfl h36 (enters_of Try.func36 (by kernel_rfl) rfl)
    (packets_stops F (n - 1) h36 hro (by omega) Bb Bm Bz n₀ bk A cap max zero xs _ hm hm2 hx (by simp; omega) (by simp; omega) ((hB0.cell (p := ⟨Bb, ob, none⟩) hb.1).trans hBb) ((hB0.cell (p := ⟨Bm, om, none⟩) hb.2.1).trans hBm) ((hB0.cell (p := ⟨Bz, oz, none⟩) hb.2.2).trans hBz) (hr.alloc hn0 _) hbk) KpK.trans (kpK_b (by simp; omega) (by simp; omega) (by simp; omega)) (Below.refl _ _) (fun _ => rfl)
    (fun pre W => (∃ v, Boxed W w.heap.size 23 v ∧ W.ownsRow w.heap.size 22 1 v pre.length (pre.map valPc) ∧ True) ∧ Below w.heap.size w W)
    (fun _ _ _ => False)
    (OwnFrom.and (Own.from (holdsRow_own w.heap.size w.heap.size 23 22 1 (fun (pre : List (Pc (w.alloc (.cells #[.slice none 0 0] 23)) n₀ bk)) => pre.length) (fun pre => pre.map valPc) (fun _ _ => True)) _) (ownFrom_below (Nat.le_refl _) (by simp)))
    (fun _ _ _ _ _ hs _ _ => hs)
    ⟨⟨_, bO, World.ownsRow_nil _ _ _ _, trivial⟩, hB0⟩
    (fun x => { tmps := #[.slice none 0 0, .func (.func 36) #[] #[.pointer (some ⟨Bb, ob, none⟩), .pointer (some ⟨Bm, om, none⟩), .pointer (some ⟨Bz, oz, none⟩)], .pointer (some ⟨w.heap.size, 0, none⟩), undef, .slice none 0 0, valPc x, .func (.func 36) #[] #[.pointer (some ⟨Bb, ob, none⟩), .pointer (some ⟨Bm, om, none⟩), .pointer (some ⟨Bz, oz, none⟩)], valPc x, undef, undef, undef, undef, undef], defers := [] }) ?assign ?body ?done ?stop
  case assign =>
    intro l x W K hK
    dsimp only [encPc]
    gi_wp2
    exact hK
  case body =>
    rintro l pre x W ⟨⟨v, hv, hrow, _⟩, hB⟩ hlt
    have hc := hv.cell
    obtain ⟨⟨A1, ys1⟩, hx1⟩ := x
    dsimp only [valPc]
    gi_wp2_with (gi_at_builtin; go_loud (refine wpListIn_append_own _ rfl _ _ 23 rfl w.heap.size 22 i0 (.slice none 0 0) 1 24 Try.underlying23 hi hz0 hz1 hz2 rfl (by decide) _ _ _ rfl (hrow.alloc _) ⟨W.heap.size, 0, none⟩ 1 1 [.slice A1 ys1.length ys1.length] rfl rfl (cell_one_new _ _ _) (by simp [Value.oneCell']) (by simp only [maxLen]; omega) (by omega) (by have := hB.size; simp; omega) ?_; intro v' w1 hown' hgrow _; obtain ⟨g', cap', rfl⟩ := ownsRow_succ hown'; obtain ⟨hv1, hv2, hr2, hk2, hb2⟩ := hv.appended (by decide) hrow hB.size (Nat.le_refl _) hown' hgrow; have hc1 := hv1.cell; have hf1 := hv1.frozen))
    refine ⟨hk2.from _, ⟨(hb2.mono hn0), hb2.block _ (by omega), hb2.block _ (by omega)⟩, ⟨_, hv2, by simpa [valPc] using hr2, trivial⟩, hB.trans hb2⟩
  case done =>
    rintro D ys W hD hys ⟨⟨v, hv, hrow, _⟩, hB⟩ hK
    have hc := hv.cell
    gi_wp2
    refine ⟨by simp, .inl ⟨_, _, rfl, run_takeDeferred hK, ?_⟩⟩
    exact ⟨_, results_tmp rfl _ _ _, v, ys, rfl, hys, ownsRow_putObj hrow _ hK rfl, hB.trans (belowK_b (w := w) (Nat.le_refl _) W D _ _ (by simp at hD; omega) hK rfl rfl)⟩
  case stop =>
    rintro D c pre W _ _ h _
    exact h.elim

/-- slices.Collect(the packets). -/
theorem collect_any (w : World) (Bb Bm Bz : Nat) {ob om oz : Nat} (bk : Nat → Prop) (A : Option Addr) (cap max : Nat) (zero : Bool) (xs : List UInt8) (hm : 1 ≤ max) (hm2 : max ≤ 1024) (hx : xs.length ≤ 1000000)
    (hb : Bb < w.heap.size ∧ Bm < w.heap.size ∧ Bz < w.heap.size) (hBb : w.cell? ⟨Bb, ob, none⟩ = some (.slice A xs.length cap)) (hBm : w.cell? ⟨Bm, om, none⟩ = some (.int .i64 (max : Int))) (hBz : w.cell? ⟨Bz, oz, none⟩ = some (.bool zero)) (hr : Rd w w.heap.size A cap xs) (hbk : ∀ a, A = some a → bk a.block) :
    Calls Try.prog 29 #[.func (.func 36) #[] #[.pointer (some ⟨Bb, ob, none⟩), .pointer (some ⟨Bm, om, none⟩), .pointer (some ⟨Bz, oz, none⟩)]] w fun e W' =>
      ∃ (v : Value) (l : List (Pc (w.alloc (.cells #[.slice none 0 0] 23)) w.heap.size bk)), e = .returned v ∧ bytesPc l = cutF max zero (xs.length + 2) xs ∧ W'.ownsRow w.heap.size 22 1 v l.length (l.map valPc) ∧ Below w.heap.size w W' := by
  have h := callsIn_wide.1 (appendSeq_in Fence.wide 5 trivial trivial rfl (by omega) Bb Bm Bz w.heap.size bk A cap max zero xs w hm hm2 hx (Nat.le_refl _) hb hBb hBm hBz hr hbk)
  have h' := Lib.hid h
  clear h
  go_enter Try.func29, Try.ntmps29
  go_wp2_with (go_at_call 41; refine (h'.out).mono ?_; rintro e w1 ⟨v, l, rfl, h1, h2, h3⟩; have h1' := Lib.hid h1; have h2' := Lib.hid h2; have h3' := Lib.hid h3; clear h1 h2 h3)
  go_ret
  exact ⟨v, l, rfl, h1'.out, h2'.out, h3'.out⟩
end Go.Proofs.Ytfaocndelibadaa
