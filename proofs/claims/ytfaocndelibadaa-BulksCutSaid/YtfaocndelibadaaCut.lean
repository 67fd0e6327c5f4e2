/-
  Helper text: Cut, for every list of bytes; no statement is proved here.
-/
import Derived.Test.YtfaocndelibadaaOwn
namespace Go.Proofs.Ytfaocndelibadaa
open Go Go.RowKit Go.Shelf
attribute [local go_sem] Oper.semAt_some

set_option maxHeartbeats 400000 in
theorem possible_any (w : World) (m : Int) : Calls Try.prog 20 #[.int .i64 m] w fun e w' => e = .returned (.bool (decide (1 ≤ m ∧ m ≤ 1024))) ∧ w = w' := by
  by_cases h1 : 1 ≤ m
  · by_cases h2 : m ≤ 1024
    · rw [decide_eq_true (show 1 ≤ m ∧ m ≤ 1024 from ⟨h1, h2⟩)]
      go_enter Try.func20, Try.ntmps20
      go_wp2
      go_ret
      exact ⟨rfl, rfl⟩
    · rw [decide_eq_false (fun h : 1 ≤ m ∧ m ≤ 1024 => h2 h.2)]
      go_enter Try.func20, Try.ntmps20
      go_wp2
      go_ret
      exact ⟨rfl, rfl⟩
  · rw [decide_eq_false (fun h : 1 ≤ m ∧ m ≤ 1024 => h1 h.1)]
    go_enter Try.func20, Try.ntmps20
    go_wp2
    go_ret
    exact ⟨rfl, rfl⟩

theorem below_undrew {n : Nat} {W W1 : World} (h : Below n W.drew W1) : Below n W W1 := ⟨h.os, h.tape, h.output, h.size, h.block⟩
/-- An append onto a slice of the call's own, as it comes up in a region that draws. -/
theorem stepIn_append_own {F : Fence} {n : Nat} {P : Program} (w : World) {ops : Array Oper} {o : Oper} {a : Act} {K : Act → World → Prop} {Q : Exit → Act → World → Prop} {E : Prop}
    (hw : Region.wanted o (yielded ops a.tmps) = true) (s x : Operand) (t : TypeId) (hop : o.op = Op.call { callee := Callee.builtin Builtin.append, args := #[s, x], argTypes := #[t, t] })
    (base : Nat) (e : TypeId) (i : TypeInfo) (z : Value) (size bytes : Nat) (h1 : P.underlying t = some (.slice e)) (h2 : P.info? e = some i) (h3 : i.zero = some z) (h4 : i.size = size) (h5 : i.bytes = bytes) (h6 : z.cells.size = size) (h7 : 0 < size)
    (v : Value) (k : Nat) (xs : List Value) (hs : a.eval s = v) (hown : w.ownsRow base e size v k xs) (ad : Addr) (m c : Nat) (news : List Value) (hx : a.eval x = .slice (some ad) m c) (hn : news.length = m * size)
    (hc : ∀ (j : Nat) u, news[j]? = some u → w.cell? (ad.add j) = some u) (h1c : ∀ u ∈ news, u.oneCell' = true) (b1 : k + m ≤ maxLen) (b2 : (k + m) * bytes ≤ 140737488355328) (b3 : base ≤ w.heap.size)
    (hK : ∀ v' w', w'.ownsRow base e size v' (k + m) (xs ++ news) → w.grownBy w' v.ownBlock → K (a.put o.dst v') w') :
    if Region.wanted o (yielded ops a.tmps) = true then Oper.wpIn F n P o a w K Q else E := by
  rw [if_pos hw]
  obtain ⟨v', w', hrun, r1, r2, r3⟩ := run_append_own (P := P) w base t o.type e i z size bytes h1 h2 h3 h4 h5 h6 h7 v k xs hown ad m c news hn hc h1c b1 b2 b3
  unfold Oper.wpIn
  refine ⟨?_, ?_⟩
  · simp [Oper.about, hop, resolve, Target.leads, Sem.run_pure]
  · rw [Oper.semAt_plain F _ _ (by rw [hop]; intro c hc'; cases hc')]
    simp [execOp, hop, resolve, invoke, builtin, hs, hx, hrun, Result.andThen]
    exact hK v' w' r1 r2

/-- Values that are slices of these bytes, each in a block of bytes. -/
def Each (n₁ : Nat) (W : World) (vs : List Value) (pss : List (List UInt8)) : Prop := vs.length = pss.length ∧ ∀ (i : Nat) (v : Value) (ps : List UInt8), vs[i]? = some v → pss[i]? = some ps → BytesAt n₁ W v ps
theorem Each.nil (n₁ : Nat) (W : World) : Each n₁ W [] [] := ⟨rfl, fun i v ps h => by simp at h⟩
theorem Each.keep {n₁ : Nat} {W W' : World} {vs : List Value} {pss : List (List UInt8)} (h : Each n₁ W vs pss) (hk : ∀ b cs, n₁ ≤ b → W.heap[b]? = some (.cells cs 5 (0, 0)) → W'.heap[b]? = W.heap[b]?) : Each n₁ W' vs pss :=
  ⟨h.1, fun i v ps h1 h2 => (h.2 i v ps h1 h2).keep hk⟩
theorem Each.snoc {n₁ : Nat} {W : World} {vs : List Value} {pss : List (List UInt8)} {v : Value} {ps : List UInt8} (h : Each n₁ W vs pss) (hv : BytesAt n₁ W v ps) : Each n₁ W (vs ++ [v]) (pss ++ [ps]) := by
  refine ⟨by simp [h.1], fun i u qs h1 h2 => ?_⟩
  have hl := h.1
  rcases Nat.lt_or_ge i vs.length with hi | hi
  · rw [List.getElem?_append_left hi] at h1
    rw [List.getElem?_append_left (by omega)] at h2
    exact h.2 i u qs h1 h2
  · rw [List.getElem?_append_right hi] at h1
    rw [List.getElem?_append_right (by omega)] at h2
    have h0 : i - vs.length = 0 := by
      rcases Nat.eq_zero_or_pos (i - vs.length) with z | z
      · exact z
      · rw [List.getElem?_eq_none (by simp; omega)] at h1; simp at h1
    rw [h0] at h1
    rw [show i - pss.length = 0 by omega] at h2
    simp at h1 h2
    subst h1; subst h2
    exact hv
theorem Each.one {n₁ : Nat} {W : World} {vs : List Value} {pss : List (List UInt8)} (h : Each n₁ W vs pss) : ∀ v ∈ vs, v.oneCell' = true := fun v hv => by
  obtain ⟨i, hi, rfl⟩ := List.getElem_of_mem hv
  have hp : i < pss.length := by rw [← h.1]; exact hi
  exact (h.2 i _ _ (List.getElem?_eq_getElem hi) (List.getElem?_eq_getElem hp)).one

/-- Between two rounds: the box holds a slice of its own whose cells are slices of the packets so far. -/
def CutI (n₁ B : Nat) (w : World) (max : Int) (zero : Bool) {w0 : World} {n₀ : Nat} {bk : Nat → Prop} (pre : List (Pc w0 n₀ bk)) (W : World) : Prop :=
  ((∃ v vs, Boxed W B 23 v ∧ W.ownsRow n₁ 22 1 v pre.length vs ∧ Each n₁ W vs (bytesPc pre)) ∧ Boxed W (B + 2) 3 (.int .i64 max) ∧ Boxed W (B + 3) 4 (.bool zero)) ∧ Below n₁ w W
theorem cutI_own (n₁ B : Nat) (w : World) (max : Int) (zero : Bool) {w0 : World} {n₀ : Nat} {bk : Nat → Prop} (K : Nat) (h1 : n₁ ≤ w.heap.size) (h2 : n₁ ≤ K) : OwnFrom K (CutI (w0 := w0) (n₀ := n₀) (bk := bk) n₁ B w max zero) := by
  refine OwnFrom.and ?_ (ownFrom_below h1 h2)
  have box : ∀ {X Y : World} {row : Option Nat} {b : Nat} {t : TypeId} {u : Value}, Boxed X b t u → X.grownBy Y row → (∀ r, row = some r → K ≤ r ∧ ∃ o : Obj, X.heap[r]? = some o ∧ o.isCells = false) → Boxed Y b t u := fun hv hg hrow =>
    hv.kept hg fun e' => by
      obtain ⟨_, o, ho, hc⟩ := hrow _ e'.symm
      rw [hv] at ho; cases ho; cases hc
  rintro s X Y row ⟨⟨v, vs, hv, hr, he⟩, hm, hz⟩ hg hrow
  refine ⟨⟨v, vs, box hv hg hrow, hr.kept hg ?_, he.keep fun b cs hb hh => hg.block b (Array.getElem?_eq_some_iff.1 hh).1 (fun e' => ?_)⟩, box hm hg hrow, box hz hg hrow⟩
  · rcases hr.2 with ⟨rfl, _⟩ | ⟨g, cap, cur, rfl, _, hgb, _⟩
    · exact .inl rfl
    · refine .inr fun e' => ?_
      obtain ⟨_, o, ho, hc⟩ := hrow g (by simpa [Value.ownBlock] using e'.symm)
      rw [hgb] at ho; cases ho; cases hc
  · obtain ⟨_, o, ho, hc⟩ := hrow b e'.symm
    rw [hh] at ho; cases ho; cases hc

/-- A slice whose cells hold these values, in a block that lies at or beyond n₁. -/
def CellsOf (n₁ : Nat) (W : World) (A : Option Addr) (vs : List Value) : Prop := 0 < vs.length → ∃ b cur, A = some ⟨b, 0, none⟩ ∧ n₁ ≤ b ∧ W.heap[b]? = some (.cells cur 22 (0, 0)) ∧ vs.length ≤ cur.size ∧ cur.toList.take vs.length = vs
theorem cells_own {n₁ k : Nat} {W : World} {A : Option Addr} {n c : Nat} {vs : List Value} (h : W.ownsRow n₁ 22 1 (.slice A n c) k vs) (hk : k = vs.length) : CellsOf n₁ W A vs := fun hn => by
  rcases h.2 with ⟨h1, h2⟩ | ⟨g, cp, cur, hv, hg, hh, hle, _, hcs, ht⟩
  · omega
  · injection hv with e1
    subst e1
    refine ⟨g, cur, rfl, hg, hh, by omega, by rw [← hk]; simpa using ht⟩
theorem CellsOf.keep {n₁ : Nat} {W W' : World} {A : Option Addr} {vs : List Value} (h : CellsOf n₁ W A vs) (hk : ∀ b cs, n₁ ≤ b → W.heap[b]? = some (.cells cs 22 (0, 0)) → W'.heap[b]? = W.heap[b]?) : CellsOf n₁ W' A vs := fun hn => by
  obtain ⟨b, cur, e, hb, hh, h1, h2⟩ := h hn
  exact ⟨b, cur, e, hb, (hk b cur hb hh).trans hh, h1, h2⟩

theorem clipL_any (w : World) (A : Option Addr) (n c : Nat) (hle : n ≤ c) (hcap : c ≤ 9223372036854775807) : Calls Try.prog 23 #[.slice A n c] w fun e w' => e = .returned (.slice A n n) ∧ w = w' := by
  go_enter Try.func23, Try.ntmps23
  go_wp2
  go_ret
  exact ⟨rfl, rfl⟩

set_option maxRecDepth 100000 in
set_option maxHeartbeats 4000000 in
/-- Cut, if the number is possible. -/
theorem cut_any (w : World) (A : Option Addr) (cap max : Nat) (zero : Bool) (xs : List UInt8) (hm : 1 ≤ max) (hm2 : max ≤ 1024) (hx : xs.length ≤ 1000000) (hr : Rd w w.heap.size A cap xs) :
    Calls Try.prog 6 #[.slice A xs.length cap, .int .i64 (max : Int), .bool zero] w fun e W' =>
      ∃ (A' : Option Addr) (vs : List Value), e = .returned (.tuple #[.slice A' vs.length vs.length, .int .i64 0]) ∧ CellsOf w.heap.size W' A' vs ∧ Each w.heap.size W' vs (cutF max zero (xs.length + 2) xs) ∧ Below w.heap.size w W' := by
  refine (callsIn_wide (n := 5)).1 ?_
  have hro : Fence.wide.round = none := rfl
  obtain ⟨i0, hi, hz0, hz1, hz2⟩ := info_parts Try.infoS
  refine callsIn_of_wp_marks Try.func6 rfl trivial ?_ hro
  simp only [Try.ntmps6, List.size_toArray, List.length_cons, List.length_nil, Nat.reduceAdd, Nat.reduceSub, Array.replicate_succ, Array.replicate_zero, List.push_toArray, List.append_toArray, List.nil_append, List.cons_append]
  have hp := possible_any w (max : Int)
  rw [decide_eq_true (show (1 : Int) ≤ max ∧ (max : Int) ≤ 1024 by omega)] at hp
  gi_wp2_with (first
    | (refine ⟨trivial, ?_⟩; gi_at_call 20; refine (callsIn_wide.2 hp).mono ?_; rintro e w' ⟨rfl, rfl⟩)
    | (refine ⟨trivial, ?_⟩; gi_at_call 21; refine (packets_in Fence.wide _ trivial hro _ _ _ _ _ _).mono ?_; rintro e w' ⟨rfl, rfl⟩))
  have hs : ((((w.alloc (.cells #[.slice none 0 0] 23)).alloc (.cells #[.slice A xs.length cap] 22)).alloc (.cells #[.int .i64 (max : Int)] 3)).alloc (.cells #[.bool zero] 4)).heap.size = w.heap.size + 4 := by simp
  have bL := ((((Boxed.new w 23 (.slice none 0 0)).alloc (.cells #[.slice A xs.length cap] 22)).alloc (.cells #[.int .i64 (max : Int)] 3)).alloc (.cells #[.bool zero] 4))
  have bB := (((Boxed.new (w.alloc (.cells #[.slice none 0 0] 23)) 22 (.slice A xs.length cap)).alloc (.cells #[.int .i64 (max : Int)] 3)).alloc (.cells #[.bool zero] 4))
  have bM := ((Boxed.new ((w.alloc (.cells #[.slice none 0 0] 23)).alloc (.cells #[.slice A xs.length cap] 22)) 3 (.int .i64 (max : Int))).alloc (.cells #[.bool zero] 4))
  have bZ := Boxed.new (((w.alloc (.cells #[.slice none 0 0] 23)).alloc (.cells #[.slice A xs.length cap] 22)).alloc (.cells #[.int .i64 (max : Int)] 3)) 4 (.bool zero)
  have hB0 : Below w.heap.size w ((((w.alloc (.cells #[.slice none 0 0] 23)).alloc (.cells #[.slice A xs.length cap] 22)).alloc (.cells #[.int .i64 (max : Int)] 3)).alloc (.cells #[.bool zero] 4)) :=
    ((((Below.refl _ w).alloc (Nat.le_refl _) _).alloc (by simp) _).alloc (by simp; omega) _).alloc (by simp; omega) _
  simp only [World.size_alloc] at bB bM bZ
  generalize hW0 : ((((w.alloc (.cells #[.slice none 0 0] 23)).alloc (.cells #[.slice A xs.length cap] 22)).alloc (.cells #[.int .i64 (max : Int)] 3)).alloc (.cells #[.bool zero] 4)) = W0 at *
  have hr0 : Rd W0 w.heap.size A cap xs := hr.below hB0
  refine wpIn_rangeFunc_ownG (α := Pc W0 w.heap.size fun _ => True) hro (by omega) (gf := 36) (lb := #[.pointer (some ⟨w.heap.size + 1, 0, none⟩), .pointer (some ⟨w.heap.size + 1 + 1, 0, none⟩), .pointer (some ⟨w.heap.size + 1 + 2, 0, none⟩)]) rfl trivial (enters_of Try.func36 (by kernel_rfl) rfl)
    (packets_stops Fence.wide _ trivial hro (by omega) (w.heap.size + 1) (w.heap.size + 2) (w.heap.size + 3) w.heap.size (fun _ => True) A cap max zero xs W0 hm hm2 hx (by omega) (by omega) bB.cell bM.cell bZ.cell hr0 (fun _ _ => trivial)) KpK.trans (kpK_b (by omega) (by omega) (by omega)) (Below.refl _ _) (fun _ => rfl)
    (CutI w.heap.size w.heap.size w (max : Int) zero)
    (fun _ _ _ => False)
    (cutI_own _ _ _ _ _ _ (Nat.le_refl _) (by omega))
    (fun _ _ _ _ _ hs _ _ => hs)
    ⟨⟨⟨_, _, bL, World.ownsRow_nil _ _ _ _, Each.nil _ _⟩, bM, bZ⟩, hB0⟩
    (fun x => { tmps := #[.slice A xs.length cap, .int .i64 (max : Int), .bool zero, undef, undef, undef, .slice none 0 0, .int .i64 0, .pointer (some ⟨w.heap.size, 0, none⟩), valPc x, .int .i64 (max : Int), .bool true, .bool false, .slice A xs.length cap, .int .i64 (max : Int), .bool zero, .func (.func 36) #[] #[.pointer (some ⟨w.heap.size + 1, 0, none⟩), .pointer (some ⟨w.heap.size + 1 + 1, 0, none⟩), .pointer (some ⟨w.heap.size + 1 + 2, 0, none⟩)], valPc x, undef, undef, undef, undef, undef, undef, undef], defers := [] }) ?assign ?body ?done ?stop
  case assign =>
    intro l x W K hK
    dsimp only [encPc]
    gi_wp2
    exact hK
  case body =>
    rintro l pre ⟨⟨A1, ys1⟩, hx1⟩ W ⟨⟨⟨v, vs, hv, hrow, he⟩, hbm, hbz⟩, hB⟩ hlt
    dsimp only [valPc]
    have hc := hv.cell
    have hxW : Rd W W.heap.size A1 ys1.length ys1 := (hx1.1.keep fun p hp => (hB.cell hp).trans (hB0.cell hp).symm).more hB.size
    have hmx : Try.prog.follows .mixedOrders = true := by kernel_rfl
    have hlx : ys1.length ≤ 1000000 := Nat.le_trans hx1.2.1 (by decide)
    have hOwn := own_any W.drew A1 ys1.length ys1 hxW.drew hlx
    have fin : ∀ (W1 : World) (A2 : Option Addr), BytesAt W.drew.heap.size W1 (.slice A2 ys1.length ys1.length) ys1 → Below W.drew.heap.size W.drew W1 → ∀ (v' : Value) (w2 : World), w2.ownsRow w.heap.size 22 1 v' (pre.length + 1) (vs ++ [.slice A2 ys1.length ys1.length]) → (W1.alloc (.cells #[.slice A2 ys1.length ys1.length] 22)).grownBy w2 v.ownBlock →
        (∃ g' cap', v' = .slice (some ⟨g', 0, none⟩) (pre.length + 1) cap') ∧ w2.cell? ⟨w.heap.size, 0, none⟩ = some v ∧ w2.frozen? ⟨w.heap.size, 0, none⟩ = false ∧
        (KeepsFrom W0.heap.size W (w2.setCell ⟨w.heap.size, 0, none⟩ v') ∧ KpK w.heap.size (w.heap.size + 2) (w.heap.size + 3) W (w2.setCell ⟨w.heap.size, 0, none⟩ v') ∧ CutI w.heap.size w.heap.size w (max : Int) zero (pre ++ [(⟨(A1, ys1), hx1⟩ : Pc W0 w.heap.size fun _ => True)]) (w2.setCell ⟨w.heap.size, 0, none⟩ v')) := by
      intro W1 A2 hu hW1 v' w2 hown' hgrow
      have hW1' : Below W.heap.size W W1 := below_undrew hW1
      have hv1 : Boxed W1 w.heap.size 23 v := (hW1'.block _ hv.lt).trans hv
      have hrow1 := own_below hrow hW1'
      obtain ⟨hva, hvb, hr2, hk2, hb2⟩ := hv1.appended (by decide) hrow1 (by have := hB.size; have := hW1'.size; omega) (Nat.le_refl _) hown' hgrow
      have keep : ∀ (b : Nat) (o : Obj), W1.heap[b]? = some o → some b ≠ v.ownBlock → b ≠ w.heap.size → (w2.setCell ⟨w.heap.size, 0, none⟩ v').heap[b]? = some o := fun b o ho h1 h2 => by
        have hlt : b < W1.heap.size := (Array.getElem?_eq_some_iff.1 ho).1
        rw [Below.heap_setCell _ _ _ _ h2, hgrow.block b (by simp; omega) h1, Below.heap_alloc _ _ _ hlt]
        exact ho
      have kb : ∀ b cs, w.heap.size ≤ b → W1.heap[b]? = some (.cells cs 5 (0, 0)) → (w2.setCell ⟨w.heap.size, 0, none⟩ v').heap[b]? = W1.heap[b]? := fun b cs hb hh => by
        rw [hh]
        refine keep b _ hh (fun e => ?_) (fun e => ?_)
        · rcases hrow1.2 with ⟨rfl, _⟩ | ⟨g, cp, cur, rfl, _, hgb, _⟩
          · simp [Value.ownBlock] at e
          · have : b = g := by simpa [Value.ownBlock] using e
            subst this
            rw [hh] at hgb; simp at hgb
        · subst e
          rw [show W1.heap[w.heap.size]? = _ from hv1] at hh; simp at hh
      have hbm1 : Boxed W1 (w.heap.size + 2) 3 (.int .i64 (max : Int)) := (hW1'.block _ hbm.lt).trans hbm
      have hbz1 : Boxed W1 (w.heap.size + 3) 4 (.bool zero) := (hW1'.block _ hbz.lt).trans hbz
      have hbm3 : Boxed (w2.setCell ⟨w.heap.size, 0, none⟩ v') (w.heap.size + 2) 3 (.int .i64 (max : Int)) := keep _ _ hbm1 (hbm1.not_row (by decide) hrow1) (by omega)
      have hbz3 : Boxed (w2.setCell ⟨w.heap.size, 0, none⟩ v') (w.heap.size + 3) 4 (.bool zero) := keep _ _ hbz1 (hbz1.not_row (by decide) hrow1) (by omega)
      have he3 : Each w.heap.size (w2.setCell ⟨w.heap.size, 0, none⟩ v') (vs ++ [.slice A2 ys1.length ys1.length]) (bytesPc (pre ++ [(⟨(A1, ys1), hx1⟩ : Pc W0 w.heap.size fun _ => True)])) := by
        have h1 : Each w.heap.size W1 vs (bytesPc pre) := he.keep fun b cs _ hh => hW1'.block b (Array.getElem?_eq_some_iff.1 hh).1
        have h2 : BytesAt w.heap.size W1 (.slice A2 ys1.length ys1.length) ys1 := hu.less hB.size
        have := (h1.keep kb).snoc (h2.keep kb)
        simpa [bytesPc] using this
      have hB3 : Below w.heap.size W (w2.setCell ⟨w.heap.size, 0, none⟩ v') := (hW1'.mono hB.size).trans hb2
      have hko : KeepsOthers W (w2.setCell ⟨w.heap.size, 0, none⟩ v') := KeepsOthers.trans ⟨hW1'.size, fun k o h _ => (hW1'.block k (Array.getElem?_eq_some_iff.1 h).1).trans h⟩ hk2
      refine ⟨ownsRow_succ hown', hva.cell, hva.frozen, hko.from _, ⟨hB3, hbm3.trans hbm.symm, hbz3.trans hbz.symm⟩, ⟨⟨v', _, hvb, by simpa using hr2, he3⟩, hbm3, hbz3⟩, hB.trans hB3⟩
    gi_wp2
    refine wpIn_region_any (by assumption) ?_
    change wpAnyIn _ _ _ _ _ _ _ _ _ (World.drew _)
    have hcd : W.drew.cell? ⟨w.heap.size, 0, none⟩ = some v := hc
    refine wpAnyIn_ready (rs := [0, 1]) (by kernel_rfl) (by simp) ?_
    refine AllReadyIn.cons rfl (fun K hK => ?_) ?_
    · go_simp; refine hK _ _ ?_; clear hK K
      refine wpAnyIn_ready (rs := [1]) (by kernel_rfl) (by simp) ?_
      refine AllReadyIn.cons rfl (fun K hK => ?_) ?_
      · go_simp; refine hK _ _ ?_; clear hK K
        refine wpAnyIn_ready (rs := [2]) (by kernel_rfl) (by simp) ?_
        refine AllReadyIn.cons rfl (fun K hK => ?_) ?_
        · go_simp; refine ⟨trivial, (CallsIn.inRound l (callsIn_wide.2 hOwn)).mono ?_⟩; rintro e W1 ⟨u, rfl, hu, hW1⟩; obtain ⟨A2, rfl, hu2⟩ := id hu; have hc1 : W1.cell? ⟨w.heap.size, 0, none⟩ = some v := ((below_undrew hW1).cell (p := ⟨w.heap.size, 0, none⟩) hv.lt).trans hc; refine hK _ _ ?_; clear hK K; go_simp
          refine wpAnyIn_ready (rs := [3]) (by kernel_rfl) (by simp) ?_
          refine AllReadyIn.cons rfl (fun K hK => ?_) ?_
          · go_simp; refine hK _ _ ?_; clear hK K; have hc2 := Lib.cell?_alloc_some (.cells #[.slice A2 ys1.length ys1.length] 22) hc1; have hrow1 := (own_below hrow (below_undrew hW1)).alloc (.cells #[.slice A2 ys1.length ys1.length] 22)
            refine wpAnyIn_ready (rs := [4]) (by kernel_rfl) (by simp) ?_
            refine AllReadyIn.cons rfl (fun K hK => ?_) ?_
            · refine stepIn_append_own _ (by rfl) _ _ 23 rfl w.heap.size 22 i0 (.slice none 0 0) 1 24 Try.underlying23 hi hz0 hz1 hz2 rfl (by decide) v _ _ rfl hrow1 ⟨W1.heap.size, 0, none⟩ 1 1 [.slice A2 ys1.length ys1.length] rfl rfl (cell_one_new _ _ _) (by simp [Value.oneCell']) (by simp only [maxLen]; omega) (by omega) (by have := hB.size; have := hW1.size; simp at this ⊢; omega) ?_; intro v' w2 hown' hgrow; obtain ⟨⟨g', cap', rfl⟩, hc3, hf3, hfin⟩ := fin W1 A2 hu hW1 v' w2 hown' hgrow; refine hK _ _ ?_; clear hK K; go_simp
              refine wpAnyIn_ready (rs := [5]) (by kernel_rfl) (by simp) ?_
              refine AllReadyIn.cons rfl (fun K hK => ?_) ?_
              · go_simp; refine hK _ _ ?_; clear hK K
                refine wpAnyIn_done (by kernel_rfl) ?_ _
                exact hfin
              exact AllReadyIn.nil
            exact AllReadyIn.nil
          exact AllReadyIn.nil
        exact AllReadyIn.nil
      exact AllReadyIn.nil
    refine AllReadyIn.cons rfl (fun K hK => ?_) ?_
    · go_simp; refine hK _ _ ?_; clear hK K
      refine wpAnyIn_ready (rs := [0, 2]) (by kernel_rfl) (by simp) ?_
      refine AllReadyIn.cons rfl (fun K hK => ?_) ?_
      · go_simp; refine hK _ _ ?_; clear hK K
        refine wpAnyIn_ready (rs := [2]) (by kernel_rfl) (by simp) ?_
        refine AllReadyIn.cons rfl (fun K hK => ?_) ?_
        · go_simp; refine ⟨trivial, (CallsIn.inRound l (callsIn_wide.2 hOwn)).mono ?_⟩; rintro e W1 ⟨u, rfl, hu, hW1⟩; obtain ⟨A2, rfl, hu2⟩ := id hu; have hc1 : W1.cell? ⟨w.heap.size, 0, none⟩ = some v := ((below_undrew hW1).cell (p := ⟨w.heap.size, 0, none⟩) hv.lt).trans hc; refine hK _ _ ?_; clear hK K; go_simp
          refine wpAnyIn_ready (rs := [3]) (by kernel_rfl) (by simp) ?_
          refine AllReadyIn.cons rfl (fun K hK => ?_) ?_
          · go_simp; refine hK _ _ ?_; clear hK K; have hc2 := Lib.cell?_alloc_some (.cells #[.slice A2 ys1.length ys1.length] 22) hc1; have hrow1 := (own_below hrow (below_undrew hW1)).alloc (.cells #[.slice A2 ys1.length ys1.length] 22)
            refine wpAnyIn_ready (rs := [4]) (by kernel_rfl) (by simp) ?_
            refine AllReadyIn.cons rfl (fun K hK => ?_) ?_
            · refine stepIn_append_own _ (by rfl) _ _ 23 rfl w.heap.size 22 i0 (.slice none 0 0) 1 24 Try.underlying23 hi hz0 hz1 hz2 rfl (by decide) v _ _ rfl hrow1 ⟨W1.heap.size, 0, none⟩ 1 1 [.slice A2 ys1.length ys1.length] rfl rfl (cell_one_new _ _ _) (by simp [Value.oneCell']) (by simp only [maxLen]; omega) (by omega) (by have := hB.size; have := hW1.size; simp at this ⊢; omega) ?_; intro v' w2 hown' hgrow; obtain ⟨⟨g', cap', rfl⟩, hc3, hf3, hfin⟩ := fin W1 A2 hu hW1 v' w2 hown' hgrow; refine hK _ _ ?_; clear hK K; go_simp
              refine wpAnyIn_ready (rs := [5]) (by kernel_rfl) (by simp) ?_
              refine AllReadyIn.cons rfl (fun K hK => ?_) ?_
              · go_simp; refine hK _ _ ?_; clear hK K
                refine wpAnyIn_done (by kernel_rfl) ?_ _
                exact hfin
              exact AllReadyIn.nil
            exact AllReadyIn.nil
          exact AllReadyIn.nil
        exact AllReadyIn.nil
      refine AllReadyIn.cons rfl (fun K hK => ?_) ?_
      · go_simp; refine ⟨trivial, (CallsIn.inRound l (callsIn_wide.2 hOwn)).mono ?_⟩; rintro e W1 ⟨u, rfl, hu, hW1⟩; obtain ⟨A2, rfl, hu2⟩ := id hu; have hc1 : W1.cell? ⟨w.heap.size, 0, none⟩ = some v := ((below_undrew hW1).cell (p := ⟨w.heap.size, 0, none⟩) hv.lt).trans hc; refine hK _ _ ?_; clear hK K; go_simp
        refine wpAnyIn_ready (rs := [0, 3]) (by kernel_rfl) (by simp) ?_
        refine AllReadyIn.cons rfl (fun K hK => ?_) ?_
        · go_simp; refine hK _ _ ?_; clear hK K
          refine wpAnyIn_ready (rs := [3]) (by kernel_rfl) (by simp) ?_
          refine AllReadyIn.cons rfl (fun K hK => ?_) ?_
          · go_simp; refine hK _ _ ?_; clear hK K; have hc2 := Lib.cell?_alloc_some (.cells #[.slice A2 ys1.length ys1.length] 22) hc1; have hrow1 := (own_below hrow (below_undrew hW1)).alloc (.cells #[.slice A2 ys1.length ys1.length] 22)
            refine wpAnyIn_ready (rs := [4]) (by kernel_rfl) (by simp) ?_
            refine AllReadyIn.cons rfl (fun K hK => ?_) ?_
            · refine stepIn_append_own _ (by rfl) _ _ 23 rfl w.heap.size 22 i0 (.slice none 0 0) 1 24 Try.underlying23 hi hz0 hz1 hz2 rfl (by decide) v _ _ rfl hrow1 ⟨W1.heap.size, 0, none⟩ 1 1 [.slice A2 ys1.length ys1.length] rfl rfl (cell_one_new _ _ _) (by simp [Value.oneCell']) (by simp only [maxLen]; omega) (by omega) (by have := hB.size; have := hW1.size; simp at this ⊢; omega) ?_; intro v' w2 hown' hgrow; obtain ⟨⟨g', cap', rfl⟩, hc3, hf3, hfin⟩ := fin W1 A2 hu hW1 v' w2 hown' hgrow; refine hK _ _ ?_; clear hK K; go_simp
              refine wpAnyIn_ready (rs := [5]) (by kernel_rfl) (by simp) ?_
              refine AllReadyIn.cons rfl (fun K hK => ?_) ?_
              · go_simp; refine hK _ _ ?_; clear hK K
                refine wpAnyIn_done (by kernel_rfl) ?_ _
                exact hfin
              exact AllReadyIn.nil
            exact AllReadyIn.nil
          exact AllReadyIn.nil
        refine AllReadyIn.cons rfl (fun K hK => ?_) ?_
        · go_simp; refine hK _ _ ?_; clear hK K; have hc2 := Lib.cell?_alloc_some (.cells #[.slice A2 ys1.length ys1.length] 22) hc1; have hrow1 := (own_below hrow (below_undrew hW1)).alloc (.cells #[.slice A2 ys1.length ys1.length] 22)
          refine wpAnyIn_ready (rs := [0]) (by kernel_rfl) (by simp) ?_
          refine AllReadyIn.cons rfl (fun K hK => ?_) ?_
          · go_simp; refine hK _ _ ?_; clear hK K
            refine wpAnyIn_ready (rs := [4]) (by kernel_rfl) (by simp) ?_
            refine AllReadyIn.cons rfl (fun K hK => ?_) ?_
            · refine stepIn_append_own _ (by rfl) _ _ 23 rfl w.heap.size 22 i0 (.slice none 0 0) 1 24 Try.underlying23 hi hz0 hz1 hz2 rfl (by decide) v _ _ rfl hrow1 ⟨W1.heap.size, 0, none⟩ 1 1 [.slice A2 ys1.length ys1.length] rfl rfl (cell_one_new _ _ _) (by simp [Value.oneCell']) (by simp only [maxLen]; omega) (by omega) (by have := hB.size; have := hW1.size; simp at this ⊢; omega) ?_; intro v' w2 hown' hgrow; obtain ⟨⟨g', cap', rfl⟩, hc3, hf3, hfin⟩ := fin W1 A2 hu hW1 v' w2 hown' hgrow; refine hK _ _ ?_; clear hK K; go_simp
              refine wpAnyIn_ready (rs := [5]) (by kernel_rfl) (by simp) ?_
              refine AllReadyIn.cons rfl (fun K hK => ?_) ?_
              · go_simp; refine hK _ _ ?_; clear hK K
                refine wpAnyIn_done (by kernel_rfl) ?_ _
                exact hfin
              exact AllReadyIn.nil
            exact AllReadyIn.nil
          exact AllReadyIn.nil
        exact AllReadyIn.nil
      exact AllReadyIn.nil
    exact AllReadyIn.nil
  case done =>
    rintro D ys W hD hys ⟨⟨⟨v, vs, hv, hrow, he⟩, hbm, hbz⟩, hB⟩ hK
    have hc := hv.cell
    have hvl : vs.length = ys.length := by rw [he.1]; simp [bytesPc]
    obtain ⟨A', c', rfl, hle, hcp⟩ : ∃ A' c', v = .slice A' ys.length c' ∧ ys.length ≤ c' ∧ c' ≤ 9223372036854775807 := by
      rcases hrow.2 with ⟨rfl, h0⟩ | ⟨g, cp, cur, rfl, _, hgb, h1, h2, _⟩
      · exact ⟨none, 0, by rw [h0], by omega, by omega⟩
      · exact ⟨_, cp, rfl, h1, h2⟩
    gi_wp2_with (refine ⟨trivial, ?_⟩; gi_at_call 23; refine (callsIn_wide.2 (clipL_any _ _ _ _ hle hcp)).mono ?_; rintro e w' ⟨rfl, rfl⟩)
    refine ⟨by simp, .inl ⟨_, _, rfl, run_takeDeferred hK, ?_⟩⟩
    refine ⟨_, results_tmp2 rfl _ _ _, A', vs, by rw [hvl]; rfl, (cells_own hrow hvl.symm).keep (fun b cs hb hh => World.putObj_heap_other (fun e => by subst e; rw [hh] at hK; cases hK)), ?_, hB.trans (belowK_b (w := w) (Nat.le_refl _) W D _ _ (by omega) hK rfl rfl)⟩
    rw [← hys]
    refine he.keep fun b cs hb hh => World.putObj_heap_other (fun e => ?_)
    subst e
    rw [hh] at hK; cases hK
  case stop =>
    rintro D c pre W _ _ h _
    exact h.elim
end Go.Proofs.Ytfaocndelibadaa
