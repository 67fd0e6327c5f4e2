/-
  Helper text: a packet is heard; no statement is proved here.
-/
import Derived.Test.YtjilbgdenolllaaOwn
import Derived.Deep.RegionHeld3
import Derived.Deep.RegionLaw
import Derived.Deep.DrawnRows
namespace Go.Proofs.Ytjilbgdenolllaa
open Go Go.RowKit

/-- The slice v, of the call's own, holds slices that read as ps in the world w0. -/
def Pks (w0 w : World) (v : Value) (ps : List (List UInt8)) : Prop :=
  ∃ vs, w.ownsRow w0.heap.size 26 1 v ps.length vs ∧ ∀ j, j < ps.length → ∃ A c, vs[j]? = some (.slice A (ps.getD j []).length c) ∧ Rd w0 w0.heap.size A c (ps.getD j [])
theorem Pks.nil (w0 w : World) : Pks w0 w (.slice none 0 0) [] := ⟨[], World.ownsRow_nil _ _ _ _, fun j hj => absurd hj (by simp)⟩
theorem none_or (v : Value) : v.ownBlock = none ∨ v.ownBlock ≠ none := by cases v.ownBlock <;> simp
theorem Pks.kept {w0 w w' : World} {v : Value} {ps : List (List UInt8)} {row : Option Nat} (h : Pks w0 w v ps) (hg : w.grownBy w' row) (hne : v.ownBlock = none ∨ v.ownBlock ≠ row) : Pks w0 w' v ps := by
  obtain ⟨vs, ho, hv⟩ := h
  exact ⟨vs, ho.kept hg hne, hv⟩
theorem Pks.shape {w0 w : World} {v : Value} {ps : List (List UInt8)} (h : Pks w0 w v ps) : ∃ A c, v = .slice A ps.length c := by
  obtain ⟨vs, ⟨_, h2⟩, hv⟩ := h
  rcases h2 with ⟨rfl, hn⟩ | ⟨g, cap, cur, rfl, _⟩
  · exact ⟨none, 0, by rw [hn]⟩
  · exact ⟨_, _, rfl⟩
theorem Pks.rds {w0 w : World} {v : Value} {ps : List (List UInt8)} (h : Pks w0 w v ps) (hb : Below w0.heap.size w0 w) : ∃ A c, v = .slice A ps.length c ∧ Rds w w.heap.size A c ps := by
  obtain ⟨vs, ⟨_, h2⟩, hv⟩ := h
  rcases h2 with ⟨rfl, hn⟩ | ⟨g, cap, cur, rfl, _, hh, hle, hm, hcs, ht⟩
  · exact ⟨none, 0, by rw [hn], by rw [List.eq_nil_of_length_eq_zero hn]; exact ⟨Nat.le_refl _, by omega, fun h => absurd h (by simp)⟩⟩
  · refine ⟨_, _, rfl, hle, by simpa [maxLen] using hm, fun _ => ⟨g, 0, rfl, (Array.getElem?_eq_some_iff.1 hh).1, fun j hj => ?_⟩⟩
    obtain ⟨A', c', e1, e2⟩ := hv j hj
    refine ⟨A', c', ?_, (e2.below hb).more hb.size⟩
    rw [cell_of_row w g (0 + j) cur _ (0, 0) hh]
    rw [← ht, List.getElem?_take, if_pos (by omega)] at e1
    rw [Nat.zero_add, ← Array.getElem?_toList, e1]

/-- What has been taken: the argument, without room behind it, or a row of the call's own. -/
def Gt (w0 w : World) (v : Value) (ps : List (List UInt8)) : Prop :=
  (∃ A, v = .slice A ps.length ps.length ∧ Rds w0 w0.heap.size A ps.length ps) ∨ Pks w0 w v ps
theorem Gt.kept {w0 w w' : World} {v : Value} {ps : List (List UInt8)} {row : Option Nat} (h : Gt w0 w v ps) (hg : w.grownBy w' row) (hne : ∀ g, row = some g → ∀ cs, w.heap[g]? ≠ some (.cells cs 26 (0, 0))) : Gt w0 w' v ps := by
  rcases h with h | h
  · exact .inl h
  · refine .inr (h.kept hg ?_)
    obtain ⟨vs, ho, _⟩ := h
    rcases ho.2 with ⟨rfl, _⟩ | ⟨g, cap, cur, rfl, _, hh, _⟩
    · exact .inl rfl
    · refine .inr fun e => ?_
      exact hne g e.symm _ hh
theorem Gt.below {w0 w w' : World} {v : Value} {ps : List (List UInt8)} (h : Gt w0 w v ps) (hb : Below w.heap.size w w') : Gt w0 w' v ps :=
  h.kept (grown_of_below hb none) fun g e => by cases e
theorem Gt.shape {w0 w : World} {v : Value} {ps : List (List UInt8)} (h : Gt w0 w v ps) : ∃ A c, v = .slice A ps.length c := by
  rcases h with ⟨A, rfl, h⟩ | h
  · exact ⟨A, _, rfl⟩
  · exact h.shape
theorem Gt.rds {w0 w : World} {v : Value} {ps : List (List UInt8)} (h : Gt w0 w v ps) (hb : Below w0.heap.size w0 w) : ∃ A c, v = .slice A ps.length c ∧ Rds w w.heap.size A c ps := by
  rcases h with ⟨A, rfl, h⟩ | h
  · exact ⟨A, _, rfl, (h.below hb).more hb.size⟩
  · exact h.rds hb
/-- The block into which an append may write. -/
theorem Gt.block {w0 w : World} {v : Value} {ps : List (List UInt8)} (h : Gt w0 w v ps) (hb : Below w0.heap.size w0 w) : ∀ g, v.ownBlock = some g → g < w0.heap.size ∨ ps = [] ∨ ∃ cs, w.heap[g]? = some (.cells cs 26 (0, 0)) := by
  intro g hg
  rcases h with ⟨A, rfl, h⟩ | ⟨vs, ho, _⟩
  · rcases Nat.eq_zero_or_pos ps.length with h0 | h0
    · exact .inr (.inl (List.eq_nil_of_length_eq_zero h0))
    · obtain ⟨b, off, rfl, hlt, _⟩ := h.cells h0
      obtain rfl : b = g := by simpa [Value.ownBlock] using hg
      exact .inl hlt
  · rcases ho.2 with ⟨rfl, _⟩ | ⟨g', cap, cur, rfl, _, hh, _⟩
    · cases hg
    · obtain rfl : g' = g := by simpa [Value.ownBlock] using hg
      exact .inr (.inr ⟨_, hh⟩)

theorem grown_mono {w w' : World} (h : w.grownBy w' none) (r : Option Nat) : w.grownBy w' r := ⟨h.os, h.tape, h.output, h.size, fun k hk _ => h.block k hk (by simp)⟩
/-- One header more behind the others. -/
theorem heads_snoc {w0 : World} {ps : List (List UInt8)} {vs : List Value} {A : Option Addr} {c : Nat} {ys : List UInt8} (hl : vs.length = ps.length) (h : ∀ j, j < ps.length → ∃ A c, vs[j]? = some (.slice A (ps.getD j []).length c) ∧ Rd w0 w0.heap.size A c (ps.getD j []))
    (hr : Rd w0 w0.heap.size A c ys) : ∀ j, j < (ps ++ [ys]).length → ∃ A' c', (vs ++ [.slice A ys.length c])[j]? = some (.slice A' ((ps ++ [ys]).getD j []).length c') ∧ Rd w0 w0.heap.size A' c' ((ps ++ [ys]).getD j []) := by
  intro j hj
  rw [List.length_append, List.length_cons, List.length_nil] at hj
  rcases Nat.lt_or_ge j ps.length with hjl | hjl
  · obtain ⟨A', c', e1, e2⟩ := h j hjl
    rw [getD_append_lt hjl]
    exact ⟨A', c', by rw [List.getElem?_append, if_pos (by omega)]; exact e1, e2⟩
  · have hj2 : j = ps.length := by omega
    subst hj2
    rw [getD_append_ge (Nat.le_refl _), Nat.sub_self]
    exact ⟨A, c, by rw [List.getElem?_append, if_neg (by omega), hl]; simp, hr⟩

/-- append of a packet: the run; only a row of the call's own may be written. -/
theorem run_appendG {P : Program} {w0 w : World} {ty : TypeId} (ht : P.underlying 22 = some (.slice 26))
    (hinf : (P.info? 26).map (fun i => (i.zero, i.size, i.bytes)) = some (some (.slice none 0 0), 1, 24)) (hb : Below w0.heap.size w0 w) {v : Value} {ps : List (List UInt8)} (hg : Gt w0 w v ps)
    {A : Option Addr} {c : Nat} {ys : List UInt8} (hr : Rd w0 w0.heap.size A c ys) (g1 : Nat) (hc : w.cell? ⟨g1, 0, none⟩ = some (.slice A ys.length c)) (hl : ps.length ≤ 1000000) :
    ∃ v' w' row, (Builtin.append_ #[22, 22] ty #[v, .slice (some ⟨g1, 0, none⟩) 1 1]).run P w = .ok v' w' ∧ Pks w0 w' v' (ps ++ [ys]) ∧ w.grownBy w' row ∧ (∀ g, row = some g → w0.heap.size ≤ g ∧ ∃ cs, w.heap[g]? = some (.cells cs 26 (0, 0))) := by
  obtain ⟨i0, hi, hz0, hz1, hz2⟩ := info_parts hinf
  have hnews : ∀ j u, [Value.slice A ys.length c][j]? = some u → w.cell? ((⟨g1, 0, none⟩ : Addr).add j) = some u := by
    intro j u hj
    match j, hj with
    | 0, hj =>
      simp at hj
      subst hj
      simpa [Addr.add] using hc
  have own : ∀ v, Pks w0 w v ps → ∃ v' w' row, (Builtin.append_ #[22, 22] ty #[v, .slice (some ⟨g1, 0, none⟩) 1 1]).run P w = .ok v' w' ∧ Pks w0 w' v' (ps ++ [ys]) ∧ w.grownBy w' row ∧ (∀ g, row = some g → w0.heap.size ≤ g ∧ ∃ cs, w.heap[g]? = some (.cells cs 26 (0, 0))) := by
    intro v ⟨vs, ho, hv⟩
    have hvl : vs.length = ps.length := by have := ho.1; omega
    obtain ⟨v', w', h0, h1, h2, _, _⟩ := run_append_own_at (P := P) w w0.heap.size 22 ty 26 i0 (.slice none 0 0) 1 24 ht hi hz0 hz1 hz2 rfl (by decide) v ps.length vs ho ⟨g1, 0, none⟩ 1 1 [.slice A ys.length c] rfl hnews
      (fun z hz => by simp at hz; subst hz; rfl) (by unfold maxLen; omega) (by omega) hb.size
    refine ⟨v', w', v.ownBlock, h0, ⟨vs ++ [.slice A ys.length c], by simpa using h1, heads_snoc hvl hv hr⟩, h2, fun g hg => ⟨(ho.lt g hg).1, ?_⟩⟩
    rcases ho.2 with ⟨rfl, _⟩ | ⟨g', cap, cur, rfl, _, hh, _⟩
    · cases hg
    · obtain rfl : g' = g := by simpa [Value.ownBlock] using hg
      exact ⟨_, hh⟩
  rcases hg with ⟨A0, rfl, h⟩ | h
  · rcases A0 with _ | a0
    · have h0 : ps = [] := by
        rcases Nat.eq_zero_or_pos ps.length with h0 | h0
        · exact List.eq_nil_of_length_eq_zero h0
        · obtain ⟨b, off, e, _⟩ := h.cells h0
          cases e
      subst h0
      exact own (.slice none 0 0) (Pks.nil w0 w)
    · obtain ⟨vs, hvl, _, hvs, hsrc⟩ := h.heads
      have holds : ∀ j u, vs[j]? = some u → w.cell? (a0.add j) = some u := by
        intro j u hj
        have h0 : 0 < vs.length := by
          rcases Nat.eq_zero_or_pos vs.length with h0 | h0
          · rw [List.eq_nil_of_length_eq_zero h0] at hj
            simp at hj
          · exact h0
        obtain ⟨b, off, e, hlt, hcell⟩ := hsrc h0
        obtain rfl := Option.some.inj e
        rw [Go.WideShapes.add_plain]
        exact (hb.cell (p := ⟨b, off + j, none⟩) hlt).trans (hcell j u hj)
      obtain ⟨v', w', h0, h1, h2⟩ := run_append_arg_grows (P := P) w 22 ty 26 i0 (.slice none 0 0) 1 24 ht hi hz0 hz1 hz2 rfl (by decide) a0 ps.length ps.length vs (by omega) holds ⟨g1, 0, none⟩ 1 1 [.slice A ys.length c] rfl hnews (by omega) (by unfold maxLen; omega) (by omega)
      exact ⟨v', w', none, h0, ⟨vs ++ [.slice A ys.length c], by simpa using own_base h1 hb.size, heads_snoc hvl hvs hr⟩, h2, fun g e => by cases e⟩
  · exact own v h

/-- .. at a step of a region that draws its order. -/
theorem step_appendG {P : Program} {ops : Array Oper} {o : Oper} {a : Act} {K : Act → World → Prop} {Q : Exit → Act → World → Prop} {E : Prop} {w0 w : World} (ht : P.underlying 22 = some (.slice 26))
    (hinf : (P.info? 26).map (fun i => (i.zero, i.size, i.bytes)) = some (some (.slice none 0 0), 1, 24)) (hgd : o.guard = none) (s x : Operand)
    (ho : o.op = .call { callee := .builtin .append, args := #[s, x], argTypes := #[22, 22] }) (hb : Below w0.heap.size w0 w) (v : Value) (ps : List (List UInt8)) (hs : a.eval s = v) (hg : Gt w0 w v ps)
    (A : Option Addr) (c : Nat) (ys : List UInt8) (hr : Rd w0 w0.heap.size A c ys) (g1 : Nat) (hx : a.eval x = .slice (some ⟨g1, 0, none⟩) 1 1) (hc : w.cell? ⟨g1, 0, none⟩ = some (.slice A ys.length c)) (hl : ps.length ≤ 1000000)
    (h : ∀ A' c' w' row, Pks w0 w' (.slice A' (ps ++ [ys]).length c') (ps ++ [ys]) → w.grownBy w' row → (∀ g, row = some g → w0.heap.size ≤ g ∧ ∃ cs, w.heap[g]? = some (.cells cs 26 (0, 0))) → K (a.put o.dst (.slice A' (ps ++ [ys]).length c')) w') :
    if Region.wanted o (yielded ops a.tmps) = true then Oper.wp P o a w K Q else E := by
  have hw : Region.wanted o (yielded ops a.tmps) = true := by simp [Region.wanted, hgd]
  rw [if_pos hw]
  obtain ⟨v', w', row, h0, h1, h2, h3⟩ := run_appendG (P := P) (ty := o.type) ht hinf hb hg hr g1 hc hl
  obtain ⟨A', c', rfl⟩ := h1.shape
  unfold Oper.wp execOp
  simp only [ho, resolve, invoke, builtin, Sem.run_bind, Sem.run_pure, Result.andThen_ok, List.map_toArray, List.map_cons, List.map_nil, hs, hx, h0]
  exact h A' c' w' row h1 h2 h3

/-- A receiver that has not taken a packet. -/
def HeardNo (w : World) (rt : Bool) (vr : Value) (e : Ending) (w' : World) : Prop := e = .returned (.tuple #[sv rt vr, .bool false]) ∧ Below w.heap.size w w'
/-- A receiver that has taken a packet; only a row of the call's own may be written. -/
def HeardYes (w0 w : World) (rt : Bool) (ps : List (List UInt8)) (e : Ending) (w' : World) : Prop :=
  ∃ v row, e = .returned (.tuple #[sv rt v, .bool true]) ∧ Pks w0 w' v ps ∧ w.grownBy w' row ∧ (∀ g, row = some g → g < w.heap.size → w0.heap.size ≤ g ∧ ∃ cs, w.heap[g]? = some (.cells cs 26 (0, 0)))

set_option maxHeartbeats 800000 in
set_option maxRecDepth 100000 in
theorem heard_no (w : World) (rt : Bool) (A : Option Addr) (n c : Nat) (vb : Value) :
    Calls Try.prog 25 #[sv rt (.slice A n c), .bool (!rt), vb] w (HeardNo w rt (.slice A n c)) := by
  have hb := Lib.hid (fun (o1 o2 : Obj) => ((Below.refl w.heap.size w).alloc (Nat.le_refl _) o1).alloc (by simp) o2)
  cases rt
  · go_enter Try.func25, Try.ntmps25
    go_wp2
    refine bodyPost_ret (v := .tuple #[sv false (.slice A n c), .bool false]) (by simp [results, Try.results25, go_sem]) rfl ?_
    exact ⟨rfl, hb.out _ _⟩
  · go_enter Try.func25, Try.ntmps25
    go_wp2
    refine bodyPost_ret (v := .tuple #[sv true (.slice A n c), .bool false]) (by simp [results, Try.results25, go_sem]) rfl ?_
    exact ⟨rfl, hb.out _ _⟩

/-- Behind a box, a result's place and a slice of one. -/
theorem box_one {w : World} {cs cs2 cs3 : Array Value} {T T2 T3 : TypeId} {W : World} (hW : W = (((w.alloc (.cells cs T)).alloc (.cells cs2 T2)).alloc (.cells cs3 T3)).drew) :
    W.heap.size = w.heap.size + 1 + 1 + 1 ∧ W.heap[w.heap.size]? = some (.cells cs T (0, 0)) ∧ W.heap[w.heap.size + 1]? = some (.cells cs2 T2 (0, 0)) ∧ W.heap[w.heap.size + 1 + 1]? = some (.cells cs3 T3 (0, 0)) ∧ Below w.heap.size w W := by
  subst hW
  refine ⟨by simp, ?_, ?_, ?_, ((((Below.refl w.heap.size w).alloc (Nat.le_refl _) _).alloc (by simp) _).alloc (by simp; omega) _).drew⟩
  · exact (Below.heap_alloc _ _ _ (by simp; omega)).trans ((Below.heap_alloc _ _ _ (by simp)).trans (heap_alloc_new w _))
  · have := heap_alloc2_new w (.cells cs T) (.cells cs2 T2)
    exact (Below.heap_alloc _ _ _ (by simp)).trans this
  · have := heap_alloc_new ((w.alloc (.cells cs T)).alloc (.cells cs2 T2)) (.cells cs3 T3)
    rw [show ((w.alloc (.cells cs T)).alloc (.cells cs2 T2)).heap.size = w.heap.size + 1 + 1 by simp] at this
    exact this

theorem Pks.apart {w0 w w' : World} {v : Value} {ps : List (List UInt8)} {p T : Nat} {cs : Array Value} (h : Pks w0 w v ps) (hp : w.heap[p]? = some (.cells cs T (0, 0))) (hT : T ≠ 26) (hg : w.grownBy w' (some p)) : Pks w0 w' v ps := by
  refine h.kept hg ?_
  obtain ⟨vs, ho, _⟩ := h
  rcases ho.2 with ⟨rfl, _⟩ | ⟨g, cap, cur, rfl, _, hh, _⟩
  · exact .inl rfl
  · exact .inr fun e => block_ne hp hh hT (Option.some.inj e).symm
theorem heard_end {w0 w W w1 : World} {p T : Nat} {a b : Value} {row : Option Nat} {v : Value} {qs : List (List UInt8)} (hW : Below w.heap.size w W) (hpk : Pks w0 w1 v qs) (hgr : W.grownBy w1 row)
    (hrow : ∀ g, row = some g → w0.heap.size ≤ g ∧ ∃ cs, W.heap[g]? = some (.cells cs 26 (0, 0))) (k2 : w1.heap[p]? = some (.cells #[a, b] T (0, 0))) (hT : T ≠ 26) (hp : w.heap.size ≤ p) (x y : Value) :
    Pks w0 ((w1.setCell ⟨p, 0, none⟩ x).setCell ⟨p, 1, none⟩ y) v qs ∧ w.grownBy ((w1.setCell ⟨p, 0, none⟩ x).setCell ⟨p, 1, none⟩ y) row ∧
      ∀ g, row = some g → g < w.heap.size → w0.heap.size ≤ g ∧ ∃ cs, w.heap[g]? = some (.cells cs 26 (0, 0)) := by
  have hs : w1.grownBy ((w1.setCell ⟨p, 0, none⟩ x).setCell ⟨p, 1, none⟩ y) (some p) := grown_trans (grown_setCell w1 ⟨p, 0, none⟩ x) (grown_setCell (w1.setCell ⟨p, 0, none⟩ x) ⟨p, 1, none⟩ y)
  refine ⟨hpk.apart k2 hT hs, ⟨hs.os.trans (hgr.os.trans hW.os), hs.tape.trans (hgr.tape.trans hW.tape), hs.output.trans (hgr.output.trans hW.output), Nat.le_trans hW.size (Nat.le_trans hgr.size hs.size), fun k hk hne => ?_⟩, fun g hg hlt => ?_⟩
  · have h1 := hW.size
    have h2 := hgr.size
    rw [hs.block k (by omega) (fun e => by injection e with e; omega), hgr.block k (by omega) hne, hW.block k hk]
  · obtain ⟨e1, cs, e2⟩ := hrow g hg
    rw [hW.block g hlt] at e2
    exact ⟨e1, cs, e2⟩

set_option maxHeartbeats 800000 in
set_option maxRecDepth 100000 in
theorem heard_yes (w0 w : World) (rt : Bool) (vr : Value) (ps : List (List UInt8)) (hb0 : Below w0.heap.size w0 w) (hg : Gt w0 w vr ps) (A : Option Addr) (c : Nat) (ys : List UInt8) (hr : Rd w0 w0.heap.size A c ys) (hl : ps.length ≤ 1000000) :
    Calls Try.prog 25 #[sv rt vr, .bool rt, .slice A ys.length c] w (HeardYes w0 w (!rt) (ps ++ [ys])) := by
  have hrt : (rt != rt) = false := by simp
  obtain ⟨Ar, cr, rfl⟩ := hg.shape
  obtain ⟨h0, h1, h2, h3, h4⟩ := box_one (w := w) (cs := #[.bool rt, .slice Ar ps.length cr]) (cs2 := #[.bool false, .slice none 0 0]) (cs3 := #[.slice A ys.length c]) (T := 39) (T2 := 39) (T3 := 26) rfl
  have H1 := Lib.hid h1
  have H2 := Lib.hid h2
  have H3 := Lib.hid (block_at h3 (i := 0) (v := .slice A ys.length c) rfl)
  have H4 := Lib.hid h4
  have H5 := Lib.hid (hb0.trans (h4.mono hb0.size))
  have H6 := Lib.hid (hg.below h4)
  have H0 := Lib.hid h0
  clear h0 h1 h2 h3 h4
  go_enter Try.func25, Try.ntmps25
  go_wp2
  go_region_held3 (fun w' => w'.cell? ⟨w.heap.size, 0, none⟩ = some (.bool rt) ∧ w'.cell? ⟨w.heap.size, 1, none⟩ = some (.slice Ar ps.length cr))
    (first | go_keep | exact ⟨c0, c1⟩)
    ((refine step_appendG Try.underlying22 Try.info26 (by rfl) (.tmp 17) (.tmp 19) (by rfl) H5.out (.slice Ar ps.length cr) ps (by rfl) H6.out A c ys hr (w.heap.size + 1 + 1) (by rfl) H3.out hl ?_; intro A1 c1 w1 row hpk hgr hrow; have k1 := block_grown H1.out hgr (fun e => by obtain ⟨_, cs, hcs⟩ := hrow _ e.symm; exact block_ne hcs H1.out (by decide) rfl); have k2 := block_grown H2.out hgr (fun e => by obtain ⟨_, cs, hcs⟩ := hrow _ e.symm; exact block_ne hcs H2.out (by decide) rfl); have c0 := block_at k1 (i := 0) (v := .bool rt) rfl; have c1 := block_at k1 (i := 1) (v := .slice Ar ps.length cr) rfl; have d0 := block_at k2 (i := 0) (v := .bool false) rfl; have d1 := block_at k2 (i := 1) (v := .slice none 0 0) rfl; have f0 := block_free k2 0; have f1 := block_free k2 1; replace k1 := Lib.hid k1; replace k2 := Lib.hid k2; replace hrow := Lib.hid hrow))
  all_goals
    clear c0 c1 d0 d1 f0 f1
    go_wp2
    refine bodyPost_ret (results_row_tmp rfl _ _ (w.heap.size + 1) _ _ _ _ rfl (set2 k2.out _ _) Try.underlying39 rfl (by kernel_rfl)) rfl ?_
    have hlen : (ps ++ [ys]).length = ps.length + 1 := by simp
    rw [hlen] at hpk
    exact ⟨_, row, rfl, heard_end H4.out hpk hgr hrow.out k2.out (by decide) (by omega) _ _⟩

end Go.Proofs.Ytjilbgdenolllaa
