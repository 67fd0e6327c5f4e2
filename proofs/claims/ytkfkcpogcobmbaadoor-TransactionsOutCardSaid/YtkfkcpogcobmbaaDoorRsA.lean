/-
  Helper text: steps of the reference's Speak; no statement is proved here.
-/
import Derived.Test.YtkfkcpogcobmbaaDoorArr
namespace Go.Proofs.YtkfkcpogcobmbaaDoor
open Go Go.RowKit

/-- What is sent and heard, and what is answered. -/
def speakW (x : Rw) (p : Pkt) : Rw × Pkt × Bool :=
  if p.err = 0 then
    if (arrR x p true).2 = true then
      match x.ans with
      | [] => (⟨[], x.flt.drop 1, x.heard ++ [p], (arrR x p true).1.sent⟩, zeroP, false)
      | a :: al =>
        if a.err = 0 then
          if (arrR ⟨al, x.flt.drop 1, x.heard ++ [p], (arrR x p true).1.sent⟩ a false).2 = true then ((arrR ⟨al, x.flt.drop 1, x.heard ++ [p], (arrR x p true).1.sent⟩ a false).1, a, true)
          else ((arrR ⟨al, x.flt.drop 1, x.heard ++ [p], (arrR x p true).1.sent⟩ a false).1, zeroP, false)
        else (⟨al, x.flt.drop 1, x.heard ++ [p], (arrR x p true).1.sent⟩, zeroP, false)
    else ((arrR x p true).1, zeroP, false)
  else (x, zeroP, false)
def RspPost (N : Bd) (x : Rw) (r : Pkt × Bool) (F : Nat → Prop) (w : World) (e : Ending) (w' : World) : Prop :=
  ∃ v' F' A' c', e = .returned (.tuple #[v', pkV r.1 A' c', .bool r.2]) ∧ RdS (fun k => k < N.lo ∧ k < N.hi) w' A' c' r.1.data ∧ (rwA N v' x).holds F' w' ∧ Mv F w F' w'

theorem ret_cell2_tmp {P : Program} {w : World} {fn : Func} {p q u : Tmp} {ty n ty2 n2 : Nat} (hf : Flat P ty n) (hf2 : Flat P ty2 n2) (h : fn.results = #[.cell p ty, .cell q ty2, .tmp u]) (tmps : Array Value) (g : Nat) (hp : tmps.getD p undef = .pointer (some ⟨g, 0, none⟩)) {t : Nat} {cs : Array Value}
    (hg : w.heap[g]? = some (.cells cs t (0, 0))) (hn : cs.size = n) (g2 : Nat) (hq : tmps.getD q undef = .pointer (some ⟨g2, 0, none⟩)) {t2 : Nat} {cs2 : Array Value} (hg2 : w.heap[g2]? = some (.cells cs2 t2 (0, 0))) (hn2 : cs2.size = n2) :
    (results fn tmps).run P w = .ok (.tuple #[.agg cs, .agg cs2, tmps.getD u undef]) w := by
  subst hn; subst hn2
  obtain ⟨d, h1, h3⟩ := hf
  obtain ⟨d2, h4, h5⟩ := hf2
  have hp' : tmps[p]?.getD undef = .pointer (some ⟨g, 0, none⟩) := by simpa using hp
  have hq' : tmps[q]?.getD undef = .pointer (some ⟨g2, 0, none⟩) := by simpa using hq
  simp [results, h, hp', hq', asAddr, run_loadVar_row w g t ty cs (0, 0) _ hg h1 rfl h3, run_loadVar_row w g2 t2 ty2 cs2 (0, 0) _ hg2 h4 rfl h5]

theorem alloc4 (w : World) (o1 o2 o3 o4 : Obj) : ((((w.alloc o1).alloc o2).alloc o3).alloc o4).heap[w.heap.size]? = some o1 ∧ ((((w.alloc o1).alloc o2).alloc o3).alloc o4).heap[w.heap.size + 1]? = some o2 ∧ ((((w.alloc o1).alloc o2).alloc o3).alloc o4).heap[w.heap.size + 1 + 1]? = some o3 ∧
    ((((w.alloc o1).alloc o2).alloc o3).alloc o4).heap[w.heap.size + 1 + 1 + 1]? = some o4 ∧ ((((w.alloc o1).alloc o2).alloc o3).alloc o4).heap.size = w.heap.size + 1 + 1 + 1 + 1 ∧ Below w.heap.size w ((((w.alloc o1).alloc o2).alloc o3).alloc o4) := by
  obtain ⟨h1, h2, h3, h4, h5⟩ := alloc3 w o1 o2 o3
  refine ⟨(Below.heap_alloc _ _ _ (by omega)).trans h1, (Below.heap_alloc _ _ _ (by omega)).trans h2, (Below.heap_alloc _ _ _ (by omega)).trans h3, ?_, by simp, h5.alloc (by omega) o4⟩
  have := heap_alloc_new (((w.alloc o1).alloc o2).alloc o3) o4
  rwa [h4] at this

theorem bad_end {N : Bd} {w cur z1 z2 : World} {v : Value} {x : Rw} {F0 F : Nat → Prop} {g4 g5 : Nat} (h : (rwA N v x).holds F cur) (hm : Mv F0 w F cur) (hg1 : cur.grownBy z1 (some g4)) (hg2 : z1.grownBy z2 (some g5)) (n4 : ¬ F g4) (n5 : ¬ F g5) (l4 : w.heap.size ≤ g4) (l5 : w.heap.size ≤ g5) (hN : N ≤ w.heap.size) :
    RspPost N x (zeroP, false) F0 w (.returned (.tuple #[v, pkV zeroP none 0, .bool false])) z2 := by
  have hc : N ≤ cur.heap.size := Nat.le_trans hN hm.size
  exact ⟨v, F, none, 0, rfl, RdS.nil _, Asr.grown (Asr.grown h hg1 n4 (by omega) hc) hg2 n5 (by omega) (Nat.le_trans hc hg1.size), (hm.grown_new hg1 l4).grown_new hg2 l5⟩

theorem heard_step {N : Bd} {w w' : World} {x : Rw} {Aa : Option Addr} {ca : Nat} {Af : Option Addr} {cf : Nat} {A2 A3 A' : Option Addr} {c2 c3 c' : Nat} {p : Pkt} {F : Nat → Prop} (hN : N ≤ w.heap.size) (RA : RdL layPk (fun k => k < N.lo ∧ k < N.hi) w Aa ca x.ans)
    (RF : RdS (fun k => k < N.hi) w Af cf x.flt) (hOH : OwnB layPk N w (.slice A2 x.heard.length c2) x.heard) (hOS : OwnB laySn N w (.slice A3 x.sent.length c3) x.sent) (hap : ∀ k, (Value.slice A2 x.heard.length c2).ownBlock = some k → (Value.slice A3 x.sent.length c3).ownBlock ≠ some k)
    (hF : ∀ k, F k ↔ (Value.slice A2 x.heard.length c2).ownBlock = some k ∨ (Value.slice A3 x.sent.length c3).ownBlock = some k)
    (ho : OwnB layPk N w' (.slice A' (x.heard ++ [p]).length c') (x.heard ++ [p])) (hg : w.grownBy w' (Value.slice A2 x.heard.length c2).ownBlock) (he : (Value.slice A' (x.heard ++ [p]).length c').ownBlock = (Value.slice A2 x.heard.length c2).ownBlock ∨ (Value.slice A' (x.heard ++ [p]).length c').ownBlock = some w.heap.size) :
    ∃ F', (rwA N (.agg #[.slice Aa x.ans.length ca, .slice Af x.flt.length cf, .slice A' (x.heard ++ [p]).length c', .slice A3 x.sent.length c3]) ⟨x.ans, x.flt, x.heard ++ [p], x.sent⟩).holds F' w' ∧ Mv F w F' w' := by
  have hlt2 := hOH.lt
  have hlt3 := hOS.lt
  have h2' : ∀ k, (Value.slice A' (x.heard ++ [p]).length c').ownBlock = some k → (Value.slice A2 x.heard.length c2).ownBlock = some k ∨ w.heap.size ≤ k := fun k hk => he.elim (fun e => .inl (e.symm.trans hk)) (fun e => .inr (by rw [e] at hk; injection hk with hk; omega))
  have hkk : ∀ k, k < w.heap.size → (Value.slice A2 x.heard.length c2).ownBlock ≠ some k → w'.heap[k]? = w.heap[k]? := fun k hk hne => hg.block k hk (fun e => hne e.symm)
  have hlo : ∀ k, k < N.hi → w'.heap[k]? = w.heap[k]? := fun k hk => hkk k (by omega) (fun e => by have := (hlt2 k e).1; omega)
  refine ⟨fun k => (Value.slice A' (x.heard ++ [p]).length c').ownBlock = some k ∨ (Value.slice A3 x.sent.length c3).ownBlock = some k, ⟨Aa, ca, Af, cf, A', c', A3, c3, rfl, RA.keep fun k h => hlo k h.2, RF.keep hlo, ho, ?_, fun k hk hk' => ?_, fun _ => Iff.rfl⟩, ⟨hg.os, hg.tape, hg.output, hg.size, fun k hk hn => ?_, fun k hk => ?_⟩⟩
  · exact hOS.keep fun k hk => hk.elim (hlo k) (fun e => hkk k (hlt3 k e).2 (fun e2 => hap k e2 e))
  · rcases h2' k hk with h | h
    · exact hap k h hk'
    · have := (hlt3 k hk').2; omega
  · exact hkk k hk fun e => hn ((hF k).2 (.inl e))
  · rcases hk with hk | hk
    · rcases h2' k hk with h | h
      · exact .inl ((hF k).2 (.inl h))
      · exact .inr h
    · exact .inl ((hF k).2 (.inr hk))

theorem agg4_inj {A A' B B' C C' D D' : Option Addr} {n m k l a a' b b' c c' d d' : Nat} (h : Value.agg #[.slice A n a, .slice B m b, .slice C k c, .slice D l d] = .agg #[.slice A' n a', .slice B' m b', .slice C' k c', .slice D' l d']) :
    A = A' ∧ a = a' ∧ B = B' ∧ b = b' ∧ C = C' ∧ c = c' ∧ D = D' ∧ d = d' := by
  injection h with h
  injection h with h
  simp only [List.cons.injEq, Value.slice.injEq, true_and, and_true] at h
  obtain ⟨⟨h1, h2⟩, ⟨h3, h4⟩, ⟨h5, h6⟩, h7, h8⟩ := h
  exact ⟨h1, h2, h3, h4, h5, h6, h7, h8⟩
theorem neF' {x y : Nat} (h : ¬ x = y) : ((x : Int) == (y : Int)) = false ∧ ((x : Int) != (y : Int)) = true := by
  have : ((x : Int) == (y : Int)) = false := by rw [beq_eq_false_iff_ne]; omega
  exact ⟨this, by rw [bne, this]; rfl⟩
theorem range_of {w : World} {g t : Nat} {cs : Array Value} (h : w.heap[g]? = some (.cells cs t (0, 0))) : w.rangeAt g 0 cs.toList := fun j v hj => by
  rw [Nat.zero_add]
  exact block_at h (by simpa using hj)
theorem range_sm {S : Addr → Prop} {w W : World} (h : Sm S w W) {b : Nat} {cs : List Value} (hS : ∀ j, S ⟨b, 0 + j, none⟩) (hr : w.rangeAt b 0 cs) : W.rangeAt b 0 cs := fun j v hj => (h _ (hS j)).trans (hr j v hj)
theorem sm_grown {S : Addr → Prop} {w w' : World} {g : Nat} (hg : w.grownBy w' (some g)) (hsz : w'.heap.size = w.heap.size) (hS : ∀ a, S a → a.block ≠ g) : Sm S w w' := fun a ha => by
  refine World.cell?_of_block ?_
  by_cases hl : a.block < w.heap.size
  · exact hg.block _ hl (fun e => hS a ha (by injection e))
  · rw [Array.getElem?_eq_none (by omega), Array.getElem?_eq_none (by omega)]
theorem slice_inj {A B : Option Addr} {n a b : Nat} (h : Value.slice A n a = .slice B n b) : A = B ∧ a = b := by
  injection h with h1 h2 h3
  exact ⟨h1, h3⟩
theorem slicePk_from (A : Option Addr) (n c : Nat) (l : Int) (W : World) (h0 : 0 ≤ l) (h1 : l ≤ n) : (Instr.slice 51 (.slice A n c) (some (.int .i64 l)) none none).run Tryd.prog W = .ok (sliced A l.toNat n c 10) W := by
  have hs : (sizeOf (Tryd.prog.elem 51)).run Tryd.prog W = .ok 10 W := by kernel_rfl
  rw [run_slice_l W 51 A n c (by kernel_rfl) .i64 l h0 h1, hs]
  rfl
/-- A list that is not empty: its first element, and the others. -/
theorem RdL.first {F : Nat → Prop} {w : World} {A : Option Addr} {c : Nat} {a : Pkt} {al : List Pkt} (h : RdL layPk F w A c (a :: al)) :
    ∃ b off A1 c1, A = some ⟨b, off, none⟩ ∧ F b ∧ w.rangeAt b off (pkL a A1 c1) ∧ RdS F w A1 c1 a.data ∧ ∃ A' c', sliced A 1 (a :: al).length c 10 = .slice A' al.length c' ∧ RdL layPk F w A' c' al := by
  obtain ⟨b, off, vs, rfl, hb, hv, hc⟩ := h.cells (by simp)
  obtain ⟨A1, c1, rest, rfl, hr, hv2⟩ := hv
  have hle := h.le
  have hcap := h.cap
  simp only [List.length_cons] at hle
  have hpl : (layPk.fc a A1 c1).length = 10 := layPk.len a A1 c1
  refine ⟨b, off, A1, c1, rfl, hb, fun j v hj => ?_, hr, if c = 1 then some ⟨b, off, none⟩ else some ⟨b, off + 10, none⟩, c - 1, ?_, by omega, by omega, fun hn => ?_⟩
  · have hj10 : j < 10 := by have := (List.getElem?_eq_some_iff.1 hj).1; exact this
    rw [hc j (by simp only [List.length_cons]; show j < (al.length + 1) * 10; omega), List.getElem?_append_left (by rw [hpl]; exact hj10)]
    exact hj
  · unfold sliced
    by_cases h1 : c = 1
    · simp [h1]
    · rw [if_neg h1, if_neg h1]; simp [Go.WideShapes.add_plain]
  · rw [if_neg (by omega)]
    refine ⟨b, off + 10, rest, rfl, hb, hv2, fun i hi => ?_⟩
    rw [Nat.add_assoc, hc (10 + i) (by simp only [List.length_cons]; have hi' : i < al.length * 10 := hi; show 10 + i < (al.length + 1) * 10; omega), List.getElem?_append_right (by rw [hpl]; omega), hpl, Nat.add_sub_cancel_left]
theorem ans_step {N : Bd} {w : World} {F : Nat → Prop} {a : Pkt} {al : List Pkt} {fl : List UInt8} {hd : List Pkt} {sn : List SentP} {Aa : Option Addr} {ca : Nat} {vf vh vs : Value} (h : (rwA N (.agg #[.slice Aa (a :: al).length ca, vf, vh, vs]) ⟨a :: al, fl, hd, sn⟩).holds F w) :
    ∃ b off A1 c1 A' c', Aa = some ⟨b, off, none⟩ ∧ w.rangeAt b off (pkL a A1 c1) ∧ RdS (fun k => k < N.lo ∧ k < N.hi) w A1 c1 a.data ∧ sliced Aa 1 (a :: al).length ca 10 = .slice A' al.length c' ∧ (rwA N (.agg #[.slice A' al.length c', vf, vh, vs]) ⟨al, fl, hd, sn⟩).holds F w := by
  obtain ⟨Aa', ca', Af, cf, A2, c2, A3, c3, e, h1, h2, h3, h4, h5, h6⟩ := h
  injection e with e
  injection e with e
  simp only [List.cons.injEq, Value.slice.injEq, true_and, and_true] at e
  obtain ⟨⟨rfl, rfl⟩, rfl, rfl, rfl⟩ := e
  obtain ⟨b, off, A1, c1, e1, _, e2, e3, A', c', e4, e5⟩ := h1.first
  exact ⟨b, off, A1, c1, A', c', e1, e2, e3, e4, A', c', Af, cf, A2, c2, A3, c3, rfl, e5, h2, h3, h4, h5, h6⟩

end Go.Proofs.YtkfkcpogcobmbaaDoor
