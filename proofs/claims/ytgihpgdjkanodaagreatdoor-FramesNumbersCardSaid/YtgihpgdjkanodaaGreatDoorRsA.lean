/-
  Helper text, several in one; no statement is proved here.
-/
import Derived.Test.YtgihpgdjkanodaaGreatDoorDo2
namespace Go.Proofs.YtgihpgdjkanodaaGreatDoor
open Go Go.RowKit

theorem infFault : (Tryz.prog.info? 83).map (fun i => (i.zero, i.size, i.bytes)) = some (some (.int .u8 0), 1, 1) := by kernel_rfl

set_option maxHeartbeats 400000 in
set_option maxRecDepth 100000 in
theorem fclone_any (w : World) (A : Option Addr) (c : Nat) (xs : List UInt8) (hx : Rd w w.heap.size A c xs) (hl : xs.length ≤ 1000000) :
    Calls Tryz.prog 41 #[.slice A xs.length c] w (ResN w xs) := by
  have qT : ∀ (w : World) (a : Option Addr) (n c n' c' : Nat), (binOp .eql 61 (.slice a n c) (.slice none n' c')).run Tryz.prog w = .ok (.bool a.isNone) w := fun w a n c n' c' => Lib.run_eql_slice_nil w _ _ a n c n' c' Tryz.underlying61
  rcases A with _ | ad
  · have h0 : xs = [] := by
      rcases Nat.eq_zero_or_pos xs.length with h0 | h0
      · exact List.eq_nil_of_length_eq_zero h0
      · obtain ⟨b, off, e, _⟩ := hx.cells h0
        cases e
    subst h0
    rw [List.length_nil]
    go_enter Tryz.func41, Tryz.ntmps41
    go_wp2
    go_ret
    exact ⟨none, 0, rfl, RdS.nil _, Below.refl _ _⟩
  · have hown := Lib.hid (show (w.alloc (.cells #[] 83)).ownsRow w.heap.size 83 1 (.slice (some ⟨w.heap.size, 0, none⟩) 0 0) ([] : List UInt8).length (([] : List UInt8).map bv) from own_built w 83 [] (by simp))
    have hx1 := Lib.hid (hx.alloc (Nat.le_refl _) (.cells #[] 83))
    have hl' := Lib.hid hl
    clear hx hl
    go_enter Tryz.func41, Tryz.ntmps41
    go_wp2_with (at_builtin; refine wpl_appendN Tryz.underlying61 infFault rfl (.tmp 5) (.tmp 6) rfl w.heap.size _ [] rfl hown.out _ c (some ad) xs hx1.out rfl (by have := hl'.out; simp; omega) (by simp) ?_; intro v' w' ho hbb)
    go_ret
    obtain ⟨A', c', rfl, hr⟩ := RdS.of_own (xs := [] ++ xs) ho
    simp only [List.nil_append] at hr ⊢
    exact ⟨A', c', rfl, hr, ((Below.refl _ w).alloc (Nat.le_refl _) _).trans hbb⟩

/-- A line is returned. -/
def LinePost (w : World) (fs : List UInt8) (e : Ending) (w' : World) : Prop :=
  ∃ b F, e = .returned (.pointer (some ⟨b, 0, none⟩)) ∧ (lineA w.heap.size b fs).holds F w' ∧ Below w.heap.size w w'
theorem lineA_base {N M b : Nat} {fs : List UInt8} {F : Nat → Prop} {w : World} (h : (lineA M b fs).holds F w) (hN : N ≤ M) : (lineA N b fs).holds F w := ⟨h.1, h.2.1, fun k hk => ⟨Nat.le_trans hN (h.2.2 k hk).1, (h.2.2 k hk).2⟩⟩

set_option maxHeartbeats 400000 in
set_option maxRecDepth 100000 in
theorem newLine_any (w : World) (A : Option Addr) (c : Nat) (xs : List UInt8) (hx : Rd w w.heap.size A c xs) (hl : xs.length ≤ 1000000) :
    Calls Tryz.prog 31 #[.slice A xs.length c] w (LinePost w xs) := by
  have K := Lib.hid (fclone_any w A c xs hx hl)
  clear hx hl
  go_enter Tryz.func31, Tryz.ntmps31
  go_wp2_with fail
  refine K.out.mono ?_
  rintro e y ⟨A1, c1, rfl, hr, hb⟩
  have Hr := Lib.hid hr
  have Hb := Lib.hid hb
  clear hr hb
  go_wp2
  go_ret
  have hbl := (Below.refl y.heap.size y).alloc (Nat.le_refl _) (.cells #[.slice A1 xs.length c1] 115)
  refine ⟨y.heap.size, fun k => w.heap.size ≤ k ∧ k < y.heap.size + 1, rfl, ⟨⟨A1, c1, alloc1 _ _, (Hr.out.below hbl).mono fun k hk => ⟨⟨hk.1, by omega⟩, by omega⟩⟩, ⟨Hb.out.size, by omega⟩, fun k hk => ⟨hk.1, by simpa using hk.2⟩⟩, Hb.out.trans (hbl.mono Hb.out.size)⟩

/-- The faults of a wire as plain data. -/
def m3 (x : UInt8) : UInt8 := x % 3
theorem m3_val (x : UInt8) : Value.int .u8 ((x.toNat : Int) % 3) = bv (m3 x) := by
  unfold m3 bv
  rw [UInt8.toNat_mod]
  rfl
set_option maxHeartbeats 800000 in
set_option maxRecDepth 100000 in
theorem faults_any (w : World) (A : Option Addr) (c : Nat) (xs : List UInt8) (h : Rd w w.heap.size A c xs) (hl : xs.length ≤ 100000) :
    Calls Tryz.prog 15 #[.slice A xs.length c] w (ResO w 83 (xs.map m3)) := by
  go_enter Tryz.func15, Tryz.ntmps15
  go_wp2
  go_loopw [3, 4] (fun u i wr => ∃ (k : Nat), k ≤ xs.length ∧ i = .int .i64 k ∧ wr.ownsRow w.heap.size 83 1 u ((xs.take k).map m3).length (((xs.take k).map m3).map bv) ∧ Below w.heap.size w wr) (fun _ i _ => xs.length - (intOf i).toNat)
  case atStart => exact ⟨0, by omega, rfl, ⟨by simp, .inl ⟨rfl, by simp⟩⟩, Below.refl _ _⟩
  case round =>
    obtain ⟨k, hk, rfl, hown, hb⟩ := hrel
    by_cases hkl : k < xs.length
    · obtain ⟨b, off, hA, hblt, hcell⟩ := (h.below hb).at_ hkl
      subst hA
      have hsn : (xs.take (k + 1)).map m3 = (xs.take k).map m3 ++ [m3 (xs.getD k 0)] := by rw [take_snoc xs hkl, List.map_append]; rfl
      have hzl : ((xs.take k).map m3).length ≤ 100000 := by simp; omega
      generalize (xs.take k).map m3 = zs at hown hsn hzl
      generalize xs.getD k 0 = x at hcell hsn
      have Hv := Lib.hid (m3_val x)
      have hxb := x.toNat_lt
      have Hs := Lib.hid hsn
      have Ho := Lib.hid hown
      have Hb := Lib.hid hb
      have Hz := Lib.hid hzl
      clear hsn hown hb hzl
      rename_i u3 _
      go_wp2_with (at_builtin; refine wpl_append1 Tryz.underlying61 infFault rfl (.tmp 11) (.tmp 17) rfl w.heap.size u3 zs rfl Ho.out (m3 x) _ Hv.out rfl (by have := Hz.out; omega) Hb.out.size ?_; intro v' w1 hown2 hb2)
      go_roundw
      case rel => exact ⟨k + 1, by omega, by go_num, by rw [Hs.out]; exact hown2, Hb.out.trans hb2⟩
      case measure => simp [intOf]; omega
    · have hk9 : k = xs.length := by omega
      subst hk9
      rw [List.take_length] at hown
      have Ho := Lib.hid hown
      have Hb := Lib.hid hb
      clear hown hb
      go_wp2
      go_ret
      exact ⟨_, rfl, Ho.out, Hb.out⟩

set_option maxHeartbeats 400000 in
set_option maxRecDepth 100000 in
theorem wire_any (w : World) (A : Option Addr) (c : Nat) (xs : List UInt8) (hx : Rd w w.heap.size A c xs) (hl : xs.length ≤ 100000) :
    Calls Tryz.prog 14 #[.slice A xs.length c] w (LinePost w (xs.map m3)) := by
  have K := Lib.hid (faults_any w A c xs hx hl)
  have KN := Lib.hid fun (X : World) (A : Option Addr) (c : Nat) (hX : Rd X X.heap.size A c (xs.map m3)) => newLine_any X A c (xs.map m3) hX (by simp; omega)
  clear hx hl
  generalize xs.map m3 = ys at *
  go_enter Tryz.func14, Tryz.ntmps14
  go_wp2_with fail
  refine K.out.mono ?_
  rintro e y ⟨v, rfl, ho, hb⟩
  obtain ⟨A1, c1, rfl, hr⟩ := Rd.of_own ho
  have Hb := Lib.hid hb
  clear hb ho
  go_wp2_with fail
  refine (KN.out y A1 c1 hr).mono ?_
  rintro e z ⟨b, F, rfl, hz, hb2⟩
  have Hf := Lib.hid (And.intro (lineA_base hz Hb.out.size) (Hb.out.trans (hb2.mono Hb.out.size)))
  clear hz hb2 hr
  go_wp2
  go_ret
  exact ⟨b, F, rfl, Hf.out.1, Hf.out.2⟩

end Go.Proofs.YtgihpgdjkanodaaGreatDoor

namespace Go.Proofs.YtgihpgdjkanodaaGreatDoor
open Go Go.RowKit

section
variable {P : Program} {ops : Array Oper} {rest : List Oper} {o : Oper} {a : Act} {w : World} {Q : Exit → Act → World → Prop} {K : Act → World → Prop}
/-- One cell of a block is stored: only its block changes. -/
theorem wp_storeC {ty : TypeId} (x y : Operand) (ho : o.op = .store ty x y) (g i : Nat) (hx : a.eval x = .pointer (some ⟨g, i, none⟩)) (u : Value) (hy : a.eval y = u) (h1 : u.oneCell' = true) (hsz : (P.info? ty).map (·.size) = some 1)
    {t : Nat} {cs : Array Value} (hg : w.heap[g]? = some (.cells cs t (0, 0))) (hi : i < cs.size)
    (h : ∀ w', w'.heap[g]? = some (.cells (cs.setIfInBounds i u) t (0, 0)) → w.grownBy w' (some g) → w'.heap.size = w.heap.size → K (a.put o.dst undef) w') : o.wp P a w K Q := by
  have hcell : w.cell? ⟨g, i, none⟩ = some cs[i] := block_at hg (Array.getElem?_eq_getElem hi)
  have hc : u.cells = #[u] := by cases u <;> first | rfl | (simp [Value.oneCell'] at h1; done)
  have := run_storeCells_cells (P := P) g i [u] 0 w (fun j hj => by
    have : j = 0 := by simpa using hj
    subst this
    simp [hcell]) (fun j _ => by simp [World.frozen?, hg]) (fun v hv => by
    have : v = u := by simpa using hv
    subst this
    exact h1)
  have hrun : (storeVar ty ⟨g, i, none⟩ u).run P w = .ok () (w.setCell ⟨g, i, none⟩ u) := by
    cases hq : P.info? ty with
    | none => simp [hq] at hsz
    | some j =>
      have hs : j.size = 1 := by simpa [hq] using hsz
      simp only [Nat.add_zero] at this
      simp [storeVar, sizeOf, typeInfo, hq, hc, hs, this]
      rfl
  unfold Oper.wp execOp
  simp only [ho, hx, hy, Instr.storeAt, Instr.sureAddr, Sem.run_bind, Sem.run_pure, Result.andThen_ok, hrun]
  refine h _ (block_set hg i u) ⟨rfl, rfl, rfl, by simp [World.setCell], fun k hk hne => ?_⟩ (by simp [World.setCell])
  exact Below.heap_setCell w ⟨g, i, none⟩ u k (fun e => hne (by rw [e]))
theorem wpl_storeC {ty : TypeId} (hgd : o.guard = none) (x y : Operand) (ho : o.op = .store ty x y) (g i : Nat) (hx : a.eval x = .pointer (some ⟨g, i, none⟩)) (u : Value) (hy : a.eval y = u) (h1 : u.oneCell' = true) (hsz : (P.info? ty).map (·.size) = some 1)
    {t : Nat} {cs : Array Value} (hg : w.heap[g]? = some (.cells cs t (0, 0))) (hi : i < cs.size)
    (h : ∀ w', w'.heap[g]? = some (.cells (cs.setIfInBounds i u) t (0, 0)) → w.grownBy w' (some g) → w'.heap.size = w.heap.size → wpList P ops Q rest (a.put o.dst undef) w') : wpList P ops Q (o :: rest) a w :=
  wpList_plain hgd fun _ hK => wp_storeC x y ho g i hx u hy h1 hsz hg hi fun w' e1 e2 e3 => hK _ _ (h w' e1 e2 e3)
end

/-- Below hi nothing changes; what is read lies below lo, too. -/
structure Bd where
  hi : Nat
  lo : Nat
instance : Coe Bd Nat := ⟨Bd.hi⟩
section
variable {ι : Type} {L : Lay ι}
/-- A list in a row of its own; the bytes of its elements lie below N. -/
def OwnB (L : Lay ι) (N : Bd) (w : World) (v : Value) (l : List ι) : Prop := ∃ vs, w.ownsRow N L.ty L.sz v l.length vs ∧ Vs L (fun k => k < N.lo ∧ k < N.hi) w l vs
theorem OwnB.nil (N : Bd) (w : World) : OwnB L N w (.slice none 0 0) [] := ⟨[], ⟨by simp, .inl ⟨rfl, rfl⟩⟩, rfl⟩
theorem OwnB.lt {N : Bd} {w : World} {v : Value} {l : List ι} (h : OwnB L N w v l) : ∀ k, v.ownBlock = some k → N ≤ k ∧ k < w.heap.size := by
  obtain ⟨vs, h1, _⟩ := h
  exact fun k hk => h1.lt k hk
theorem OwnB.keep {N : Bd} {w w' : World} {v : Value} {l : List ι} (h : OwnB L N w v l) (hk : ∀ k, k < N.hi ∨ v.ownBlock = some k → w'.heap[k]? = w.heap[k]?) : OwnB L N w' v l := by
  obtain ⟨vs, h1, h2⟩ := h
  refine ⟨vs, ⟨h1.1, h1.2.imp id ?_⟩, h2.keep fun k hd => hk k (.inl hd.2)⟩
  rintro ⟨g, cap, cur, rfl, hg, hh, r⟩
  exact ⟨g, cap, cur, rfl, hg, (hk g (.inr rfl)).trans hh, r⟩
theorem OwnB.below {N : Bd} {w w' : World} {v : Value} {l : List ι} (h : OwnB L N w v l) (hb : Below w.heap.size w w') (hN : N ≤ w.heap.size) : OwnB L N w' v l :=
  h.keep fun k hk => hb.block k (hk.elim (fun h => by omega) (fun e => (h.lt k e).2))
theorem OwnB.grown {N : Bd} {w w' : World} {v : Value} {l : List ι} {r : Option Nat} (h : OwnB L N w v l) (hg : w.grownBy w' r) (hne : ∀ k, v.ownBlock = some k → some k ≠ r) (hr : ∀ k, r = some k → N ≤ k) (hN : N ≤ w.heap.size) : OwnB L N w' v l :=
  h.keep fun k hk => hk.elim (fun hl => hg.block k (by omega) (fun e => by have := hr k e.symm; omega)) (fun e => hg.block k (h.lt k e).2 (hne k e))
theorem OwnB.shape {N : Bd} {w : World} {v : Value} {l : List ι} (h : OwnB L N w v l) : ∃ A c, v = .slice A l.length c ∧ l.length ≤ c ∧ c ≤ 9223372036854775807 := by
  obtain ⟨vs, h1, _⟩ := h
  rcases h1.2 with ⟨rfl, h⟩ | ⟨g, cap, cur, rfl, _, _, h1, h2, _⟩
  · exact ⟨none, 0, by rw [h], by omega, by omega⟩
  · exact ⟨_, cap, rfl, h1, by unfold maxLen at h2; omega⟩
theorem OwnB.rdl {N : Bd} {w : World} {A : Option Addr} {n c : Nat} {l : List ι} (h : OwnB L N w (.slice A n c) l) : RdL L (fun k => (k < N.lo ∧ k < N.hi) ∨ (Value.slice A n c).ownBlock = some k) w A c l := by
  obtain ⟨vs, h1, h2⟩ := h
  rcases h1.2 with ⟨e, h⟩ | ⟨g, cap, cur, e, hg, hh, hle, hmx, hcs, ht⟩
  · injection e with e1 e2 e3
    subst e1; subst e3
    exact ⟨by omega, by omega, fun hn => by omega⟩
  · injection e with e1 e2 e3
    subst e1; subst e3
    refine ⟨hle, by unfold maxLen at hmx; omega, fun hn => ⟨g, 0, vs, rfl, .inr rfl, h2.mono fun k hk => .inl hk, fun i hi => ?_⟩⟩
    rw [Nat.zero_add, cell_of_row w g i cur L.ty (0, 0) hh, ← ht, List.getElem?_take, if_pos hi, Array.getElem?_toList]
theorem OwnB.append {P : Program} {N : Bd} {w : World} {v : Value} {l : List ι} (h : OwnB L N w v l) {t ty : TypeId} (ht : P.underlying t = some (.slice L.ty)) {z : Value} {by_ : Nat}
    (hinf : (P.info? L.ty).map (fun i => (i.zero, i.size, i.bytes)) = some (some z, L.sz, by_)) (hz : z.cells.size = L.sz) (hpos : 0 < L.sz) (hby : by_ ≤ 100) (s : ι) (A : Option Addr) (c : Nat) (hr : RdS (fun k => k < N.lo ∧ k < N.hi) w A c (L.fd s))
    (g1 : Nat) (hc : w.heap[g1]? = some (.cells (L.fc s A c).toArray L.ty (0, 0))) (hl : l.length ≤ 1000000) (hN : N ≤ w.heap.size) :
    ∃ v' w', (Builtin.append_ #[t, t] ty #[v, .slice (some ⟨g1, 0, none⟩) 1 1]).run P w = .ok v' w' ∧ OwnB L N w' v' (l ++ [s]) ∧ w.grownBy w' v.ownBlock ∧ (v'.ownBlock = v.ownBlock ∨ v'.ownBlock = some w.heap.size) := by
  have hlt := h.lt
  obtain ⟨vs, h1, h2⟩ := h
  obtain ⟨i0, hi, hz0, hz1, hz2⟩ := info_parts hinf
  obtain ⟨v', w', e0, e1, e2, _, e4⟩ := run_append_own_at (P := P) w N t ty L.ty i0 z L.sz by_ ht hi hz0 hz1 hz2 hz hpos v l.length vs h1 ⟨g1, 0, none⟩ 1 1 (L.fc s A c) (by rw [L.len]; omega)
    (fun j u hj => by
      rw [Go.WideShapes.add_plain, Nat.zero_add, cell_of_row w g1 j _ L.ty (0, 0) hc]
      simpa using hj) (L.one s A c) (by unfold maxLen; omega) (by have : (l.length + 1) * by_ ≤ 1000001 * 100 := Nat.mul_le_mul (by omega) hby; omega) hN
  have hk : ∀ k, k < N.hi → w'.heap[k]? = w.heap[k]? := fun k hk => e2.block k (by omega) (fun e => by have := (hlt k e.symm).1; omega)
  exact ⟨v', w', e0, ⟨vs ++ L.fc s A c, by simpa using e1, Vs.snoc (hr.keep fun k h => hk k h.2) (h2.keep fun k h => hk k h.2)⟩, e2, e4⟩
end
/-- append at the operation. -/
theorem wpl_appendB {ι : Type} {L : Lay ι} {P : Program} {ops : Array Oper} {rest : List Oper} {o : Oper} {a : Act} {Q : Exit → Act → World → Prop} {w : World} {N : Bd} {v : Value} {l : List ι} (h : OwnB L N w v l)
    {t : TypeId} (ht : P.underlying t = some (.slice L.ty)) {z : Value} {by_ : Nat} (hinf : (P.info? L.ty).map (fun i => (i.zero, i.size, i.bytes)) = some (some z, L.sz, by_)) (hz : z.cells.size = L.sz) (hpos : 0 < L.sz) (hby : by_ ≤ 100)
    (hgd : o.guard = none) (sl x : Operand) (ho : o.op = .call { callee := .builtin .append, args := #[sl, x], argTypes := #[t, t] }) (hs : a.eval sl = v) (s : ι) (A : Option Addr) (c : Nat) (hr : RdS (fun k => k < N.lo ∧ k < N.hi) w A c (L.fd s))
    (g1 : Nat) (hc : w.heap[g1]? = some (.cells (L.fc s A c).toArray L.ty (0, 0))) (hx : a.eval x = .slice (some ⟨g1, 0, none⟩) 1 1) (hl : l.length ≤ 1000000) (hN : N ≤ w.heap.size)
    (hk : ∀ A' c' w', OwnB L N w' (.slice A' (l ++ [s]).length c') (l ++ [s]) → w.grownBy w' v.ownBlock → ((Value.slice A' (l ++ [s]).length c').ownBlock = v.ownBlock ∨ (Value.slice A' (l ++ [s]).length c').ownBlock = some w.heap.size) →
      wpList P ops Q rest (a.put o.dst (.slice A' (l ++ [s]).length c')) w') : wpList P ops Q (o :: rest) a w := by
  obtain ⟨v', w', e0, e1, e2, e3⟩ := h.append (P := P) (ty := o.type) ht hinf hz hpos hby s A c hr g1 hc hl hN
  obtain ⟨A', c', rfl, _⟩ := e1.shape
  refine wpList_plain hgd fun K hK => ?_
  unfold Oper.wp execOp
  simp only [ho, resolve, invoke, builtin, Sem.run_bind, Sem.run_pure, Result.andThen_ok, List.map_toArray, List.map_cons, List.map_nil, hs, hx, e0]
  exact hK _ _ (hk A' c' w' e1 e2 e3)

/-- What is still to come, and what has happened. -/
structure Rw where
  ans : List Pkt
  flt : List UInt8
  heard : List Pkt
  sent : List SentP
/-- The reference's world as a value; its lists lie in rows of their own. -/
def rwA (N : Bd) (v : Value) (x : Rw) : Asr N where
  holds F w := ∃ Aa ca Af cf A2 c2 A3 c3, v = .agg #[.slice Aa x.ans.length ca, .slice Af x.flt.length cf, .slice A2 x.heard.length c2, .slice A3 x.sent.length c3] ∧ RdL layPk (fun k => k < N.lo ∧ k < N.hi) w Aa ca x.ans ∧ RdS (fun k => k < N.hi) w Af cf x.flt ∧
    OwnB layPk N w (.slice A2 x.heard.length c2) x.heard ∧ OwnB laySn N w (.slice A3 x.sent.length c3) x.sent ∧ (∀ k, (Value.slice A2 x.heard.length c2).ownBlock = some k → (Value.slice A3 x.sent.length c3).ownBlock ≠ some k) ∧
    ∀ k, F k ↔ (Value.slice A2 x.heard.length c2).ownBlock = some k ∨ (Value.slice A3 x.sent.length c3).ownBlock = some k
  ge := fun ⟨_, _, _, _, _, _, _, _, _, _, _, h1, h2, _, h3⟩ k hk => ((h3 k).1 hk).elim (h1.lt k) (h2.lt k)
  loc := fun ⟨Aa, ca, Af, cf, A2, c2, A3, c3, e, h1, h2, h3, h4, h5, h6⟩ _ hk => ⟨Aa, ca, Af, cf, A2, c2, A3, c3, e, h1.keep fun k h => hk k (.inr h.2), h2.keep fun k h => hk k (.inr h), h3.keep fun k h => hk k (h.elim .inr fun e => .inl ((h6 k).2 (.inl e))), h4.keep fun k h => hk k (h.elim .inr fun e => .inl ((h6 k).2 (.inr e))), h5, h6⟩
theorem flatRw : Flat Tryz.prog 64 4 := ⟨_, Tryz.underlying64, by kernel_rfl⟩

end Go.Proofs.YtgihpgdjkanodaaGreatDoor

namespace Go.Proofs.YtgihpgdjkanodaaGreatDoor
open Go Go.RowKit

def arrR (x : Rw) (p : Pkt) (hb : Bool) : Rw × Bool := (⟨x.ans, x.flt.drop 1, x.heard, x.sent ++ [(p, hb, (x.flt.getD 0 0).toNat)]⟩, (x.flt.getD 0 0).toNat == 0)
/-- A world is returned, and a value behind it; what was there below N, and besides the lists, is as it was. -/
def RwPost (N : Bd) (x : Rw) (b : Bool) (F : Nat → Prop) (w : World) (e : Ending) (w' : World) : Prop :=
  ∃ v' F', e = .returned (.tuple #[v', .bool b]) ∧ (rwA N v' x).holds F' w' ∧ Mv F w F' w'
theorem cell_below {w w' : World} (hb : Below w.heap.size w w') {p : Addr} {v : Value} (h : w.cell? p = some v) : w'.cell? p = some v := (hb.cell (World.block_lt_of_cell? _ _ h)).trans h

theorem arr_end {N : Bd} {w Wm w' y2 z : World} {x : Rw} {Aa : Option Addr} {ca : Nat} {Af : Option Addr} {cf : Nat} {fl : List UInt8} {A2 A3 A' : Option Addr} {c2 c3 c' : Nat} {s : SentP} {F : Nat → Prop} {b b' : Bool} (hbb : b' = b) (hN : N ≤ w.heap.size) (RA : RdL layPk (fun k => k < N.lo ∧ k < N.hi) w Aa ca x.ans)
    (RF : RdS (fun k => k < N.hi) w Af cf fl) (hOH : OwnB layPk N w (.slice A2 x.heard.length c2) x.heard) (hOS : OwnB laySn N w (.slice A3 x.sent.length c3) x.sent) (hap : ∀ k, (Value.slice A2 x.heard.length c2).ownBlock = some k → (Value.slice A3 x.sent.length c3).ownBlock ≠ some k)
    (hF : ∀ k, F k ↔ (Value.slice A2 x.heard.length c2).ownBlock = some k ∨ (Value.slice A3 x.sent.length c3).ownBlock = some k) (hmid : Below w.heap.size w Wm) (hms : w.heap.size + 1 + 1 + 1 ≤ Wm.heap.size)
    (ho3 : OwnB laySn N w' (.slice A' (x.sent ++ [s]).length c') (x.sent ++ [s])) (hg3 : Wm.grownBy w' (Value.slice A3 x.sent.length c3).ownBlock) (e3 : (Value.slice A' (x.sent ++ [s]).length c').ownBlock = (Value.slice A3 x.sent.length c3).ownBlock ∨ (Value.slice A' (x.sent ++ [s]).length c').ownBlock = some Wm.heap.size)
    (hg4 : w'.grownBy y2 (some w.heap.size)) (hgz : y2.grownBy z (some (w.heap.size + 1 + 1))) :
    RwPost N ⟨x.ans, fl, x.heard, x.sent ++ [s]⟩ b F w (.returned (.tuple #[.agg #[.slice Aa x.ans.length ca, .slice Af fl.length cf, .slice A2 x.heard.length c2, .slice A' (x.sent ++ [s]).length c'], .bool b'])) z := by
  subst hbb
  have hlt2 := hOH.lt
  have hlt3 := hOS.lt
  have z1 := hg3.size
  have z2 := hg4.size
  have z3 := hgz.size
  have h3' : ∀ k, (Value.slice A' (x.sent ++ [s]).length c').ownBlock = some k → (Value.slice A3 x.sent.length c3).ownBlock = some k ∨ w.heap.size + 1 + 1 + 1 ≤ k := fun k hk => e3.elim (fun e => .inl (e.symm.trans hk)) (fun e => .inr (by rw [e] at hk; injection hk with hk; omega))
  have hkk : ∀ k, k < w.heap.size → (Value.slice A3 x.sent.length c3).ownBlock ≠ some k → z.heap[k]? = w.heap[k]? := fun k hk hne => by
    rw [hgz.block k (by omega) (fun e => by injection e; omega), hg4.block k (by omega) (fun e => by injection e; omega), hg3.block k (by omega) (fun e => hne e.symm), hmid.block k hk]
  have hlo : ∀ k, k < N.hi → z.heap[k]? = w.heap[k]? := fun k hk => hkk k (by omega) (fun e => by have := (hlt3 k e).1; omega)
  have hne : ∀ k, (Value.slice A' (x.sent ++ [s]).length c').ownBlock = some k → k ≠ w.heap.size ∧ k ≠ w.heap.size + 1 + 1 := fun k hk => by
    rcases h3' k hk with h | h
    · have := (hlt3 k h).2; omega
    · omega
  refine ⟨_, fun k => (Value.slice A2 x.heard.length c2).ownBlock = some k ∨ (Value.slice A' (x.sent ++ [s]).length c').ownBlock = some k, rfl, ⟨Aa, ca, Af, cf, A2, c2, A', c', rfl, RA.keep fun k h => hlo k h.2, RF.keep hlo, ?_, ?_, fun k hk hk' => ?_, fun _ => Iff.rfl⟩, ⟨?_, ?_, ?_, by omega, fun k hk hn => ?_, fun k hk => ?_⟩⟩
  · exact hOH.keep fun k hk => hk.elim (hlo k) (fun e => hkk k (hlt2 k e).2 (hap k e))
  · exact (ho3.grown hg4 (fun k hk e => (hne k hk).1 (by injection e)) (fun k e => by injection e; omega) (by omega)).grown hgz (fun k hk e => (hne k hk).2 (by injection e)) (fun k e => by injection e; omega) (by omega)
  · rcases h3' k hk' with h | h
    · exact hap k hk h
    · have := (hlt2 k hk).2; omega
  · exact hgz.os.trans (hg4.os.trans (hg3.os.trans hmid.os))
  · exact hgz.tape.trans (hg4.tape.trans (hg3.tape.trans hmid.tape))
  · exact hgz.output.trans (hg4.output.trans (hg3.output.trans hmid.output))
  · exact hkk k hk fun e => hn ((hF k).2 (.inr e))
  · rcases hk with hk | hk
    · exact .inl ((hF k).2 (.inl hk))
    · rcases h3' k hk with h | h
      · exact .inl ((hF k).2 (.inr h))
      · exact .inr (by omega)

set_option maxHeartbeats 1600000 in
set_option maxRecDepth 100000 in
theorem arr_any (w : World) (N : Bd) (v : Value) (x : Rw) (F : Nat → Prop) (h : (rwA N v x).holds F w) (p : Pkt) (hb : Bool) (A : Option Addr) (c : Nat) (hr : RdS (fun k => k < N.lo ∧ k < N.hi) w A c p.data) (hl : x.sent.length ≤ 1000000) (hN : N ≤ w.heap.size) :
    Calls Tryz.prog 43 #[v, pkV p A c, .bool hb] w (RwPost N (arrR x p hb).1 (arrR x p hb).2 F w) := by
  obtain ⟨Aa, ca, Af, cf, A2, c2, A3, c3, rfl, h1, h2, h3, h4, h5, h6⟩ := h
  have HN := Lib.hid hN
  have RA := Lib.hid h1
  have OH := Lib.hid h3
  have OS := Lib.hid h4
  have Hap := Lib.hid h5
  have HFi := Lib.hid h6
  have RP := Lib.hid hr
  have Hl := Lib.hid hl
  unfold arrR
  clear hN h1 h3 h4 h5 h6 hr hl
  rcases Nat.eq_zero_or_pos x.flt.length with h0 | h0
  · have hf0 : x.flt = [] := List.eq_nil_of_length_eq_zero h0
    rw [h0]
    have RF := Lib.hid h2
    rw [hf0] at RF ⊢
    clear h2 hf0 h0
    obtain ⟨g0, g1, g2, g3, g4⟩ := alloc3 w (.cells #[.slice Aa x.ans.length ca, .slice Af 0 cf, .slice A2 x.heard.length c2, .slice A3 x.sent.length c3] 64) (pkB p A c) (.cells #[.slice none 0 0, .slice none 0 0, .slice none 0 0, .slice none 0 0] 64)
    have d1 := block_at g0 (i := 1) (v := .slice Af 0 cf) rfl
    have HP := Lib.hid g1
    have HBx := Lib.hid g0
    have HZx := Lib.hid g2
    have HXb := Lib.hid g4
    have HXs := Lib.hid (Nat.le_of_eq g3.symm)
    have HWm := Lib.hid (HXb.out.alloc HXb.out.size (.cells (snL (p, hb, 0) A c).toArray 85))
    have HWs := Lib.hid (show w.heap.size + 1 + 1 + 1 ≤ (World.alloc (((w.alloc (.cells #[.slice Aa x.ans.length ca, .slice Af 0 cf, .slice A2 x.heard.length c2, .slice A3 x.sent.length c3] 64)).alloc (pkB p A c)).alloc (.cells #[.slice none 0 0, .slice none 0 0, .slice none 0 0, .slice none 0 0] 64)) (.cells (snL (p, hb, 0) A c).toArray 85)).heap.size by have := HXs.out; first | (simp; done) | (simp; omega))
    have OSm := Lib.hid (OS.out.below HWm.out HN.out)
    have RPm := Lib.hid (RP.out.keep (w' := World.alloc (((w.alloc (.cells #[.slice Aa x.ans.length ca, .slice Af 0 cf, .slice A2 x.heard.length c2, .slice A3 x.sent.length c3] 64)).alloc (pkB p A c)).alloc (.cells #[.slice none 0 0, .slice none 0 0, .slice none 0 0, .slice none 0 0] 64)) (.cells (snL (p, hb, 0) A c).toArray 85)) fun k hk => HWm.out.block k (Nat.lt_of_lt_of_le hk.2 HN.out))
    have HBm := Lib.hid ((Below.heap_alloc (((w.alloc (.cells #[.slice Aa x.ans.length ca, .slice Af 0 cf, .slice A2 x.heard.length c2, .slice A3 x.sent.length c3] 64)).alloc (pkB p A c)).alloc (.cells #[.slice none 0 0, .slice none 0 0, .slice none 0 0, .slice none 0 0] 64)) (.cells (snL (p, hb, 0) A c).toArray 85) _ (block_lt HBx.out)).trans HBx.out)
    have HZm := Lib.hid ((Below.heap_alloc (((w.alloc (.cells #[.slice Aa x.ans.length ca, .slice Af 0 cf, .slice A2 x.heard.length c2, .slice A3 x.sent.length c3] 64)).alloc (pkB p A c)).alloc (.cells #[.slice none 0 0, .slice none 0 0, .slice none 0 0, .slice none 0 0] 64)) (.cells (snL (p, hb, 0) A c).toArray 85) _ (block_lt HZx.out)).trans HZx.out)
    have HRow := Lib.hid (g3 ▸ alloc1 (((w.alloc (.cells #[.slice Aa x.ans.length ca, .slice Af 0 cf, .slice A2 x.heard.length c2, .slice A3 x.sent.length c3] 64)).alloc (pkB p A c)).alloc (.cells #[.slice none 0 0, .slice none 0 0, .slice none 0 0, .slice none 0 0] 64)) (.cells (snL (p, hb, 0) A c).toArray 85))
    have d3 := block_at HBx.out (i := 3) (v := .slice A3 x.sent.length c3) rfl
    clear g0 g1 g2 g3 g4
    go_enter Tryz.func43, Tryz.ntmps43
    go_wp2_with (first | (refine wpl_loadB flatPk rfl (.tmp 4) rfl _ rfl HP.out rfl ?_) | (at_builtin; refine wpl_appendB OSm.out Tryz.underlying31 infSn rfl (by decide) (by decide) rfl (.tmp 22) (.tmp 27) rfl rfl (p, hb, 0) A c RPm.out _ HRow.out rfl Hl.out (Nat.le_trans HN.out HWm.out.size) ?_; intro A' c' w' ho3 hg3 He3; have HB3 := Lib.hid (grown_block hg3 HBm.out (fun e => by have := (OS.out.lt _ e.symm).2; omega)); have HZ3 := Lib.hid (grown_block hg3 HZm.out (fun e => by have := (OS.out.lt _ e.symm).2; omega)); replace ho3 := Lib.hid ho3; replace hg3 := Lib.hid hg3; replace He3 := Lib.hid He3) | (refine wpl_storeC rfl (.tmp 29) (.tmp 28) rfl w.heap.size 3 rfl _ rfl rfl (by kernel_rfl) HB3.out (by simp) ?_; intro y2 HB4 hg4 hs4; have HZ4 := Lib.hid (grown_block hg4 HZ3.out (fun e => by injection e; omega)); replace HB4 := Lib.hid HB4; replace hg4 := Lib.hid hg4; clear hs4) | (refine wpl_loadB flatRw rfl (.tmp 3) rfl _ rfl HB4.out rfl ?_) | (refine wpl_storeB flatRw rfl (.tmp 6) (.tmp 30) rfl _ rfl _ rfl HZ4.out rfl rfl rfl ?_; intro z kz hgz hsz; replace kz := Lib.hid kz; replace hgz := Lib.hid hgz; clear hsz))
    refine bodyPost_ret (ret_cell_tmp flatRw rfl _ (w.heap.size + 1 + 1) rfl kz.out rfl) rfl ?_
    have hE := arr_end (show ((0 : Int) == 0) = ((([] : List UInt8).getD 0 0).toNat == 0) from rfl) HN.out RA.out (RF.out) OH.out OS.out Hap.out HFi.out HWm.out HWs.out ho3.out hg3.out He3.out hg4.out hgz.out
    have l1 : (x.sent ++ [(p, hb, 0)]).length = x.sent.length + 1 := by simp
    rw [l1] at hE
    exact hE
  · obtain ⟨g, off, rfl, hg, hc⟩ := h2.cells h0
    obtain ⟨A4, c4, hcut, hrf⟩ := h2.from_ (k := 1) (by omega)
    have hsx := fun W : World => sliceF_from (some ⟨g, off, none⟩) x.flt.length cf 1 W (by omega) (by omega)
    rw [show (1 : Int).toNat = 1 from rfl, hcut] at hsx
    have hx0 := hc 0 h0
    rw [Nat.add_zero] at hx0
    have RF := Lib.hid hrf
    have hlt : (0 : Int) < (x.flt.length : Int) := by omega
    have hle := h2.le
    have hcap := h2.cap
    clear h2 hc hcut hrf hg
    obtain ⟨f, hf⟩ : ∃ f, x.flt.getD 0 0 = f := ⟨_, rfl⟩
    rw [hf] at hx0 ⊢
    clear hf
    obtain ⟨n, hn⟩ : ∃ n, x.flt.length = n := ⟨_, rfl⟩
    rw [hn] at hsx hlt hle h0 ⊢
    clear hn
    obtain ⟨g0, g1, g2, g3, g4⟩ := alloc3 w (.cells #[.slice Aa x.ans.length ca, .slice (some ⟨g, off, none⟩) n cf, .slice A2 x.heard.length c2, .slice A3 x.sent.length c3] 64) (pkB p A c) (.cells #[.slice none 0 0, .slice none 0 0, .slice none 0 0, .slice none 0 0] 64)
    have d1 := block_at g0 (i := 1) (v := .slice (some ⟨g, off, none⟩) n cf) rfl
    have HP := Lib.hid g1
    have HB := Lib.hid g0
    have HZ := Lib.hid g2
    have Hb := Lib.hid g4
    have Hs := Lib.hid g3
    have c0 := cell_below g4 hx0
    clear g0 g1 g2 g3 g4 hx0
    go_enter Tryz.func43, Tryz.ntmps43
    go_wp2_with (first | (refine wpl_storeC rfl (.tmp 20) (.tmp 19) rfl w.heap.size 1 rfl _ rfl rfl (by kernel_rfl) HB.out (by simp) ?_; intro y1 HB1 hg1 hs1; have HXb := Lib.hid (Hb.out.trans ((show Below w.heap.size _ _ from below_grown (Below.refl w.heap.size _) hg1 (by rw [Hs.out]; omega) (Nat.le_refl _)))); have HXs := Lib.hid (show w.heap.size + 1 + 1 + 1 ≤ y1.heap.size by rw [hs1, Hs.out]; exact Nat.le_refl _); have HBx := Lib.hid HB1; have HP1 := Lib.hid (grown_block hg1 HP.out (fun e => by injection e; omega)); have HZx := Lib.hid (grown_block hg1 HZ.out (fun e => by injection e; omega)); have HWm := Lib.hid (HXb.out.alloc HXb.out.size (.cells (snL (p, hb, f.toNat) A c).toArray 85)); have HWs := Lib.hid (show w.heap.size + 1 + 1 + 1 ≤ (World.alloc y1 (.cells (snL (p, hb, f.toNat) A c).toArray 85)).heap.size by have := HXs.out; first | (simp; done) | (simp; omega)); have OSm := Lib.hid (OS.out.below HWm.out HN.out); have RPm := Lib.hid (RP.out.keep (w' := World.alloc y1 (.cells (snL (p, hb, f.toNat) A c).toArray 85)) fun k hk => HWm.out.block k (Nat.lt_of_lt_of_le hk.2 HN.out)); have HBm := Lib.hid ((Below.heap_alloc y1 (.cells (snL (p, hb, f.toNat) A c).toArray 85) _ (block_lt HBx.out)).trans HBx.out); have HZm := Lib.hid ((Below.heap_alloc y1 (.cells (snL (p, hb, f.toNat) A c).toArray 85) _ (block_lt HZx.out)).trans HZx.out); have HRow := Lib.hid (alloc1 y1 (.cells (snL (p, hb, f.toNat) A c).toArray 85)); have d3 := block_at HBx.out (i := 3) (v := .slice A3 x.sent.length c3) rfl; clear hg1 hs1 HB1) | (refine wpl_loadB flatPk rfl (.tmp 4) rfl _ rfl HP1.out rfl ?_) | (at_builtin; refine wpl_appendB OSm.out Tryz.underlying31 infSn rfl (by decide) (by decide) rfl (.tmp 22) (.tmp 27) rfl rfl (p, hb, f.toNat) A c RPm.out _ HRow.out rfl Hl.out (Nat.le_trans HN.out HWm.out.size) ?_; intro A' c' w' ho3 hg3 He3; have HB3 := Lib.hid (grown_block hg3 HBm.out (fun e => by have := (OS.out.lt _ e.symm).2; omega)); have HZ3 := Lib.hid (grown_block hg3 HZm.out (fun e => by have := (OS.out.lt _ e.symm).2; omega)); replace ho3 := Lib.hid ho3; replace hg3 := Lib.hid hg3; replace He3 := Lib.hid He3) | (refine wpl_storeC rfl (.tmp 29) (.tmp 28) rfl w.heap.size 3 rfl _ rfl rfl (by kernel_rfl) HB3.out (by simp) ?_; intro y2 HB4 hg4 hs4; have HZ4 := Lib.hid (grown_block hg4 HZ3.out (fun e => by injection e; omega)); replace HB4 := Lib.hid HB4; replace hg4 := Lib.hid hg4; clear hs4) | (refine wpl_loadB flatRw rfl (.tmp 3) rfl _ rfl HB4.out rfl ?_) | (refine wpl_storeB flatRw rfl (.tmp 6) (.tmp 30) rfl _ rfl _ rfl HZ4.out rfl rfl rfl ?_; intro z kz hgz hsz; replace kz := Lib.hid kz; replace hgz := Lib.hid hgz; clear hsz))
    refine bodyPost_ret (ret_cell_tmp flatRw rfl _ (w.heap.size + 1 + 1) rfl kz.out rfl) rfl ?_
    have hE := arr_end (castEq f.toNat 0) HN.out RA.out (RF.out) OH.out OS.out Hap.out HFi.out HWm.out HWs.out ho3.out hg3.out He3.out hg4.out hgz.out
    have l1 : (x.sent ++ [(p, hb, f.toNat)]).length = x.sent.length + 1 := by simp
    rw [l1] at hE
    rw [List.length_drop] at hE
    exact hE

end Go.Proofs.YtgihpgdjkanodaaGreatDoor

namespace Go.Proofs.YtgihpgdjkanodaaGreatDoor
open Go Go.RowKit

/-- What is sent and heard, and what is answered. -/
def speakW (x : Rw) (p : Pkt) : Rw × Pkt × Bool :=
  if p.err = 0 then
    if (arrR x p true).2 = true then
      match x.ans with
      | [] => (⟨[], x.flt.drop 1, x.heard ++ [p], (arrR x p true).1.sent⟩, zeroP, false)
      | a :: al =>
        if a.err = 0 then
          if (arrR ⟨al, x.flt.drop 1, x.heard ++ [p], (arrR x p true).1.sent⟩ a false).2 = true then ((arrR ⟨al, x.flt.drop 1, x.heard ++ [p], (arrR x p true).1.sent⟩ a false).1, a, true)
          else ((arrR ⟨al, x.flt.drop 1, x.heard ++ [p], (arrR x p true).1.sent⟩ a false).1, zeroP, false)
        else (⟨al, x.flt.drop 1, x.heard ++ [p], (arrR x p true).1.sent⟩, zeroP, false)
    else ((arrR x p true).1, zeroP, false)
  else (x, zeroP, false)
def RspPost (N : Bd) (x : Rw) (r : Pkt × Bool) (F : Nat → Prop) (w : World) (e : Ending) (w' : World) : Prop :=
  ∃ v' F' A' c', e = .returned (.tuple #[v', pkV r.1 A' c', .bool r.2]) ∧ RdS (fun k => k < N.lo ∧ k < N.hi) w' A' c' r.1.data ∧ (rwA N v' x).holds F' w' ∧ Mv F w F' w'

theorem ret_cell2_tmp {P : Program} {w : World} {fn : Func} {p q u : Tmp} {ty n ty2 n2 : Nat} (hf : Flat P ty n) (hf2 : Flat P ty2 n2) (h : fn.results = #[.cell p ty, .cell q ty2, .tmp u]) (tmps : Array Value) (g : Nat) (hp : tmps.getD p undef = .pointer (some ⟨g, 0, none⟩)) {t : Nat} {cs : Array Value}
    (hg : w.heap[g]? = some (.cells cs t (0, 0))) (hn : cs.size = n) (g2 : Nat) (hq : tmps.getD q undef = .pointer (some ⟨g2, 0, none⟩)) {t2 : Nat} {cs2 : Array Value} (hg2 : w.heap[g2]? = some (.cells cs2 t2 (0, 0))) (hn2 : cs2.size = n2) :
    (results fn tmps).run P w = .ok (.tuple #[.agg cs, .agg cs2, tmps.getD u undef]) w := by
  subst hn; subst hn2
  obtain ⟨d, h1, h3⟩ := hf
  obtain ⟨d2, h4, h5⟩ := hf2
  have hp' : tmps[p]?.getD undef = .pointer (some ⟨g, 0, none⟩) := by simpa using hp
  have hq' : tmps[q]?.getD undef = .pointer (some ⟨g2, 0, none⟩) := by simpa using hq
  simp [results, h, hp', hq', asAddr, run_loadVar_row w g t ty cs (0, 0) _ hg h1 rfl h3, run_loadVar_row w g2 t2 ty2 cs2 (0, 0) _ hg2 h4 rfl h5]

theorem alloc4 (w : World) (o1 o2 o3 o4 : Obj) : ((((w.alloc o1).alloc o2).alloc o3).alloc o4).heap[w.heap.size]? = some o1 ∧ ((((w.alloc o1).alloc o2).alloc o3).alloc o4).heap[w.heap.size + 1]? = some o2 ∧ ((((w.alloc o1).alloc o2).alloc o3).alloc o4).heap[w.heap.size + 1 + 1]? = some o3 ∧
    ((((w.alloc o1).alloc o2).alloc o3).alloc o4).heap[w.heap.size + 1 + 1 + 1]? = some o4 ∧ ((((w.alloc o1).alloc o2).alloc o3).alloc o4).heap.size = w.heap.size + 1 + 1 + 1 + 1 ∧ Below w.heap.size w ((((w.alloc o1).alloc o2).alloc o3).alloc o4) := by
  obtain ⟨h1, h2, h3, h4, h5⟩ := alloc3 w o1 o2 o3
  refine ⟨(Below.heap_alloc _ _ _ (by omega)).trans h1, (Below.heap_alloc _ _ _ (by omega)).trans h2, (Below.heap_alloc _ _ _ (by omega)).trans h3, ?_, by simp, h5.alloc (by omega) o4⟩
  have := heap_alloc_new (((w.alloc o1).alloc o2).alloc o3) o4
  rwa [h4] at this

theorem bad_end {N : Bd} {w cur z1 z2 : World} {v : Value} {x : Rw} {F0 F : Nat → Prop} {g4 g5 : Nat} (h : (rwA N v x).holds F cur) (hm : Mv F0 w F cur) (hg1 : cur.grownBy z1 (some g4)) (hg2 : z1.grownBy z2 (some g5)) (n4 : ¬ F g4) (n5 : ¬ F g5) (l4 : w.heap.size ≤ g4) (l5 : w.heap.size ≤ g5) (hN : N ≤ w.heap.size) :
    RspPost N x (zeroP, false) F0 w (.returned (.tuple #[v, pkV zeroP none 0, .bool false])) z2 := by
  have hc : N ≤ cur.heap.size := Nat.le_trans hN hm.size
  exact ⟨v, F, none, 0, rfl, RdS.nil _, Asr.grown (Asr.grown h hg1 n4 (by omega) hc) hg2 n5 (by omega) (Nat.le_trans hc hg1.size), (hm.grown_new hg1 l4).grown_new hg2 l5⟩

theorem heard_step {N : Bd} {w w' : World} {x : Rw} {Aa : Option Addr} {ca : Nat} {Af : Option Addr} {cf : Nat} {A2 A3 A' : Option Addr} {c2 c3 c' : Nat} {p : Pkt} {F : Nat → Prop} (hN : N ≤ w.heap.size) (RA : RdL layPk (fun k => k < N.lo ∧ k < N.hi) w Aa ca x.ans)
    (RF : RdS (fun k => k < N.hi) w Af cf x.flt) (hOH : OwnB layPk N w (.slice A2 x.heard.length c2) x.heard) (hOS : OwnB laySn N w (.slice A3 x.sent.length c3) x.sent) (hap : ∀ k, (Value.slice A2 x.heard.length c2).ownBlock = some k → (Value.slice A3 x.sent.length c3).ownBlock ≠ some k)
    (hF : ∀ k, F k ↔ (Value.slice A2 x.heard.length c2).ownBlock = some k ∨ (Value.slice A3 x.sent.length c3).ownBlock = some k)
    (ho : OwnB layPk N w' (.slice A' (x.heard ++ [p]).length c') (x.heard ++ [p])) (hg : w.grownBy w' (Value.slice A2 x.heard.length c2).ownBlock) (he : (Value.slice A' (x.heard ++ [p]).length c').ownBlock = (Value.slice A2 x.heard.length c2).ownBlock ∨ (Value.slice A' (x.heard ++ [p]).length c').ownBlock = some w.heap.size) :
    ∃ F', (rwA N (.agg #[.slice Aa x.ans.length ca, .slice Af x.flt.length cf, .slice A' (x.heard ++ [p]).length c', .slice A3 x.sent.length c3]) ⟨x.ans, x.flt, x.heard ++ [p], x.sent⟩).holds F' w' ∧ Mv F w F' w' := by
  have hlt2 := hOH.lt
  have hlt3 := hOS.lt
  have h2' : ∀ k, (Value.slice A' (x.heard ++ [p]).length c').ownBlock = some k → (Value.slice A2 x.heard.length c2).ownBlock = some k ∨ w.heap.size ≤ k := fun k hk => he.elim (fun e => .inl (e.symm.trans hk)) (fun e => .inr (by rw [e] at hk; injection hk with hk; omega))
  have hkk : ∀ k, k < w.heap.size → (Value.slice A2 x.heard.length c2).ownBlock ≠ some k → w'.heap[k]? = w.heap[k]? := fun k hk hne => hg.block k hk (fun e => hne e.symm)
  have hlo : ∀ k, k < N.hi → w'.heap[k]? = w.heap[k]? := fun k hk => hkk k (by omega) (fun e => by have := (hlt2 k e).1; omega)
  refine ⟨fun k => (Value.slice A' (x.heard ++ [p]).length c').ownBlock = some k ∨ (Value.slice A3 x.sent.length c3).ownBlock = some k, ⟨Aa, ca, Af, cf, A', c', A3, c3, rfl, RA.keep fun k h => hlo k h.2, RF.keep hlo, ho, ?_, fun k hk hk' => ?_, fun _ => Iff.rfl⟩, ⟨hg.os, hg.tape, hg.output, hg.size, fun k hk hn => ?_, fun k hk => ?_⟩⟩
  · exact hOS.keep fun k hk => hk.elim (hlo k) (fun e => hkk k (hlt3 k e).2 (fun e2 => hap k e2 e))
  · rcases h2' k hk with h | h
    · exact hap k h hk'
    · have := (hlt3 k hk').2; omega
  · exact hkk k hk fun e => hn ((hF k).2 (.inl e))
  · rcases hk with hk | hk
    · rcases h2' k hk with h | h
      · exact .inl ((hF k).2 (.inl h))
      · exact .inr h
    · exact .inl ((hF k).2 (.inr hk))

theorem agg4_inj {A A' B B' C C' D D' : Option Addr} {n m k l a a' b b' c c' d d' : Nat} (h : Value.agg #[.slice A n a, .slice B m b, .slice C k c, .slice D l d] = .agg #[.slice A' n a', .slice B' m b', .slice C' k c', .slice D' l d']) :
    A = A' ∧ a = a' ∧ B = B' ∧ b = b' ∧ C = C' ∧ c = c' ∧ D = D' ∧ d = d' := by
  injection h with h
  injection h with h
  simp only [List.cons.injEq, Value.slice.injEq, true_and, and_true] at h
  obtain ⟨⟨h1, h2⟩, ⟨h3, h4⟩, ⟨h5, h6⟩, h7, h8⟩ := h
  exact ⟨h1, h2, h3, h4, h5, h6, h7, h8⟩
theorem neF' {x y : Nat} (h : ¬ x = y) : ((x : Int) == (y : Int)) = false ∧ ((x : Int) != (y : Int)) = true := by
  have : ((x : Int) == (y : Int)) = false := by rw [beq_eq_false_iff_ne]; omega
  exact ⟨this, by rw [bne, this]; rfl⟩
theorem range_of {w : World} {g t : Nat} {cs : Array Value} (h : w.heap[g]? = some (.cells cs t (0, 0))) : w.rangeAt g 0 cs.toList := fun j v hj => by
  rw [Nat.zero_add]
  exact block_at h (by simpa using hj)
theorem range_sm {S : Addr → Prop} {w W : World} (h : Sm S w W) {b : Nat} {cs : List Value} (hS : ∀ j, S ⟨b, 0 + j, none⟩) (hr : w.rangeAt b 0 cs) : W.rangeAt b 0 cs := fun j v hj => (h _ (hS j)).trans (hr j v hj)
theorem sm_grown {S : Addr → Prop} {w w' : World} {g : Nat} (hg : w.grownBy w' (some g)) (hsz : w'.heap.size = w.heap.size) (hS : ∀ a, S a → a.block ≠ g) : Sm S w w' := fun a ha => by
  refine World.cell?_of_block ?_
  by_cases hl : a.block < w.heap.size
  · exact hg.block _ hl (fun e => hS a ha (by injection e))
  · rw [Array.getElem?_eq_none (by omega), Array.getElem?_eq_none (by omega)]
theorem slice_inj {A B : Option Addr} {n a b : Nat} (h : Value.slice A n a = .slice B n b) : A = B ∧ a = b := by
  injection h with h1 h2 h3
  exact ⟨h1, h3⟩
theorem slicePk_from (A : Option Addr) (n c : Nat) (l : Int) (W : World) (h0 : 0 ≤ l) (h1 : l ≤ n) : (Instr.slice 46 (.slice A n c) (some (.int .i64 l)) none none).run Tryz.prog W = .ok (sliced A l.toNat n c 10) W := by
  have hs : (sizeOf (Tryz.prog.elem 46)).run Tryz.prog W = .ok 10 W := by kernel_rfl
  rw [run_slice_l W 46 A n c (by kernel_rfl) .i64 l h0 h1, hs]
  rfl
/-- A list that is not empty: its first element, and the others. -/
theorem RdL.first {F : Nat → Prop} {w : World} {A : Option Addr} {c : Nat} {a : Pkt} {al : List Pkt} (h : RdL layPk F w A c (a :: al)) :
    ∃ b off A1 c1, A = some ⟨b, off, none⟩ ∧ F b ∧ w.rangeAt b off (pkL a A1 c1) ∧ RdS F w A1 c1 a.data ∧ ∃ A' c', sliced A 1 (a :: al).length c 10 = .slice A' al.length c' ∧ RdL layPk F w A' c' al := by
  obtain ⟨b, off, vs, rfl, hb, hv, hc⟩ := h.cells (by simp)
  obtain ⟨A1, c1, rest, rfl, hr, hv2⟩ := hv
  have hle := h.le
  have hcap := h.cap
  simp only [List.length_cons] at hle
  have hpl : (layPk.fc a A1 c1).length = 10 := layPk.len a A1 c1
  refine ⟨b, off, A1, c1, rfl, hb, fun j v hj => ?_, hr, if c = 1 then some ⟨b, off, none⟩ else some ⟨b, off + 10, none⟩, c - 1, ?_, by omega, by omega, fun hn => ?_⟩
  · have hj10 : j < 10 := by have := (List.getElem?_eq_some_iff.1 hj).1; exact this
    rw [hc j (by simp only [List.length_cons]; show j < (al.length + 1) * 10; omega), List.getElem?_append_left (by rw [hpl]; exact hj10)]
    exact hj
  · unfold sliced
    by_cases h1 : c = 1
    · simp [h1]
    · rw [if_neg h1, if_neg h1]; simp [Go.WideShapes.add_plain]
  · rw [if_neg (by omega)]
    refine ⟨b, off + 10, rest, rfl, hb, hv2, fun i hi => ?_⟩
    rw [Nat.add_assoc, hc (10 + i) (by simp only [List.length_cons]; have hi' : i < al.length * 10 := hi; show 10 + i < (al.length + 1) * 10; omega), List.getElem?_append_right (by rw [hpl]; omega), hpl, Nat.add_sub_cancel_left]
theorem ans_step {N : Bd} {w : World} {F : Nat → Prop} {a : Pkt} {al : List Pkt} {fl : List UInt8} {hd : List Pkt} {sn : List SentP} {Aa : Option Addr} {ca : Nat} {vf vh vs : Value} (h : (rwA N (.agg #[.slice Aa (a :: al).length ca, vf, vh, vs]) ⟨a :: al, fl, hd, sn⟩).holds F w) :
    ∃ b off A1 c1 A' c', Aa = some ⟨b, off, none⟩ ∧ w.rangeAt b off (pkL a A1 c1) ∧ RdS (fun k => k < N.lo ∧ k < N.hi) w A1 c1 a.data ∧ sliced Aa 1 (a :: al).length ca 10 = .slice A' al.length c' ∧ (rwA N (.agg #[.slice A' al.length c', vf, vh, vs]) ⟨al, fl, hd, sn⟩).holds F w := by
  obtain ⟨Aa', ca', Af, cf, A2, c2, A3, c3, e, h1, h2, h3, h4, h5, h6⟩ := h
  injection e with e
  injection e with e
  simp only [List.cons.injEq, Value.slice.injEq, true_and, and_true] at e
  obtain ⟨⟨rfl, rfl⟩, rfl, rfl, rfl⟩ := e
  obtain ⟨b, off, A1, c1, e1, _, e2, e3, A', c', e4, e5⟩ := h1.first
  exact ⟨b, off, A1, c1, A', c', e1, e2, e3, e4, A', c', Af, cf, A2, c2, A3, c3, rfl, e5, h2, h3, h4, h5, h6⟩

end Go.Proofs.YtgihpgdjkanodaaGreatDoor

