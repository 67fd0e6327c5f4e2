/-
  Helper text: the law file's device with a list of answers; no statement is proved here.
-/
import Derived.Test.YtkfkcpogcobmbaaDoorRsA
namespace Go.Proofs.YtkfkcpogcobmbaaDoor
open Go Go.RowKit

/-- The device: its answers, and what it has heard. -/
def hearS (s : List Pkt × List Pkt) (p : Pkt) : (List Pkt × List Pkt) × Pkt × Bool :=
  match s.1 with
  | [] => (([], s.2 ++ [p]), zeroP, false)
  | a :: al => ((al, s.2 ++ [p]), a, a.pid != 0)
/-- Block b is the device: its answers lie below N, what it has heard in the blocks of F. -/
def scA (N b : Nat) (s : List Pkt × List Pkt) : Asr N where
  holds F w := (∀ a ∈ s.1, a.Ok) ∧ (∃ Aa ca v, w.heap[b]? = some (.cells #[.slice Aa s.1.length ca, v] 53 (0, 0)) ∧ RdL layPk (fun k => k < N) w Aa ca s.1 ∧ OwnL layPk 0 (fun k => F k ∧ k ≠ b) w v s.2) ∧ F b ∧ ∀ k, F k → N ≤ k ∧ k < w.heap.size
  ge := fun h => h.2.2.2
  loc := fun ⟨h0, ⟨Aa, ca, v, h1, h2, h3⟩, h4, h5⟩ hs hk => ⟨h0, ⟨Aa, ca, v, (hk _ (.inl h4)).trans h1, h2.keep fun k h => hk k (.inr h), h3.keep hs fun k hh => hk k (hh.elim (fun h => .inl h.1) (fun h => by omega))⟩, h4, fun k hf => ⟨(h5 k hf).1, Nat.lt_of_lt_of_le (h5 k hf).2 hs⟩⟩

theorem wp_appendL {ι : Type} {L : Lay ι} {P : Program} {o : Oper} {a : Act} {Q : Exit → Act → World → Prop} {K : Act → World → Prop} {w : World} {N : Nat} {F : Nat → Prop} {v : Value} {l : List ι} (h : OwnL L N F w v l)
    {t : TypeId} (ht : P.underlying t = some (.slice L.ty)) {z : Value} {by_ : Nat} (hinf : (P.info? L.ty).map (fun i => (i.zero, i.size, i.bytes)) = some (some z, L.sz, by_)) (hz : z.cells.size = L.sz) (hpos : 0 < L.sz) (hby : by_ ≤ 100)
    (sl x : Operand) (ho : o.op = .call { callee := .builtin .append, args := #[sl, x], argTypes := #[t, t] }) (hs : a.eval sl = v) (s : ι) (A : Option Addr) (c : Nat) {G : Nat → Prop} (hr : RdS G w A c (L.fd s)) (hG : ∀ k, G k → v.ownBlock ≠ some k)
    (g1 : Nat) (hc : w.heap[g1]? = some (.cells (L.fc s A c).toArray L.ty (0, 0))) (hx : a.eval x = .slice (some ⟨g1, 0, none⟩) 1 1) (hl : l.length ≤ 1000000) (hN : N ≤ w.heap.size)
    (hk : ∀ v' w', OwnL L N (fun k => F k ∨ G k ∨ (w.heap.size ≤ k ∧ k < w'.heap.size)) w' v' (l ++ [s]) → w.grownBy w' v.ownBlock → K (a.put o.dst v') w') : o.wp P a w K Q := by
  obtain ⟨v', w', e0, e1, e2, _⟩ := h.append (P := P) (ty := o.type) ht hinf hz hpos hby s A c hr hG g1 hc hl hN
  unfold Oper.wp execOp
  simp only [ho, resolve, invoke, builtin, Sem.run_bind, Sem.run_pure, Result.andThen_ok, List.map_toArray, List.map_cons, List.map_nil, hs, hx, e0]
  exact hk v' w' e1 e2
theorem sm_own {S : Addr → Prop} {w w' : World} {r : Option Nat} (hg : w.grownBy w' r) (hS : ∀ a, S a → a.block < w.heap.size ∧ some a.block ≠ r) : Sm S w w' := fun a ha => World.cell?_of_block (hg.block _ (hS a ha).1 (hS a ha).2)

set_option maxHeartbeats 3200000 in
set_option maxRecDepth 100000 in
theorem scr_any (w : World) (N b : Nat) (s : List Pkt × List Pkt) (F : Nat → Prop) (h : (scA N b s).holds F w) (p : Pkt) (ok : p.Ok) (A : Option Addr) (c : Nat) (hr : RdS (fun k => ¬ F k) w A c p.data) (hl : s.2.length ≤ 1000000) (hN : N ≤ w.heap.size) :
    Calls Tryd.prog 112 #[.pointer (some ⟨b, 0, none⟩), pkV p A c] w (HearPost (scA N b (hearS s p).1) F w (hearS s p).2.1 (hearS s p).2.2) := by
  have hF := (scA N b s).ge h
  obtain ⟨g0, g1, g2, g3⟩ := alloc2 w (pkB p A c) pkZ
  have hdl := ok.len
  have hown0 := own_built ((w.alloc (pkB p A c)).alloc pkZ) 5 [] (by simp)
  rw [g2] at hown0
  have hown := Lib.hid hown0
  clear hown0
  have hb3 := g3.alloc g3.size (.cells (List.map bv []).toArray 5)
  have hr3 := Lib.hid ((hr.below hb3).rdT)
  have HB := Lib.hid ((Below.heap_alloc _ (.cells (List.map bv []).toArray 5) _ (block_lt g0)).trans g0)
  have HZ := Lib.hid ((Below.heap_alloc _ (.cells (List.map bv []).toArray 5) _ (block_lt g1)).trans g1)
  have c9 := block_at g0 (i := 9) (v := .slice A p.data.length c) rfl
  have c9' := block_at ((Below.heap_alloc _ (.cells (List.map bv []).toArray 5) _ (block_lt g0)).trans g0) (i := 9) (v := .slice A p.data.length c) rfl
  have Hs := Lib.hid g2
  have H3 := Lib.hid (Asr.below h hb3 hN)
  have Hb3 := Lib.hid hb3
  have HF := Lib.hid hF
  have HN := Lib.hid hN
  have Hl := Lib.hid hl
  obtain ⟨R, hR⟩ : ∃ R, hearS s p = R := ⟨_, rfl⟩
  rw [hR]
  have HR := Lib.hid hR
  clear g0 g1 g2 g3 hb3 h hr hl hN hF ok hR
  go_enter Tryd.func112, Tryd.ntmps112
  go_wp2_with (first | (at_builtin; refine wpl_appendN Tryd.underlying22 Tryd.info5' rfl (.tmp 7) (.tmp 9) rfl (w.heap.size + 1 + 1) _ [] rfl hown.out _ c A p.data hr3.out rfl (by simp; omega) (by simp) ?_; intro v' w' ho hbb; obtain ⟨A', c', rfl, hrd⟩ := RdS.of_own (xs := [] ++ p.data) ho; have HB4 := Lib.hid ((hbb.block _ (by omega)).trans HB.out); have HZ4 := Lib.hid ((hbb.block _ (by omega)).trans HZ.out); have Hb4 := Lib.hid (Hb3.out.trans (hbb.mono (by omega))); have H4 := Lib.hid ((scA N b s).loc H3.out hbb.size (fun k hk => hbb.block k (hk.elim (fun hf => by have := (HF.out k hf).2; omega) (fun hl => by have := HN.out; omega)))); replace hrd := Lib.hid hrd; clear ho hbb) |
    (refine wpl_storeC rfl (.tmp 11) (.tmp 10) rfl w.heap.size 9 rfl _ rfl rfl (by kernel_rfl) HB4.out (by simp) ?_; intro y1 k1 hg1 hs1))
  have hsz := Hs.out
  have HZ5 := grown_block hg1 HZ4.out (fun e => by injection e; omega)
  have H5 := Asr.grown H4.out hg1 (fun hf => by have := (HF.out _ hf).2; omega) HN.out (Nat.le_trans HN.out Hb4.out.size)
  have Hb5 := below_grown Hb4.out hg1 Hb4.out.size (Nat.le_refl _)
  have hr5 : RdS (fun k => w.heap.size + 1 + 1 ≤ k) y1 A' c' p.data := (hrd.out.grown hg1 (fun k hk => by omega)).mono fun k hk => hk.1
  refine startTP (S := fun a => a.block = b ∨ a.block = w.heap.size) (T := [10]) (fun X => X.heap[w.heap.size]? = some (pkB p A' c') ∧ X.heap[w.heap.size + 1]? = some pkZ ∧ (scA N b s).holds F X ∧ Below w.heap.size w X ∧ RdS (fun k => w.heap.size + 1 + 1 ≤ k) X A' c' p.data) 11 (by kernel_rfl) rfl (l := #[false, false, false, false, false, false, false, false, false, false, false]) rfl
    ⟨k1, HZ5, (scA N b s).loc H5 (Nat.le_refl _) (fun _ _ => rfl), Hb5.drew, hr5.keep (fun _ _ => rfl)⟩ ?_
  clear k1 HZ5 H5 Hb5 hr5 hg1 hs1 HB4 HZ4 Hb4 H4 hrd hown HB HZ H3 Hb3 hr3 c9 c9'
  rintro x0 ⟨q1, q2, q3, q4, q5⟩
  have hN0 : N ≤ x0.heap.size := Nat.le_trans HN.out q4.size
  obtain ⟨ha, ⟨Aa, ca, v, e1, e2, e3⟩, e4, e5⟩ := q3
  have hbw : b < w.heap.size := (HF.out b e4).2
  obtain ⟨A0, c0, rfl, _, _⟩ := e3.shape
  have d1 := block_at e1 (i := 1) rfl
  have d2 := range_of q1
  ((first | (refine takeT 0 (v := ?_) rfl (by decide +kernel) (by decide +kernel) (by decide +kernel) (fun _ _ _ h => h) (by decide +kernel) (Or.inl ⟨by rfl, ?_⟩) ?_; rotate_left 1; (focus (intro W hW; have hcW := hW.at; (try dsimp only at hcW); go_simp; first | done | with_reducible rfl)); try simp only [Act.put, List.setIfInBounds_toArray, List.set_cons_zero, List.set_cons_succ]) | (refine takeW 0 (v := ?_) rfl (by decide +kernel) (by decide +kernel) (by decide +kernel) (fun _ _ _ h => h) (Or.inl ⟨by rfl, ?_⟩) ?_; rotate_left 1; (focus (intro W hW; go_simp; first | done | with_reducible rfl)); try simp only [Act.put, List.setIfInBounds_toArray, List.set_cons_zero, List.set_cons_succ]) | (refine takeW 0 rfl (by decide +kernel) (by decide +kernel) (by decide +kernel) (fun _ _ _ h => h) (Or.inr ⟨by rfl, rfl⟩) ?_; try simp only [Act.put, List.setIfInBounds_toArray, List.set_cons_zero, List.set_cons_succ]) | skip); (first | (refine takeT 1 (v := ?_) rfl (by decide +kernel) (by decide +kernel) (by decide +kernel) (fun _ _ _ h => h) (by decide +kernel) (Or.inl ⟨by rfl, ?_⟩) ?_; rotate_left 1; (focus (intro W hW; have hcW := hW.at; (try dsimp only at hcW); go_simp; first | done | with_reducible rfl)); try simp only [Act.put, List.setIfInBounds_toArray, List.set_cons_zero, List.set_cons_succ]) | (refine takeW 1 (v := ?_) rfl (by decide +kernel) (by decide +kernel) (by decide +kernel) (fun _ _ _ h => h) (Or.inl ⟨by rfl, ?_⟩) ?_; rotate_left 1; (focus (intro W hW; go_simp; first | done | with_reducible rfl)); try simp only [Act.put, List.setIfInBounds_toArray, List.set_cons_zero, List.set_cons_succ]) | (refine takeW 1 rfl (by decide +kernel) (by decide +kernel) (by decide +kernel) (fun _ _ _ h => h) (Or.inr ⟨by rfl, rfl⟩) ?_; try simp only [Act.put, List.setIfInBounds_toArray, List.set_cons_zero, List.set_cons_succ]) | skip); (first | (refine takeT 2 (v := ?_) rfl (by decide +kernel) (by decide +kernel) (by decide +kernel) (fun _ _ _ h => h) (by decide +kernel) (Or.inl ⟨by rfl, ?_⟩) ?_; rotate_left 1; (focus (intro W hW; have hcW := hW.at; (try dsimp only at hcW); go_simp; first | done | with_reducible rfl)); try simp only [Act.put, List.setIfInBounds_toArray, List.set_cons_zero, List.set_cons_succ]) | (refine takeW 2 (v := ?_) rfl (by decide +kernel) (by decide +kernel) (by decide +kernel) (fun _ _ _ h => h) (Or.inl ⟨by rfl, ?_⟩) ?_; rotate_left 1; (focus (intro W hW; go_simp; first | done | with_reducible rfl)); try simp only [Act.put, List.setIfInBounds_toArray, List.set_cons_zero, List.set_cons_succ]) | (refine takeW 2 rfl (by decide +kernel) (by decide +kernel) (by decide +kernel) (fun _ _ _ h => h) (Or.inr ⟨by rfl, rfl⟩) ?_; try simp only [Act.put, List.setIfInBounds_toArray, List.set_cons_zero, List.set_cons_succ]) | skip); (first | (refine takeT 3 (v := ?_) rfl (by decide +kernel) (by decide +kernel) (by decide +kernel) (fun _ _ _ h => h) (by decide +kernel) (Or.inl ⟨by rfl, ?_⟩) ?_; rotate_left 1; (focus (intro W hW; have hcW := hW.at; (try dsimp only at hcW); go_simp; first | done | with_reducible rfl)); try simp only [Act.put, List.setIfInBounds_toArray, List.set_cons_zero, List.set_cons_succ]) | (refine takeW 3 (v := ?_) rfl (by decide +kernel) (by decide +kernel) (by decide +kernel) (fun _ _ _ h => h) (Or.inl ⟨by rfl, ?_⟩) ?_; rotate_left 1; (focus (intro W hW; go_simp; first | done | with_reducible rfl)); try simp only [Act.put, List.setIfInBounds_toArray, List.set_cons_zero, List.set_cons_succ]) | (refine takeW 3 rfl (by decide +kernel) (by decide +kernel) (by decide +kernel) (fun _ _ _ h => h) (Or.inr ⟨by rfl, rfl⟩) ?_; try simp only [Act.put, List.setIfInBounds_toArray, List.set_cons_zero, List.set_cons_succ]) | skip); (first | (refine takeT 4 (v := ?_) rfl (by decide +kernel) (by decide +kernel) (by decide +kernel) (fun _ _ _ h => h) (by decide +kernel) (Or.inl ⟨by rfl, ?_⟩) ?_; rotate_left 1; (focus (intro W hW; have hcW := hW.at; (try dsimp only at hcW); go_simp; first | done | with_reducible rfl)); try simp only [Act.put, List.setIfInBounds_toArray, List.set_cons_zero, List.set_cons_succ]) | (refine takeW 4 (v := ?_) rfl (by decide +kernel) (by decide +kernel) (by decide +kernel) (fun _ _ _ h => h) (Or.inl ⟨by rfl, ?_⟩) ?_; rotate_left 1; (focus (intro W hW; go_simp; first | done | with_reducible rfl)); try simp only [Act.put, List.setIfInBounds_toArray, List.set_cons_zero, List.set_cons_succ]) | (refine takeW 4 rfl (by decide +kernel) (by decide +kernel) (by decide +kernel) (fun _ _ _ h => h) (Or.inr ⟨by rfl, rfl⟩) ?_; try simp only [Act.put, List.setIfInBounds_toArray, List.set_cons_zero, List.set_cons_succ]) | skip))
  refine takeT 5 (v := pkV p A' c') rfl (by decide +kernel) (by decide +kernel) (by decide +kernel) (fun _ _ _ h => h) (by decide +kernel) (yieldsIf_load_mid (by rfl) _ (.tmp 3) rfl w.heap.size 0 rfl (pkL p A' c') _ (fun W hW => range_sm hW (fun j => .inr rfl) d2) Tryd.underlying40 rfl (by kernel_rfl)) ?_
  try simp only [Act.put, List.setIfInBounds_toArray, List.set_cons_zero, List.set_cons_succ]
  clear d1 d2
  have hown : ∀ k, (Value.slice A0 s.2.length c0).ownBlock = some k → F k ∧ k ≠ b := fun k hk => by
    obtain ⟨vs, D, _, _, _, _, h5⟩ := e3
    exact h5 k hk
  have hb6 := (Below.refl x0.heap.size x0).alloc (Nat.le_refl _) (.cells (pkL p A' c').toArray 40)
  have hw0 : w.heap.size + 1 < x0.heap.size := block_lt q2
  have Q1 := Lib.hid ((hb6.block _ (by omega)).trans q1)
  have Q2 := Lib.hid ((hb6.block _ (by omega)).trans q2)
  have E1 := Lib.hid ((hb6.block _ (by omega)).trans e1)
  have E2 := Lib.hid (e2.keep fun k hk => hb6.block k (by omega))
  have E3 := Lib.hid (e3.keep hb6.size fun k hk => hb6.block k (hk.elim (fun h => (e5 k h.1).2) (fun h => by omega)))
  have Q4 := Lib.hid (q4.trans (hb6.mono q4.size))
  have Q5 := Lib.hid ((q5.lt.keep fun k hk => hb6.block k hk.2).mono (G := fun k => w.heap.size + 1 + 1 ≤ k) fun k hk => hk.1)
  have Row := Lib.hid (alloc1 x0 (.cells (pkL p A' c').toArray 40))
  have Ha := Lib.hid ha
  have E4 := Lib.hid e4
  have Hown := Lib.hid hown
  have HN0 := Lib.hid hN0
  have Hsz6 := Lib.hid hb6.size
  refine stepT 6 rfl (by decide +kernel) (by rfl) ?_
  intro K hK
  go_simp
  refine hK _ _ (.inr (fun a ha => hb6.cell (by rcases ha with h | h <;> omega))) ?_
  clear hK K hb6 q1 q2 q4 q5 e1 e2 e3 e4 e5 ha hown hN0
  try simp only [Act.put, List.setIfInBounds_toArray, List.set_cons_zero, List.set_cons_succ]
  refine stepT 7 rfl (by decide +kernel) (by rfl) ?_
  intro K hK
  refine wp_appendL E3.out Tryd.underlying51 infPk rfl (by decide) (by decide) (.tmp 16) (.tmp 18) rfl rfl p A' c' Q5.out (fun k hk e => by have := (HF.out k (Hown.out k e).1).2; omega) x0.heap.size Row.out rfl Hl.out (Nat.zero_le _) ?_
  intro v7 x7 ho hg7
  have nb : some b ≠ (Value.slice A0 s.2.length c0).ownBlock := fun e => (Hown.out b e.symm).2 rfl
  have nw : ∀ k, w.heap.size ≤ k → some k ≠ (Value.slice A0 s.2.length c0).ownBlock := fun k hk e => by have := (HF.out k (Hown.out k e.symm).1).2; omega
  have Q1' := Lib.hid (grown_block hg7 Q1.out (nw _ (Nat.le_refl _)))
  have Q2' := Lib.hid (grown_block hg7 Q2.out (nw _ (by omega)))
  have E1' := Lib.hid (grown_block hg7 E1.out nb)
  refine hK _ _ (.inr (sm_own hg7 (fun a ha => by have := Hsz6.out; rcases ha with h | h <;> rw [h] <;> first | exact ⟨Nat.lt_of_lt_of_le (show b < x0.heap.size by omega) Hsz6.out, nb⟩ | exact ⟨Nat.lt_of_lt_of_le (show w.heap.size < x0.heap.size by omega) Hsz6.out, nw _ (Nat.le_refl _)⟩))) ?_
  clear hK K
  try simp only [Act.put, List.setIfInBounds_toArray, List.set_cons_zero, List.set_cons_succ]
  have h1v : v7.oneCell' = true := by obtain ⟨_, _, rfl, _⟩ := ho.shape; rfl
  have hsz7 := hg7.size
  have Ho := Lib.hid (ho.lt.mono (G := fun k => (F k ∨ (w.heap.size + 1 + 1 ≤ k ∧ k < x7.heap.size)) ∧ k ≠ b) fun k hk => by
    have h6 := Hsz6.out
    obtain ⟨h | h | h, hlt⟩ := hk
    · exact ⟨.inl h.1, h.2⟩
    · exact ⟨.inr ⟨h, hlt⟩, by omega⟩
    · have h8 := Nat.le_trans h6 h.1
      exact ⟨.inr ⟨by omega, hlt⟩, by omega⟩)
  replace hg7 := Lib.hid hg7
  clear ho
  ((first | (refine takeT 8 (v := ?_) rfl (by decide +kernel) (by decide +kernel) (by decide +kernel) (fun _ _ _ h => h) (by decide +kernel) (Or.inl ⟨by rfl, ?_⟩) ?_; rotate_left 1; (focus (intro W hW; have hcW := hW.at; (try dsimp only at hcW); go_simp; first | done | with_reducible rfl)); try simp only [Act.put, List.setIfInBounds_toArray, List.set_cons_zero, List.set_cons_succ]) | (refine takeW 8 (v := ?_) rfl (by decide +kernel) (by decide +kernel) (by decide +kernel) (fun _ _ _ h => h) (Or.inl ⟨by rfl, ?_⟩) ?_; rotate_left 1; (focus (intro W hW; go_simp; first | done | with_reducible rfl)); try simp only [Act.put, List.setIfInBounds_toArray, List.set_cons_zero, List.set_cons_succ]) | (refine takeW 8 rfl (by decide +kernel) (by decide +kernel) (by decide +kernel) (fun _ _ _ h => h) (Or.inr ⟨by rfl, rfl⟩) ?_; try simp only [Act.put, List.setIfInBounds_toArray, List.set_cons_zero, List.set_cons_succ]) | skip); (first | (refine takeT 9 (v := ?_) rfl (by decide +kernel) (by decide +kernel) (by decide +kernel) (fun _ _ _ h => h) (by decide +kernel) (Or.inl ⟨by rfl, ?_⟩) ?_; rotate_left 1; (focus (intro W hW; have hcW := hW.at; (try dsimp only at hcW); go_simp; first | done | with_reducible rfl)); try simp only [Act.put, List.setIfInBounds_toArray, List.set_cons_zero, List.set_cons_succ]) | (refine takeW 9 (v := ?_) rfl (by decide +kernel) (by decide +kernel) (by decide +kernel) (fun _ _ _ h => h) (Or.inl ⟨by rfl, ?_⟩) ?_; rotate_left 1; (focus (intro W hW; go_simp; first | done | with_reducible rfl)); try simp only [Act.put, List.setIfInBounds_toArray, List.set_cons_zero, List.set_cons_succ]) | (refine takeW 9 rfl (by decide +kernel) (by decide +kernel) (by decide +kernel) (fun _ _ _ h => h) (Or.inr ⟨by rfl, rfl⟩) ?_; try simp only [Act.put, List.setIfInBounds_toArray, List.set_cons_zero, List.set_cons_succ]) | skip))
  refine stepT 10 rfl (by decide +kernel) (by rfl) ?_
  intro K hK
  refine wp_storeC (.tmp 21) (.tmp 19) rfl b 1 rfl v7 rfl h1v (by kernel_rfl) E1'.out (by simp) ?_
  intro z kz hgz hsz2
  refine hK _ _ (.inl (by decide)) ?_
  clear hK K
  try simp only [Act.put, List.setIfInBounds_toArray, List.set_cons_zero, List.set_cons_succ]
  refine doneT (by kernel_rfl) ?_
  have hx7 : w.heap.size + 1 < x7.heap.size := Nat.lt_of_lt_of_le (Nat.lt_of_lt_of_le hw0 Hsz6.out) hg7.out.size
  have hown := Hown.out
  have hF := HF.out
  have n1 := HN.out
  have nB : N ≤ b := (hF b E4.out).1
  have k1 := Lib.hid (grown_block hgz Q1'.out (fun e => by injection e; omega))
  have k2 := Lib.hid (grown_block hgz Q2'.out (fun e => by injection e; omega))
  have klo : ∀ k, k < N → z.heap[k]? = (x0.alloc (.cells (pkL p A' c').toArray 40)).heap[k]? := fun k hk => by
    have hk0 := Nat.lt_of_lt_of_le hk HN0.out
    rw [hgz.block k (by omega) (fun e => by injection e; omega), hg7.out.block k (Nat.lt_of_lt_of_le hk0 Hsz6.out) (fun e => by have := hF k (hown k e.symm).1; omega)]
  have RA := Lib.hid (E2.out.keep klo)
  have OH := Lib.hid (Ho.out.keep (w' := z) (Nat.le_of_eq hsz2.symm) fun k hk => by
    rcases hk with ⟨h, hb⟩ | h
    · refine hgz.block k ?_ (fun e => hb (by injection e))
      rcases h with h | h
      · have := (hF k h).2; omega
      · exact h.2
    · omega)
  have M := Lib.hid (show Mv F w (fun k => F k ∨ (w.heap.size + 1 + 1 ≤ k ∧ k < z.heap.size)) z from by
    refine ⟨hgz.os.trans (hg7.out.os.trans Q4.out.os), hgz.tape.trans (hg7.out.tape.trans Q4.out.tape), hgz.output.trans (hg7.out.output.trans Q4.out.output), by omega, fun k hk hn => ?_, fun k hk => hk.imp id fun h => by omega⟩
    rw [hgz.block k (by omega) (fun e => hn (by injection e with e; rw [e]; exact E4.out)), hg7.out.block k (Nat.lt_of_lt_of_le (show k < x0.heap.size by omega) Hsz6.out) (fun e => hn (hown k e.symm).1), Q4.out.block k hk])
  have KB := Lib.hid kz
  have NB := Lib.hid nB
  have hzs : w.heap.size + 1 < z.heap.size := by omega
  rw [← hsz2] at OH
  clear kz hgz hsz2 klo hown hF n1 nB Q1 Q2 E1 E2 E3 Q4 Q5 Row Q1' Q2' E1' nb nw hg7 Ho hsz7 hx7 Hsz6
  obtain ⟨v2, hv2⟩ : ∃ v2, v7 = v2 := ⟨_, rfl⟩
  obtain ⟨al0, hd⟩ := s
  cases al0 with
  | nil =>
    have := HR.out
    subst this
    clear HR
    have HS : (scA N b ([], hd ++ [p])).holds (fun k => F k ∨ (w.heap.size + 1 + 1 ≤ k ∧ k < z.heap.size)) z := ⟨fun a h => by simp at h, ⟨Aa, ca, v7, KB.out, RA.out, OH.out⟩, .inl E4.out, fun k hk => hk.elim (fun h => by have := HF.out k h; omega) (fun h => by have := HN.out; omega)⟩
    have HS2 := Lib.hid HS
    have m0 := block_at KB.out (i := 0) (v := .slice Aa 0 ca) rfl
    clear HS OH RA KB
    go_wp2_with (refine wpl_storeB flatPk rfl (.tmp 4) (.tmp 28) rfl _ rfl _ rfl k2.out rfl rfl rfl ?_; intro z2 kk2 hg2 hss2)
    refine bodyPost_ret (ret_cell_tmp flatPk rfl _ (w.heap.size + 1) rfl kk2 rfl) rfl ?_
    have n1 := HN.out
    exact ⟨none, 0, _, rfl, zeroP_ok, RdS.nil _, Asr.grown HS2.out hg2 (fun h => h.elim (fun hf => by have := (HF.out _ hf).2; omega) (fun h => by omega)) (by omega) (by omega), M.out.grown_new hg2 (by omega)⟩
  | cons a al =>
    obtain ⟨b0, off, A1, c1, rfl, _, hrange, hra, A5, c5, hsl, hr5⟩ := RA.out.first
    have Ham := Ha.out
    simp only at KB Ham OH
    obtain ⟨n, hn⟩ : ∃ n, (a :: al).length = n := ⟨_, rfl⟩
    have hn1 : n = al.length + 1 := by rw [← hn]; rfl
    rw [hn] at KB hsl
    have hsx := fun W : World => slicePk_from (some ⟨b0, off, none⟩) n ca 1 W (by omega) (by omega)
    rw [show (1 : Int).toNat = 1 from rfl, hsl] at hsx
    have i0 : ((n : Int) == 0) = false := (neF' (y := 0) (by omega)).1
    have i1 : (1 : Int) ≤ (n : Int) := by omega
    have hR1 := HR.out
    unfold hearS at hR1
    simp only at hR1
    subst hR1
    have ip : ((a.pid : Int) != 0) = (a.pid != 0) := by rw [bne, bne, show ((a.pid : Int) == 0) = (a.pid == 0) from castEq a.pid 0]
    have nB := NB.out
    have nF2 : b < z.heap.size := block_lt KB.out
    have m0 := block_at KB.out (i := 0) (v := .slice (some ⟨b0, off, none⟩) n ca) rfl
    have hbz := (Below.refl z.heap.size z).alloc (Nat.le_refl _) pkZ
    have KBz := Lib.hid ((hbz.block _ nF2).trans KB.out)
    have HAz := Lib.hid (alloc1 z pkZ)
    have Hra := Lib.hid hra
    have Hr5 := Lib.hid hr5
    have Hrange := Lib.hid hrange
    have Oka := Lib.hid (Ham a (by simp))
    have Okl := Lib.hid (show ∀ x ∈ al, x.Ok from fun x hx => Ham x (by simp [hx]))
    have Hbz := Lib.hid hbz
    clear hra hr5 hrange Ham HR hn hn1 hsl RA KB Ha hbz Hl
    go_wp2_with (first | (refine wpList_load_mid rfl _ (.tmp 33) rfl b0 off rfl (pkL a A1 c1) _ Hrange.out Tryd.underlying40 rfl (by kernel_rfl) ?_) |
      (refine wpl_storeB flatPk rfl (.tmp 6) (.tmp 34) rfl _ rfl _ rfl HAz.out rfl rfl rfl ?_; intro y2 ha2 hg2 hs2; have KB2 := Lib.hid (grown_block hg2 KBz.out (fun e => by injection e; omega)); have m0' := block_at KB2.out (i := 0) (v := .slice (some ⟨b0, off, none⟩) n ca) rfl; replace ha2 := Lib.hid ha2; replace hg2 := Lib.hid hg2; replace hs2 := Lib.hid hs2) |
      (refine wpl_storeC rfl (.tmp 42) (.tmp 40) rfl b 0 rfl _ rfl rfl (by kernel_rfl) KB2.out (by simp) ?_; intro y3 kb3 hg3 hs3; replace kb3 := Lib.hid kb3; replace hg3 := Lib.hid hg3; replace hs3 := Lib.hid hs3))
    have e2 : y2.heap.size = z.heap.size + 1 := by simpa using hs2.out
    have e3 := hs3.out
    have ez : (z.alloc pkZ).heap.size = z.heap.size + 1 := by simp
    have hNz : N ≤ z.heap.size := by have := HN.out; omega
    have kk : ∀ k, k < z.heap.size → k ≠ b → y3.heap[k]? = z.heap[k]? := fun k hk hne => by
      rw [hg3.out.block k (by omega) (fun e => hne (by injection e)), hg2.out.block k (Nat.lt_of_lt_of_le hk Hbz.out.size) (fun e => by injection e; omega), Hbz.out.block k hk]
    have ha3 := grown_block hg3.out ha2.out (fun e => by injection e; omega)
    have k23 := (kk _ hzs (by omega)).trans k2.out
    have hra3 := Hra.out.keep (w' := y3) fun k hk => kk k (by omega) (by omega)
    have S3 : (scA N b (al, hd ++ [p])).holds (fun k => F k ∨ (w.heap.size + 1 + 1 ≤ k ∧ k < z.heap.size)) y3 := by
      refine ⟨Okl.out, ⟨A5, c5, v7, kb3.out, Hr5.out.keep fun k hk => kk k (by omega) (by omega), OH.out.keep (by omega) fun k hk => ?_⟩, .inl E4.out, fun k hk => ?_⟩
      · rcases hk with ⟨h, hb⟩ | h
        · exact kk k (h.elim (fun h => by have := (HF.out k h).2; omega) (·.2)) hb
        · omega
      · have := HN.out
        rcases hk with h | h
        · have := HF.out k h; omega
        · omega
    have M3 := ((M.out.alloc pkZ).grown_new hg2.out (by omega)).trans (show Mv (fun k => F k ∨ (w.heap.size + 1 + 1 ≤ k ∧ k < z.heap.size)) y2 (fun k => F k ∨ (w.heap.size + 1 + 1 ≤ k ∧ k < z.heap.size)) y3 from ⟨hg3.out.os, hg3.out.tape, hg3.out.output, hg3.out.size, fun k hk hn => hg3.out.block k hk (fun e => hn (.inl (by injection e with e; rw [e]; exact E4.out))), fun k hk => .inl hk⟩)
    refine startTP (S := fun a => a.block = z.heap.size) (T := []) (fun X => X.heap[z.heap.size]? = some (pkB a A1 c1) ∧ X.heap[w.heap.size + 1]? = some pkZ ∧ (scA N b (al, hd ++ [p])).holds (fun k => F k ∨ (w.heap.size + 1 + 1 ≤ k ∧ k < z.heap.size)) X ∧ Mv F w (fun k => F k ∨ (w.heap.size + 1 + 1 ≤ k ∧ k < z.heap.size)) X ∧ RdS (fun k => k < N) X A1 c1 a.data) 6 (by kernel_rfl) rfl (l := #[false, false, false, false, false, false]) rfl
      ⟨ha3, k23, (scA N b _).loc S3 (Nat.le_refl _) (fun _ _ => rfl), M3.drew, hra3.keep (fun _ _ => rfl)⟩ ?_
    clear ha3 k23 S3 M3 hra3 kk hg2 hg3 ha2 kb3 hs2 hs3 KBz HAz Hra Hr5 Hrange Hbz m0 m0' KB2 OH M k1 k2
    rintro X ⟨q1, q2, q3, q4, q5⟩
    have d0 := block_at q1 (i := 0) (v := .int .u8 (a.pid : Int)) rfl
    have d1 := range_of q1
    refine takeT 0 (v := pkV a A1 c1) rfl (by decide +kernel) (by decide +kernel) (by decide +kernel) (fun _ _ _ h => h) (by decide +kernel) (yieldsIf_load_mid (by rfl) _ (.tmp 6) rfl z.heap.size 0 rfl (pkL a A1 c1) _ (fun W hW => range_sm hW (fun j => rfl) d1) Tryd.underlying40 rfl (by kernel_rfl)) ?_
    try simp only [Act.put, List.setIfInBounds_toArray, List.set_cons_zero, List.set_cons_succ]
    ((first | (refine takeT 1 (v := ?_) rfl (by decide +kernel) (by decide +kernel) (by decide +kernel) (fun _ _ _ h => h) (by decide +kernel) (Or.inl ⟨by rfl, ?_⟩) ?_; rotate_left 1; (focus (intro W hW; have hcW := hW.at; (try dsimp only at hcW); go_simp; first | done | with_reducible rfl)); try simp only [Act.put, List.setIfInBounds_toArray, List.set_cons_zero, List.set_cons_succ]) | (refine takeW 1 (v := ?_) rfl (by decide +kernel) (by decide +kernel) (by decide +kernel) (fun _ _ _ h => h) (Or.inl ⟨by rfl, ?_⟩) ?_; rotate_left 1; (focus (intro W hW; go_simp; first | done | with_reducible rfl)); try simp only [Act.put, List.setIfInBounds_toArray, List.set_cons_zero, List.set_cons_succ]) | (refine takeW 1 rfl (by decide +kernel) (by decide +kernel) (by decide +kernel) (fun _ _ _ h => h) (Or.inr ⟨by rfl, rfl⟩) ?_; try simp only [Act.put, List.setIfInBounds_toArray, List.set_cons_zero, List.set_cons_succ]) | skip); (first | (refine takeT 2 (v := ?_) rfl (by decide +kernel) (by decide +kernel) (by decide +kernel) (fun _ _ _ h => h) (by decide +kernel) (Or.inl ⟨by rfl, ?_⟩) ?_; rotate_left 1; (focus (intro W hW; have hcW := hW.at; (try dsimp only at hcW); go_simp; first | done | with_reducible rfl)); try simp only [Act.put, List.setIfInBounds_toArray, List.set_cons_zero, List.set_cons_succ]) | (refine takeW 2 (v := ?_) rfl (by decide +kernel) (by decide +kernel) (by decide +kernel) (fun _ _ _ h => h) (Or.inl ⟨by rfl, ?_⟩) ?_; rotate_left 1; (focus (intro W hW; go_simp; first | done | with_reducible rfl)); try simp only [Act.put, List.setIfInBounds_toArray, List.set_cons_zero, List.set_cons_succ]) | (refine takeW 2 rfl (by decide +kernel) (by decide +kernel) (by decide +kernel) (fun _ _ _ h => h) (Or.inr ⟨by rfl, rfl⟩) ?_; try simp only [Act.put, List.setIfInBounds_toArray, List.set_cons_zero, List.set_cons_succ]) | skip); (first | (refine takeT 3 (v := ?_) rfl (by decide +kernel) (by decide +kernel) (by decide +kernel) (fun _ _ _ h => h) (by decide +kernel) (Or.inl ⟨by rfl, ?_⟩) ?_; rotate_left 1; (focus (intro W hW; have hcW := hW.at; (try dsimp only at hcW); go_simp; first | done | with_reducible rfl)); try simp only [Act.put, List.setIfInBounds_toArray, List.set_cons_zero, List.set_cons_succ]) | (refine takeW 3 (v := ?_) rfl (by decide +kernel) (by decide +kernel) (by decide +kernel) (fun _ _ _ h => h) (Or.inl ⟨by rfl, ?_⟩) ?_; rotate_left 1; (focus (intro W hW; go_simp; first | done | with_reducible rfl)); try simp only [Act.put, List.setIfInBounds_toArray, List.set_cons_zero, List.set_cons_succ]) | (refine takeW 3 rfl (by decide +kernel) (by decide +kernel) (by decide +kernel) (fun _ _ _ h => h) (Or.inr ⟨by rfl, rfl⟩) ?_; try simp only [Act.put, List.setIfInBounds_toArray, List.set_cons_zero, List.set_cons_succ]) | skip))
    have Q1 := Lib.hid q1
    have Q3 := Lib.hid q3
    have Q4 := Lib.hid q4
    have Q5 := Lib.hid q5
    refine stepT 4 rfl (by decide +kernel) (by rfl) ?_
    intro K hK
    refine wp_storeB flatPk (.tmp 4) (.tmp 43) rfl (w.heap.size + 1) rfl _ rfl q2 rfl rfl rfl ?_
    intro z2 kz2 hgz2 hsz2
    refine hK _ _ (.inr (sm_grown hgz2 hsz2 (fun a ha e => by have h : a.block = z.heap.size := ha; omega))) ?_
    clear hK K q1 q2 q3 q4 q5 d0 d1
    try simp only [Act.put, List.setIfInBounds_toArray, List.set_cons_zero, List.set_cons_succ]
    ((first | (refine takeT 5 (v := ?_) rfl (by decide +kernel) (by decide +kernel) (by decide +kernel) (fun _ _ _ h => h) (by decide +kernel) (Or.inl ⟨by rfl, ?_⟩) ?_; rotate_left 1; (focus (intro W hW; have hcW := hW.at; (try dsimp only at hcW); go_simp; first | done | with_reducible rfl)); try simp only [Act.put, List.setIfInBounds_toArray, List.set_cons_zero, List.set_cons_succ]) | (refine takeW 5 (v := ?_) rfl (by decide +kernel) (by decide +kernel) (by decide +kernel) (fun _ _ _ h => h) (Or.inl ⟨by rfl, ?_⟩) ?_; rotate_left 1; (focus (intro W hW; go_simp; first | done | with_reducible rfl)); try simp only [Act.put, List.setIfInBounds_toArray, List.set_cons_zero, List.set_cons_succ]) | (refine takeW 5 rfl (by decide +kernel) (by decide +kernel) (by decide +kernel) (fun _ _ _ h => h) (Or.inr ⟨by rfl, rfl⟩) ?_; try simp only [Act.put, List.setIfInBounds_toArray, List.set_cons_zero, List.set_cons_succ]) | skip))
    refine doneT (by kernel_rfl) ?_
    go_wp2
    refine bodyPost_ret (ret_cell_tmp flatPk rfl _ (w.heap.size + 1) rfl kz2 rfl) rfl ?_
    have n1 := HN.out
    have hX : N ≤ X.heap.size := Nat.le_trans n1 Q4.out.size
    refine ⟨A1, c1, _, ?_, Oka.out, (Q5.out.grown hgz2 (fun k hk => by omega)).mono fun k hk => .inr (.inl hk), Asr.grown Q3.out hgz2 (fun h => h.elim (fun hf => by have := (HF.out _ hf).2; omega) (fun h => by omega)) (by omega) hX, Q4.out.grown_new hgz2 (by omega)⟩
    rw [← ip]
    rfl

end Go.Proofs.YtkfkcpogcobmbaaDoor
