/-
  Helper text: the list of what was sent; no statement is proved here.
-/
import Derived.Test.YtkfkcpogcobmbaaDoorLst
namespace Go.Proofs.YtkfkcpogcobmbaaDoor
open Go Go.RowKit

/-- A packet that was sent: by the host or not, and its fault. -/
abbrev SentP := Pkt × Bool × Nat
abbrev pkL (p : Pkt) (A : Option Addr) (c : Nat) : List Value := [.int .u8 (p.pid : Int), .int .u8 (p.addr : Int), .int .u8 (p.endp : Int), .int .u16 (p.frame : Int), .int .u8 (p.hub : Int), .int .u8 (p.port : Int), .bool p.comp, .bool p.low, .int .u8 (p.kind : Int), .slice A p.data.length c]
abbrev snL (s : SentP) (A : Option Addr) (c : Nat) : List Value := [.int .u8 (s.1.pid : Int), .int .u8 (s.1.addr : Int), .int .u8 (s.1.endp : Int), .int .u16 (s.1.frame : Int), .int .u8 (s.1.hub : Int), .int .u8 (s.1.port : Int), .bool s.1.comp, .bool s.1.low, .int .u8 (s.1.kind : Int), .slice A s.1.data.length c, .bool s.2.1, .int .u8 (s.2.2 : Int)]
def layPk : Lay Pkt := ⟨40, 10, fun p A c => pkL p A c, fun p => p.data, fun _ _ _ => rfl, fun p A c v hv => by
  simp only [pkL, List.mem_cons, List.not_mem_nil, or_false] at hv
  rcases hv with rfl | rfl | rfl | rfl | rfl | rfl | rfl | rfl | rfl | rfl <;> rfl⟩
def laySn : Lay SentP := ⟨101, 12, fun s A c => snL s A c, fun s => s.1.data, fun _ _ _ => rfl, fun p A c v hv => by
  simp only [snL, List.mem_cons, List.not_mem_nil, or_false] at hv
  rcases hv with rfl | rfl | rfl | rfl | rfl | rfl | rfl | rfl | rfl | rfl | rfl | rfl <;> rfl⟩
theorem infSn : (Tryd.prog.info? 101).map (fun i => (i.zero, i.size, i.bytes)) = some (some (.agg #[.int .u8 0, .int .u8 0, .int .u8 0, .int .u16 0, .int .u8 0, .int .u8 0, .bool false, .bool false, .int .u8 0, .slice none 0 0, .bool false, .int .u8 0]), 12, 48) := by kernel_rfl
theorem infPk : (Tryd.prog.info? 40).map (fun i => (i.zero, i.size, i.bytes)) = some (some (.agg #[.int .u8 0, .int .u8 0, .int .u8 0, .int .u16 0, .int .u8 0, .int .u8 0, .bool false, .bool false, .int .u8 0, .slice none 0 0]), 10, 40) := by kernel_rfl

/-- Block b holds the list of what was sent. -/
def snA (N b : Nat) (l : List SentP) : Asr N where
  holds F w := (∃ v, w.heap[b]? = some (.cells #[v] 57 (0, 0)) ∧ OwnL laySn 0 (fun k => F k ∧ k ≠ b) w v l) ∧ F b ∧ ∀ k, F k → N ≤ k ∧ k < w.heap.size
  ge := fun h => h.2.2
  loc := fun ⟨⟨v, h1, h2⟩, h3, h4⟩ hs hk => ⟨⟨v, (hk _ (.inl h3)).trans h1, h2.keep hs fun k hh => hk k (hh.elim (fun h => .inl h.1) (fun h => by omega))⟩, h3, fun k hf => ⟨(h4 k hf).1, Nat.lt_of_lt_of_le (h4 k hf).2 hs⟩⟩

/-- append at the operation. -/
theorem wpl_appendL {ι : Type} {L : Lay ι} {P : Program} {ops : Array Oper} {rest : List Oper} {o : Oper} {a : Act} {Q : Exit → Act → World → Prop} {w : World} {N : Nat} {F : Nat → Prop} {v : Value} {l : List ι} (h : OwnL L N F w v l)
    {t : TypeId} (ht : P.underlying t = some (.slice L.ty)) {z : Value} {by_ : Nat} (hinf : (P.info? L.ty).map (fun i => (i.zero, i.size, i.bytes)) = some (some z, L.sz, by_)) (hz : z.cells.size = L.sz) (hpos : 0 < L.sz) (hby : by_ ≤ 100)
    (hgd : o.guard = none) (sl x : Operand) (ho : o.op = .call { callee := .builtin .append, args := #[sl, x], argTypes := #[t, t] }) (hs : a.eval sl = v) (s : ι) (A : Option Addr) (c : Nat) {G : Nat → Prop} (hr : RdS G w A c (L.fd s)) (hG : ∀ k, G k → v.ownBlock ≠ some k)
    (g1 : Nat) (hc : w.heap[g1]? = some (.cells (L.fc s A c).toArray L.ty (0, 0))) (hx : a.eval x = .slice (some ⟨g1, 0, none⟩) 1 1) (hl : l.length ≤ 1000000) (hN : N ≤ w.heap.size)
    (hk : ∀ A' c' w', OwnL L N (fun k => F k ∨ G k ∨ (w.heap.size ≤ k ∧ k < w'.heap.size)) w' (.slice A' (l ++ [s]).length c') (l ++ [s]) → w.grownBy w' v.ownBlock → wpList P ops Q rest (a.put o.dst (.slice A' (l ++ [s]).length c')) w') : wpList P ops Q (o :: rest) a w := by
  obtain ⟨v', w', e0, e1, e2, _⟩ := h.append (P := P) (ty := o.type) ht hinf hz hpos hby s A c hr hG g1 hc hl hN
  obtain ⟨A', c', rfl, _⟩ := e1.shape
  refine wpList_plain hgd fun K hK => ?_
  unfold Oper.wp execOp
  simp only [ho, resolve, invoke, builtin, Sem.run_bind, Sem.run_pure, Result.andThen_ok, List.map_toArray, List.map_cons, List.map_nil, hs, hx, e0]
  exact hK _ _ (hk A' c' w' e1 e2)

/-- An assertion holds behind a call that returns v, and nothing else has changed. -/
def Post {N : Nat} (A : Asr N) (S : Nat → Prop) (w : World) (v : Value) (e : Ending) (w' : World) : Prop := e = .returned v ∧ ∃ S', A.holds S' w' ∧ Mv S w S' w'

set_option maxHeartbeats 800000 in
set_option maxRecDepth 100000 in
theorem note_any (w : World) (N b : Nat) (l : List SentP) (F G : Nat → Prop) (h : (snA N b l).holds F w) (p : Pkt) (hb : Bool) (f : Nat) (A : Option Addr) (c : Nat) (hr : RdS G w A c p.data) (hG : ∀ k, G k → ¬ F k ∧ N ≤ k ∧ k < w.heap.size)
    (hl : l.length ≤ 1000000) (hN : N ≤ w.heap.size) :
    Calls Tryd.prog 51 #[.agg (snL (p, hb, f) A c).toArray, .pointer (some ⟨b, 0, none⟩)] w (Post (snA N b (l ++ [(p, hb, f)])) (fun k => F k ∨ G k) w (.tuple #[])) := by
  obtain ⟨⟨v, hv, ho⟩, hFb, hF⟩ := h
  obtain ⟨A0, c0, rfl, _, _⟩ := ho.shape
  obtain ⟨h0, h1, h2, h3⟩ := alloc2 w (.cells (snL (p, hb, f) A c).toArray 101) (.cells (snL (p, hb, f) A c).toArray 101)
  have hbl := block_lt hv
  have hv1 := (Below.heap_alloc w (.cells (snL (p, hb, f) A c).toArray 101) b hbl).trans hv
  have hv2 := Lib.hid ((h3.block b hbl).trans hv)
  have hne : some b ≠ (Value.slice A0 l.length c0).ownBlock := fun e => by
    obtain ⟨vs, D, _, _, _, _, h5⟩ := ho
    exact (h5 b e.symm).2 rfl
  have hG2 : ∀ k, G k → (Value.slice A0 l.length c0).ownBlock ≠ some k := fun k hk e => by
    obtain ⟨vs, D, _, _, _, _, h5⟩ := ho
    exact (hG k hk).1 (h5 k e).1
  have hge := Lib.hid ho.ge
  have hin : ∀ k, (Value.slice A0 l.length c0).ownBlock = some k → F k := fun k e => by
    obtain ⟨vs, D, _, _, _, _, h5⟩ := ho
    exact (h5 k e).1
  have ho2 := Lib.hid (ho.keep (w' := (w.alloc (.cells (snL (p, hb, f) A c).toArray 101)).alloc (.cells (snL (p, hb, f) A c).toArray 101)) h3.size fun k hk => h3.block k (hk.elim (fun hf => (hF k hf.1).2) (fun hl => by omega)))
  have hr2 := Lib.hid (hr.below h3)
  have hl' := Lib.hid hl
  have hN2 := Lib.hid (Nat.le_trans hN h3.size)
  have cb := block_at hv1 (i := 0) rfl
  have k0 := alloc1 w (.cells (snL (p, hb, f) A c).toArray 101)
  have H1 := Lib.hid h1
  have H2 := Lib.hid h2
  have H3 := Lib.hid h3
  have Hne := Lib.hid hne
  have HG2 := Lib.hid hG2
  have Hin := Lib.hid hin
  have HG := Lib.hid hG
  have HF := Lib.hid hF
  clear h0 h1 h2 h3 hr hl ho hv1 hne hG2 hin hG hF
  obtain ⟨p0, p1, p2, p3, p4, p5, p6, p7, p8, xs⟩ := p
  simp only [snL] at *
  have K0 := Lib.hid k0
  clear k0
  go_enter Tryd.func51, Tryd.ntmps51
  go_wp2_with (first | (refine wpl_loadB flatSent rfl (.tmp 2) rfl _ rfl K0.out rfl ?_) |
    (at_builtin; refine wpl_appendL ho2.out Tryd.underlying57 infSn rfl (by decide) (by decide) rfl (.tmp 3) (.tmp 5) rfl rfl (⟨p0, p1, p2, p3, p4, p5, p6, p7, p8, xs⟩, hb, f) A c hr2.out HG2.out (w.heap.size + 1) H1.out rfl hl'.out (Nat.zero_le _) ?_
     intro A' c' w' ho3 hg3
     have kb := grown_block hg3 hv2.out Hne.out
     have cb2 := block_at kb (i := 0) rfl
     have fb2 := block_free kb 0
     replace ho3 := Lib.hid ho3
     replace hg3 := Lib.hid hg3
     replace kb := Lib.hid kb
     generalize hn : (l ++ [((⟨p0, p1, p2, p3, p4, p5, p6, p7, p8, xs⟩ : Pkt), hb, f)]).length = n3 at ho3 ⊢
     replace hn := Lib.hid hn))
  go_end0
  have hs2 := H2.out
  have hs3 := hg3.out.size
  have hs4 : (w'.setCell ⟨b, 0, none⟩ (.slice A' n3 c')).heap.size = w'.heap.size := by simp [World.setCell]
  have hoth : ∀ k, k ≠ b → (w'.setCell ⟨b, 0, none⟩ (.slice A' n3 c')).heap[k]? = w'.heap[k]? := fun k hk => Below.heap_setCell w' ⟨b, 0, none⟩ _ k hk
  have hNb := (HF.out b hFb).1
  refine ⟨rfl, fun k => F k ∨ G k ∨ (w.heap.size ≤ k ∧ k < w'.heap.size), ⟨⟨.slice A' n3 c', ?_, ?_⟩, .inl hFb, fun k hk => ?_⟩, ?_⟩
  · have := block_set kb.out 0 (.slice A' n3 c')
    simpa using this
  · rw [← hn.out] at ho3 ⊢
    refine ((ho3.out.mono (G := fun k => (F k ∨ G k ∨ (w.heap.size ≤ k ∧ k < w'.heap.size)) ∧ k ≠ b) fun k hk => ?_).keep (by rw [hn.out, hs4]; exact Nat.le_refl _) fun k hk => ?_)
    · rcases hk with hk | hk | hk
      · exact ⟨.inl hk.1, hk.2⟩
      · exact ⟨.inr (.inl hk), fun e => (HG.out k hk).1 (e ▸ hFb)⟩
      · exact ⟨.inr (.inr ⟨by omega, hk.2⟩), by omega⟩
    · rw [hn.out]
      exact hoth k (hk.elim (·.2) (fun h => by omega))
  · rw [hs4]
    rcases hk with hk | hk | hk
    · have := HF.out k hk; omega
    · have := HG.out k hk; omega
    · omega
  · refine ⟨hg3.out.os.trans H3.out.os, hg3.out.tape.trans H3.out.tape, hg3.out.output.trans H3.out.output, by rw [hs4]; omega, fun k hk hn => ?_, fun k hk => ?_⟩
    · rw [hoth k (fun e => hn (.inl (e ▸ hFb))), hg3.out.block k (by omega) (fun e => hn (.inl (Hin.out k e.symm))), H3.out.block k hk]
    · rcases hk with hk | hk | hk
      · exact .inl (.inl hk)
      · exact .inl (.inr hk)
      · exact .inr hk.1

/-- What has been sent, behind a call of the second closure: the list, and what it lies in. -/
def PostL (N : Nat) (F : Nat → Prop) (l : List SentP) (w : World) (e : Ending) (w' : World) : Prop :=
  ∃ A c, e = .returned (.slice A l.length c) ∧ RdL laySn F w' A c l ∧ w = w'
theorem sclip_any (w : World) (A : Option Addr) (n c : Nat) (hle : n ≤ c) (hcap : c ≤ 9223372036854775807) : Calls Tryd.prog 53 #[.slice A n c] w fun e w' => e = .returned (.slice A n n) ∧ w = w' := by
  go_enter Tryd.func53, Tryd.ntmps53
  go_wp2
  go_ret
  exact ⟨rfl, rfl⟩
set_option maxRecDepth 100000 in
theorem sent_any (w : World) (N b : Nat) (l : List SentP) (F : Nat → Prop) (h : (snA N b l).holds F w) :
    Calls Tryd.prog 52 #[.pointer (some ⟨b, 0, none⟩)] w (PostL N F l w) := by
  obtain ⟨⟨v, hv, ho⟩, hFb, hF⟩ := h
  obtain ⟨A0, c0, rfl, hr⟩ := ho.rdl
  have cb := block_at hv (i := 0) rfl
  have hle := hr.le
  have hcap := hr.cap
  have hr2 := Lib.hid (hr.mono (G := F) fun k hk => hk.elim (·.1) (fun h => by omega))
  clear hr ho hF hv
  go_enter Tryd.func52, Tryd.ntmps52
  go_wp2_with fail
  refine (sclip_any _ A0 l.length c0 hle hcap).mono ?_
  rintro e w1 ⟨rfl, rfl⟩
  go_wp2
  go_ret
  exact ⟨A0, l.length, rfl, ⟨Nat.le_refl _, by omega, hr2.out.cells⟩, rfl⟩

end Go.Proofs.YtkfkcpogcobmbaaDoor
