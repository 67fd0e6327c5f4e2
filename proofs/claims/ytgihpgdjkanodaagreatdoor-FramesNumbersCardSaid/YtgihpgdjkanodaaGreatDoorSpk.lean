/-
  Helper text, several in one; no statement is proved here.
-/
import Derived.Test.YtgihpgdjkanodaaGreatDoorSend
namespace Go.Proofs.YtgihpgdjkanodaaGreatDoor
open Go Go.RowKit

theorem smOf {S S' : Nat → Prop} {X X' : World} {k0 k1 : Nat} {o0 o1 : Obj} (hm : Mv S X S' X') (h0 : X.heap[k0]? = some o0 ∧ ¬ S k0) (h1 : X.heap[k1]? = some o1 ∧ ¬ S k1) : Sm (fun a => a.block = k0 ∨ a.block = k1) X X' := fun a ha => by
  refine World.cell?_of_block ?_
  rcases ha with h | h
  · rw [h]; exact hm.keep k0 (block_lt h0.1) h0.2
  · rw [h]; exact hm.keep k1 (block_lt h1.1) h1.2
theorem Asr.grown {N : Nat} {A : Asr N} {F : Nat → Prop} {w w' : World} {g : Nat} (h : A.holds F w) (hg : w.grownBy w' (some g)) (hn : ¬ F g) (hN : N ≤ g) (hw : N ≤ w.heap.size := by assumption) : A.holds F w' :=
  A.loc h hg.size fun k hk => hk.elim (fun hf => hg.block k (A.ge h k hf).2 (fun e => by injection e with e; subst e; exact hn hf)) (fun hl => hg.block k (by omega) (fun e => by injection e; omega))
theorem RdS.grown {F : Nat → Prop} {w w' : World} {A : Option Addr} {c g : Nat} {xs : List UInt8} (h : RdS F w A c xs) (hg : w.grownBy w' (some g)) (hF : ∀ k, F k → k ≠ g) : RdS F w' A c xs :=
  (h.lt.keep fun k hk => hg.block k hk.2 (fun e => by injection e with e; exact hF k hk.1 e)).mono fun _ hk => hk.1
/-- The beginning of a region, with what is known of the world. -/
theorem startTP {S : Addr → Prop} {T : List Nat} {P : Program} {ops : Array Oper} {Q : Exit → Act → World → Prop} (Pf : World → Prop) (n : Nat) {id : Nat} {a : Act} {w : World} {l : Array Bool} (hm : P.follows .mixedOrders = true) (hn : ops.size = n) (hl : Array.replicate n false = l)
    (hp : Pf w.drew) (h : ∀ x0, Pf x0 → wpAnyT S T P .any ops Q n l a x0) : (Code.region id ops true).wp P Q a w := startT n hm hn hl (h _ hp)

/-- Behind a call of a device. -/
def HearPost {N : Nat} (A : Asr N) (F : Nat → Prop) (w : World) (a : Pkt) (ok : Bool) (e : Ending) (w' : World) : Prop :=
  ∃ A' c' F', e = .returned (.tuple #[pkV a A' c', .bool ok]) ∧ a.Ok ∧ RdS (fun k => F' k ∨ k < N ∨ w.heap.size ≤ k) w' A' c' a.data ∧ A.holds F' w' ∧ Mv F w F' w'
/-- A device as the host holds it. -/
structure DevOK {N : Nat} {σ : Type} (D : σ → Asr N) (hear : σ → Pkt → σ × Pkt × Bool) (T : Nat) (v : Value) (K : Nat) (rv : Value) (P : σ → Prop) : Prop where
  ahead : ∀ w, (nilAhead 315 T v "Hear").run Tryz.prog w = .ok (some false) w
  meth : ∀ w, (method 315 T v "Hear").run Tryz.prog w = .ok (K, rv) w
  enter : ∀ args w, (callFunc K args).run Tryz.prog w = .ok (.enter K args) w
  call : ∀ (w : World) (s : σ) (F : Nat → Prop) (p : Pkt) (A : Option Addr) (c : Nat), P s → (D s).holds F w → p.Ok → RdS (fun k => ¬ F k) w A c p.data → N ≤ w.heap.size →
    Calls Tryz.prog K #[rv, pkV p A c] w (HearPost (D (hear s p).1) F w (hear s p).2.1 (hear s p).2.2)

/-- What the device's answer comes to. -/
def askR {σ τ : Type} (hear : σ → Pkt → σ × Pkt × Bool) (next : τ → τ × Nat) (s : σ) (t : τ) (l : List SentP) (p : Pkt) : (σ × τ × List SentP) × Pkt × Bool :=
  if (hear s p).2.2 = true ∧ (hear s p).2.1.err = 0 then (((hear s p).1, (next t).1, l ++ [((hear s p).2.1, false, (next t).2)]), if (next t).2 = 0 then ((hear s p).2.1, true) else (zeroP, false))
  else (((hear s p).1, t, l), zeroP, false)

/-- The tables lie below N. -/
theorem Laid.belowN {w w' : World} {N : Nat} (h : Laid w) (hb : Below N w w') (hN : 0 < N) : Laid w' := ⟨fun j hj => (hb.cell hN).trans (h.pid j hj)⟩

section
variable {N : Nat} {σ τ : Type} {D : σ → Asr N} {hear : σ → Pkt → σ × Pkt × Bool} {T : Nat} {v : Value} {K0 : Nat} {rv : Value} {P : σ → Prop} (hD : DevOK D hear T v K0 rv P) {W : τ → Asr N} {next : τ → τ × Nat} {wv : Value} (hW : WireOK W next wv)

/-- The state of a host, its device and its wire. -/
def hostA (D : σ → Asr N) (W : τ → Asr N) (b : Nat) (x : σ × τ × List SentP) : Asr N := (D x.1).sep ((W x.2.1).sep (snA N b x.2.2))

/-- An answer is returned. -/
def AnsPost {N : Nat} (A : Asr N) (S : Nat → Prop) (w : World) (a : Pkt × Bool) (e : Ending) (w' : World) : Prop :=
  ∃ A' c' S', e = .returned (.tuple #[pkV a.1 A' c', .bool a.2]) ∧ RdU (fun k => ¬ S' k ∧ w.heap.size ≤ k) w' A' c' a.1.data ∧ A.holds S' w' ∧ Mv S w S' w'

set_option maxHeartbeats 1600000 in
set_option maxRecDepth 100000 in
include hD hW in
theorem ask_any (w : World) (b : Nat) (s : σ) (hP : P s) (t : τ) (l : List SentP) (S : Nat → Prop) (h : (hostA D W b (s, t, l)).holds S w) (p : Pkt) (ok : p.Ok) (A : Option Addr) (c : Nat) (hr : RdS (fun k => ¬ S k) w A c p.data)
    (hl : l.length ≤ 1000000) (hN : N ≤ w.heap.size) (hL : Laid w) (hLN : 0 < N) :
    Calls Tryz.prog 68 #[hostV (.iface T v) wv b, pkV p A c] w (AnsPost (hostA D W b (askR hear next s t l p).1) S w (askR hear next s t l p).2) := by
  obtain ⟨FD, FR, hA, hR, hd, rfl⟩ := Asr.sep_eq h
  replace hA : (D s).holds FD w := hA
  replace hR : ((W t).sep (snA N b l)).holds FR w := hR
  have q := isNil_dev
  have m1 := hD.ahead
  have m2 := hD.meth
  have m3 := hD.enter
  have KC := Lib.hid fun (X : World) (A : Option Addr) (c : Nat) (hX : (D s).holds FD X) (hr : RdS (fun k => ¬ FD k) X A c p.data) (hN : N ≤ X.heap.size) => hD.call X s FD p A c hP hX ok hr hN
  obtain ⟨R, hR0⟩ : ∃ R, askR hear next s t l p = R := ⟨_, rfl⟩
  rw [hR0]
  unfold askR at hR0
  generalize hear s p = hs at KC hR0
  obtain ⟨s', a, o⟩ := hs
  simp only at KC hR0
  have HR0 := Lib.hid hR0
  clear hR0
  obtain ⟨g0, g1, g2, g3, g4⟩ := alloc3 w (.cells #[.iface T v, wv, noteV b] 127) (pkB p A c) pkZ
  have d0 := block_at g0 (i := 0) (v := .iface T v) rfl
  have hFD := fun k hk => (D s).ge hA k hk
  have hFR := fun k hk => ((W t).sep (snA N b l)).ge hR k hk
  have X0 : Hid (Mv FD w FD _ ∧ (_ ∧ ¬ FD w.heap.size) ∧ (_ ∧ ¬ FD (w.heap.size + 1)) ∧ (_ ∧ ¬ FD (w.heap.size + 1 + 1)) ∧ RdS (fun k => ¬ FD k) _ A c p.data ∧ (D s).holds FD _ ∧ _ = w.heap.size + 1 + 1 + 1) :=
    Lib.hid ⟨Mv.of_below FD g4, ⟨g0, fun hf => by have := (hFD _ hf).2; omega⟩, ⟨g1, fun hf => by have := (hFD _ hf).2; omega⟩, ⟨g2, fun hf => by have := (hFD _ hf).2; omega⟩, (hr.below g4).mono fun k hk hf => hk (.inl hf), Asr.below hA g4 hN, g3⟩
  have Hok := Lib.hid ok
  have Hl := Lib.hid hl
  have hN0 := Lib.hid hN
  have HL := Lib.hid hL
  have Hd := Lib.hid hd
  have HA := Lib.hid hA
  have HR := Lib.hid hR
  have HFD := Lib.hid hFD
  have HFR := Lib.hid hFR
  clear g0 g1 g2 g3 g4 ok hl hN hL hd hA hR hr hFD hFR h hP
  go_enter Tryz.func68, Tryz.ntmps68
  go_wp2
  refine region_inv (fun a₀ act y => ∃ (g6 : Nat) (A1 A' : Option Addr) (c1 c' : Nat) (F' : Nat → Prop),
    act = { tmps := #[hostV (.iface T v) wv b, pkV p A c, .pointer (some ⟨w.heap.size, 0, none⟩), .pointer (some ⟨w.heap.size + 1, 0, none⟩), .pointer (some ⟨w.heap.size + 1 + 1, 0, none⟩), .bool false, .pointer (some ⟨g6, 0, none⟩), .bool o,
        .pointer (some ⟨w.heap.size, 0, none⟩), .iface T v, .bool false, undef, .tuple #[pkV a A' c', .bool o], .pointer (some ⟨w.heap.size, 0, none⟩), .iface T v, pkV p A c, pkV p A1 c1, .iface T v, .iface T v, .tuple #[pkV a A' c', .bool o], pkV a A' c', .bool o,
        undef, undef, undef, undef, undef, undef, undef, undef, undef, undef, undef, undef, undef, undef, undef, undef], defers := [] } ∧
    y.heap[g6]? = some (pkB a A' c') ∧ ¬ F' g6 ∧ w.heap.size + 1 + 1 + 1 ≤ g6 ∧ Mv FD w F' y ∧ (D s').holds F' y ∧ y.heap[w.heap.size]? = some (.cells #[.iface T v, wv, noteV b] 127) ∧ ¬ F' w.heap.size ∧
    y.heap[w.heap.size + 1 + 1]? = some pkZ ∧ ¬ F' (w.heap.size + 1 + 1) ∧ a.Ok ∧ RdS (fun k => k ≠ g6) y A' c' a.data ∧ N ≤ y.heap.size) ?_ ?_
  · refine startTP (S := fun a => a.block = w.heap.size ∨ a.block = w.heap.size + 1) (T := [11]) (fun x => Mv FD w FD x ∧ (x.heap[w.heap.size]? = some (.cells #[.iface T v, wv, noteV b] 127) ∧ ¬ FD w.heap.size) ∧ (x.heap[w.heap.size + 1]? = some (pkB p A c) ∧ ¬ FD (w.heap.size + 1)) ∧ (x.heap[w.heap.size + 1 + 1]? = some pkZ ∧ ¬ FD (w.heap.size + 1 + 1)) ∧ RdS (fun k => ¬ FD k) x A c p.data ∧ (D s).holds FD x ∧ x.heap.size = w.heap.size + 1 + 1 + 1) 13 (by kernel_rfl) rfl (l := #[false, false, false, false, false, false, false, false, false, false, false, false, false]) rfl ⟨X0.out.1.drew, X0.out.2.1, X0.out.2.2.1, X0.out.2.2.2.1, X0.out.2.2.2.2.1.drew, (D s).loc X0.out.2.2.2.2.2.1 (Nat.le_refl _) fun _ _ => rfl, X0.out.2.2.2.2.2.2⟩ ?_
    clear X0 d0
    rintro x0 ⟨M, b0, b1, b2, rp, hA, hsz⟩
    have hN : Hid (N ≤ x0.heap.size) := Lib.hid (Nat.le_trans hN0.out M.size)
    have d0 := block_at b0.1 (i := 0) (v := .iface T v) rfl
    obtain ⟨c0, c1, c2, c3, c4, c5, c6, c7, c8, c9⟩ := pk_cells b1.1
    replace M := Lib.hid M
    replace b0 := Lib.hid b0
    replace b1 := Lib.hid b1
    replace b2 := Lib.hid b2
    replace rp := Lib.hid rp
    replace hA := Lib.hid hA
    have hsz0 := Lib.hid hsz
    clear hsz
    ((first | (refine takeT 0 (v := ?_) rfl (by decide +kernel) (by decide +kernel) (by decide +kernel) (fun _ _ _ h => h) (by decide +kernel) (Or.inl ⟨by rfl, ?_⟩) ?_; rotate_left 1; (focus (intro W hW; have hcW := hW.at; (try dsimp only at hcW); go_simp; first | done | with_reducible rfl)); try simp only [Act.put, List.setIfInBounds_toArray, List.set_cons_zero, List.set_cons_succ]) | (refine takeW 0 (v := ?_) rfl (by decide +kernel) (by decide +kernel) (by decide +kernel) (fun _ _ _ h => h) (Or.inl ⟨by rfl, ?_⟩) ?_; rotate_left 1; (focus (intro W hW; go_simp; first | done | with_reducible rfl)); try simp only [Act.put, List.setIfInBounds_toArray, List.set_cons_zero, List.set_cons_succ]) | (refine takeW 0 rfl (by decide +kernel) (by decide +kernel) (by decide +kernel) (fun _ _ _ h => h) (Or.inr ⟨by rfl, rfl⟩) ?_; try simp only [Act.put, List.setIfInBounds_toArray, List.set_cons_zero, List.set_cons_succ]) | skip); (first | (refine takeT 1 (v := ?_) rfl (by decide +kernel) (by decide +kernel) (by decide +kernel) (fun _ _ _ h => h) (by decide +kernel) (Or.inl ⟨by rfl, ?_⟩) ?_; rotate_left 1; (focus (intro W hW; have hcW := hW.at; (try dsimp only at hcW); go_simp; first | done | with_reducible rfl)); try simp only [Act.put, List.setIfInBounds_toArray, List.set_cons_zero, List.set_cons_succ]) | (refine takeW 1 (v := ?_) rfl (by decide +kernel) (by decide +kernel) (by decide +kernel) (fun _ _ _ h => h) (Or.inl ⟨by rfl, ?_⟩) ?_; rotate_left 1; (focus (intro W hW; go_simp; first | done | with_reducible rfl)); try simp only [Act.put, List.setIfInBounds_toArray, List.set_cons_zero, List.set_cons_succ]) | (refine takeW 1 rfl (by decide +kernel) (by decide +kernel) (by decide +kernel) (fun _ _ _ h => h) (Or.inr ⟨by rfl, rfl⟩) ?_; try simp only [Act.put, List.setIfInBounds_toArray, List.set_cons_zero, List.set_cons_succ]) | skip); (first | (refine takeT 2 (v := ?_) rfl (by decide +kernel) (by decide +kernel) (by decide +kernel) (fun _ _ _ h => h) (by decide +kernel) (Or.inl ⟨by rfl, ?_⟩) ?_; rotate_left 1; (focus (intro W hW; have hcW := hW.at; (try dsimp only at hcW); go_simp; first | done | with_reducible rfl)); try simp only [Act.put, List.setIfInBounds_toArray, List.set_cons_zero, List.set_cons_succ]) | (refine takeW 2 (v := ?_) rfl (by decide +kernel) (by decide +kernel) (by decide +kernel) (fun _ _ _ h => h) (Or.inl ⟨by rfl, ?_⟩) ?_; rotate_left 1; (focus (intro W hW; go_simp; first | done | with_reducible rfl)); try simp only [Act.put, List.setIfInBounds_toArray, List.set_cons_zero, List.set_cons_succ]) | (refine takeW 2 rfl (by decide +kernel) (by decide +kernel) (by decide +kernel) (fun _ _ _ h => h) (Or.inr ⟨by rfl, rfl⟩) ?_; try simp only [Act.put, List.setIfInBounds_toArray, List.set_cons_zero, List.set_cons_succ]) | skip); (first | (refine takeT 4 (v := ?_) rfl (by decide +kernel) (by decide +kernel) (by decide +kernel) (fun _ _ _ h => h) (by decide +kernel) (Or.inl ⟨by rfl, ?_⟩) ?_; rotate_left 1; (focus (intro W hW; have hcW := hW.at; (try dsimp only at hcW); go_simp; first | done | with_reducible rfl)); try simp only [Act.put, List.setIfInBounds_toArray, List.set_cons_zero, List.set_cons_succ]) | (refine takeW 4 (v := ?_) rfl (by decide +kernel) (by decide +kernel) (by decide +kernel) (fun _ _ _ h => h) (Or.inl ⟨by rfl, ?_⟩) ?_; rotate_left 1; (focus (intro W hW; go_simp; first | done | with_reducible rfl)); try simp only [Act.put, List.setIfInBounds_toArray, List.set_cons_zero, List.set_cons_succ]) | (refine takeW 4 rfl (by decide +kernel) (by decide +kernel) (by decide +kernel) (fun _ _ _ h => h) (Or.inr ⟨by rfl, rfl⟩) ?_; try simp only [Act.put, List.setIfInBounds_toArray, List.set_cons_zero, List.set_cons_succ]) | skip); (first | (refine takeT 5 (v := ?_) rfl (by decide +kernel) (by decide +kernel) (by decide +kernel) (fun _ _ _ h => h) (by decide +kernel) (Or.inl ⟨by rfl, ?_⟩) ?_; rotate_left 1; (focus (intro W hW; have hcW := hW.at; (try dsimp only at hcW); go_simp; first | done | with_reducible rfl)); try simp only [Act.put, List.setIfInBounds_toArray, List.set_cons_zero, List.set_cons_succ]) | (refine takeW 5 (v := ?_) rfl (by decide +kernel) (by decide +kernel) (by decide +kernel) (fun _ _ _ h => h) (Or.inl ⟨by rfl, ?_⟩) ?_; rotate_left 1; (focus (intro W hW; go_simp; first | done | with_reducible rfl)); try simp only [Act.put, List.setIfInBounds_toArray, List.set_cons_zero, List.set_cons_succ]) | (refine takeW 5 rfl (by decide +kernel) (by decide +kernel) (by decide +kernel) (fun _ _ _ h => h) (Or.inr ⟨by rfl, rfl⟩) ?_; try simp only [Act.put, List.setIfInBounds_toArray, List.set_cons_zero, List.set_cons_succ]) | skip))
    clear d0 c0 c1 c2 c3 c4 c5 c6 c7 c8 c9
    refine stepTA [3, 10] (by decide +kernel) (by decide) ?_
    intro i hi
    rcases (by simpa using hi : i = 3 ∨ i = 10) with rfl | rfl
    · clear hi
      refine ⟨_, rfl, by rfl, ?_⟩
      intro K hK
      go_simp
      refine (own_any x0 p A c (rp.out.rdT) Hok.out.len).mono ?_
      rintro e x1 ⟨A1, c1, rfl, r1, bb⟩
      have hm := Mv.of_below FD bb
      replace r1 := Lib.hid (r1.mono (G := fun k => ¬ FD k) fun k hk hf => by have := ((D s).ge hA.out k hf).2; omega)
      have sm := smOf hm b0.out b1.out
      replace b0 := Lib.hid (hm.box b0.out)
      replace b1 := Lib.hid (hm.box b1.out)
      replace b2 := Lib.hid (hm.box b2.out)
      replace M := Lib.hid (M.out.trans hm)
      replace hA := Lib.hid (Asr.below hA.out bb hN.out)
      replace hN := Lib.hid (Nat.le_trans hN.out hm.size)
      refine hK _ _ (.inr sm) ?_
      clear hK K hm sm bb
      try simp only [Act.put, List.setIfInBounds_toArray, List.set_cons_zero, List.set_cons_succ]
      refine stepTA [6, 10] (by decide +kernel) (by decide) ?_
      intro i hi
      rcases (by simpa using hi : i = 6 ∨ i = 10) with rfl | rfl
      · clear hi
        refine ⟨_, rfl, by rfl, ?_⟩
        intro K hK
        go_simp
        refine (KC.out x1 A1 c1 hA.out r1.out hN.out).mono ?_
        rintro e x2 ⟨A', c', F', rfl, oka, ra, hA2, hm⟩
        replace hA2 := Lib.hid hA2
        replace oka := Lib.hid oka
        replace ra := Lib.hid (ra.lt.mono fun k hk => hk.2)
        have sm := smOf hm b0.out b1.out
        replace b0 := Lib.hid (hm.box b0.out)
        replace b1 := Lib.hid (hm.box b1.out)
        replace b2 := Lib.hid (hm.box b2.out)
        replace M := Lib.hid (M.out.trans hm)
        replace hN := Lib.hid (Nat.le_trans hN.out hm.size)
        refine hK _ _ (.inr sm) ?_
        clear hK K hm sm
        try simp only [Act.put, List.setIfInBounds_toArray, List.set_cons_zero, List.set_cons_succ]
        ((first | (refine takeT 7 (v := ?_) rfl (by decide +kernel) (by decide +kernel) (by decide +kernel) (fun _ _ _ h => h) (by decide +kernel) (Or.inl ⟨by rfl, ?_⟩) ?_; rotate_left 1; (focus (intro W hW; have hcW := hW.at; (try dsimp only at hcW); go_simp; first | done | with_reducible rfl)); try simp only [Act.put, List.setIfInBounds_toArray, List.set_cons_zero, List.set_cons_succ]) | (refine takeW 7 (v := ?_) rfl (by decide +kernel) (by decide +kernel) (by decide +kernel) (fun _ _ _ h => h) (Or.inl ⟨by rfl, ?_⟩) ?_; rotate_left 1; (focus (intro W hW; go_simp; first | done | with_reducible rfl)); try simp only [Act.put, List.setIfInBounds_toArray, List.set_cons_zero, List.set_cons_succ]) | (refine takeW 7 rfl (by decide +kernel) (by decide +kernel) (by decide +kernel) (fun _ _ _ h => h) (Or.inr ⟨by rfl, rfl⟩) ?_; try simp only [Act.put, List.setIfInBounds_toArray, List.set_cons_zero, List.set_cons_succ]) | skip); (first | (refine takeT 8 (v := ?_) rfl (by decide +kernel) (by decide +kernel) (by decide +kernel) (fun _ _ _ h => h) (by decide +kernel) (Or.inl ⟨by rfl, ?_⟩) ?_; rotate_left 1; (focus (intro W hW; have hcW := hW.at; (try dsimp only at hcW); go_simp; first | done | with_reducible rfl)); try simp only [Act.put, List.setIfInBounds_toArray, List.set_cons_zero, List.set_cons_succ]) | (refine takeW 8 (v := ?_) rfl (by decide +kernel) (by decide +kernel) (by decide +kernel) (fun _ _ _ h => h) (Or.inl ⟨by rfl, ?_⟩) ?_; rotate_left 1; (focus (intro W hW; go_simp; first | done | with_reducible rfl)); try simp only [Act.put, List.setIfInBounds_toArray, List.set_cons_zero, List.set_cons_succ]) | (refine takeW 8 rfl (by decide +kernel) (by decide +kernel) (by decide +kernel) (fun _ _ _ h => h) (Or.inr ⟨by rfl, rfl⟩) ?_; try simp only [Act.put, List.setIfInBounds_toArray, List.set_cons_zero, List.set_cons_succ]) | skip); (first | (refine takeT 9 (v := ?_) rfl (by decide +kernel) (by decide +kernel) (by decide +kernel) (fun _ _ _ h => h) (by decide +kernel) (Or.inl ⟨by rfl, ?_⟩) ?_; rotate_left 1; (focus (intro W hW; have hcW := hW.at; (try dsimp only at hcW); go_simp; first | done | with_reducible rfl)); try simp only [Act.put, List.setIfInBounds_toArray, List.set_cons_zero, List.set_cons_succ]) | (refine takeW 9 (v := ?_) rfl (by decide +kernel) (by decide +kernel) (by decide +kernel) (fun _ _ _ h => h) (Or.inl ⟨by rfl, ?_⟩) ?_; rotate_left 1; (focus (intro W hW; go_simp; first | done | with_reducible rfl)); try simp only [Act.put, List.setIfInBounds_toArray, List.set_cons_zero, List.set_cons_succ]) | (refine takeW 9 rfl (by decide +kernel) (by decide +kernel) (by decide +kernel) (fun _ _ _ h => h) (Or.inr ⟨by rfl, rfl⟩) ?_; try simp only [Act.put, List.setIfInBounds_toArray, List.set_cons_zero, List.set_cons_succ]) | skip))
        refine stepTA [10] (by decide +kernel) (by decide) ?_
        intro i hi
        obtain rfl : i = 10 := by simpa using hi
        clear hi
        refine ⟨_, rfl, by rfl, ?_⟩
        intro K hK
        go_simp
        have lb6 := block_lt b2.out.1
        have nS : ¬ F' x2.heap.size := fun hf => Nat.lt_irrefl _ (((D s').ge hA2.out _ hf).2)
        have bb := (Below.refl x2.heap.size x2).alloc (Nat.le_refl _) (pkZ)
        have hm := Mv.of_below F' bb
        have sm := smOf hm b0.out b1.out
        replace b0 := Lib.hid (hm.box b0.out)
        replace b1 := Lib.hid (hm.box b1.out)
        replace b2 := Lib.hid (hm.box b2.out)
        replace M := Lib.hid (M.out.trans hm)
        replace hA2 := Lib.hid (Asr.below hA2.out bb hN.out)
        replace ra := Lib.hid (ra.out.below bb)
        replace hN := Lib.hid (Nat.le_trans hN.out hm.size)
        refine hK _ _ (.inr sm) ?_
        have b6 := Lib.hid (show (x2.alloc (pkZ)).heap[x2.heap.size]? = some (pkZ) ∧ ¬ F' x2.heap.size from ⟨alloc1 x2 (pkZ), nS⟩)
        replace ra := Lib.hid (ra.out.mono (G := fun k => k ≠ x2.heap.size) fun k hk e => by omega)
        clear hK K hm sm bb nS
        try simp only [Act.put, List.setIfInBounds_toArray, List.set_cons_zero, List.set_cons_succ]
        generalize x2.alloc (pkZ) = x3 at b0 b1 b2 M hN hA2 ra b6 ⊢
        generalize x2.heap.size = g6 at b0 b1 b2 M hN hA2 ra b6 lb6 ⊢
        ((first | (refine takeT 7 (v := ?_) rfl (by decide +kernel) (by decide +kernel) (by decide +kernel) (fun _ _ _ h => h) (by decide +kernel) (Or.inl ⟨by rfl, ?_⟩) ?_; rotate_left 1; (focus (intro W hW; have hcW := hW.at; (try dsimp only at hcW); go_simp; first | done | with_reducible rfl)); try simp only [Act.put, List.setIfInBounds_toArray, List.set_cons_zero, List.set_cons_succ]) | (refine takeW 7 (v := ?_) rfl (by decide +kernel) (by decide +kernel) (by decide +kernel) (fun _ _ _ h => h) (Or.inl ⟨by rfl, ?_⟩) ?_; rotate_left 1; (focus (intro W hW; go_simp; first | done | with_reducible rfl)); try simp only [Act.put, List.setIfInBounds_toArray, List.set_cons_zero, List.set_cons_succ]) | (refine takeW 7 rfl (by decide +kernel) (by decide +kernel) (by decide +kernel) (fun _ _ _ h => h) (Or.inr ⟨by rfl, rfl⟩) ?_; try simp only [Act.put, List.setIfInBounds_toArray, List.set_cons_zero, List.set_cons_succ]) | skip); (first | (refine takeT 8 (v := ?_) rfl (by decide +kernel) (by decide +kernel) (by decide +kernel) (fun _ _ _ h => h) (by decide +kernel) (Or.inl ⟨by rfl, ?_⟩) ?_; rotate_left 1; (focus (intro W hW; have hcW := hW.at; (try dsimp only at hcW); go_simp; first | done | with_reducible rfl)); try simp only [Act.put, List.setIfInBounds_toArray, List.set_cons_zero, List.set_cons_succ]) | (refine takeW 8 (v := ?_) rfl (by decide +kernel) (by decide +kernel) (by decide +kernel) (fun _ _ _ h => h) (Or.inl ⟨by rfl, ?_⟩) ?_; rotate_left 1; (focus (intro W hW; go_simp; first | done | with_reducible rfl)); try simp only [Act.put, List.setIfInBounds_toArray, List.set_cons_zero, List.set_cons_succ]) | (refine takeW 8 rfl (by decide +kernel) (by decide +kernel) (by decide +kernel) (fun _ _ _ h => h) (Or.inr ⟨by rfl, rfl⟩) ?_; try simp only [Act.put, List.setIfInBounds_toArray, List.set_cons_zero, List.set_cons_succ]) | skip); (first | (refine takeT 9 (v := ?_) rfl (by decide +kernel) (by decide +kernel) (by decide +kernel) (fun _ _ _ h => h) (by decide +kernel) (Or.inl ⟨by rfl, ?_⟩) ?_; rotate_left 1; (focus (intro W hW; have hcW := hW.at; (try dsimp only at hcW); go_simp; first | done | with_reducible rfl)); try simp only [Act.put, List.setIfInBounds_toArray, List.set_cons_zero, List.set_cons_succ]) | (refine takeW 9 (v := ?_) rfl (by decide +kernel) (by decide +kernel) (by decide +kernel) (fun _ _ _ h => h) (Or.inl ⟨by rfl, ?_⟩) ?_; rotate_left 1; (focus (intro W hW; go_simp; first | done | with_reducible rfl)); try simp only [Act.put, List.setIfInBounds_toArray, List.set_cons_zero, List.set_cons_succ]) | (refine takeW 9 rfl (by decide +kernel) (by decide +kernel) (by decide +kernel) (fun _ _ _ h => h) (Or.inr ⟨by rfl, rfl⟩) ?_; try simp only [Act.put, List.setIfInBounds_toArray, List.set_cons_zero, List.set_cons_succ]) | skip))
        refine stepT 11 rfl (by decide +kernel) (by rfl) ?_
        intro K hK
        refine wp_storeB flatPk (.tmp 6) (.tmp 20) rfl g6 rfl _ rfl b6.out.1 rfl rfl rfl ?_
        intro y k6 hg6 hs6
        have hge6 : w.heap.size + 1 + 1 + 1 ≤ g6 := lb6
        have hN6 := hN0.out
        refine hK _ _ (.inl (by decide)) ?_
        clear hK K
        try simp only [Act.put, List.setIfInBounds_toArray, List.set_cons_zero, List.set_cons_succ]
        ((first | (refine takeT 12 (v := ?_) rfl (by decide +kernel) (by decide +kernel) (by decide +kernel) (fun _ _ _ h => h) (by decide +kernel) (Or.inl ⟨by rfl, ?_⟩) ?_; rotate_left 1; (focus (intro W hW; have hcW := hW.at; (try dsimp only at hcW); go_simp; first | done | with_reducible rfl)); try simp only [Act.put, List.setIfInBounds_toArray, List.set_cons_zero, List.set_cons_succ]) | (refine takeW 12 (v := ?_) rfl (by decide +kernel) (by decide +kernel) (by decide +kernel) (fun _ _ _ h => h) (Or.inl ⟨by rfl, ?_⟩) ?_; rotate_left 1; (focus (intro W hW; go_simp; first | done | with_reducible rfl)); try simp only [Act.put, List.setIfInBounds_toArray, List.set_cons_zero, List.set_cons_succ]) | (refine takeW 12 rfl (by decide +kernel) (by decide +kernel) (by decide +kernel) (fun _ _ _ h => h) (Or.inr ⟨by rfl, rfl⟩) ?_; try simp only [Act.put, List.setIfInBounds_toArray, List.set_cons_zero, List.set_cons_succ]) | skip))
        refine doneT (by kernel_rfl) ?_
        exact ⟨g6, A1, A', c1, c', F', rfl, k6, b6.out.2, hge6, M.out.grown_new hg6 (by omega), Asr.grown hA2.out hg6 b6.out.2 (by omega) hN.out, grown_block hg6 b0.out.1 (fun e => by injection e; omega), b0.out.2, grown_block hg6 b2.out.1 (fun e => by injection e; omega), b2.out.2, oka.out, ra.out.grown hg6 fun k hk => hk, by rw [hs6]; exact hN.out⟩
      · clear hi
        refine ⟨_, rfl, by rfl, ?_⟩
        intro K hK
        go_simp
        have lb6 := block_lt b2.out.1
        have nS : ¬ FD x1.heap.size := fun hf => Nat.lt_irrefl _ (((D s).ge hA.out _ hf).2)
        have bb := (Below.refl x1.heap.size x1).alloc (Nat.le_refl _) (pkZ)
        have hm := Mv.of_below FD bb
        have sm := smOf hm b0.out b1.out
        replace b0 := Lib.hid (hm.box b0.out)
        replace b1 := Lib.hid (hm.box b1.out)
        replace b2 := Lib.hid (hm.box b2.out)
        replace M := Lib.hid (M.out.trans hm)
        replace hA := Lib.hid (Asr.below hA.out bb hN.out)
        replace r1 := Lib.hid (r1.out.mv hm)
        replace hN := Lib.hid (Nat.le_trans hN.out hm.size)
        refine hK _ _ (.inr sm) ?_
        have b6 := Lib.hid (show (x1.alloc (pkZ)).heap[x1.heap.size]? = some (pkZ) ∧ ¬ FD x1.heap.size from ⟨alloc1 x1 (pkZ), nS⟩)
        clear hK K hm sm bb nS
        try simp only [Act.put, List.setIfInBounds_toArray, List.set_cons_zero, List.set_cons_succ]
        generalize x1.alloc (pkZ) = x4 at b0 b1 b2 M hN hA r1 b6 ⊢
        generalize x1.heap.size = g6 at b0 b1 b2 M hN hA r1 b6 lb6 ⊢
        refine stepTA [6] (by decide +kernel) (by decide) ?_
        intro i hi
        obtain rfl : i = 6 := by simpa using hi
        clear hi
        refine ⟨_, rfl, by rfl, ?_⟩
        intro K hK
        go_simp
        refine (KC.out x4 A1 c1 hA.out r1.out hN.out).mono ?_
        rintro e x5 ⟨A', c', F', rfl, oka, ra, hA2, hm⟩
        replace hA2 := Lib.hid hA2
        replace oka := Lib.hid oka
        replace ra := Lib.hid (ra.mono (G := fun k => k ≠ g6) fun k hk e => by subst e; exact hk.elim (hm.box b6.out).2 (fun h => h.elim (fun h => by have := hN0.out; have := lb6; omega) (fun h => by have := block_lt b6.out.1; omega)))
        have sm := smOf hm b0.out b1.out
        replace b0 := Lib.hid (hm.box b0.out)
        replace b1 := Lib.hid (hm.box b1.out)
        replace b2 := Lib.hid (hm.box b2.out)
        replace M := Lib.hid (M.out.trans hm)
        replace b6 := Lib.hid (hm.box b6.out)
        replace hN := Lib.hid (Nat.le_trans hN.out hm.size)
        refine hK _ _ (.inr sm) ?_
        clear hK K hm sm
        try simp only [Act.put, List.setIfInBounds_toArray, List.set_cons_zero, List.set_cons_succ]
        ((first | (refine takeT 7 (v := ?_) rfl (by decide +kernel) (by decide +kernel) (by decide +kernel) (fun _ _ _ h => h) (by decide +kernel) (Or.inl ⟨by rfl, ?_⟩) ?_; rotate_left 1; (focus (intro W hW; have hcW := hW.at; (try dsimp only at hcW); go_simp; first | done | with_reducible rfl)); try simp only [Act.put, List.setIfInBounds_toArray, List.set_cons_zero, List.set_cons_succ]) | (refine takeW 7 (v := ?_) rfl (by decide +kernel) (by decide +kernel) (by decide +kernel) (fun _ _ _ h => h) (Or.inl ⟨by rfl, ?_⟩) ?_; rotate_left 1; (focus (intro W hW; go_simp; first | done | with_reducible rfl)); try simp only [Act.put, List.setIfInBounds_toArray, List.set_cons_zero, List.set_cons_succ]) | (refine takeW 7 rfl (by decide +kernel) (by decide +kernel) (by decide +kernel) (fun _ _ _ h => h) (Or.inr ⟨by rfl, rfl⟩) ?_; try simp only [Act.put, List.setIfInBounds_toArray, List.set_cons_zero, List.set_cons_succ]) | skip); (first | (refine takeT 8 (v := ?_) rfl (by decide +kernel) (by decide +kernel) (by decide +kernel) (fun _ _ _ h => h) (by decide +kernel) (Or.inl ⟨by rfl, ?_⟩) ?_; rotate_left 1; (focus (intro W hW; have hcW := hW.at; (try dsimp only at hcW); go_simp; first | done | with_reducible rfl)); try simp only [Act.put, List.setIfInBounds_toArray, List.set_cons_zero, List.set_cons_succ]) | (refine takeW 8 (v := ?_) rfl (by decide +kernel) (by decide +kernel) (by decide +kernel) (fun _ _ _ h => h) (Or.inl ⟨by rfl, ?_⟩) ?_; rotate_left 1; (focus (intro W hW; go_simp; first | done | with_reducible rfl)); try simp only [Act.put, List.setIfInBounds_toArray, List.set_cons_zero, List.set_cons_succ]) | (refine takeW 8 rfl (by decide +kernel) (by decide +kernel) (by decide +kernel) (fun _ _ _ h => h) (Or.inr ⟨by rfl, rfl⟩) ?_; try simp only [Act.put, List.setIfInBounds_toArray, List.set_cons_zero, List.set_cons_succ]) | skip); (first | (refine takeT 9 (v := ?_) rfl (by decide +kernel) (by decide +kernel) (by decide +kernel) (fun _ _ _ h => h) (by decide +kernel) (Or.inl ⟨by rfl, ?_⟩) ?_; rotate_left 1; (focus (intro W hW; have hcW := hW.at; (try dsimp only at hcW); go_simp; first | done | with_reducible rfl)); try simp only [Act.put, List.setIfInBounds_toArray, List.set_cons_zero, List.set_cons_succ]) | (refine takeW 9 (v := ?_) rfl (by decide +kernel) (by decide +kernel) (by decide +kernel) (fun _ _ _ h => h) (Or.inl ⟨by rfl, ?_⟩) ?_; rotate_left 1; (focus (intro W hW; go_simp; first | done | with_reducible rfl)); try simp only [Act.put, List.setIfInBounds_toArray, List.set_cons_zero, List.set_cons_succ]) | (refine takeW 9 rfl (by decide +kernel) (by decide +kernel) (by decide +kernel) (fun _ _ _ h => h) (Or.inr ⟨by rfl, rfl⟩) ?_; try simp only [Act.put, List.setIfInBounds_toArray, List.set_cons_zero, List.set_cons_succ]) | skip))
        refine stepT 11 rfl (by decide +kernel) (by rfl) ?_
        intro K hK
        refine wp_storeB flatPk (.tmp 6) (.tmp 20) rfl g6 rfl _ rfl b6.out.1 rfl rfl rfl ?_
        intro y k6 hg6 hs6
        have hge6 : w.heap.size + 1 + 1 + 1 ≤ g6 := lb6
        have hN6 := hN0.out
        refine hK _ _ (.inl (by decide)) ?_
        clear hK K
        try simp only [Act.put, List.setIfInBounds_toArray, List.set_cons_zero, List.set_cons_succ]
        ((first | (refine takeT 12 (v := ?_) rfl (by decide +kernel) (by decide +kernel) (by decide +kernel) (fun _ _ _ h => h) (by decide +kernel) (Or.inl ⟨by rfl, ?_⟩) ?_; rotate_left 1; (focus (intro W hW; have hcW := hW.at; (try dsimp only at hcW); go_simp; first | done | with_reducible rfl)); try simp only [Act.put, List.setIfInBounds_toArray, List.set_cons_zero, List.set_cons_succ]) | (refine takeW 12 (v := ?_) rfl (by decide +kernel) (by decide +kernel) (by decide +kernel) (fun _ _ _ h => h) (Or.inl ⟨by rfl, ?_⟩) ?_; rotate_left 1; (focus (intro W hW; go_simp; first | done | with_reducible rfl)); try simp only [Act.put, List.setIfInBounds_toArray, List.set_cons_zero, List.set_cons_succ]) | (refine takeW 12 rfl (by decide +kernel) (by decide +kernel) (by decide +kernel) (fun _ _ _ h => h) (Or.inr ⟨by rfl, rfl⟩) ?_; try simp only [Act.put, List.setIfInBounds_toArray, List.set_cons_zero, List.set_cons_succ]) | skip))
        refine doneT (by kernel_rfl) ?_
        exact ⟨g6, A1, A', c1, c', F', rfl, k6, b6.out.2, hge6, M.out.grown_new hg6 (by omega), Asr.grown hA2.out hg6 b6.out.2 (by omega) hN.out, grown_block hg6 b0.out.1 (fun e => by injection e; omega), b0.out.2, grown_block hg6 b2.out.1 (fun e => by injection e; omega), b2.out.2, oka.out, ra.out.grown hg6 fun k hk => hk, by rw [hs6]; exact hN.out⟩
    · clear hi
      refine ⟨_, rfl, by rfl, ?_⟩
      intro K hK
      go_simp
      have lb6 := block_lt b2.out.1
      have nS : ¬ FD x0.heap.size := fun hf => Nat.lt_irrefl _ (((D s).ge hA.out _ hf).2)
      have bb := (Below.refl x0.heap.size x0).alloc (Nat.le_refl _) (pkZ)
      have hm := Mv.of_below FD bb
      have sm := smOf hm b0.out b1.out
      replace b0 := Lib.hid (hm.box b0.out)
      replace b1 := Lib.hid (hm.box b1.out)
      replace b2 := Lib.hid (hm.box b2.out)
      replace M := Lib.hid (M.out.trans hm)
      replace rp := Lib.hid (rp.out.mv hm)
      replace hA := Lib.hid (Asr.below hA.out bb hN.out)
      replace hN := Lib.hid (Nat.le_trans hN.out hm.size)
      refine hK _ _ (.inr sm) ?_
      have b6 := Lib.hid (show (x0.alloc (pkZ)).heap[x0.heap.size]? = some (pkZ) ∧ ¬ FD x0.heap.size from ⟨alloc1 x0 (pkZ), nS⟩)
      clear hK K hm sm bb nS
      try simp only [Act.put, List.setIfInBounds_toArray, List.set_cons_zero, List.set_cons_succ]
      generalize x0.alloc (pkZ) = x6 at b0 b1 b2 M rp hN hA b6 ⊢
      generalize x0.heap.size = g6 at b0 b1 b2 M rp hN hA b6 lb6 ⊢
      refine stepTA [3] (by decide +kernel) (by decide) ?_
      intro i hi
      obtain rfl : i = 3 := by simpa using hi
      clear hi
      refine ⟨_, rfl, by rfl, ?_⟩
      intro K hK
      go_simp
      refine (own_any x6 p A c (rp.out.rdT) Hok.out.len).mono ?_
      rintro e x7 ⟨A1, c1, rfl, r1, bb⟩
      have hm := Mv.of_below FD bb
      replace r1 := Lib.hid (r1.mono (G := fun k => ¬ FD k) fun k hk hf => by have := ((D s).ge hA.out k hf).2; omega)
      have sm := smOf hm b0.out b1.out
      replace b0 := Lib.hid (hm.box b0.out)
      replace b1 := Lib.hid (hm.box b1.out)
      replace b2 := Lib.hid (hm.box b2.out)
      replace M := Lib.hid (M.out.trans hm)
      replace hA := Lib.hid (Asr.below hA.out bb hN.out)
      replace b6 := Lib.hid (hm.box b6.out)
      replace hN := Lib.hid (Nat.le_trans hN.out hm.size)
      refine hK _ _ (.inr sm) ?_
      clear hK K hm sm bb
      try simp only [Act.put, List.setIfInBounds_toArray, List.set_cons_zero, List.set_cons_succ]
      refine stepTA [6] (by decide +kernel) (by decide) ?_
      intro i hi
      obtain rfl : i = 6 := by simpa using hi
      clear hi
      refine ⟨_, rfl, by rfl, ?_⟩
      intro K hK
      go_simp
      refine (KC.out x7 A1 c1 hA.out r1.out hN.out).mono ?_
      rintro e x8 ⟨A', c', F', rfl, oka, ra, hA2, hm⟩
      replace hA2 := Lib.hid hA2
      replace oka := Lib.hid oka
      replace ra := Lib.hid (ra.mono (G := fun k => k ≠ g6) fun k hk e => by subst e; exact hk.elim (hm.box b6.out).2 (fun h => h.elim (fun h => by have := hN0.out; have := lb6; omega) (fun h => by have := block_lt b6.out.1; omega)))
      have sm := smOf hm b0.out b1.out
      replace b0 := Lib.hid (hm.box b0.out)
      replace b1 := Lib.hid (hm.box b1.out)
      replace b2 := Lib.hid (hm.box b2.out)
      replace M := Lib.hid (M.out.trans hm)
      replace b6 := Lib.hid (hm.box b6.out)
      replace hN := Lib.hid (Nat.le_trans hN.out hm.size)
      refine hK _ _ (.inr sm) ?_
      clear hK K hm sm
      try simp only [Act.put, List.setIfInBounds_toArray, List.set_cons_zero, List.set_cons_succ]
      ((first | (refine takeT 7 (v := ?_) rfl (by decide +kernel) (by decide +kernel) (by decide +kernel) (fun _ _ _ h => h) (by decide +kernel) (Or.inl ⟨by rfl, ?_⟩) ?_; rotate_left 1; (focus (intro W hW; have hcW := hW.at; (try dsimp only at hcW); go_simp; first | done | with_reducible rfl)); try simp only [Act.put, List.setIfInBounds_toArray, List.set_cons_zero, List.set_cons_succ]) | (refine takeW 7 (v := ?_) rfl (by decide +kernel) (by decide +kernel) (by decide +kernel) (fun _ _ _ h => h) (Or.inl ⟨by rfl, ?_⟩) ?_; rotate_left 1; (focus (intro W hW; go_simp; first | done | with_reducible rfl)); try simp only [Act.put, List.setIfInBounds_toArray, List.set_cons_zero, List.set_cons_succ]) | (refine takeW 7 rfl (by decide +kernel) (by decide +kernel) (by decide +kernel) (fun _ _ _ h => h) (Or.inr ⟨by rfl, rfl⟩) ?_; try simp only [Act.put, List.setIfInBounds_toArray, List.set_cons_zero, List.set_cons_succ]) | skip); (first | (refine takeT 8 (v := ?_) rfl (by decide +kernel) (by decide +kernel) (by decide +kernel) (fun _ _ _ h => h) (by decide +kernel) (Or.inl ⟨by rfl, ?_⟩) ?_; rotate_left 1; (focus (intro W hW; have hcW := hW.at; (try dsimp only at hcW); go_simp; first | done | with_reducible rfl)); try simp only [Act.put, List.setIfInBounds_toArray, List.set_cons_zero, List.set_cons_succ]) | (refine takeW 8 (v := ?_) rfl (by decide +kernel) (by decide +kernel) (by decide +kernel) (fun _ _ _ h => h) (Or.inl ⟨by rfl, ?_⟩) ?_; rotate_left 1; (focus (intro W hW; go_simp; first | done | with_reducible rfl)); try simp only [Act.put, List.setIfInBounds_toArray, List.set_cons_zero, List.set_cons_succ]) | (refine takeW 8 rfl (by decide +kernel) (by decide +kernel) (by decide +kernel) (fun _ _ _ h => h) (Or.inr ⟨by rfl, rfl⟩) ?_; try simp only [Act.put, List.setIfInBounds_toArray, List.set_cons_zero, List.set_cons_succ]) | skip); (first | (refine takeT 9 (v := ?_) rfl (by decide +kernel) (by decide +kernel) (by decide +kernel) (fun _ _ _ h => h) (by decide +kernel) (Or.inl ⟨by rfl, ?_⟩) ?_; rotate_left 1; (focus (intro W hW; have hcW := hW.at; (try dsimp only at hcW); go_simp; first | done | with_reducible rfl)); try simp only [Act.put, List.setIfInBounds_toArray, List.set_cons_zero, List.set_cons_succ]) | (refine takeW 9 (v := ?_) rfl (by decide +kernel) (by decide +kernel) (by decide +kernel) (fun _ _ _ h => h) (Or.inl ⟨by rfl, ?_⟩) ?_; rotate_left 1; (focus (intro W hW; go_simp; first | done | with_reducible rfl)); try simp only [Act.put, List.setIfInBounds_toArray, List.set_cons_zero, List.set_cons_succ]) | (refine takeW 9 rfl (by decide +kernel) (by decide +kernel) (by decide +kernel) (fun _ _ _ h => h) (Or.inr ⟨by rfl, rfl⟩) ?_; try simp only [Act.put, List.setIfInBounds_toArray, List.set_cons_zero, List.set_cons_succ]) | skip))
      refine stepT 11 rfl (by decide +kernel) (by rfl) ?_
      intro K hK
      refine wp_storeB flatPk (.tmp 6) (.tmp 20) rfl g6 rfl _ rfl b6.out.1 rfl rfl rfl ?_
      intro y k6 hg6 hs6
      have hge6 : w.heap.size + 1 + 1 + 1 ≤ g6 := lb6
      have hN6 := hN0.out
      refine hK _ _ (.inl (by decide)) ?_
      clear hK K
      try simp only [Act.put, List.setIfInBounds_toArray, List.set_cons_zero, List.set_cons_succ]
      ((first | (refine takeT 12 (v := ?_) rfl (by decide +kernel) (by decide +kernel) (by decide +kernel) (fun _ _ _ h => h) (by decide +kernel) (Or.inl ⟨by rfl, ?_⟩) ?_; rotate_left 1; (focus (intro W hW; have hcW := hW.at; (try dsimp only at hcW); go_simp; first | done | with_reducible rfl)); try simp only [Act.put, List.setIfInBounds_toArray, List.set_cons_zero, List.set_cons_succ]) | (refine takeW 12 (v := ?_) rfl (by decide +kernel) (by decide +kernel) (by decide +kernel) (fun _ _ _ h => h) (Or.inl ⟨by rfl, ?_⟩) ?_; rotate_left 1; (focus (intro W hW; go_simp; first | done | with_reducible rfl)); try simp only [Act.put, List.setIfInBounds_toArray, List.set_cons_zero, List.set_cons_succ]) | (refine takeW 12 rfl (by decide +kernel) (by decide +kernel) (by decide +kernel) (fun _ _ _ h => h) (Or.inr ⟨by rfl, rfl⟩) ?_; try simp only [Act.put, List.setIfInBounds_toArray, List.set_cons_zero, List.set_cons_succ]) | skip))
      refine doneT (by kernel_rfl) ?_
      exact ⟨g6, A1, A', c1, c', F', rfl, k6, b6.out.2, hge6, M.out.grown_new hg6 (by omega), Asr.grown hA2.out hg6 b6.out.2 (by omega) hN.out, grown_block hg6 b0.out.1 (fun e => by injection e; omega), b0.out.2, grown_block hg6 b2.out.1 (fun e => by injection e; omega), b2.out.2, oka.out, ra.out.grown hg6 fun k hk => hk, by rw [hs6]; exact hN.out⟩
  clear X0 d0
  rintro act y ⟨g6, A1, A', c1, c', F', rfl, k6, n6, hge6, M, hA2, b0, n0, b2, n2, oka, ra, hNy⟩
  obtain ⟨hs1, hs2⟩ := Asr.sep_left HA.out HR.out Hd.out hA2 M hN0.out
  have nr : ∀ k, w.heap.size ≤ k → ¬ FR k := fun k hk hf => by have := (HFR.out k hf).2; omega
  have hLy : ∀ x, Mv (fun k => FD k ∨ FR k) w (fun k => F' k ∨ FR k) x → Laid x := fun x hx => HL.out.belowN (hx.belowN (fun k hk => hk.elim (fun h => (HFD.out k h).1) (fun h => (HFR.out k h).1)) hN0.out) hLN
  have N2 : ¬ (F' (w.heap.size + 1 + 1) ∨ FR (w.heap.size + 1 + 1)) := fun h => h.elim n2 (nr _ (by omega))
  have N6 : ¬ (F' g6 ∨ FR g6) := fun h => h.elim n6 (nr _ (by omega))
  have Hs1 := Lib.hid hs1
  have Hs2 := Lib.hid hs2
  have HLy := Lib.hid hLy
  have HN2 := Lib.hid N2
  have HN6 := Lib.hid N6
  have HNy := Lib.hid hNy
  have Hra := Lib.hid ra
  have Hoka := Lib.hid oka
  have K6 := Lib.hid k6
  have B0 := Lib.hid b0
  have B2 := Lib.hid b2
  have HA2 := Lib.hid hA2
  have HM := Lib.hid M
  have Hnr := Lib.hid nr
  have Hge6 := Lib.hid hge6
  have Hn0 := Lib.hid n0
  have Hn2 := Lib.hid n2
  have Hn6 := Lib.hid n6
  clear hs1 hs2 hLy N2 N6 hNy ra oka k6 b0 b2 hA2 M nr hge6 n0 n2 n6 q m1 m2 m3
  cases o
  · have HR1 : R = ((s', t, l), zeroP, false) := by rw [← HR0.out]; simp
    subst HR1
    go_wp2_with (refine wpl_storeB flatPk rfl (.tmp 4) (.tmp 29) rfl _ rfl _ rfl B2.out rfl rfl rfl ?_; intro y2 k2 hg2 hs2)
    refine bodyPost_ret (ret_cell_tmp flatPk rfl _ (w.heap.size + 1 + 1) rfl k2 rfl) rfl ?_
    exact ⟨none, 0, _, rfl, RdU.nil _, Asr.grown Hs1.out hg2 HN2.out (by have := hN0.out; omega) HNy.out, Hs2.out.grown_new hg2 (by omega)⟩
  · obtain ⟨E, hE⟩ : ∃ E : Int, (a.err : Int) = E := ⟨_, rfl⟩
    have KP := Lib.hid fun (X : World) (A : Option Addr) (c : Nat) (hX : Laid X) (hr : Rd X X.heap.size A c a.data) => pcheck_any X hX a Hoka.out A c hr
    rw [hE] at KP
    by_cases he : a.err = 0
    · have hE0 : E = 0 := by rw [← hE, he]; rfl
      subst hE0
      have He := Lib.hid he
      clear hE he
      obtain ⟨c0, c1, c2, c3, c4, c5, c6, c7, c8, c9⟩ := pk_cells K6.out
      go_wp2_with fail
      refine (KP.out y A' c' (HLy.out y Hs2.out) Hra.out.rdT).mono ?_
      rintro e y1 ⟨rfl, bb⟩
      clear c0 c1 c2 c3 c4 c5 c6 c7 c8 c9
      have K61 := Lib.hid ((bb.block _ (block_lt K6.out)).trans K6.out)
      have B21 := Lib.hid ((bb.block _ (block_lt B2.out)).trans B2.out)
      have Hs11 := Lib.hid (Asr.below Hs1.out bb HNy.out)
      have Hs21 := Lib.hid (Hs2.out.trans (Mv.of_below _ bb))
      have HN1 := Lib.hid (Nat.le_trans HNy.out bb.size)
      have Hra1 := Lib.hid (Hra.out.below bb)
      have B01 := Lib.hid ((bb.block _ (block_lt B0.out)).trans B0.out)
      have bb1 := Lib.hid bb
      clear bb
      go_wp2_with (refine wpl_loadB flatPk rfl (.tmp 6) rfl _ rfl K61.out rfl ?_)
      refine (ownU_any y1 a A' c' Hra1.out.rdT Hoka.out.len).mono ?_
      rintro e y2 ⟨A2, c2, rfl, hr2, bb⟩
      have hFge := fun k hk => (D s').ge HA2.out k hk
      have hd2 : ∀ k, F' k → ¬ FR k := fun k hk hf => (HM.out.new k hk).elim (fun h => Hd.out k h hf) (fun h => Hnr.out k h hf)
      have hRy := Asr.mv HR.out HM.out (fun k hk hf => Hd.out k hf hk) (fun k hk => (HFD.out k hk).1) hN0.out
      have hsy := bb1.out.size
      have hsy2 := bb.size
      have K62 := Lib.hid ((bb.block _ (block_lt K61.out)).trans K61.out)
      have B22 := Lib.hid ((bb.block _ (block_lt B21.out)).trans B21.out)
      have B02 := Lib.hid ((bb.block _ (block_lt B01.out)).trans B01.out)
      have HN2y := Lib.hid (Nat.le_trans HN1.out bb.size)
      have HA3 := Lib.hid (Asr.below (Asr.below HA2.out bb1.out HNy.out) bb HN1.out)
      have HR3 := Lib.hid (Asr.below (Asr.below hRy bb1.out HNy.out) bb HN1.out)
      have Hs23 := Lib.hid (Hs21.out.trans (Mv.of_below _ bb))
      have hlt6 := block_lt K61.out
      have Hr2 := Lib.hid hr2
      have Hd2 := Lib.hid hd2
      have HFge := Lib.hid hFge
      have Hlt6 := Lib.hid hlt6
      have Hsy := Lib.hid hsy
      have Hsy2 := Lib.hid hsy2
      obtain ⟨fb, hfb⟩ : ∃ fb, ((next t).2 == 0) = fb := ⟨_, rfl⟩
      have KS := Lib.hid fun (X : World) (h : ((W t).sep (snA N b l)).holds FR X) (A : Option Addr) (c : Nat) (hr : RdS (fun k => ¬ FR k) X A c a.data) (hN : N ≤ X.heap.size) => send_any hW (.iface T v) X b t l FR h a Hoka.out false A c hr Hl.out hN
      rw [hfb] at KS
      have Hfb := Lib.hid hfb
      clear hr2 bb hFge hd2 hRy hsy hsy2 hlt6 hfb
      go_wp2_with (first | (refine wpl_storeB flatPk rfl (.tmp 6) (.tmp 31) rfl _ rfl _ rfl K62.out rfl rfl rfl ?_; intro y3 k63 hg3 hs3; have B23 := Lib.hid (grown_block hg3 B22.out (fun e => by injection e; have := Hge6.out; omega)); have B03 := Lib.hid (grown_block hg3 B02.out (fun e => by injection e; have := Hge6.out; omega)); replace k63 := Lib.hid k63; replace hg3 := Lib.hid hg3; replace hs3 := Lib.hid hs3) | (refine wpl_loadB flatPk rfl (.tmp 6) rfl _ rfl k63.out rfl ?_) | (refine wpl_loadB flatPk rfl (.tmp 6) rfl _ rfl K62.out rfl ?_) | (refine wpl_loadB flatHost rfl (.tmp 2) rfl _ rfl B03.out rfl ?_))
      have hgN : N ≤ g6 := by have := hN0.out; have := Hge6.out; omega
      have hr3 : RdU (fun k => y1.heap.size ≤ k ∧ k < y2.heap.size) y3 A2 c2 a.data := Hr2.out.grown hg3.out fun k hk => by have := Hlt6.out; omega
      have HA4 := Asr.grown HA3.out hg3.out Hn6.out hgN HN2y.out
      have HR4 := Asr.grown HR3.out hg3.out (fun hf => HN6.out (.inr hf)) hgN HN2y.out
      have HN3y : N ≤ y3.heap.size := by rw [hs3.out]; exact HN2y.out
      have Hs24 := Hs23.out.grown_new hg3.out (by have := Hge6.out; omega)
      refine (KS.out y3 HR4 A2 c2 (hr3.mono (G := fun k => ¬ FR k) fun k hk => Hnr.out k (by have := Hs21.out.size; omega)).rds HN3y).mono ?_
      rintro e y4 ⟨rfl, S4, hR5, hm4⟩
      obtain ⟨hs5, hm5⟩ := Asr.sep_right HA4 HR4 Hd2.out hR5 hm4 HN3y
      have hk6 := hm5.box ⟨k63.out, HN6.out⟩
      have hb2 := hm5.box ⟨B23.out, HN2.out⟩
      have hr5 : RdU (fun k => (¬ (F' k ∨ S4 k) ∧ w.heap.size ≤ k) ∧ k ≠ w.heap.size + 1 + 1) y4 A2 c2 a.data := (hr3.keep fun k hk => hm5.keep k (by rw [hs3.out]; exact hk.2) (fun h => h.elim (fun h => by have := (HFge.out k h).2; have := Hsy.out; omega) (Hnr.out k (by have := Hs21.out.size; omega)))).mono fun k hk =>
        ⟨⟨fun h => h.elim (fun h => by have := (HFge.out k h).2; have := Hsy.out; omega) (fun h => (hm4.new k h).elim (Hnr.out k (by have := Hs21.out.size; omega)) (fun h => by rw [hs3.out] at h; omega)), by have := Hs21.out.size; omega⟩, by have := block_lt B21.out; omega⟩
      have HN4y : N ≤ y4.heap.size := Nat.le_trans HN3y hm5.size
      have Hs25 := Lib.hid (Hs24.trans hm5)
      have Hs15 := Lib.hid hs5
      have K64 := Lib.hid hk6.1
      have B24 := Lib.hid hb2.1
      have Hr5 := Lib.hid hr5
      have HN5 := Lib.hid HN4y
      have Hnb := Lib.hid hb2.2
      clear hgN hr3 HA4 HR4 HN3y Hs24 hR5 hm4 hs5 hm5 hk6 hb2 hr5 HN4y
      cases fb
      · have HR1 : R = ((s', (next t).1, l ++ [(a, false, (next t).2)]), zeroP, false) := by
          rw [← HR0.out, if_pos (by simpa using He.out), if_neg (fun h => by have := Hfb.out; rw [h] at this; cases this)]
        subst HR1
        go_wp2_with (refine wpl_storeB flatPk rfl (.tmp 4) (.tmp 36) rfl _ rfl _ rfl B24.out rfl rfl rfl ?_; intro y5 k2 hg5 hs5)
        refine bodyPost_ret (ret_cell_tmp flatPk rfl _ (w.heap.size + 1 + 1) rfl k2 rfl) rfl ?_
        exact ⟨none, 0, _, rfl, RdU.nil _, Asr.grown Hs15.out hg5 Hnb.out (by have := hN0.out; omega) HN5.out, Hs25.out.grown_new hg5 (by omega)⟩
      · have HR1 : R = ((s', (next t).1, l ++ [(a, false, (next t).2)]), a, true) := by
          rw [← HR0.out, if_pos (by simpa using He.out), if_pos (by have := Hfb.out; simpa using this)]
        subst HR1
        go_wp2_with (first | (refine wpl_loadB flatPk rfl (.tmp 6) rfl _ rfl K64.out rfl ?_) | (refine wpl_storeB flatPk rfl (.tmp 4) (.tmp 37) rfl _ rfl _ rfl B24.out rfl rfl rfl ?_; intro y5 k2 hg5 hs5))
        refine bodyPost_ret (ret_cell_tmp flatPk rfl _ (w.heap.size + 1 + 1) rfl k2 rfl) rfl ?_
        exact ⟨A2, c2, _, rfl, (Hr5.out.grown hg5 fun k hk => hk.2).mono fun k hk => hk.1, Asr.grown Hs15.out hg5 Hnb.out (by have := hN0.out; omega) HN5.out, Hs25.out.grown_new hg5 (by omega)⟩
    · have hE1 : (E != 0) = true := by rw [bne_iff_ne, ← hE]; omega
      have HR1 : R = ((s', t, l), zeroP, false) := by rw [← HR0.out, if_neg (fun h => he h.2)]
      subst HR1
      clear hE he
      obtain ⟨c0, c1, c2, c3, c4, c5, c6, c7, c8, c9⟩ := pk_cells K6.out
      go_wp2_with fail
      refine (KP.out y A' c' (HLy.out y Hs2.out) Hra.out.rdT).mono ?_
      rintro e y1 ⟨rfl, bb⟩
      clear c0 c1 c2 c3 c4 c5 c6 c7 c8 c9
      have K61 := Lib.hid ((bb.block _ (block_lt K6.out)).trans K6.out)
      have B21 := Lib.hid ((bb.block _ (block_lt B2.out)).trans B2.out)
      have Hs11 := Lib.hid (Asr.below Hs1.out bb HNy.out)
      have Hs21 := Lib.hid (Hs2.out.trans (Mv.of_below _ bb))
      have HN1 := Lib.hid (Nat.le_trans HNy.out bb.size)
      clear bb
      go_wp2_with (refine wpl_storeB flatPk rfl (.tmp 4) (.tmp 29) rfl _ rfl _ rfl B21.out rfl rfl rfl ?_; intro y2 k2 hg2 hs2)
      refine bodyPost_ret (ret_cell_tmp flatPk rfl _ (w.heap.size + 1 + 1) rfl k2 rfl) rfl ?_
      exact ⟨none, 0, _, rfl, RdU.nil _, Asr.grown Hs11.out hg2 HN2.out (by have := hN0.out; omega) HN1.out, Hs21.out.grown_new hg2 (by omega)⟩
end

end Go.Proofs.YtgihpgdjkanodaaGreatDoor

namespace Go.Proofs.YtgihpgdjkanodaaGreatDoor
open Go Go.RowKit

theorem triple_eq {α β γ : Type} {x y : α} {a b : β} {o q : γ} (h : (x, a, o) = (y, b, q)) : x = y ∧ a = b ∧ o = q := by
  cases h
  exact ⟨rfl, rfl, rfl⟩
/-- What ask does, of whatever device. -/
def AskC {N : Nat} {σ τ : Type} (D : σ → Asr N) (W : τ → Asr N) (b : Nat) (dv wv : Value) (ask : σ → τ → List SentP → Pkt → (σ × τ × List SentP) × Pkt × Bool) (J : σ → List SentP → Prop) : Prop :=
  ∀ (w : World) (s : σ) (t : τ) (l : List SentP) (S : Nat → Prop), (∃ l0 y, l = l0 ++ [y] ∧ J s l0) → (hostA D W b (s, t, l)).holds S w → ∀ (p : Pkt), p.Ok → ∀ (A : Option Addr) (c : Nat), RdS (fun k => ¬ S k) w A c p.data → l.length ≤ 1000000 → N ≤ w.heap.size → Laid w →
    Calls Tryz.prog 68 #[hostV dv wv b, pkV p A c] w (AnsPost (hostA D W b (ask s t l p).1) S w (ask s t l p).2)

section
variable {N : Nat} {σ τ : Type} {D : σ → Asr N} {W : τ → Asr N} {next : τ → τ × Nat} {wv dv : Value} {b : Nat} {ask : σ → τ → List SentP → Pkt → (σ × τ × List SentP) × Pkt × Bool}

theorem askC_dev {hear : σ → Pkt → σ × Pkt × Bool} {T : Nat} {v : Value} {K0 : Nat} {rv : Value} {P : σ → Prop} (hD : DevOK D hear T v K0 rv P) (hW : WireOK W next wv) {J : σ → List SentP → Prop} (hJP : ∀ s l, J s l → l.length ≤ 1000000 → P s) (b : Nat) (hLN : 0 < N) : AskC D W b (.iface T v) wv (askR hear next) J :=
  fun w s t l S hj h p ok A c hr hl hN hL => ask_any hD hW w b s (by obtain ⟨l0, y, rfl, h0⟩ := hj; exact hJP s l0 h0 (by rw [List.length_append] at hl; omega)) t l S h p ok A c hr hl hN hL hLN

/-- Without a device. -/
def askN {τ : Type} (s : Unit) (t : τ) (l : List SentP) (_ : Pkt) : (Unit × τ × List SentP) × Pkt × Bool := ((s, t, l), zeroP, false)
set_option maxHeartbeats 400000 in
set_option maxRecDepth 100000 in
theorem askC_nil (W : τ → Asr N) (b : Nat) (wv : Value) (J : Unit → List SentP → Prop) : AskC (fun _ : Unit => noA N) W b .nilIface wv askN J := by
  intro w s t l S _ h p ok A c hr hl hN hL
  have q := isNil_dev0
  obtain ⟨g0, g1, g2, g3, g4⟩ := alloc3 w (.cells #[.nilIface, wv, noteV b] 127) (pkB p A c) pkZ
  have d0 := block_at g0 (i := 0) (v := .nilIface) rfl
  have hlt : ∀ k, S k → k < w.heap.size := fun k hk => ((hostA (fun _ : Unit => noA N) W b (s, t, l)).ge h k hk).2
  have HN := Lib.hid hN
  have H4 := Lib.hid (Asr.below h g4 hN)
  have HM := Lib.hid (Mv.of_below S g4)
  have Hlt := Lib.hid hlt
  have B2 := Lib.hid g2
  have Hsz := Lib.hid g3
  clear g0 g1 g2 g3 g4 hlt h hr hl hN hL ok
  go_enter Tryz.func68, Tryz.ntmps68
  go_wp2_with (refine wpl_storeB flatPk rfl (.tmp 4) (.tmp 11) rfl _ rfl _ rfl B2.out rfl rfl rfl ?_; intro y2 k2 hg2 hs2)
  refine bodyPost_ret (ret_cell_tmp flatPk rfl _ (w.heap.size + 1 + 1) rfl k2 rfl) rfl ?_
  exact ⟨none, 0, S, rfl, RdU.nil _, Asr.grown H4.out hg2 (fun hf => by have := Hlt.out _ hf; omega) (by have := HN.out; omega) (by have := HN.out; have := Hsz.out; omega), HM.out.grown_new hg2 (by omega)⟩

/-- What speaking comes to. -/
def speakR (next : τ → τ × Nat) (ask : σ → τ → List SentP → Pkt → (σ × τ × List SentP) × Pkt × Bool) (x : σ × τ × List SentP) (p : Pkt) : (σ × τ × List SentP) × Pkt × Bool :=
  if (next x.2.1).2 = 0 then ask x.1 (next x.2.1).1 (x.2.2 ++ [(p, true, (next x.2.1).2)]) p else ((x.1, (next x.2.1).1, x.2.2 ++ [(p, true, (next x.2.1).2)]), zeroP, false)

set_option maxHeartbeats 1600000 in
set_option maxRecDepth 100000 in
theorem speak_any {J : σ → List SentP → Prop} (hW : WireOK W next wv) (hA : AskC D W b dv wv ask J) (hLN : 0 < N) (w : World) (x : σ × τ × List SentP) (hj : J x.1 x.2.2) (S : Nat → Prop) (h : (hostA D W b x).holds S w) (p : Pkt) (ok : p.Ok) (A : Option Addr) (c : Nat)
    (hr : RdS (fun k => ¬ S k) w A c p.data) (hl : x.2.2.length ≤ 999999) (hN : N ≤ w.heap.size) (hL : Laid w) :
    Calls Tryz.prog 51 #[hostV dv wv b, pkV p A c] w (AnsPost (hostA D W b (speakR next ask x p).1) S w (speakR next ask x p).2) := by
  obtain ⟨s, t, l⟩ := x
  obtain ⟨FD, FR, hA1, hR, hd, rfl⟩ := Asr.sep_eq h
  replace hA1 : (D s).holds FD w := hA1
  replace hR : ((W t).sep (snA N b l)).holds FR w := hR
  obtain ⟨g0, g1, g2, g3, g4⟩ := alloc3 w (.cells #[dv, wv, noteV b] 127) (pkB p A c) pkZ
  have hge : ∀ k, (FD k ∨ FR k) → N ≤ k ∧ k < w.heap.size := fun k hk => (hostA D W b (s, t, l)).ge h k hk
  have hr1 := hr.below g4
  have hN1 := Nat.le_trans hN g4.size
  have KS := Lib.hid (send_any hW dv _ b t l FR (Asr.below hR g4 hN) p ok true A c (hr1.mono fun k hk hf => hk (.inr hf)) (by show l.length ≤ 1000000; have : l.length ≤ 999999 := hl; omega) hN1)
  have KA := Lib.hid fun (X : World) (S : Nat → Prop) (h : (hostA D W b (s, (next t).1, l ++ [(p, true, (next t).2)])).holds S X) (hr : RdS (fun k => ¬ S k) X A c p.data) (hN : N ≤ X.heap.size) (hL : Laid X) => hA X s (next t).1 (l ++ [(p, true, (next t).2)]) S ⟨_, _, rfl, hj⟩ h p ok A c hr (by rw [List.length_append]; show l.length + 1 ≤ 1000000; have : l.length ≤ 999999 := hl; omega) hN hL
  obtain ⟨R, hR0⟩ : ∃ R, speakR next ask (s, t, l) p = R := ⟨_, rfl⟩
  rw [hR0]
  unfold speakR at hR0
  simp only at hR0
  obtain ⟨fb, hfb⟩ : ∃ fb, ((next t).2 == 0) = fb := ⟨_, rfl⟩
  rw [hfb] at KS
  obtain ⟨x', a, o⟩ := R
  have HR0 := Lib.hid hR0
  have Hfb := Lib.hid hfb
  have B0 := Lib.hid g0
  have B1 := Lib.hid g1
  have B2 := Lib.hid g2
  have Hsz := Lib.hid g3
  have Hb := Lib.hid g4
  have HN := Lib.hid hN
  have HN1 := Lib.hid hN1
  have HL := Lib.hid hL
  have Hge := Lib.hid hge
  have HA1 := Lib.hid (Asr.below hA1 g4 hN)
  have HR := Lib.hid (Asr.below hR g4 hN)
  have Hd := Lib.hid hd
  have Hr1 := Lib.hid hr1
  clear hR0 hfb g0 g1 g2 g3 g4 hN hN1 hL hge hA1 hR hd hr1 h hr hl ok hj
  go_enter Tryz.func51, Tryz.ntmps51
  go_wp2_with (first | (refine wpl_loadB flatHost rfl (.tmp 2) rfl _ rfl B0.out rfl ?_) | (refine wpl_loadB flatPk rfl (.tmp 3) rfl _ rfl B1.out rfl ?_))
  refine KS.out.mono ?_
  rintro e y ⟨rfl, S1, hR1, hm1⟩
  obtain ⟨hs, hm⟩ := Asr.sep_right HA1.out HR.out Hd.out hR1 hm1 HN1.out
  have hnew : ∀ k, w.heap.size ≤ k → ¬ (FD k ∨ FR k) := fun k hk hf => by have := (Hge.out k hf).2; omega
  have b0 := hm.box ⟨B0.out, hnew _ (by omega)⟩
  have b1 := hm.box ⟨B1.out, hnew _ (by omega)⟩
  have b2 := hm.box ⟨B2.out, hnew _ (by omega)⟩
  have hM := (Mv.of_below (fun k => FD k ∨ FR k) Hb.out).trans hm
  have hr2 := Hr1.out.mv hm
  have hNy := Nat.le_trans HN1.out hm.size
  have hLy := HL.out.belowN (hM.belowN (fun k hk => (Hge.out k hk).1) HN.out) hLN
  have Hs := Lib.hid hs
  have C0 := Lib.hid b0.1
  have C1 := Lib.hid b1.1
  have C2 := Lib.hid b2.1
  have N2 := Lib.hid b2.2
  have HM := Lib.hid hM
  have Hr2 := Lib.hid hr2
  have HNy := Lib.hid hNy
  have HLy := Lib.hid hLy
  clear hs hm hm1 hR1 b0 b1 b2 hM hr2 hNy hLy hnew
  cases fb
  · have HR1 : (x', a, o) = ((s, (next t).1, l ++ [(p, true, (next t).2)]), zeroP, false) := by
      rw [← HR0.out, if_neg (fun h => by have := Hfb.out; rw [h] at this; cases this)]
    obtain ⟨rfl, rfl, rfl⟩ := triple_eq HR1
    go_wp2_with (refine wpl_storeB flatPk rfl (.tmp 4) (.tmp 10) rfl _ rfl _ rfl C2.out rfl rfl rfl ?_; intro y5 k2 hg5 hs5)
    refine bodyPost_ret (ret_cell_tmp flatPk rfl _ (w.heap.size + 1 + 1) rfl k2 rfl) rfl ?_
    exact ⟨none, 0, _, rfl, RdU.nil _, Asr.grown Hs.out hg5 N2.out (by have := HN.out; omega) HNy.out, HM.out.grown_new hg5 (by omega)⟩
  · have HR1 : (x', a, o) = ask s (next t).1 (l ++ [(p, true, (next t).2)]) p := by
      rw [← HR0.out, if_pos (by have := Hfb.out; simpa using this)]
    rw [← HR1] at KA
    clear HR1
    go_wp2_with (first | (refine wpl_loadB flatHost rfl (.tmp 2) rfl _ rfl C0.out rfl ?_) | (refine wpl_loadB flatPk rfl (.tmp 3) rfl _ rfl C1.out rfl ?_))
    refine (KA.out y _ Hs.out Hr2.out HNy.out HLy.out).mono ?_
    rintro e z ⟨A2, c2, S2, rfl, hr3, hs3, hm3⟩
    have b2 := hm3.box ⟨C2.out, N2.out⟩
    have D2 := Lib.hid b2.1
    have M2 := Lib.hid b2.2
    have Hr3 := Lib.hid hr3
    have Hs3 := Lib.hid hs3
    have HM3 := Lib.hid (HM.out.trans hm3)
    have HNz := Lib.hid (Nat.le_trans HNy.out hm3.size)
    clear b2 hr3 hs3 hm3
    go_wp2_with (refine wpl_storeB flatPk rfl (.tmp 4) (.tmp 14) rfl _ rfl _ rfl D2.out rfl rfl rfl ?_; intro y5 k2 hg5 hs5)
    refine bodyPost_ret (ret_cell_tmp flatPk rfl _ (w.heap.size + 1 + 1) rfl k2 rfl) rfl ?_
    exact ⟨A2, c2, S2, rfl, (Hr3.out.grown hg5 fun k hk e => by have := block_lt C2.out; omega).mono fun k hk => ⟨hk.1, by have := block_lt C2.out; omega⟩, Asr.grown Hs3.out hg5 M2.out (by have := HN.out; omega) HNz.out, HM3.out.grown_new hg5 (by omega)⟩
end

end Go.Proofs.YtgihpgdjkanodaaGreatDoor

