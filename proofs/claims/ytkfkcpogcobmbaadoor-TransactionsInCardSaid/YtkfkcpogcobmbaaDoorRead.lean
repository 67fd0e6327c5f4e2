/-
  Helper text: the host reads; no statement is proved here.
-/
import Derived.Test.YtkfkcpogcobmbaaDoorTok
namespace Go.Proofs.YtkfkcpogcobmbaaDoor
open Go Go.RowKit

theorem Asr.drew {N : Nat} {A : Asr N} {F : Nat → Prop} {w : World} (h : A.holds F w) : A.holds F w.drew := A.loc h (Nat.le_refl _) fun _ _ => rfl
/-- An outcome is returned. -/
def OutPost {N : Nat} (A : Asr N) (S : Nat → Prop) (w : World) (r : Nat × List UInt8) (e : Ending) (w' : World) : Prop :=
  ∃ A' c' S', e = .returned (.agg #[.int .u8 (r.1 : Int), .slice A' r.2.length c']) ∧ RdU (fun k => ¬ S' k ∧ w.heap.size ≤ k) w' A' c' r.2 ∧ A.holds S' w' ∧ Mv S w S' w'

section
variable {N : Nat} {σ τ : Type} {D : σ → Asr N} {W : τ → Asr N} {next : τ → τ × Nat} {wv dv : Value} {b : Nat} {ask : σ → τ → List SentP → Pkt → (σ × τ × List SentP) × Pkt × Bool}

/-- What reading comes to. -/
def readR (next : τ → τ × Nat) (ask : σ → τ → List SentP → Pkt → (σ × τ × List SentP) × Pkt × Bool) (x : σ × τ × List SentP) (t : Tr) : (σ × τ × List SentP) × Nat × List UInt8 :=
  let r := speakR next ask x (tokP t)
  if r.2.1.pid ≠ 3 ∧ r.2.1.pid ≠ 11 then (r.1, hsR t.what t.iso r.2.1.pid, [])
  else if t.max < (r.2.1.data.length : Int) then (r.1, 5, [])
  else if t.iso = true then (r.1, 1, r.2.1.data)
  else ((speakR next ask r.1 ackP).1, if r.2.1.pid = dpid t.tog then (1, r.2.1.data) else (6, []))

/-- Asking makes the list longer by at most one. -/
def AskLen (ask : σ → τ → List SentP → Pkt → (σ × τ × List SentP) × Pkt × Bool) : Prop := ∀ s t l p, (ask s t l p).1.2.2.length ≤ l.length + 1
theorem AskLen.speak (h : AskLen ask) (next : τ → τ × Nat) (x : σ × τ × List SentP) (p : Pkt) : (speakR next ask x p).1.2.2.length ≤ x.2.2.length + 2 := by
  unfold speakR
  split
  · have := h x.1 (next x.2.1).1 (x.2.2 ++ [(p, true, (next x.2.1).2)]) p
    rw [List.length_append] at this
    exact this
  · show (x.2.2 ++ _).length ≤ _
    rw [List.length_append]
    simp

/-- What holds between the device and what was sent stays so. -/
structure AskJ (ask : σ → τ → List SentP → Pkt → (σ × τ × List SentP) × Pkt × Bool) (J : σ → List SentP → Prop) : Prop where
  add : ∀ s l y, J s l → J s (l ++ [y])
  ask : ∀ s t l y p, J s l → J (ask s t (l ++ [y]) p).1.1 (ask s t (l ++ [y]) p).1.2.2
theorem AskJ.speak {J : σ → List SentP → Prop} (h : AskJ ask J) (next : τ → τ × Nat) (x : σ × τ × List SentP) (p : Pkt) (hj : J x.1 x.2.2) : J (speakR next ask x p).1.1 (speakR next ask x p).1.2.2 := by
  unfold speakR
  split
  · exact h.ask _ _ _ _ _ hj
  · exact h.add _ _ _ hj

set_option maxHeartbeats 3200000 in
set_option maxRecDepth 100000 in
theorem read_any {J : σ → List SentP → Prop} (hW : WireOK W next wv) (hA : AskC D W b dv wv ask J) (hAl : AskLen ask) (hAj : AskJ ask J) (hLN : 0 < N) (w : World) (x : σ × τ × List SentP) (hj : J x.1 x.2.2) (S : Nat → Prop) (h : (hostA D W b x).holds S w) (t : Tr) (ok : t.Ok) (A : Option Addr) (c : Nat)
    (hl : x.2.2.length ≤ 999990) (hN : N ≤ w.heap.size) (hL : Laid w) :
    Calls Tryd.prog 54 #[hostV dv wv b, trV t A c] w (OutPost (hostA D W b (readR next ask x t).1) S w (readR next ask x t).2) := by
  have hlen := hAl.speak next x (tokP t)
  have hj1 := hAj.speak next x (tokP t) hj
  have KS := Lib.hid fun (X : World) (hX : (hostA D W b x).holds S X) (hN : N ≤ X.heap.size) (hL : Laid X) => speak_any hW hA hLN X x hj S hX (tokP t) (tokP_ok ok) none 0 (RdS.nil X) (by omega) hN hL
  have KT := Lib.hid fun X => token_any X t A c
  obtain ⟨R, hR0⟩ : ∃ R, readR next ask x t = R := ⟨_, rfl⟩
  rw [hR0]
  unfold readR at hR0
  generalize speakR next ask x (tokP t) = r at *
  obtain ⟨x1, a, o⟩ := r
  simp only at KS hR0 hlen hj1
  have KA := Lib.hid fun (X : World) (S : Nat → Prop) (hX : (hostA D W b x1).holds S X) (hN : N ≤ X.heap.size) (hL : Laid X) => speak_any hW hA hLN X x1 hj1 S hX ackP ackP_ok none 0 (RdS.nil X) (by omega) hN hL
  generalize speakR next ask x1 ackP = r2 at *
  obtain ⟨x2, a2, o2⟩ := r2
  obtain ⟨x', res, out⟩ := R
  simp only at KA hR0
  have HR0 := Lib.hid hR0
  have hge : ∀ k, S k → N ≤ k ∧ k < w.heap.size := fun k hk => (hostA D W b x).ge h k hk
  obtain ⟨g0, g1, g2, g3, g4⟩ := alloc3 w (.cells #[dv, wv, noteV b] 108) (trB t A c) (.cells #[.int .u8 0, .slice none 0 0] 56)
  have X0 : Hid (Mv S w S _ ∧ (_ ∧ ¬ S w.heap.size) ∧ (_ ∧ ¬ S (w.heap.size + 1)) ∧ (_ ∧ ¬ S (w.heap.size + 1 + 1)) ∧ (hostA D W b x).holds S _ ∧ _ = w.heap.size + 1 + 1 + 1) :=
    Lib.hid ⟨Mv.of_below S g4, ⟨g0, fun hf => by have := (hge _ hf).2; omega⟩, ⟨g1, fun hf => by have := (hge _ hf).2; omega⟩, ⟨g2, fun hf => by have := (hge _ hf).2; omega⟩, Asr.below h g4 hN, g3⟩
  have hN0 := Lib.hid hN
  have HL := Lib.hid hL
  have Hge := Lib.hid hge
  clear g0 g1 g2 g3 g4 hN hL hge h hl ok hR0 hlen hA hAl hW hAj hj hj1
  go_enter Tryd.func54, Tryd.ntmps54
  go_wp2
  refine region_inv (fun a₀ act y => ∃ (g5 : Nat) (A' : Option Addr) (c' : Nat) (S' : Nat → Prop),
    act = { tmps := #[hostV dv wv b, trV t A c, .pointer (some ⟨w.heap.size, 0, none⟩), .pointer (some ⟨w.heap.size + 1, 0, none⟩), .pointer (some ⟨w.heap.size + 1 + 1, 0, none⟩), .pointer (some ⟨g5, 0, none⟩), .bool o,
        .tuple #[pkV a A' c', .bool o], hostV dv wv b, trV t A c, pkV (tokP t) none 0, .tuple #[pkV a A' c', .bool o], pkV a A' c', .bool o, undef, undef, undef, undef, undef, undef, undef, undef, undef, undef, undef, undef, undef, undef, undef, undef, undef, undef, undef, undef, undef, undef, undef, undef, undef, undef, undef, undef, undef, undef, undef, undef, undef, undef, undef, undef], defers := [] } ∧
    y.heap[g5]? = some (pkB a A' c') ∧ ¬ S' g5 ∧ w.heap.size + 1 + 1 + 1 ≤ g5 ∧ Mv S w S' y ∧ (hostA D W b x1).holds S' y ∧ (y.heap[w.heap.size]? = some (.cells #[dv, wv, noteV b] 108) ∧ ¬ S' w.heap.size) ∧
    (y.heap[w.heap.size + 1]? = some (trB t A c) ∧ ¬ S' (w.heap.size + 1)) ∧ (y.heap[w.heap.size + 1 + 1]? = some (.cells #[.int .u8 0, .slice none 0 0] 56) ∧ ¬ S' (w.heap.size + 1 + 1)) ∧ RdU (fun k => (¬ S' k ∧ w.heap.size + 1 + 1 + 1 ≤ k) ∧ k ≠ g5) y A' c' a.data ∧ N ≤ y.heap.size) ?_ ?_
  · refine startTP (S := fun a => a.block = w.heap.size ∨ a.block = w.heap.size + 1) (T := [8]) (fun X => Mv S w S X ∧ (X.heap[w.heap.size]? = some (.cells #[dv, wv, noteV b] 108) ∧ ¬ S w.heap.size) ∧ (X.heap[w.heap.size + 1]? = some (trB t A c) ∧ ¬ S (w.heap.size + 1)) ∧ (X.heap[w.heap.size + 1 + 1]? = some (.cells #[.int .u8 0, .slice none 0 0] 56) ∧ ¬ S (w.heap.size + 1 + 1)) ∧ (hostA D W b x).holds S X ∧ X.heap.size = w.heap.size + 1 + 1 + 1) 10 (by kernel_rfl) rfl (l := #[false, false, false, false, false, false, false, false, false, false]) rfl
      ⟨X0.out.1.drew, X0.out.2.1, X0.out.2.2.1, X0.out.2.2.2.1, (hostA D W b x).loc X0.out.2.2.2.2.1 (Nat.le_refl _) fun _ _ => rfl, X0.out.2.2.2.2.2⟩ ?_
    clear X0
    rintro x0 ⟨M, b0, b1, b2, hH, hsz⟩
    have hN : Hid (N ≤ x0.heap.size) := Lib.hid (Nat.le_trans hN0.out M.size)
    obtain ⟨c0, c1, c2, c3, c4, c5, c6⟩ := tr_cells b1.1
    have d0 := block_at b0.1 (i := 0) (v := dv) rfl
    have d1 := block_at b0.1 (i := 1) (v := wv) rfl
    have d2 := block_at b0.1 (i := 2) (v := noteV b) rfl
    replace M := Lib.hid M
    replace b0 := Lib.hid b0
    replace b1 := Lib.hid b1
    replace b2 := Lib.hid b2
    replace hH := Lib.hid hH
    have hsz0 := Lib.hid hsz
    clear hsz
    ((first | (refine takeT 0 (v := ?_) rfl (by decide +kernel) (by decide +kernel) (by decide +kernel) (fun _ _ _ h => h) (by decide +kernel) (Or.inl ⟨by rfl, ?_⟩) ?_; rotate_left 1; (focus (intro W hW; have hcW := hW.at; (try dsimp only at hcW); go_simp; first | done | with_reducible rfl)); try simp only [Act.put, List.setIfInBounds_toArray, List.set_cons_zero, List.set_cons_succ]) | (refine takeW 0 (v := ?_) rfl (by decide +kernel) (by decide +kernel) (by decide +kernel) (fun _ _ _ h => h) (Or.inl ⟨by rfl, ?_⟩) ?_; rotate_left 1; (focus (intro W hW; go_simp; first | done | with_reducible rfl)); try simp only [Act.put, List.setIfInBounds_toArray, List.set_cons_zero, List.set_cons_succ]) | (refine takeW 0 rfl (by decide +kernel) (by decide +kernel) (by decide +kernel) (fun _ _ _ h => h) (Or.inr ⟨by rfl, rfl⟩) ?_; try simp only [Act.put, List.setIfInBounds_toArray, List.set_cons_zero, List.set_cons_succ]) | skip); (first | (refine takeT 1 (v := ?_) rfl (by decide +kernel) (by decide +kernel) (by decide +kernel) (fun _ _ _ h => h) (by decide +kernel) (Or.inl ⟨by rfl, ?_⟩) ?_; rotate_left 1; (focus (intro W hW; have hcW := hW.at; (try dsimp only at hcW); go_simp; first | done | with_reducible rfl)); try simp only [Act.put, List.setIfInBounds_toArray, List.set_cons_zero, List.set_cons_succ]) | (refine takeW 1 (v := ?_) rfl (by decide +kernel) (by decide +kernel) (by decide +kernel) (fun _ _ _ h => h) (Or.inl ⟨by rfl, ?_⟩) ?_; rotate_left 1; (focus (intro W hW; go_simp; first | done | with_reducible rfl)); try simp only [Act.put, List.setIfInBounds_toArray, List.set_cons_zero, List.set_cons_succ]) | (refine takeW 1 rfl (by decide +kernel) (by decide +kernel) (by decide +kernel) (fun _ _ _ h => h) (Or.inr ⟨by rfl, rfl⟩) ?_; try simp only [Act.put, List.setIfInBounds_toArray, List.set_cons_zero, List.set_cons_succ]) | skip))
    clear d0 d1 d2 c0 c1 c2 c3 c4 c5 c6
    refine stepTA [2, 7] (by decide +kernel) (by decide) ?_
    intro i hi
    rcases (by simpa using hi : i = 2 ∨ i = 7) with rfl | rfl
    · clear hi
      refine ⟨_, rfl, by rfl, ?_⟩
      intro K hK
      go_simp
      refine (KT.out x0).mono ?_
      rintro e u1 ⟨rfl, bb⟩
      have hm := Mv.of_below S bb
      have sm := smOf hm b0.out b1.out
      replace b0 := Lib.hid (hm.box b0.out)
      replace b1 := Lib.hid (hm.box b1.out)
      replace b2 := Lib.hid (hm.box b2.out)
      replace M := Lib.hid (M.out.trans hm)
      replace hH := Lib.hid (Asr.below hH.out bb hN.out)
      replace hN := Lib.hid (Nat.le_trans hN.out hm.size)
      refine hK _ _ (.inr sm) ?_
      clear hK K hm sm bb
      try simp only [Act.put, List.setIfInBounds_toArray, List.set_cons_zero, List.set_cons_succ]
      refine stepTA [3, 7] (by decide +kernel) (by decide) ?_
      intro i hi
      rcases (by simpa using hi : i = 3 ∨ i = 7) with rfl | rfl
      · clear hi
        refine ⟨_, rfl, by rfl, ?_⟩
        intro K hK
        go_simp
        refine (KS.out u1 hH.out hN.out (HL.out.belowN (M.out.belowN (fun k hk => (Hge.out k hk).1) hN0.out) hLN)).mono ?_
        rintro e u2 ⟨A', c', S', rfl, ra, hH2, hm⟩
        replace hH2 := Lib.hid hH2
        have hsx := block_lt b2.out.1
        replace ra := Lib.hid (ra.lt.mono (G := fun k => (¬ S' k ∧ w.heap.size + 1 + 1 + 1 ≤ k) ∧ k < u2.heap.size) fun k hk => ⟨⟨hk.1.1, by omega⟩, hk.2⟩)
        clear hsx
        have sm := smOf hm b0.out b1.out
        replace b0 := Lib.hid (hm.box b0.out)
        replace b1 := Lib.hid (hm.box b1.out)
        replace b2 := Lib.hid (hm.box b2.out)
        replace M := Lib.hid (M.out.trans hm)
        replace hN := Lib.hid (Nat.le_trans hN.out hm.size)
        refine hK _ _ (.inr sm) ?_
        clear hK K hm sm
        try simp only [Act.put, List.setIfInBounds_toArray, List.set_cons_zero, List.set_cons_succ]
        ((first | (refine takeT 4 (v := ?_) rfl (by decide +kernel) (by decide +kernel) (by decide +kernel) (fun _ _ _ h => h) (by decide +kernel) (Or.inl ⟨by rfl, ?_⟩) ?_; rotate_left 1; (focus (intro W hW; have hcW := hW.at; (try dsimp only at hcW); go_simp; first | done | with_reducible rfl)); try simp only [Act.put, List.setIfInBounds_toArray, List.set_cons_zero, List.set_cons_succ]) | (refine takeW 4 (v := ?_) rfl (by decide +kernel) (by decide +kernel) (by decide +kernel) (fun _ _ _ h => h) (Or.inl ⟨by rfl, ?_⟩) ?_; rotate_left 1; (focus (intro W hW; go_simp; first | done | with_reducible rfl)); try simp only [Act.put, List.setIfInBounds_toArray, List.set_cons_zero, List.set_cons_succ]) | (refine takeW 4 rfl (by decide +kernel) (by decide +kernel) (by decide +kernel) (fun _ _ _ h => h) (Or.inr ⟨by rfl, rfl⟩) ?_; try simp only [Act.put, List.setIfInBounds_toArray, List.set_cons_zero, List.set_cons_succ]) | skip); (first | (refine takeT 5 (v := ?_) rfl (by decide +kernel) (by decide +kernel) (by decide +kernel) (fun _ _ _ h => h) (by decide +kernel) (Or.inl ⟨by rfl, ?_⟩) ?_; rotate_left 1; (focus (intro W hW; have hcW := hW.at; (try dsimp only at hcW); go_simp; first | done | with_reducible rfl)); try simp only [Act.put, List.setIfInBounds_toArray, List.set_cons_zero, List.set_cons_succ]) | (refine takeW 5 (v := ?_) rfl (by decide +kernel) (by decide +kernel) (by decide +kernel) (fun _ _ _ h => h) (Or.inl ⟨by rfl, ?_⟩) ?_; rotate_left 1; (focus (intro W hW; go_simp; first | done | with_reducible rfl)); try simp only [Act.put, List.setIfInBounds_toArray, List.set_cons_zero, List.set_cons_succ]) | (refine takeW 5 rfl (by decide +kernel) (by decide +kernel) (by decide +kernel) (fun _ _ _ h => h) (Or.inr ⟨by rfl, rfl⟩) ?_; try simp only [Act.put, List.setIfInBounds_toArray, List.set_cons_zero, List.set_cons_succ]) | skip); (first | (refine takeT 6 (v := ?_) rfl (by decide +kernel) (by decide +kernel) (by decide +kernel) (fun _ _ _ h => h) (by decide +kernel) (Or.inl ⟨by rfl, ?_⟩) ?_; rotate_left 1; (focus (intro W hW; have hcW := hW.at; (try dsimp only at hcW); go_simp; first | done | with_reducible rfl)); try simp only [Act.put, List.setIfInBounds_toArray, List.set_cons_zero, List.set_cons_succ]) | (refine takeW 6 (v := ?_) rfl (by decide +kernel) (by decide +kernel) (by decide +kernel) (fun _ _ _ h => h) (Or.inl ⟨by rfl, ?_⟩) ?_; rotate_left 1; (focus (intro W hW; go_simp; first | done | with_reducible rfl)); try simp only [Act.put, List.setIfInBounds_toArray, List.set_cons_zero, List.set_cons_succ]) | (refine takeW 6 rfl (by decide +kernel) (by decide +kernel) (by decide +kernel) (fun _ _ _ h => h) (Or.inr ⟨by rfl, rfl⟩) ?_; try simp only [Act.put, List.setIfInBounds_toArray, List.set_cons_zero, List.set_cons_succ]) | skip))
        refine stepTA [7] (by decide +kernel) (by decide) ?_
        intro i hi
        obtain rfl : i = 7 := by simpa using hi
        clear hi
        refine ⟨_, rfl, by rfl, ?_⟩
        intro K hK
        go_simp
        have lb5 := block_lt b2.out.1
        have nS : ¬ S' u2.heap.size := fun hf => Nat.lt_irrefl _ (((hostA D W b x1).ge hH2.out _ hf).2)
        have bb := (Below.refl u2.heap.size u2).alloc (Nat.le_refl _) (pkZ)
        have hm := Mv.of_below S' bb
        have sm := smOf hm b0.out b1.out
        replace b0 := Lib.hid (hm.box b0.out)
        replace b1 := Lib.hid (hm.box b1.out)
        replace b2 := Lib.hid (hm.box b2.out)
        replace M := Lib.hid (M.out.trans hm)
        replace hH2 := Lib.hid (Asr.below hH2.out bb hN.out)
        replace ra := Lib.hid (ra.out.below bb)
        replace hN := Lib.hid (Nat.le_trans hN.out hm.size)
        refine hK _ _ (.inr sm) ?_
        have b5 := Lib.hid (show (u2.alloc (pkZ)).heap[u2.heap.size]? = some (pkZ) ∧ ¬ S' u2.heap.size from ⟨alloc1 u2 (pkZ), nS⟩)
        replace ra := Lib.hid (ra.out.mono (G := fun k => (¬ S' k ∧ w.heap.size + 1 + 1 + 1 ≤ k) ∧ k ≠ u2.heap.size) fun k hk => ⟨hk.1, by omega⟩)
        clear hK K hm sm bb nS
        try simp only [Act.put, List.setIfInBounds_toArray, List.set_cons_zero, List.set_cons_succ]
        generalize u2.alloc (pkZ) = u3 at b0 b1 b2 M hN hH2 ra b5 ⊢
        generalize u2.heap.size = g5 at b0 b1 b2 M hN hH2 ra b5 lb5 ⊢
        ((first | (refine takeT 4 (v := ?_) rfl (by decide +kernel) (by decide +kernel) (by decide +kernel) (fun _ _ _ h => h) (by decide +kernel) (Or.inl ⟨by rfl, ?_⟩) ?_; rotate_left 1; (focus (intro W hW; have hcW := hW.at; (try dsimp only at hcW); go_simp; first | done | with_reducible rfl)); try simp only [Act.put, List.setIfInBounds_toArray, List.set_cons_zero, List.set_cons_succ]) | (refine takeW 4 (v := ?_) rfl (by decide +kernel) (by decide +kernel) (by decide +kernel) (fun _ _ _ h => h) (Or.inl ⟨by rfl, ?_⟩) ?_; rotate_left 1; (focus (intro W hW; go_simp; first | done | with_reducible rfl)); try simp only [Act.put, List.setIfInBounds_toArray, List.set_cons_zero, List.set_cons_succ]) | (refine takeW 4 rfl (by decide +kernel) (by decide +kernel) (by decide +kernel) (fun _ _ _ h => h) (Or.inr ⟨by rfl, rfl⟩) ?_; try simp only [Act.put, List.setIfInBounds_toArray, List.set_cons_zero, List.set_cons_succ]) | skip); (first | (refine takeT 5 (v := ?_) rfl (by decide +kernel) (by decide +kernel) (by decide +kernel) (fun _ _ _ h => h) (by decide +kernel) (Or.inl ⟨by rfl, ?_⟩) ?_; rotate_left 1; (focus (intro W hW; have hcW := hW.at; (try dsimp only at hcW); go_simp; first | done | with_reducible rfl)); try simp only [Act.put, List.setIfInBounds_toArray, List.set_cons_zero, List.set_cons_succ]) | (refine takeW 5 (v := ?_) rfl (by decide +kernel) (by decide +kernel) (by decide +kernel) (fun _ _ _ h => h) (Or.inl ⟨by rfl, ?_⟩) ?_; rotate_left 1; (focus (intro W hW; go_simp; first | done | with_reducible rfl)); try simp only [Act.put, List.setIfInBounds_toArray, List.set_cons_zero, List.set_cons_succ]) | (refine takeW 5 rfl (by decide +kernel) (by decide +kernel) (by decide +kernel) (fun _ _ _ h => h) (Or.inr ⟨by rfl, rfl⟩) ?_; try simp only [Act.put, List.setIfInBounds_toArray, List.set_cons_zero, List.set_cons_succ]) | skip); (first | (refine takeT 6 (v := ?_) rfl (by decide +kernel) (by decide +kernel) (by decide +kernel) (fun _ _ _ h => h) (by decide +kernel) (Or.inl ⟨by rfl, ?_⟩) ?_; rotate_left 1; (focus (intro W hW; have hcW := hW.at; (try dsimp only at hcW); go_simp; first | done | with_reducible rfl)); try simp only [Act.put, List.setIfInBounds_toArray, List.set_cons_zero, List.set_cons_succ]) | (refine takeW 6 (v := ?_) rfl (by decide +kernel) (by decide +kernel) (by decide +kernel) (fun _ _ _ h => h) (Or.inl ⟨by rfl, ?_⟩) ?_; rotate_left 1; (focus (intro W hW; go_simp; first | done | with_reducible rfl)); try simp only [Act.put, List.setIfInBounds_toArray, List.set_cons_zero, List.set_cons_succ]) | (refine takeW 6 rfl (by decide +kernel) (by decide +kernel) (by decide +kernel) (fun _ _ _ h => h) (Or.inr ⟨by rfl, rfl⟩) ?_; try simp only [Act.put, List.setIfInBounds_toArray, List.set_cons_zero, List.set_cons_succ]) | skip))
        refine stepT 8 rfl (by decide +kernel) (by rfl) ?_
        intro K hK
        refine wp_storeB flatPk (.tmp 5) (.tmp 12) rfl g5 rfl _ rfl b5.out.1 rfl rfl rfl ?_
        intro y k5 hg5 hs5
        have hge5 : w.heap.size + 1 + 1 + 1 ≤ g5 := lb5
        have hN6 := hN0.out
        refine hK _ _ (.inl (by decide)) ?_
        clear hK K
        try simp only [Act.put, List.setIfInBounds_toArray, List.set_cons_zero, List.set_cons_succ]
        ((first | (refine takeT 9 (v := ?_) rfl (by decide +kernel) (by decide +kernel) (by decide +kernel) (fun _ _ _ h => h) (by decide +kernel) (Or.inl ⟨by rfl, ?_⟩) ?_; rotate_left 1; (focus (intro W hW; have hcW := hW.at; (try dsimp only at hcW); go_simp; first | done | with_reducible rfl)); try simp only [Act.put, List.setIfInBounds_toArray, List.set_cons_zero, List.set_cons_succ]) | (refine takeW 9 (v := ?_) rfl (by decide +kernel) (by decide +kernel) (by decide +kernel) (fun _ _ _ h => h) (Or.inl ⟨by rfl, ?_⟩) ?_; rotate_left 1; (focus (intro W hW; go_simp; first | done | with_reducible rfl)); try simp only [Act.put, List.setIfInBounds_toArray, List.set_cons_zero, List.set_cons_succ]) | (refine takeW 9 rfl (by decide +kernel) (by decide +kernel) (by decide +kernel) (fun _ _ _ h => h) (Or.inr ⟨by rfl, rfl⟩) ?_; try simp only [Act.put, List.setIfInBounds_toArray, List.set_cons_zero, List.set_cons_succ]) | skip))
        refine doneT (by kernel_rfl) ?_
        exact ⟨g5, A', c', S', rfl, k5, b5.out.2, hge5, M.out.grown_new hg5 (by omega), Asr.grown hH2.out hg5 b5.out.2 (by omega) hN.out, ⟨grown_block hg5 b0.out.1 (fun e => by injection e; omega), b0.out.2⟩, ⟨grown_block hg5 b1.out.1 (fun e => by injection e; omega), b1.out.2⟩, ⟨grown_block hg5 b2.out.1 (fun e => by injection e; omega), b2.out.2⟩, ra.out.grown hg5 fun k hk => hk.2, by rw [hs5]; exact hN.out⟩
      · clear hi
        refine ⟨_, rfl, by rfl, ?_⟩
        intro K hK
        go_simp
        have lb5 := block_lt b2.out.1
        have nS : ¬ S u1.heap.size := fun hf => Nat.lt_irrefl _ (((hostA D W b x).ge hH.out _ hf).2)
        have bb := (Below.refl u1.heap.size u1).alloc (Nat.le_refl _) (pkZ)
        have hm := Mv.of_below S bb
        have sm := smOf hm b0.out b1.out
        replace b0 := Lib.hid (hm.box b0.out)
        replace b1 := Lib.hid (hm.box b1.out)
        replace b2 := Lib.hid (hm.box b2.out)
        replace M := Lib.hid (M.out.trans hm)
        replace hH := Lib.hid (Asr.below hH.out bb hN.out)
        replace hN := Lib.hid (Nat.le_trans hN.out hm.size)
        refine hK _ _ (.inr sm) ?_
        have b5 := Lib.hid (show (u1.alloc (pkZ)).heap[u1.heap.size]? = some (pkZ) ∧ ¬ S u1.heap.size from ⟨alloc1 u1 (pkZ), nS⟩)
        clear hK K hm sm bb nS
        try simp only [Act.put, List.setIfInBounds_toArray, List.set_cons_zero, List.set_cons_succ]
        generalize u1.alloc (pkZ) = u4 at b0 b1 b2 M hN hH b5 ⊢
        generalize u1.heap.size = g5 at b0 b1 b2 M hN hH b5 lb5 ⊢
        refine stepTA [3] (by decide +kernel) (by decide) ?_
        intro i hi
        obtain rfl : i = 3 := by simpa using hi
        clear hi
        refine ⟨_, rfl, by rfl, ?_⟩
        intro K hK
        go_simp
        refine (KS.out u4 hH.out hN.out (HL.out.belowN (M.out.belowN (fun k hk => (Hge.out k hk).1) hN0.out) hLN)).mono ?_
        rintro e u5 ⟨A', c', S', rfl, ra, hH2, hm⟩
        replace hH2 := Lib.hid hH2
        have hsx := block_lt b2.out.1
        replace ra := Lib.hid (ra.mono (G := fun k => (¬ S' k ∧ w.heap.size + 1 + 1 + 1 ≤ k) ∧ k ≠ g5) fun k hk => ⟨⟨hk.1, by omega⟩, fun e => by subst e; have := block_lt b5.out.1; omega⟩)
        clear hsx
        have sm := smOf hm b0.out b1.out
        replace b0 := Lib.hid (hm.box b0.out)
        replace b1 := Lib.hid (hm.box b1.out)
        replace b2 := Lib.hid (hm.box b2.out)
        replace M := Lib.hid (M.out.trans hm)
        replace b5 := Lib.hid (hm.box b5.out)
        replace hN := Lib.hid (Nat.le_trans hN.out hm.size)
        refine hK _ _ (.inr sm) ?_
        clear hK K hm sm
        try simp only [Act.put, List.setIfInBounds_toArray, List.set_cons_zero, List.set_cons_succ]
        ((first | (refine takeT 4 (v := ?_) rfl (by decide +kernel) (by decide +kernel) (by decide +kernel) (fun _ _ _ h => h) (by decide +kernel) (Or.inl ⟨by rfl, ?_⟩) ?_; rotate_left 1; (focus (intro W hW; have hcW := hW.at; (try dsimp only at hcW); go_simp; first | done | with_reducible rfl)); try simp only [Act.put, List.setIfInBounds_toArray, List.set_cons_zero, List.set_cons_succ]) | (refine takeW 4 (v := ?_) rfl (by decide +kernel) (by decide +kernel) (by decide +kernel) (fun _ _ _ h => h) (Or.inl ⟨by rfl, ?_⟩) ?_; rotate_left 1; (focus (intro W hW; go_simp; first | done | with_reducible rfl)); try simp only [Act.put, List.setIfInBounds_toArray, List.set_cons_zero, List.set_cons_succ]) | (refine takeW 4 rfl (by decide +kernel) (by decide +kernel) (by decide +kernel) (fun _ _ _ h => h) (Or.inr ⟨by rfl, rfl⟩) ?_; try simp only [Act.put, List.setIfInBounds_toArray, List.set_cons_zero, List.set_cons_succ]) | skip); (first | (refine takeT 5 (v := ?_) rfl (by decide +kernel) (by decide +kernel) (by decide +kernel) (fun _ _ _ h => h) (by decide +kernel) (Or.inl ⟨by rfl, ?_⟩) ?_; rotate_left 1; (focus (intro W hW; have hcW := hW.at; (try dsimp only at hcW); go_simp; first | done | with_reducible rfl)); try simp only [Act.put, List.setIfInBounds_toArray, List.set_cons_zero, List.set_cons_succ]) | (refine takeW 5 (v := ?_) rfl (by decide +kernel) (by decide +kernel) (by decide +kernel) (fun _ _ _ h => h) (Or.inl ⟨by rfl, ?_⟩) ?_; rotate_left 1; (focus (intro W hW; go_simp; first | done | with_reducible rfl)); try simp only [Act.put, List.setIfInBounds_toArray, List.set_cons_zero, List.set_cons_succ]) | (refine takeW 5 rfl (by decide +kernel) (by decide +kernel) (by decide +kernel) (fun _ _ _ h => h) (Or.inr ⟨by rfl, rfl⟩) ?_; try simp only [Act.put, List.setIfInBounds_toArray, List.set_cons_zero, List.set_cons_succ]) | skip); (first | (refine takeT 6 (v := ?_) rfl (by decide +kernel) (by decide +kernel) (by decide +kernel) (fun _ _ _ h => h) (by decide +kernel) (Or.inl ⟨by rfl, ?_⟩) ?_; rotate_left 1; (focus (intro W hW; have hcW := hW.at; (try dsimp only at hcW); go_simp; first | done | with_reducible rfl)); try simp only [Act.put, List.setIfInBounds_toArray, List.set_cons_zero, List.set_cons_succ]) | (refine takeW 6 (v := ?_) rfl (by decide +kernel) (by decide +kernel) (by decide +kernel) (fun _ _ _ h => h) (Or.inl ⟨by rfl, ?_⟩) ?_; rotate_left 1; (focus (intro W hW; go_simp; first | done | with_reducible rfl)); try simp only [Act.put, List.setIfInBounds_toArray, List.set_cons_zero, List.set_cons_succ]) | (refine takeW 6 rfl (by decide +kernel) (by decide +kernel) (by decide +kernel) (fun _ _ _ h => h) (Or.inr ⟨by rfl, rfl⟩) ?_; try simp only [Act.put, List.setIfInBounds_toArray, List.set_cons_zero, List.set_cons_succ]) | skip))
        refine stepT 8 rfl (by decide +kernel) (by rfl) ?_
        intro K hK
        refine wp_storeB flatPk (.tmp 5) (.tmp 12) rfl g5 rfl _ rfl b5.out.1 rfl rfl rfl ?_
        intro y k5 hg5 hs5
        have hge5 : w.heap.size + 1 + 1 + 1 ≤ g5 := lb5
        have hN6 := hN0.out
        refine hK _ _ (.inl (by decide)) ?_
        clear hK K
        try simp only [Act.put, List.setIfInBounds_toArray, List.set_cons_zero, List.set_cons_succ]
        ((first | (refine takeT 9 (v := ?_) rfl (by decide +kernel) (by decide +kernel) (by decide +kernel) (fun _ _ _ h => h) (by decide +kernel) (Or.inl ⟨by rfl, ?_⟩) ?_; rotate_left 1; (focus (intro W hW; have hcW := hW.at; (try dsimp only at hcW); go_simp; first | done | with_reducible rfl)); try simp only [Act.put, List.setIfInBounds_toArray, List.set_cons_zero, List.set_cons_succ]) | (refine takeW 9 (v := ?_) rfl (by decide +kernel) (by decide +kernel) (by decide +kernel) (fun _ _ _ h => h) (Or.inl ⟨by rfl, ?_⟩) ?_; rotate_left 1; (focus (intro W hW; go_simp; first | done | with_reducible rfl)); try simp only [Act.put, List.setIfInBounds_toArray, List.set_cons_zero, List.set_cons_succ]) | (refine takeW 9 rfl (by decide +kernel) (by decide +kernel) (by decide +kernel) (fun _ _ _ h => h) (Or.inr ⟨by rfl, rfl⟩) ?_; try simp only [Act.put, List.setIfInBounds_toArray, List.set_cons_zero, List.set_cons_succ]) | skip))
        refine doneT (by kernel_rfl) ?_
        exact ⟨g5, A', c', S', rfl, k5, b5.out.2, hge5, M.out.grown_new hg5 (by omega), Asr.grown hH2.out hg5 b5.out.2 (by omega) hN.out, ⟨grown_block hg5 b0.out.1 (fun e => by injection e; omega), b0.out.2⟩, ⟨grown_block hg5 b1.out.1 (fun e => by injection e; omega), b1.out.2⟩, ⟨grown_block hg5 b2.out.1 (fun e => by injection e; omega), b2.out.2⟩, ra.out.grown hg5 fun k hk => hk.2, by rw [hs5]; exact hN.out⟩
    · clear hi
      refine ⟨_, rfl, by rfl, ?_⟩
      intro K hK
      go_simp
      have lb5 := block_lt b2.out.1
      have nS : ¬ S x0.heap.size := fun hf => Nat.lt_irrefl _ (((hostA D W b x).ge hH.out _ hf).2)
      have bb := (Below.refl x0.heap.size x0).alloc (Nat.le_refl _) (pkZ)
      have hm := Mv.of_below S bb
      have sm := smOf hm b0.out b1.out
      replace b0 := Lib.hid (hm.box b0.out)
      replace b1 := Lib.hid (hm.box b1.out)
      replace b2 := Lib.hid (hm.box b2.out)
      replace M := Lib.hid (M.out.trans hm)
      replace hH := Lib.hid (Asr.below hH.out bb hN.out)
      replace hN := Lib.hid (Nat.le_trans hN.out hm.size)
      refine hK _ _ (.inr sm) ?_
      have b5 := Lib.hid (show (x0.alloc (pkZ)).heap[x0.heap.size]? = some (pkZ) ∧ ¬ S x0.heap.size from ⟨alloc1 x0 (pkZ), nS⟩)
      clear hK K hm sm bb nS
      try simp only [Act.put, List.setIfInBounds_toArray, List.set_cons_zero, List.set_cons_succ]
      generalize x0.alloc (pkZ) = u6 at b0 b1 b2 M hN hH b5 ⊢
      generalize x0.heap.size = g5 at b0 b1 b2 M hN hH b5 lb5 ⊢
      refine stepTA [2] (by decide +kernel) (by decide) ?_
      intro i hi
      obtain rfl : i = 2 := by simpa using hi
      clear hi
      refine ⟨_, rfl, by rfl, ?_⟩
      intro K hK
      go_simp
      refine (KT.out u6).mono ?_
      rintro e u7 ⟨rfl, bb⟩
      have hm := Mv.of_below S bb
      have sm := smOf hm b0.out b1.out
      replace b0 := Lib.hid (hm.box b0.out)
      replace b1 := Lib.hid (hm.box b1.out)
      replace b2 := Lib.hid (hm.box b2.out)
      replace M := Lib.hid (M.out.trans hm)
      replace hH := Lib.hid (Asr.below hH.out bb hN.out)
      replace b5 := Lib.hid (hm.box b5.out)
      replace hN := Lib.hid (Nat.le_trans hN.out hm.size)
      refine hK _ _ (.inr sm) ?_
      clear hK K hm sm bb
      try simp only [Act.put, List.setIfInBounds_toArray, List.set_cons_zero, List.set_cons_succ]
      refine stepTA [3] (by decide +kernel) (by decide) ?_
      intro i hi
      obtain rfl : i = 3 := by simpa using hi
      clear hi
      refine ⟨_, rfl, by rfl, ?_⟩
      intro K hK
      go_simp
      refine (KS.out u7 hH.out hN.out (HL.out.belowN (M.out.belowN (fun k hk => (Hge.out k hk).1) hN0.out) hLN)).mono ?_
      rintro e u8 ⟨A', c', S', rfl, ra, hH2, hm⟩
      replace hH2 := Lib.hid hH2
      have hsx := block_lt b2.out.1
      replace ra := Lib.hid (ra.mono (G := fun k => (¬ S' k ∧ w.heap.size + 1 + 1 + 1 ≤ k) ∧ k ≠ g5) fun k hk => ⟨⟨hk.1, by omega⟩, fun e => by subst e; have := block_lt b5.out.1; omega⟩)
      clear hsx
      have sm := smOf hm b0.out b1.out
      replace b0 := Lib.hid (hm.box b0.out)
      replace b1 := Lib.hid (hm.box b1.out)
      replace b2 := Lib.hid (hm.box b2.out)
      replace M := Lib.hid (M.out.trans hm)
      replace b5 := Lib.hid (hm.box b5.out)
      replace hN := Lib.hid (Nat.le_trans hN.out hm.size)
      refine hK _ _ (.inr sm) ?_
      clear hK K hm sm
      try simp only [Act.put, List.setIfInBounds_toArray, List.set_cons_zero, List.set_cons_succ]
      ((first | (refine takeT 4 (v := ?_) rfl (by decide +kernel) (by decide +kernel) (by decide +kernel) (fun _ _ _ h => h) (by decide +kernel) (Or.inl ⟨by rfl, ?_⟩) ?_; rotate_left 1; (focus (intro W hW; have hcW := hW.at; (try dsimp only at hcW); go_simp; first | done | with_reducible rfl)); try simp only [Act.put, List.setIfInBounds_toArray, List.set_cons_zero, List.set_cons_succ]) | (refine takeW 4 (v := ?_) rfl (by decide +kernel) (by decide +kernel) (by decide +kernel) (fun _ _ _ h => h) (Or.inl ⟨by rfl, ?_⟩) ?_; rotate_left 1; (focus (intro W hW; go_simp; first | done | with_reducible rfl)); try simp only [Act.put, List.setIfInBounds_toArray, List.set_cons_zero, List.set_cons_succ]) | (refine takeW 4 rfl (by decide +kernel) (by decide +kernel) (by decide +kernel) (fun _ _ _ h => h) (Or.inr ⟨by rfl, rfl⟩) ?_; try simp only [Act.put, List.setIfInBounds_toArray, List.set_cons_zero, List.set_cons_succ]) | skip); (first | (refine takeT 5 (v := ?_) rfl (by decide +kernel) (by decide +kernel) (by decide +kernel) (fun _ _ _ h => h) (by decide +kernel) (Or.inl ⟨by rfl, ?_⟩) ?_; rotate_left 1; (focus (intro W hW; have hcW := hW.at; (try dsimp only at hcW); go_simp; first | done | with_reducible rfl)); try simp only [Act.put, List.setIfInBounds_toArray, List.set_cons_zero, List.set_cons_succ]) | (refine takeW 5 (v := ?_) rfl (by decide +kernel) (by decide +kernel) (by decide +kernel) (fun _ _ _ h => h) (Or.inl ⟨by rfl, ?_⟩) ?_; rotate_left 1; (focus (intro W hW; go_simp; first | done | with_reducible rfl)); try simp only [Act.put, List.setIfInBounds_toArray, List.set_cons_zero, List.set_cons_succ]) | (refine takeW 5 rfl (by decide +kernel) (by decide +kernel) (by decide +kernel) (fun _ _ _ h => h) (Or.inr ⟨by rfl, rfl⟩) ?_; try simp only [Act.put, List.setIfInBounds_toArray, List.set_cons_zero, List.set_cons_succ]) | skip); (first | (refine takeT 6 (v := ?_) rfl (by decide +kernel) (by decide +kernel) (by decide +kernel) (fun _ _ _ h => h) (by decide +kernel) (Or.inl ⟨by rfl, ?_⟩) ?_; rotate_left 1; (focus (intro W hW; have hcW := hW.at; (try dsimp only at hcW); go_simp; first | done | with_reducible rfl)); try simp only [Act.put, List.setIfInBounds_toArray, List.set_cons_zero, List.set_cons_succ]) | (refine takeW 6 (v := ?_) rfl (by decide +kernel) (by decide +kernel) (by decide +kernel) (fun _ _ _ h => h) (Or.inl ⟨by rfl, ?_⟩) ?_; rotate_left 1; (focus (intro W hW; go_simp; first | done | with_reducible rfl)); try simp only [Act.put, List.setIfInBounds_toArray, List.set_cons_zero, List.set_cons_succ]) | (refine takeW 6 rfl (by decide +kernel) (by decide +kernel) (by decide +kernel) (fun _ _ _ h => h) (Or.inr ⟨by rfl, rfl⟩) ?_; try simp only [Act.put, List.setIfInBounds_toArray, List.set_cons_zero, List.set_cons_succ]) | skip))
      refine stepT 8 rfl (by decide +kernel) (by rfl) ?_
      intro K hK
      refine wp_storeB flatPk (.tmp 5) (.tmp 12) rfl g5 rfl _ rfl b5.out.1 rfl rfl rfl ?_
      intro y k5 hg5 hs5
      have hge5 : w.heap.size + 1 + 1 + 1 ≤ g5 := lb5
      have hN6 := hN0.out
      refine hK _ _ (.inl (by decide)) ?_
      clear hK K
      try simp only [Act.put, List.setIfInBounds_toArray, List.set_cons_zero, List.set_cons_succ]
      ((first | (refine takeT 9 (v := ?_) rfl (by decide +kernel) (by decide +kernel) (by decide +kernel) (fun _ _ _ h => h) (by decide +kernel) (Or.inl ⟨by rfl, ?_⟩) ?_; rotate_left 1; (focus (intro W hW; have hcW := hW.at; (try dsimp only at hcW); go_simp; first | done | with_reducible rfl)); try simp only [Act.put, List.setIfInBounds_toArray, List.set_cons_zero, List.set_cons_succ]) | (refine takeW 9 (v := ?_) rfl (by decide +kernel) (by decide +kernel) (by decide +kernel) (fun _ _ _ h => h) (Or.inl ⟨by rfl, ?_⟩) ?_; rotate_left 1; (focus (intro W hW; go_simp; first | done | with_reducible rfl)); try simp only [Act.put, List.setIfInBounds_toArray, List.set_cons_zero, List.set_cons_succ]) | (refine takeW 9 rfl (by decide +kernel) (by decide +kernel) (by decide +kernel) (fun _ _ _ h => h) (Or.inr ⟨by rfl, rfl⟩) ?_; try simp only [Act.put, List.setIfInBounds_toArray, List.set_cons_zero, List.set_cons_succ]) | skip))
      refine doneT (by kernel_rfl) ?_
      exact ⟨g5, A', c', S', rfl, k5, b5.out.2, hge5, M.out.grown_new hg5 (by omega), Asr.grown hH2.out hg5 b5.out.2 (by omega) hN.out, ⟨grown_block hg5 b0.out.1 (fun e => by injection e; omega), b0.out.2⟩, ⟨grown_block hg5 b1.out.1 (fun e => by injection e; omega), b1.out.2⟩, ⟨grown_block hg5 b2.out.1 (fun e => by injection e; omega), b2.out.2⟩, ra.out.grown hg5 fun k hk => hk.2, by rw [hs5]; exact hN.out⟩
  clear X0
  rintro act y ⟨g5, A', c', S', rfl, k5, n5, hge5, M, hH, b0, b1, b2, ra, hNy⟩
  have c0 := block_at k5 (i := 0) (v := .int .u8 (a.pid : Int)) rfl
  have c9 := block_at k5 (i := 9) (v := .slice A' a.data.length c') rfl
  obtain ⟨e0, e1, e2, e3, e4, e5, e6⟩ := tr_cells b1.1
  have HLy := Lib.hid (HL.out.belowN (M.belowN (fun k hk => (Hge.out k hk).1) hN0.out) hLN)
  have B0 := Lib.hid b0
  have B1 := Lib.hid b1
  have B2 := Lib.hid b2
  have HM := Lib.hid M
  have HH := Lib.hid hH
  have Hra := Lib.hid ra
  have HNy := Lib.hid hNy
  have K5 := Lib.hid (show _ ∧ _ from ⟨k5, n5⟩)
  have Hge5 := Lib.hid hge5
  have KH := Lib.hid fun X => hand_any X t A c a.pid
  clear b0 b1 b2 M hH ra hNy k5 n5 hge5
  obtain ⟨b3, hb3⟩ : ∃ b3, (a.pid == 3) = b3 := ⟨_, rfl⟩
  obtain ⟨b11, hb11⟩ : ∃ b11, (a.pid == 11) = b11 := ⟨_, rfl⟩
  obtain ⟨bq, hbq⟩ : ∃ bq, (a.pid == dpid t.tog) = bq := ⟨_, rfl⟩
  have i3 : ((a.pid : Int) != 3) = !b3 := by rw [bne, show ((a.pid : Int) == 3) = (a.pid == 3) from castEq a.pid 3, hb3]
  have i11 : ((a.pid : Int) != 11) = !b11 := by rw [bne, show ((a.pid : Int) == 11) = (a.pid == 11) from castEq a.pid 11, hb11]
  have iq : ((a.pid : Int) != (dpid t.tog : Int)) = !bq := by rw [bne, castEq, hbq]
  have Hb3 := Lib.hid hb3
  have Hb11 := Lib.hid hb11
  have Hbq := Lib.hid hbq
  clear hb3 hb11 hbq
  by_cases hpid : b3 = false ∧ b11 = false
  · obtain ⟨rfl, rfl⟩ := hpid
    have HR1 : (x', res, out) = (x1, hsR t.what t.iso a.pid, []) := by
      rw [← HR0.out, if_pos ⟨by simpa using Hb3.out, by simpa using Hb11.out⟩]
    obtain ⟨rfl, rfl, rfl⟩ := triple_eq HR1
    clear iq e0 e1 e2 e3 e4 e5 e6 c9
    go_wp2_with (refine wpl_loadB flatTry rfl (.tmp 3) rfl _ rfl B1.out.1 rfl ?_)
    refine (KH.out y).mono ?_
    rintro e y1 ⟨rfl, bb⟩
    have B21 := Lib.hid ((bb.block _ (block_lt B2.out.1)).trans B2.out.1)
    have HH1 := Lib.hid (Asr.below HH.out bb HNy.out)
    have HM1 := Lib.hid (HM.out.trans (Mv.of_below _ bb))
    have HN1 := Lib.hid (Nat.le_trans HNy.out bb.size)
    clear bb c0
    go_wp2_with (refine wpl_storeB flatOut rfl (.tmp 4) (.tmp 26) rfl _ rfl _ rfl B21.out rfl rfl rfl ?_; intro y5 k2 hg5 hs5)
    refine bodyPost_ret (ret_cell flatOut rfl _ (w.heap.size + 1 + 1) rfl k2 rfl) rfl ?_
    exact ⟨none, 0, _, rfl, RdU.nil _, Asr.grown HH1.out hg5 B2.out.2 (by have := hN0.out; omega) HN1.out, HM1.out.grown_new hg5 (by omega)⟩
  · have hpid' : (b3 = true ∧ True) ∨ (b3 = false ∧ b11 = true) := by cases b3 <;> cases b11 <;> simp_all
    have Hpn : ¬ (a.pid ≠ 3 ∧ a.pid ≠ 11) := fun h => hpid ⟨by have := Hb3.out; rw [← this]; simpa using h.1, by have := Hb11.out; rw [← this]; simpa using h.2⟩
    clear hpid
    rw [if_neg Hpn] at HR0
    clear Hpn
    have hmax := Lib.hid (rfl : t.max = t.max)
    by_cases hmx : t.max < (a.data.length : Int)
    · have HR1 : (x', res, out) = (x1, 5, []) := by rw [← HR0.out, if_pos hmx]
      obtain ⟨rfl, rfl, rfl⟩ := triple_eq HR1
      clear HR1 iq
      rcases hpid' with ⟨rfl, _⟩ | ⟨rfl, rfl⟩
      all_goals
        go_wp2_with (refine wpl_storeB flatOut rfl (.tmp 4) (.tmp 33) rfl _ rfl _ rfl B2.out.1 rfl rfl rfl ?_; intro y5 k2 hg5 hs5)
        refine bodyPost_ret (ret_cell flatOut rfl _ (w.heap.size + 1 + 1) rfl k2 rfl) rfl ?_
        exact ⟨none, 0, _, rfl, RdU.nil _, Asr.grown HH.out hg5 B2.out.2 (by have := hN0.out; omega) HNy.out, HM.out.grown_new hg5 (by omega)⟩
    · rw [if_neg hmx] at HR0
      cases hiso : t.iso
      · have hiso' := Lib.hid hiso
        rw [hiso] at HR0 e4
        clear hiso
        have HR1 : (x', res, out) = (x2, if a.pid = dpid t.tog then (1, a.data) else (6, [])) := by rw [← HR0.out, if_neg (by simp)]
        have HR2 := Lib.hid HR1
        clear HR1
        rcases hpid' with ⟨rfl, _⟩ | ⟨rfl, rfl⟩
        all_goals
          go_wp2_with (refine wpl_loadB flatHost rfl (.tmp 2) rfl _ rfl B0.out.1 rfl ?_)
          refine (KA.out y _ HH.out HNy.out HLy.out).mono ?_
          rintro e z ⟨A2, c2, S2, rfl, _, hH2, hm⟩
          have hk5 := hm.box K5.out
          have hb1 := hm.box B1.out
          have hb2 := hm.box B2.out
          have hra2 : RdU (fun k => (¬ S2 k ∧ w.heap.size + 1 + 1 + 1 ≤ k) ∧ k ≠ g5) z A' c' a.data := (Hra.out.lt.keep fun k hk => hm.keep k hk.2 hk.1.1.1).mono fun k hk => ⟨⟨hm.gone hk.2 hk.1.1.1, hk.1.1.2⟩, hk.1.2⟩
          have hNz := Nat.le_trans HNy.out hm.size
          clear c0 c9 e0 e1 e2 e3 e4 e5 e6
          have c0 := block_at hk5.1 (i := 0) (v := .int .u8 (a.pid : Int)) rfl
          have c9 := block_at hk5.1 (i := 9) (v := .slice A' a.data.length c') rfl
          have e3 := block_at hb1.1 (i := 3) (v := .bool t.tog) rfl
          have D2 := Lib.hid hb2
          have HMz := Lib.hid (HM.out.trans hm)
          have HH2 := Lib.hid hH2
          have Hra2 := Lib.hid hra2
          have HNz := Lib.hid hNz
          clear hk5 hb1 hb2 hra2 hNz hH2 hm
          go_wp2
          refine startT (S := fun q => q.block = g5 ∨ q.block = w.heap.size + 1) (T := []) 6 (by kernel_rfl) rfl (l := #[false, false, false, false, false, false]) rfl ?_
          ((first | (refine takeT 0 (v := ?_) rfl (by decide +kernel) (by decide +kernel) (by decide +kernel) (fun _ _ _ h => h) (by decide +kernel) (Or.inl ⟨by rfl, ?_⟩) ?_; rotate_left 1; (focus (intro W hW; have hcW := hW.at; (try dsimp only at hcW); go_simp; first | done | with_reducible rfl)); try simp only [Act.put, List.setIfInBounds_toArray, List.set_cons_zero, List.set_cons_succ]) | (refine takeW 0 (v := ?_) rfl (by decide +kernel) (by decide +kernel) (by decide +kernel) (fun _ _ _ h => h) (Or.inl ⟨by rfl, ?_⟩) ?_; rotate_left 1; (focus (intro W hW; go_simp; first | done | with_reducible rfl)); try simp only [Act.put, List.setIfInBounds_toArray, List.set_cons_zero, List.set_cons_succ]) | (refine takeW 0 rfl (by decide +kernel) (by decide +kernel) (by decide +kernel) (fun _ _ _ h => h) (Or.inr ⟨by rfl, rfl⟩) ?_; try simp only [Act.put, List.setIfInBounds_toArray, List.set_cons_zero, List.set_cons_succ]) | skip); (first | (refine takeT 1 (v := ?_) rfl (by decide +kernel) (by decide +kernel) (by decide +kernel) (fun _ _ _ h => h) (by decide +kernel) (Or.inl ⟨by rfl, ?_⟩) ?_; rotate_left 1; (focus (intro W hW; have hcW := hW.at; (try dsimp only at hcW); go_simp; first | done | with_reducible rfl)); try simp only [Act.put, List.setIfInBounds_toArray, List.set_cons_zero, List.set_cons_succ]) | (refine takeW 1 (v := ?_) rfl (by decide +kernel) (by decide +kernel) (by decide +kernel) (fun _ _ _ h => h) (Or.inl ⟨by rfl, ?_⟩) ?_; rotate_left 1; (focus (intro W hW; go_simp; first | done | with_reducible rfl)); try simp only [Act.put, List.setIfInBounds_toArray, List.set_cons_zero, List.set_cons_succ]) | (refine takeW 1 rfl (by decide +kernel) (by decide +kernel) (by decide +kernel) (fun _ _ _ h => h) (Or.inr ⟨by rfl, rfl⟩) ?_; try simp only [Act.put, List.setIfInBounds_toArray, List.set_cons_zero, List.set_cons_succ]) | skip); (first | (refine takeT 2 (v := ?_) rfl (by decide +kernel) (by decide +kernel) (by decide +kernel) (fun _ _ _ h => h) (by decide +kernel) (Or.inl ⟨by rfl, ?_⟩) ?_; rotate_left 1; (focus (intro W hW; have hcW := hW.at; (try dsimp only at hcW); go_simp; first | done | with_reducible rfl)); try simp only [Act.put, List.setIfInBounds_toArray, List.set_cons_zero, List.set_cons_succ]) | (refine takeW 2 (v := ?_) rfl (by decide +kernel) (by decide +kernel) (by decide +kernel) (fun _ _ _ h => h) (Or.inl ⟨by rfl, ?_⟩) ?_; rotate_left 1; (focus (intro W hW; go_simp; first | done | with_reducible rfl)); try simp only [Act.put, List.setIfInBounds_toArray, List.set_cons_zero, List.set_cons_succ]) | (refine takeW 2 rfl (by decide +kernel) (by decide +kernel) (by decide +kernel) (fun _ _ _ h => h) (Or.inr ⟨by rfl, rfl⟩) ?_; try simp only [Act.put, List.setIfInBounds_toArray, List.set_cons_zero, List.set_cons_succ]) | skip); (first | (refine takeT 3 (v := ?_) rfl (by decide +kernel) (by decide +kernel) (by decide +kernel) (fun _ _ _ h => h) (by decide +kernel) (Or.inl ⟨by rfl, ?_⟩) ?_; rotate_left 1; (focus (intro W hW; have hcW := hW.at; (try dsimp only at hcW); go_simp; first | done | with_reducible rfl)); try simp only [Act.put, List.setIfInBounds_toArray, List.set_cons_zero, List.set_cons_succ]) | (refine takeW 3 (v := ?_) rfl (by decide +kernel) (by decide +kernel) (by decide +kernel) (fun _ _ _ h => h) (Or.inl ⟨by rfl, ?_⟩) ?_; rotate_left 1; (focus (intro W hW; go_simp; first | done | with_reducible rfl)); try simp only [Act.put, List.setIfInBounds_toArray, List.set_cons_zero, List.set_cons_succ]) | (refine takeW 3 rfl (by decide +kernel) (by decide +kernel) (by decide +kernel) (fun _ _ _ h => h) (Or.inr ⟨by rfl, rfl⟩) ?_; try simp only [Act.put, List.setIfInBounds_toArray, List.set_cons_zero, List.set_cons_succ]) | skip))
          refine stepT 4 rfl (by decide +kernel) (by rfl) ?_
          intro K hK
          go_simp
          refine (dpid_any _ t.tog).mono ?_
          rintro e z1 ⟨rfl, rfl⟩
          refine hK _ _ (.inr (Sm.refl _ _)) ?_
          clear hK K
          try simp only [Act.put, List.setIfInBounds_toArray, List.set_cons_zero, List.set_cons_succ]
          ((first | (refine takeT 5 (v := ?_) rfl (by decide +kernel) (by decide +kernel) (by decide +kernel) (fun _ _ _ h => h) (by decide +kernel) (Or.inl ⟨by rfl, ?_⟩) ?_; rotate_left 1; (focus (intro W hW; have hcW := hW.at; (try dsimp only at hcW); go_simp; first | done | with_reducible rfl)); try simp only [Act.put, List.setIfInBounds_toArray, List.set_cons_zero, List.set_cons_succ]) | (refine takeW 5 (v := ?_) rfl (by decide +kernel) (by decide +kernel) (by decide +kernel) (fun _ _ _ h => h) (Or.inl ⟨by rfl, ?_⟩) ?_; rotate_left 1; (focus (intro W hW; go_simp; first | done | with_reducible rfl)); try simp only [Act.put, List.setIfInBounds_toArray, List.set_cons_zero, List.set_cons_succ]) | (refine takeW 5 rfl (by decide +kernel) (by decide +kernel) (by decide +kernel) (fun _ _ _ h => h) (Or.inr ⟨by rfl, rfl⟩) ?_; try simp only [Act.put, List.setIfInBounds_toArray, List.set_cons_zero, List.set_cons_succ]) | skip))
          refine doneT (by kernel_rfl) ?_
          cases bq
          · have HR1 : (x', res, out) = (x2, 6, []) := by rw [HR2.out, if_neg (by simpa using Hbq.out)]
            obtain ⟨rfl, rfl, rfl⟩ := triple_eq HR1
            go_wp2_with (refine wpl_storeB (w := World.drew z) flatOut rfl (.tmp 4) (.tmp 46) rfl (w.heap.size + 1 + 1) rfl _ rfl D2.out.1 rfl rfl rfl ?_; intro y5 k2 hg5 hs5)
            refine bodyPost_ret (ret_cell flatOut rfl _ (w.heap.size + 1 + 1) rfl k2 rfl) rfl ?_
            exact ⟨none, 0, _, rfl, RdU.nil _, Asr.grown (Asr.drew HH2.out) hg5 D2.out.2 (by have := hN0.out; omega) HNz.out, HMz.out.drew.grown_new hg5 (by omega)⟩
          · have HR1 : (x', res, out) = (x2, 1, a.data) := by rw [HR2.out, if_pos (by simpa using Hbq.out)]
            obtain ⟨rfl, rfl, rfl⟩ := triple_eq HR1
            go_wp2_with (refine wpl_storeB (w := World.drew z) flatOut rfl (.tmp 4) (.tmp 49) rfl (w.heap.size + 1 + 1) rfl _ rfl D2.out.1 rfl rfl rfl ?_; intro y5 k2 hg5 hs5)
            refine bodyPost_ret (ret_cell flatOut rfl _ (w.heap.size + 1 + 1) rfl k2 rfl) rfl ?_
            exact ⟨A', c', _, rfl, (Hra2.out.drew.grown hg5 fun k hk e => by have := hk.1.2; omega).mono fun k hk => ⟨hk.1.1, by have := hk.1.2; omega⟩, Asr.grown (Asr.drew HH2.out) hg5 D2.out.2 (by have := hN0.out; omega) HNz.out, HMz.out.drew.grown_new hg5 (by omega)⟩
      · rw [hiso] at HR0 e4
        clear hiso
        have HR1 : (x', res, out) = (x1, 1, a.data) := by rw [← HR0.out, if_pos rfl]
        obtain ⟨rfl, rfl, rfl⟩ := triple_eq HR1
        clear HR1 iq
        rcases hpid' with ⟨rfl, _⟩ | ⟨rfl, rfl⟩
        all_goals
          go_wp2_with (refine wpl_storeB flatOut rfl (.tmp 4) (.tmp 49) rfl _ rfl _ rfl B2.out.1 rfl rfl rfl ?_; intro y5 k2 hg5 hs5)
          refine bodyPost_ret (ret_cell flatOut rfl _ (w.heap.size + 1 + 1) rfl k2 rfl) rfl ?_
          exact ⟨A', c', _, rfl, (Hra.out.grown hg5 fun k hk e => by have := hk.1.2; omega).mono fun k hk => ⟨hk.1.1, by have := hk.1.2; omega⟩, Asr.grown HH.out hg5 B2.out.2 (by have := hN0.out; omega) HNy.out, HM.out.grown_new hg5 (by omega)⟩
end

end Go.Proofs.YtkfkcpogcobmbaaDoor
