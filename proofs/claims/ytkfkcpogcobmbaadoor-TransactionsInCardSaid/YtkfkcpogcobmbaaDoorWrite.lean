/-
  Helper text: the host writes; no statement is proved here.
-/
import Derived.Test.YtkfkcpogcobmbaaDoorRead
namespace Go.Proofs.YtkfkcpogcobmbaaDoor
open Go Go.RowKit

section
variable {N : Nat} {σ τ : Type} {D : σ → Asr N} {W : τ → Asr N} {next : τ → τ × Nat} {wv dv : Value} {b : Nat} {ask : σ → τ → List SentP → Pkt → (σ × τ × List SentP) × Pkt × Bool}

theorem pair_eq {α β : Type} {x y : α} {a b : β} (h : (x, a) = (y, b)) : x = y ∧ a = b := by
  cases h
  exact ⟨rfl, rfl⟩
/-- Behind the token. -/
def openR (next : τ → τ × Nat) (ask : σ → τ → List SentP → Pkt → (σ × τ × List SentP) × Pkt × Bool) (x : σ × τ × List SentP) (t : Tr) : σ × τ × List SentP :=
  if (next x.2.1).2 = 0 then (ask x.1 (next x.2.1).1 (x.2.2 ++ [(tokP t, true, (next x.2.1).2)]) (tokP t)).1 else (x.1, (next x.2.1).1, x.2.2 ++ [(tokP t, true, (next x.2.1).2)])
/-- Behind the data. -/
def dataR (next : τ → τ × Nat) (ask : σ → τ → List SentP → Pkt → (σ × τ × List SentP) × Pkt × Bool) (opened : Bool) (x : σ × τ × List SentP) (t : Tr) : (σ × τ × List SentP) × Pkt × Bool :=
  if (next x.2.1).2 = 0 ∧ opened = true then ask x.1 (next x.2.1).1 (x.2.2 ++ [(datP t, true, (next x.2.1).2)]) (datP t) else ((x.1, (next x.2.1).1, x.2.2 ++ [(datP t, true, (next x.2.1).2)]), zeroP, false)
/-- What writing comes to. -/
def writeR (next : τ → τ × Nat) (ask : σ → τ → List SentP → Pkt → (σ × τ × List SentP) × Pkt × Bool) (x : σ × τ × List SentP) (t : Tr) : (σ × τ × List SentP) × Nat :=
  ((dataR next ask ((next x.2.1).2 == 0) (openR next ask x t) t).1, if t.iso = true then 1 else hsR t.what t.iso (dataR next ask ((next x.2.1).2 == 0) (openR next ask x t) t).2.1.pid)

theorem AskLen.open_ (h : AskLen ask) (next : τ → τ × Nat) (x : σ × τ × List SentP) (t : Tr) : (openR next ask x t).2.2.length ≤ x.2.2.length + 2 := by
  unfold openR
  split
  · have := h x.1 (next x.2.1).1 (x.2.2 ++ [(tokP t, true, (next x.2.1).2)]) (tokP t)
    rw [List.length_append] at this
    exact this
  · show (x.2.2 ++ _).length ≤ _
    rw [List.length_append]
    simp
theorem AskJ.open_ {J : σ → List SentP → Prop} (h : AskJ ask J) (next : τ → τ × Nat) (x : σ × τ × List SentP) (t : Tr) (hj : J x.1 x.2.2) : J (openR next ask x t).1 (openR next ask x t).2.2 := by
  unfold openR
  split
  · exact h.ask _ _ _ _ _ hj
  · exact h.add _ _ _ hj
theorem AskLen.data_ (h : AskLen ask) (next : τ → τ × Nat) (o : Bool) (x : σ × τ × List SentP) (t : Tr) : (dataR next ask o x t).1.2.2.length ≤ x.2.2.length + 2 := by
  unfold dataR
  split
  · have := h x.1 (next x.2.1).1 (x.2.2 ++ [(datP t, true, (next x.2.1).2)]) (datP t)
    rw [List.length_append] at this
    exact this
  · show (x.2.2 ++ _).length ≤ _
    rw [List.length_append]
    simp

theorem RdS.mvlt {S S' : Nat → Prop} {w X : World} {A : Option Addr} {c : Nat} {xs : List UInt8} (h : RdS (fun k => ¬ S k ∧ k < w.heap.size) w A c xs) (hm : Mv S w S' X) : RdS (fun k => ¬ S' k) X A c xs :=
  (h.keep fun k hk => hm.keep k hk.2 hk.1).mono fun k hk => hm.gone hk.2 hk.1
theorem host_send (hW : WireOK W next wv) (dv : Value) (w : World) (b : Nat) (x : σ × τ × List SentP) (S : Nat → Prop) (h : (hostA D W b x).holds S w) (p : Pkt) (ok : p.Ok) (hb : Bool) (A : Option Addr) (c : Nat) (hr : RdS (fun k => ¬ S k) w A c p.data)
    (hl : x.2.2.length ≤ 1000000) (hN : N ≤ w.heap.size) :
    Calls Tryd.prog 59 #[hostV dv wv b, pkV p A c, .bool hb] w (Post (hostA D W b (x.1, (next x.2.1).1, x.2.2 ++ [(p, hb, (next x.2.1).2)])) S w (.bool ((next x.2.1).2 == 0))) := by
  obtain ⟨FD, FR, hA, hR, hd, rfl⟩ := Asr.sep_eq h
  refine (send_any hW dv w b x.2.1 x.2.2 FR hR p ok hb A c (hr.mono fun k hk hf => hk (.inr hf)) hl hN).mono ?_
  rintro e w' ⟨rfl, S', h1, hm⟩
  obtain ⟨h2, h3⟩ := Asr.sep_right hA hR hd h1 hm hN
  exact ⟨rfl, _, h2, h3⟩

set_option maxHeartbeats 6400000 in
set_option maxRecDepth 100000 in
theorem write_any {J : σ → List SentP → Prop} (hW : WireOK W next wv) (hA : AskC D W b dv wv ask J) (hAl : AskLen ask) (hAj : AskJ ask J) (hLN : 0 < N) (w : World) (x : σ × τ × List SentP) (hj : J x.1 x.2.2) (S : Nat → Prop) (h : (hostA D W b x).holds S w) (t : Tr) (ok : t.Ok) (A : Option Addr) (c : Nat)
    (hr : RdS (fun k => ¬ S k) w A c t.data) (hl : x.2.2.length ≤ 999990) (hN : N ≤ w.heap.size) (hL : Laid w) :
    Calls Tryd.prog 55 #[hostV dv wv b, trV t A c] w (Post (hostA D W b (writeR next ask x t).1) S w (.int .u8 ((writeR next ask x t).2 : Int))) := by
  have hlen := hAl.open_ next x t
  have hj2 := hAj.open_ next x t hj
  have KT := Lib.hid fun X => token_any X t A c
  have KS := Lib.hid fun (X : World) (hX : (hostA D W b x).holds S X) (hN : N ≤ X.heap.size) => host_send hW dv X b x S hX (tokP t) (tokP_ok ok) true none 0 (RdS.nil X) (by omega) hN
  have KA := Lib.hid fun (X : World) (S : Nat → Prop) (hX : (hostA D W b (x.1, (next x.2.1).1, x.2.2 ++ [(tokP t, true, (next x.2.1).2)])).holds S X) (hN : N ≤ X.heap.size) (hL : Laid X) => hA X x.1 (next x.2.1).1 (x.2.2 ++ [(tokP t, true, (next x.2.1).2)]) S ⟨_, _, rfl, hj⟩ hX (tokP t) (tokP_ok ok) none 0 (RdS.nil X) (by rw [List.length_append]; simp only [List.length_cons, List.length_nil]; omega) hN hL
  obtain ⟨R, hR0⟩ : ∃ R, writeR next ask x t = R := ⟨_, rfl⟩
  rw [hR0]
  unfold writeR at hR0
  obtain ⟨y2, hy2⟩ : ∃ y2, openR next ask x t = y2 := ⟨_, rfl⟩
  rw [hy2] at hR0 hlen hj2
  obtain ⟨fb, hfb⟩ : ∃ fb, ((next x.2.1).2 == 0) = fb := ⟨_, rfl⟩
  rw [hfb] at hR0 KS
  unfold openR at hy2
  have KS2 := Lib.hid fun (X : World) (S : Nat → Prop) (hX : (hostA D W b y2).holds S X) (hr : RdS (fun k => ¬ S k) X A c (datP t).data) (hN : N ≤ X.heap.size) => host_send hW dv X b y2 S hX (datP t) (datP_ok ok) true A c hr (by omega) hN
  have KA2 := Lib.hid fun (X : World) (S : Nat → Prop) (hX : (hostA D W b (y2.1, (next y2.2.1).1, y2.2.2 ++ [(datP t, true, (next y2.2.1).2)])).holds S X) (hr : RdS (fun k => ¬ S k) X A c (datP t).data) (hN : N ≤ X.heap.size) (hL : Laid X) => hA X y2.1 (next y2.2.1).1 (y2.2.2 ++ [(datP t, true, (next y2.2.1).2)]) S ⟨_, _, rfl, hj2⟩ hX (datP t) (datP_ok ok) A c hr (by rw [List.length_append]; simp only [List.length_cons, List.length_nil]; omega) hN hL
  obtain ⟨fb2, hfb2⟩ : ∃ fb2, ((next y2.2.1).2 == 0) = fb2 := ⟨_, rfl⟩
  rw [hfb2] at KS2
  obtain ⟨x', res⟩ := R
  have hge : ∀ k, S k → N ≤ k ∧ k < w.heap.size := fun k hk => (hostA D W b x).ge h k hk
  obtain ⟨g0, g1, g2, g3⟩ := alloc2 w (.cells #[dv, wv, noteV b] 108) (trB t A c)
  have X0 : Hid (Mv S w S _ ∧ (_ ∧ ¬ S w.heap.size) ∧ (_ ∧ ¬ S (w.heap.size + 1)) ∧ (hostA D W b x).holds S _ ) :=
    Lib.hid ⟨Mv.of_below S g3, ⟨g0, fun hf => by have := (hge _ hf).2; omega⟩, ⟨g1, fun hf => by have := (hge _ hf).2; omega⟩, Asr.below h g3 hN⟩
  have Hr := Lib.hid hr.lt
  have HR0 := Lib.hid hR0
  have Hy2 := Lib.hid hy2
  have Hfb := Lib.hid hfb
  have Hfb2 := Lib.hid hfb2
  have hN0 := Lib.hid hN
  have HL := Lib.hid hL
  have Hge := Lib.hid hge
  clear g0 g1 g2 g3 hN hL hge h hl ok hR0 hlen hA hAl hW hr hy2 hfb hfb2 hAj hj hj2
  go_enter Tryd.func55, Tryd.ntmps55
  go_wp2
  refine startTP (S := fun a => a.block = w.heap.size ∨ a.block = w.heap.size + 1) (T := []) (fun X => Mv S w S X ∧ (X.heap[w.heap.size]? = some (.cells #[dv, wv, noteV b] 108) ∧ ¬ S w.heap.size) ∧ (X.heap[w.heap.size + 1]? = some (trB t A c) ∧ ¬ S (w.heap.size + 1)) ∧ (hostA D W b x).holds S X) 5 (by kernel_rfl) rfl (l := #[false, false, false, false, false]) rfl
      ⟨X0.out.1.drew, X0.out.2.1, X0.out.2.2.1, Asr.drew X0.out.2.2.2⟩ ?_
  clear X0
  rintro x0 ⟨M, b0, b1, hH⟩
  obtain ⟨c0, c1, c2, c3, c4, c5, c6⟩ := tr_cells b1.1
  have d0 := block_at b0.1 (i := 0) (v := dv) rfl
  have d1 := block_at b0.1 (i := 1) (v := wv) rfl
  have d2 := block_at b0.1 (i := 2) (v := noteV b) rfl
  replace M := Lib.hid M
  replace b0 := Lib.hid b0
  replace b1 := Lib.hid b1
  replace hH := Lib.hid hH
  ((first | (refine takeT 0 (v := ?_) rfl (by decide +kernel) (by decide +kernel) (by decide +kernel) (fun _ _ _ h => h) (by decide +kernel) (Or.inl ⟨by rfl, ?_⟩) ?_; rotate_left 1; (focus (intro W hW; have hcW := hW.at; (try dsimp only at hcW); go_simp; first | done | with_reducible rfl)); try simp only [Act.put, List.setIfInBounds_toArray, List.set_cons_zero, List.set_cons_succ]) | (refine takeW 0 (v := ?_) rfl (by decide +kernel) (by decide +kernel) (by decide +kernel) (fun _ _ _ h => h) (Or.inl ⟨by rfl, ?_⟩) ?_; rotate_left 1; (focus (intro W hW; go_simp; first | done | with_reducible rfl)); try simp only [Act.put, List.setIfInBounds_toArray, List.set_cons_zero, List.set_cons_succ]) | (refine takeW 0 rfl (by decide +kernel) (by decide +kernel) (by decide +kernel) (fun _ _ _ h => h) (Or.inr ⟨by rfl, rfl⟩) ?_; try simp only [Act.put, List.setIfInBounds_toArray, List.set_cons_zero, List.set_cons_succ]) | skip); (first | (refine takeT 1 (v := ?_) rfl (by decide +kernel) (by decide +kernel) (by decide +kernel) (fun _ _ _ h => h) (by decide +kernel) (Or.inl ⟨by rfl, ?_⟩) ?_; rotate_left 1; (focus (intro W hW; have hcW := hW.at; (try dsimp only at hcW); go_simp; first | done | with_reducible rfl)); try simp only [Act.put, List.setIfInBounds_toArray, List.set_cons_zero, List.set_cons_succ]) | (refine takeW 1 (v := ?_) rfl (by decide +kernel) (by decide +kernel) (by decide +kernel) (fun _ _ _ h => h) (Or.inl ⟨by rfl, ?_⟩) ?_; rotate_left 1; (focus (intro W hW; go_simp; first | done | with_reducible rfl)); try simp only [Act.put, List.setIfInBounds_toArray, List.set_cons_zero, List.set_cons_succ]) | (refine takeW 1 rfl (by decide +kernel) (by decide +kernel) (by decide +kernel) (fun _ _ _ h => h) (Or.inr ⟨by rfl, rfl⟩) ?_; try simp only [Act.put, List.setIfInBounds_toArray, List.set_cons_zero, List.set_cons_succ]) | skip))
  clear d0 d1 d2 c0 c1 c2 c3 c4 c5 c6
  refine stepT 2 rfl (by decide +kernel) (by rfl) ?_
  intro K hK
  go_simp
  refine (KT.out x0).mono ?_
  rintro e x1 ⟨rfl, bb⟩
  have hm := Mv.of_below S bb
  refine hK _ _ (.inr (smOf hm b0.out b1.out)) ?_
  replace hH := Lib.hid (Asr.below hH.out bb (Nat.le_trans hN0.out M.out.size))
  replace M := Lib.hid (M.out.trans hm)
  replace b0 := Lib.hid (hm.box b0.out)
  replace b1 := Lib.hid (hm.box b1.out)
  clear hK K hm bb
  try simp only [Act.put, List.setIfInBounds_toArray, List.set_cons_zero, List.set_cons_succ]
  refine stepT 3 rfl (by decide +kernel) (by rfl) ?_
  intro K hK
  go_simp
  refine (KS.out x1 hH.out (Nat.le_trans hN0.out M.out.size)).mono ?_
  rintro e y ⟨rfl, S1, hH1, hm⟩
  refine hK _ _ (.inr (smOf hm b0.out b1.out)) ?_
  replace hH := Lib.hid hH1
  replace M := Lib.hid (M.out.trans hm)
  replace b0 := Lib.hid (hm.box b0.out)
  replace b1 := Lib.hid (hm.box b1.out)
  clear hK K hm hH1
  try simp only [Act.put, List.setIfInBounds_toArray, List.set_cons_zero, List.set_cons_succ]
  ((first | (refine takeT 4 (v := ?_) rfl (by decide +kernel) (by decide +kernel) (by decide +kernel) (fun _ _ _ h => h) (by decide +kernel) (Or.inl ⟨by rfl, ?_⟩) ?_; rotate_left 1; (focus (intro W hW; have hcW := hW.at; (try dsimp only at hcW); go_simp; first | done | with_reducible rfl)); try simp only [Act.put, List.setIfInBounds_toArray, List.set_cons_zero, List.set_cons_succ]) | (refine takeW 4 (v := ?_) rfl (by decide +kernel) (by decide +kernel) (by decide +kernel) (fun _ _ _ h => h) (Or.inl ⟨by rfl, ?_⟩) ?_; rotate_left 1; (focus (intro W hW; go_simp; first | done | with_reducible rfl)); try simp only [Act.put, List.setIfInBounds_toArray, List.set_cons_zero, List.set_cons_succ]) | (refine takeW 4 rfl (by decide +kernel) (by decide +kernel) (by decide +kernel) (fun _ _ _ h => h) (Or.inr ⟨by rfl, rfl⟩) ?_; try simp only [Act.put, List.setIfInBounds_toArray, List.set_cons_zero, List.set_cons_succ]) | skip))
  refine doneT (by kernel_rfl) ?_
  cases fb
  · have hy : y2 = (x.1, (next x.2.1).1, x.2.2 ++ [(tokP t, true, (next x.2.1).2)]) := by
      rw [← Hy2.out, if_neg (fun h => by have := Hfb.out; rw [h] at this; cases this)]
    rw [← hy] at hH
    clear hy KA
    go_wp2
    refine region_inv (fun a₀ act z => ∃ g6 : Nat, act = { tmps := (((((((a₀.tmps.setIfInBounds 17 (.pointer (some ⟨w.heap.size + 1, 3, none⟩))).setIfInBounds 18 (.bool t.tog)).setIfInBounds 19 (.int .u8 (dpid t.tog : Int))).setIfInBounds 20 (.pointer (some ⟨w.heap.size + 1, 6, none⟩))).setIfInBounds 21 (.slice A t.data.length c)).setIfInBounds 22 (pkV (datP t) A c)).setIfInBounds 6 (.pointer (some ⟨g6, 0, none⟩))), defers := [] } ∧
      z.heap[g6]? = some (pkB (datP t) A c) ∧ ¬ S1 g6 ∧ w.heap.size + 1 + 1 ≤ g6 ∧ Mv S w S1 z ∧ (hostA D W b y2).holds S1 z ∧ (z.heap[w.heap.size]? = some (.cells #[dv, wv, noteV b] 108) ∧ ¬ S1 w.heap.size) ∧ (z.heap[w.heap.size + 1]? = some (trB t A c) ∧ ¬ S1 (w.heap.size + 1))) ?_ ?_
    · refine startTP (S := fun a => a.block = w.heap.size ∨ a.block = w.heap.size + 1) (T := [7]) (fun X => Mv S w S1 X ∧ (X.heap[w.heap.size]? = some (.cells #[dv, wv, noteV b] 108) ∧ ¬ S1 w.heap.size) ∧ (X.heap[w.heap.size + 1]? = some (trB t A c) ∧ ¬ S1 (w.heap.size + 1)) ∧ (hostA D W b y2).holds S1 X) 8 (by kernel_rfl) rfl (l := #[false, false, false, false, false, false, false, false]) rfl
        ⟨M.out.drew, b0.out, b1.out, Asr.drew hH.out⟩ ?_
      clear M b0 b1 hH
      rintro x5 ⟨M, b0, b1, hH⟩
      obtain ⟨c0, c1, c2, c3, c4, c5, c6⟩ := tr_cells b1.1
      replace M := Lib.hid M
      replace b0 := Lib.hid b0
      replace b1 := Lib.hid b1
      replace hH := Lib.hid hH
      ((first | (refine takeT 0 (v := ?_) rfl (by decide +kernel) (by decide +kernel) (by decide +kernel) (fun _ _ _ h => h) (by decide +kernel) (Or.inl ⟨by rfl, ?_⟩) ?_; rotate_left 1; (focus (intro W hW; have hcW := hW.at; (try dsimp only at hcW); go_simp; first | done | with_reducible rfl)); try simp only [Act.put, List.setIfInBounds_toArray, List.set_cons_zero, List.set_cons_succ]) | (refine takeW 0 (v := ?_) rfl (by decide +kernel) (by decide +kernel) (by decide +kernel) (fun _ _ _ h => h) (Or.inl ⟨by rfl, ?_⟩) ?_; rotate_left 1; (focus (intro W hW; go_simp; first | done | with_reducible rfl)); try simp only [Act.put, List.setIfInBounds_toArray, List.set_cons_zero, List.set_cons_succ]) | (refine takeW 0 rfl (by decide +kernel) (by decide +kernel) (by decide +kernel) (fun _ _ _ h => h) (Or.inr ⟨by rfl, rfl⟩) ?_; try simp only [Act.put, List.setIfInBounds_toArray, List.set_cons_zero, List.set_cons_succ]) | skip); (first | (refine takeT 1 (v := ?_) rfl (by decide +kernel) (by decide +kernel) (by decide +kernel) (fun _ _ _ h => h) (by decide +kernel) (Or.inl ⟨by rfl, ?_⟩) ?_; rotate_left 1; (focus (intro W hW; have hcW := hW.at; (try dsimp only at hcW); go_simp; first | done | with_reducible rfl)); try simp only [Act.put, List.setIfInBounds_toArray, List.set_cons_zero, List.set_cons_succ]) | (refine takeW 1 (v := ?_) rfl (by decide +kernel) (by decide +kernel) (by decide +kernel) (fun _ _ _ h => h) (Or.inl ⟨by rfl, ?_⟩) ?_; rotate_left 1; (focus (intro W hW; go_simp; first | done | with_reducible rfl)); try simp only [Act.put, List.setIfInBounds_toArray, List.set_cons_zero, List.set_cons_succ]) | (refine takeW 1 rfl (by decide +kernel) (by decide +kernel) (by decide +kernel) (fun _ _ _ h => h) (Or.inr ⟨by rfl, rfl⟩) ?_; try simp only [Act.put, List.setIfInBounds_toArray, List.set_cons_zero, List.set_cons_succ]) | skip))
      ((first | (refine takeT 3 (v := ?_) rfl (by decide +kernel) (by decide +kernel) (by decide +kernel) (fun _ _ _ h => h) (by decide +kernel) (Or.inl ⟨by rfl, ?_⟩) ?_; rotate_left 1; (focus (intro W hW; have hcW := hW.at; (try dsimp only at hcW); go_simp; first | done | with_reducible rfl)); try simp only [Act.put, List.setIfInBounds_toArray, List.set_cons_zero, List.set_cons_succ]) | (refine takeW 3 (v := ?_) rfl (by decide +kernel) (by decide +kernel) (by decide +kernel) (fun _ _ _ h => h) (Or.inl ⟨by rfl, ?_⟩) ?_; rotate_left 1; (focus (intro W hW; go_simp; first | done | with_reducible rfl)); try simp only [Act.put, List.setIfInBounds_toArray, List.set_cons_zero, List.set_cons_succ]) | (refine takeW 3 rfl (by decide +kernel) (by decide +kernel) (by decide +kernel) (fun _ _ _ h => h) (Or.inr ⟨by rfl, rfl⟩) ?_; try simp only [Act.put, List.setIfInBounds_toArray, List.set_cons_zero, List.set_cons_succ]) | skip); (first | (refine takeT 4 (v := ?_) rfl (by decide +kernel) (by decide +kernel) (by decide +kernel) (fun _ _ _ h => h) (by decide +kernel) (Or.inl ⟨by rfl, ?_⟩) ?_; rotate_left 1; (focus (intro W hW; have hcW := hW.at; (try dsimp only at hcW); go_simp; first | done | with_reducible rfl)); try simp only [Act.put, List.setIfInBounds_toArray, List.set_cons_zero, List.set_cons_succ]) | (refine takeW 4 (v := ?_) rfl (by decide +kernel) (by decide +kernel) (by decide +kernel) (fun _ _ _ h => h) (Or.inl ⟨by rfl, ?_⟩) ?_; rotate_left 1; (focus (intro W hW; go_simp; first | done | with_reducible rfl)); try simp only [Act.put, List.setIfInBounds_toArray, List.set_cons_zero, List.set_cons_succ]) | (refine takeW 4 rfl (by decide +kernel) (by decide +kernel) (by decide +kernel) (fun _ _ _ h => h) (Or.inr ⟨by rfl, rfl⟩) ?_; try simp only [Act.put, List.setIfInBounds_toArray, List.set_cons_zero, List.set_cons_succ]) | skip))
      clear c0 c1 c2 c3 c4 c5 c6
      refine stepTA [2, 6] (by decide +kernel) (by decide) ?_
      intro i hi
      rcases (by simpa using hi : i = 2 ∨ i = 6) with rfl | rfl
      · clear hi
        refine ⟨_, rfl, by rfl, ?_⟩
        intro K hK
        go_simp
        refine (dpid_any x5 t.tog).mono ?_
        rintro e x6 ⟨rfl, rfl⟩
        refine hK _ _ (.inr (Sm.refl _ _)) ?_
        clear hK K
        try simp only [Act.put, List.setIfInBounds_toArray, List.set_cons_zero, List.set_cons_succ]
        ((first | (refine takeT 5 (v := ?_) rfl (by decide +kernel) (by decide +kernel) (by decide +kernel) (fun _ _ _ h => h) (by decide +kernel) (Or.inl ⟨by rfl, ?_⟩) ?_; rotate_left 1; (focus (intro W hW; have hcW := hW.at; (try dsimp only at hcW); go_simp; first | done | with_reducible rfl)); try simp only [Act.put, List.setIfInBounds_toArray, List.set_cons_zero, List.set_cons_succ]) | (refine takeW 5 (v := ?_) rfl (by decide +kernel) (by decide +kernel) (by decide +kernel) (fun _ _ _ h => h) (Or.inl ⟨by rfl, ?_⟩) ?_; rotate_left 1; (focus (intro W hW; go_simp; first | done | with_reducible rfl)); try simp only [Act.put, List.setIfInBounds_toArray, List.set_cons_zero, List.set_cons_succ]) | (refine takeW 5 rfl (by decide +kernel) (by decide +kernel) (by decide +kernel) (fun _ _ _ h => h) (Or.inr ⟨by rfl, rfl⟩) ?_; try simp only [Act.put, List.setIfInBounds_toArray, List.set_cons_zero, List.set_cons_succ]) | skip))
        refine stepT 6 rfl (by decide +kernel) (by rfl) ?_
        intro K hK
        go_simp
        have lb6 := block_lt b1.out.1
        have nS : ¬ S1 x5.heap.size := fun hf => Nat.lt_irrefl _ ((hostA D W b y2).ge hH.out _ hf).2
        have bb := (Below.refl x5.heap.size x5).alloc (Nat.le_refl _) pkZ
        have hm := Mv.of_below S1 bb
        have sm := smOf hm b0.out b1.out
        replace hH := Lib.hid (Asr.below hH.out bb (Nat.le_trans hN0.out M.out.size))
        replace M := Lib.hid (M.out.trans hm)
        replace b0 := Lib.hid (hm.box b0.out)
        replace b1 := Lib.hid (hm.box b1.out)
        have b6 := Lib.hid (show (x5.alloc pkZ).heap[x5.heap.size]? = some pkZ ∧ ¬ S1 x5.heap.size from ⟨alloc1 x5 pkZ, nS⟩)
        refine hK _ _ (.inr sm) ?_
        clear hK K hm sm bb nS
        try simp only [Act.put, List.setIfInBounds_toArray, List.set_cons_zero, List.set_cons_succ]
        generalize x5.alloc pkZ = x7 at M b0 b1 hH b6 ⊢
        generalize x5.heap.size = g6 at b6 lb6 ⊢
        refine stepT 7 rfl (by decide +kernel) (by rfl) ?_
        intro K hK
        refine wp_storeB flatPk (.tmp 6) (.tmp 22) rfl g6 rfl _ rfl b6.out.1 rfl rfl rfl ?_
        intro z k6 hg6 hs6
        have hge6 : w.heap.size + 1 + 1 ≤ g6 := lb6
        have hN6 := hN0.out
        have hN7 := Nat.le_trans hN0.out M.out.size
        refine hK _ _ (.inl (by decide)) ?_
        clear hK K
        try simp only [Act.put, List.setIfInBounds_toArray, List.set_cons_zero, List.set_cons_succ]
        refine doneT (by kernel_rfl) ?_
        exact ⟨g6, rfl, k6, b6.out.2, hge6, M.out.grown_new hg6 (by omega), Asr.grown hH.out hg6 b6.out.2 (by omega) hN7, ⟨grown_block hg6 b0.out.1 (fun e => by injection e; omega), b0.out.2⟩, ⟨grown_block hg6 b1.out.1 (fun e => by injection e; omega), b1.out.2⟩⟩
      · clear hi
        refine ⟨_, rfl, by rfl, ?_⟩
        intro K hK
        go_simp
        have lb6 := block_lt b1.out.1
        have nS : ¬ S1 x5.heap.size := fun hf => Nat.lt_irrefl _ ((hostA D W b y2).ge hH.out _ hf).2
        have bb := (Below.refl x5.heap.size x5).alloc (Nat.le_refl _) pkZ
        have hm := Mv.of_below S1 bb
        have sm := smOf hm b0.out b1.out
        replace hH := Lib.hid (Asr.below hH.out bb (Nat.le_trans hN0.out M.out.size))
        replace M := Lib.hid (M.out.trans hm)
        replace b0 := Lib.hid (hm.box b0.out)
        replace b1 := Lib.hid (hm.box b1.out)
        have b6 := Lib.hid (show (x5.alloc pkZ).heap[x5.heap.size]? = some pkZ ∧ ¬ S1 x5.heap.size from ⟨alloc1 x5 pkZ, nS⟩)
        refine hK _ _ (.inr sm) ?_
        clear hK K hm sm bb nS
        try simp only [Act.put, List.setIfInBounds_toArray, List.set_cons_zero, List.set_cons_succ]
        generalize x5.alloc pkZ = x7 at M b0 b1 hH b6 ⊢
        generalize x5.heap.size = g6 at b6 lb6 ⊢
        refine stepT 2 rfl (by decide +kernel) (by rfl) ?_
        intro K hK
        go_simp
        refine (dpid_any x7 t.tog).mono ?_
        rintro e x6 ⟨rfl, rfl⟩
        refine hK _ _ (.inr (Sm.refl _ _)) ?_
        clear hK K
        try simp only [Act.put, List.setIfInBounds_toArray, List.set_cons_zero, List.set_cons_succ]
        ((first | (refine takeT 5 (v := ?_) rfl (by decide +kernel) (by decide +kernel) (by decide +kernel) (fun _ _ _ h => h) (by decide +kernel) (Or.inl ⟨by rfl, ?_⟩) ?_; rotate_left 1; (focus (intro W hW; have hcW := hW.at; (try dsimp only at hcW); go_simp; first | done | with_reducible rfl)); try simp only [Act.put, List.setIfInBounds_toArray, List.set_cons_zero, List.set_cons_succ]) | (refine takeW 5 (v := ?_) rfl (by decide +kernel) (by decide +kernel) (by decide +kernel) (fun _ _ _ h => h) (Or.inl ⟨by rfl, ?_⟩) ?_; rotate_left 1; (focus (intro W hW; go_simp; first | done | with_reducible rfl)); try simp only [Act.put, List.setIfInBounds_toArray, List.set_cons_zero, List.set_cons_succ]) | (refine takeW 5 rfl (by decide +kernel) (by decide +kernel) (by decide +kernel) (fun _ _ _ h => h) (Or.inr ⟨by rfl, rfl⟩) ?_; try simp only [Act.put, List.setIfInBounds_toArray, List.set_cons_zero, List.set_cons_succ]) | skip))
        refine stepT 7 rfl (by decide +kernel) (by rfl) ?_
        intro K hK
        refine wp_storeB flatPk (.tmp 6) (.tmp 22) rfl g6 rfl _ rfl b6.out.1 rfl rfl rfl ?_
        intro z k6 hg6 hs6
        have hge6 : w.heap.size + 1 + 1 ≤ g6 := lb6
        have hN6 := hN0.out
        have hN7 := Nat.le_trans hN0.out M.out.size
        refine hK _ _ (.inl (by decide)) ?_
        clear hK K
        try simp only [Act.put, List.setIfInBounds_toArray, List.set_cons_zero, List.set_cons_succ]
        refine doneT (by kernel_rfl) ?_
        exact ⟨g6, rfl, k6, b6.out.2, hge6, M.out.grown_new hg6 (by omega), Asr.grown hH.out hg6 b6.out.2 (by omega) hN7, ⟨grown_block hg6 b0.out.1 (fun e => by injection e; omega), b0.out.2⟩, ⟨grown_block hg6 b1.out.1 (fun e => by injection e; omega), b1.out.2⟩⟩
    clear M b0 b1 hH
    rintro act z ⟨g6, rfl, k6, n6, hge6, M, hH, b0, b1⟩
    try simp only [Act.put, List.setIfInBounds_toArray, List.set_cons_zero, List.set_cons_succ]
    have hNz := Nat.le_trans hN0.out M.size
    have Hr6 := Lib.hid (Hr.out.mvlt M)
    have k7 := Lib.hid (alloc1 z pkZ)
    have hbz := Lib.hid ((Below.refl z.heap.size z).alloc (Nat.le_refl _) pkZ)
    have n7 := Lib.hid (show ¬ S1 z.heap.size from fun hf => Nat.lt_irrefl _ ((hostA D W b y2).ge hH _ hf).2)
    have K6 := Lib.hid (show _ ∧ _ from ⟨k6, n6⟩)
    have M6 := Lib.hid M
    have H6 := Lib.hid hH
    have B06 := Lib.hid b0
    have B16 := Lib.hid b1
    have Hge6 := Lib.hid hge6
    have HNz := Lib.hid hNz
    clear k6 n6 M hH b0 b1 hge6 hNz
    go_wp2_with (first | (refine wpl_storeB flatPk rfl (.tmp 7) (.tmp 23) rfl _ rfl _ rfl k7.out rfl rfl rfl ?_; intro z2 k72 hg7 hs7; have B02 := Lib.hid (grown_block hg7 ((hbz.out.block _ (block_lt B06.out.1)).trans B06.out.1) (fun e => by injection e; have := block_lt B06.out.1; omega)); have B12 := Lib.hid (grown_block hg7 ((hbz.out.block _ (block_lt B16.out.1)).trans B16.out.1) (fun e => by injection e; have := block_lt B16.out.1; omega)); have K62 := Lib.hid (grown_block hg7 ((hbz.out.block _ (block_lt K6.out.1)).trans K6.out.1) (fun e => by injection e; have := block_lt K6.out.1; omega)); replace k72 := Lib.hid k72; replace hg7 := Lib.hid hg7; replace hs7 := Lib.hid hs7) | (refine wpl_loadB flatHost rfl (.tmp 2) rfl _ rfl B02.out rfl ?_) | (refine wpl_loadB flatPk rfl (.tmp 6) rfl _ rfl K62.out rfl ?_))
    have hbelow : Below z.heap.size z z2 := below_grown hbz.out hg7.out hbz.out.size (Nat.le_refl _)
    have hm2 := Mv.of_below S1 hbelow
    have hN2 := Nat.le_trans HNz.out hbelow.size
    have hH2 := Asr.below H6.out hbelow HNz.out
    refine (KS2.out z2 S1 hH2 (Hr6.out.mv hm2) hN2).mono ?_
    rintro e z3 ⟨rfl, S3, hH3, hm3⟩
    have M3 := Lib.hid ((M6.out.trans hm2).trans hm3)
    have hb7 := hm3.box ⟨k72.out, n7.out⟩
    have hb0 := hm3.box ⟨B02.out, B06.out.2⟩
    have hb1 := hm3.box ⟨B12.out, B16.out.2⟩
    have hb6 := hm3.box ⟨K62.out, K6.out.2⟩
    have K73 := Lib.hid hb7
    have B03 := Lib.hid hb0
    have B13 := Lib.hid hb1
    have K63 := Lib.hid hb6
    have H3 := Lib.hid hH3
    have HN3 := Lib.hid (Nat.le_trans hN2 hm3.size)
    have e4 := block_at hb1.1 (i := 4) (v := .bool t.iso) rfl
    have hz7 := block_lt B06.out.1
    have Hz7 := Lib.hid hz7
    clear hbelow hm2 hN2 hH2 hH3 hm3 hb7 hb0 hb1 hb6 hz7
    cases fb2
    · cases hiso : t.iso
      · rw [hiso] at HR0 e4
        have HR1 : (x', res) = ((y2.1, (next y2.2.1).1, y2.2.2 ++ [(datP t, true, (next y2.2.1).2)]), hsR t.what t.iso zeroP.pid) := by rw [← HR0.out, show dataR next ask false y2 t = ((y2.1, (next y2.2.1).1, y2.2.2 ++ [(datP t, true, (next y2.2.1).2)]), zeroP, false) from by unfold dataR; rw [if_neg (fun h => by cases h.2)], if_neg (by simp), hiso]
        have HR2 := Lib.hid HR1
        clear HR1 hiso
        have i0 := block_at K73.out.1 (i := 0) (v := .int .u8 (zeroP.pid : Int)) rfl
        have KH := Lib.hid fun X => hand_any X t A c zeroP.pid
        go_wp2_with (refine wpl_loadB flatTry rfl (.tmp 3) rfl _ rfl B13.out.1 rfl ?_)
        refine (KH.out _).mono ?_
        rintro e zz ⟨rfl, bb⟩
        obtain ⟨rfl, rfl⟩ := pair_eq HR2.out
        have Hf := Lib.hid (And.intro (Asr.below H3.out bb HN3.out) (M3.out.trans (Mv.of_below _ bb)))
        clear bb i0
        go_wp2
        go_ret
        exact ⟨rfl, _, Hf.out.1, Hf.out.2⟩
      · rw [hiso] at HR0 e4
        clear hiso
        have HR1 : (x', res) = ((y2.1, (next y2.2.1).1, y2.2.2 ++ [(datP t, true, (next y2.2.1).2)]), 1) := by rw [← HR0.out, show dataR next ask false y2 t = ((y2.1, (next y2.2.1).1, y2.2.2 ++ [(datP t, true, (next y2.2.1).2)]), zeroP, false) from by unfold dataR; rw [if_neg (fun h => by cases h.2)], if_pos rfl]
        obtain ⟨rfl, rfl⟩ := pair_eq HR1
        clear HR1
        go_wp2
        go_ret
        exact ⟨rfl, _, H3.out, M3.out⟩
    · cases hiso : t.iso
      · rw [hiso] at HR0 e4
        have HR1 : (x', res) = ((y2.1, (next y2.2.1).1, y2.2.2 ++ [(datP t, true, (next y2.2.1).2)]), hsR t.what t.iso zeroP.pid) := by rw [← HR0.out, show dataR next ask false y2 t = ((y2.1, (next y2.2.1).1, y2.2.2 ++ [(datP t, true, (next y2.2.1).2)]), zeroP, false) from by unfold dataR; rw [if_neg (fun h => by cases h.2)], if_neg (by simp), hiso]
        have HR2 := Lib.hid HR1
        clear HR1 hiso
        have i0 := block_at K73.out.1 (i := 0) (v := .int .u8 (zeroP.pid : Int)) rfl
        have KH := Lib.hid fun X => hand_any X t A c zeroP.pid
        go_wp2_with (refine wpl_loadB flatTry rfl (.tmp 3) rfl _ rfl B13.out.1 rfl ?_)
        refine (KH.out _).mono ?_
        rintro e zz ⟨rfl, bb⟩
        obtain ⟨rfl, rfl⟩ := pair_eq HR2.out
        have Hf := Lib.hid (And.intro (Asr.below H3.out bb HN3.out) (M3.out.trans (Mv.of_below _ bb)))
        clear bb i0
        go_wp2
        go_ret
        exact ⟨rfl, _, Hf.out.1, Hf.out.2⟩
      · rw [hiso] at HR0 e4
        clear hiso
        have HR1 : (x', res) = ((y2.1, (next y2.2.1).1, y2.2.2 ++ [(datP t, true, (next y2.2.1).2)]), 1) := by rw [← HR0.out, show dataR next ask false y2 t = ((y2.1, (next y2.2.1).1, y2.2.2 ++ [(datP t, true, (next y2.2.1).2)]), zeroP, false) from by unfold dataR; rw [if_neg (fun h => by cases h.2)], if_pos rfl]
        obtain ⟨rfl, rfl⟩ := pair_eq HR1
        clear HR1
        go_wp2
        go_ret
        exact ⟨rfl, _, H3.out, M3.out⟩
  · have hy : y2 = (ask x.1 (next x.2.1).1 (x.2.2 ++ [(tokP t, true, (next x.2.1).2)]) (tokP t)).1 := by
      rw [← Hy2.out, if_pos (by have := Hfb.out; simpa using this)]
    rw [← hy] at KA
    clear hy
    go_wp2
    refine startTP (S := fun a => a.block = w.heap.size ∨ a.block = w.heap.size + 1) (T := []) (fun X => Mv S w S1 X ∧ (X.heap[w.heap.size]? = some (.cells #[dv, wv, noteV b] 108) ∧ ¬ S1 w.heap.size) ∧ (X.heap[w.heap.size + 1]? = some (trB t A c) ∧ ¬ S1 (w.heap.size + 1)) ∧ (hostA D W b (x.1, (next x.2.1).1, x.2.2 ++ [(tokP t, true, (next x.2.1).2)])).holds S1 X) 4 (by kernel_rfl) rfl (l := #[false, false, false, false]) rfl
      ⟨M.out.drew, b0.out, b1.out, Asr.drew hH.out⟩ ?_
    clear M b0 b1 hH
    rintro x2 ⟨M, b0, b1, hH⟩
    obtain ⟨c0, c1, c2, c3, c4, c5, c6⟩ := tr_cells b1.1
    have d0 := block_at b0.1 (i := 0) (v := dv) rfl
    have d1 := block_at b0.1 (i := 1) (v := wv) rfl
    have d2 := block_at b0.1 (i := 2) (v := noteV b) rfl
    replace M := Lib.hid M
    replace b0 := Lib.hid b0
    replace b1 := Lib.hid b1
    replace hH := Lib.hid hH
    ((first | (refine takeT 0 (v := ?_) rfl (by decide +kernel) (by decide +kernel) (by decide +kernel) (fun _ _ _ h => h) (by decide +kernel) (Or.inl ⟨by rfl, ?_⟩) ?_; rotate_left 1; (focus (intro W hW; have hcW := hW.at; (try dsimp only at hcW); go_simp; first | done | with_reducible rfl)); try simp only [Act.put, List.setIfInBounds_toArray, List.set_cons_zero, List.set_cons_succ]) | (refine takeW 0 (v := ?_) rfl (by decide +kernel) (by decide +kernel) (by decide +kernel) (fun _ _ _ h => h) (Or.inl ⟨by rfl, ?_⟩) ?_; rotate_left 1; (focus (intro W hW; go_simp; first | done | with_reducible rfl)); try simp only [Act.put, List.setIfInBounds_toArray, List.set_cons_zero, List.set_cons_succ]) | (refine takeW 0 rfl (by decide +kernel) (by decide +kernel) (by decide +kernel) (fun _ _ _ h => h) (Or.inr ⟨by rfl, rfl⟩) ?_; try simp only [Act.put, List.setIfInBounds_toArray, List.set_cons_zero, List.set_cons_succ]) | skip); (first | (refine takeT 1 (v := ?_) rfl (by decide +kernel) (by decide +kernel) (by decide +kernel) (fun _ _ _ h => h) (by decide +kernel) (Or.inl ⟨by rfl, ?_⟩) ?_; rotate_left 1; (focus (intro W hW; have hcW := hW.at; (try dsimp only at hcW); go_simp; first | done | with_reducible rfl)); try simp only [Act.put, List.setIfInBounds_toArray, List.set_cons_zero, List.set_cons_succ]) | (refine takeW 1 (v := ?_) rfl (by decide +kernel) (by decide +kernel) (by decide +kernel) (fun _ _ _ h => h) (Or.inl ⟨by rfl, ?_⟩) ?_; rotate_left 1; (focus (intro W hW; go_simp; first | done | with_reducible rfl)); try simp only [Act.put, List.setIfInBounds_toArray, List.set_cons_zero, List.set_cons_succ]) | (refine takeW 1 rfl (by decide +kernel) (by decide +kernel) (by decide +kernel) (fun _ _ _ h => h) (Or.inr ⟨by rfl, rfl⟩) ?_; try simp only [Act.put, List.setIfInBounds_toArray, List.set_cons_zero, List.set_cons_succ]) | skip))
    clear d0 d1 d2 c0 c1 c2 c3 c4 c5 c6
    refine stepT 2 rfl (by decide +kernel) (by rfl) ?_
    intro K hK
    go_simp
    refine (KT.out x2).mono ?_
    rintro e x3 ⟨rfl, bb⟩
    have hm := Mv.of_below S1 bb
    refine hK _ _ (.inr (smOf hm b0.out b1.out)) ?_
    replace hH := Lib.hid (Asr.below hH.out bb (Nat.le_trans hN0.out M.out.size))
    replace M := Lib.hid (M.out.trans hm)
    replace b0 := Lib.hid (hm.box b0.out)
    replace b1 := Lib.hid (hm.box b1.out)
    clear hK K hm bb
    try simp only [Act.put, List.setIfInBounds_toArray, List.set_cons_zero, List.set_cons_succ]
    refine stepT 3 rfl (by decide +kernel) (by rfl) ?_
    intro K hK
    go_simp
    refine (KA.out x3 S1 hH.out (Nat.le_trans hN0.out M.out.size) (HL.out.belowN (M.out.belowN (fun k hk => (Hge.out k hk).1) hN0.out) hLN)).mono ?_
    rintro e y9 ⟨A9, c9, S9, rfl, _, hH1, hm⟩
    refine hK _ _ (.inr (smOf hm b0.out b1.out)) ?_
    replace hH := Lib.hid hH1
    replace M := Lib.hid (M.out.trans hm)
    replace b0 := Lib.hid (hm.box b0.out)
    replace b1 := Lib.hid (hm.box b1.out)
    clear hK K hm hH1
    try simp only [Act.put, List.setIfInBounds_toArray, List.set_cons_zero, List.set_cons_succ]
    refine doneT (by kernel_rfl) ?_
    go_wp2
    refine region_inv (fun a₀ act z => ∃ g6 : Nat, act = { tmps := (((((((a₀.tmps.setIfInBounds 17 (.pointer (some ⟨w.heap.size + 1, 3, none⟩))).setIfInBounds 18 (.bool t.tog)).setIfInBounds 19 (.int .u8 (dpid t.tog : Int))).setIfInBounds 20 (.pointer (some ⟨w.heap.size + 1, 6, none⟩))).setIfInBounds 21 (.slice A t.data.length c)).setIfInBounds 22 (pkV (datP t) A c)).setIfInBounds 6 (.pointer (some ⟨g6, 0, none⟩))), defers := [] } ∧
      z.heap[g6]? = some (pkB (datP t) A c) ∧ ¬ S9 g6 ∧ w.heap.size + 1 + 1 ≤ g6 ∧ Mv S w S9 z ∧ (hostA D W b y2).holds S9 z ∧ (z.heap[w.heap.size]? = some (.cells #[dv, wv, noteV b] 108) ∧ ¬ S9 w.heap.size) ∧ (z.heap[w.heap.size + 1]? = some (trB t A c) ∧ ¬ S9 (w.heap.size + 1))) ?_ ?_
    · refine startTP (S := fun a => a.block = w.heap.size ∨ a.block = w.heap.size + 1) (T := [7]) (fun X => Mv S w S9 X ∧ (X.heap[w.heap.size]? = some (.cells #[dv, wv, noteV b] 108) ∧ ¬ S9 w.heap.size) ∧ (X.heap[w.heap.size + 1]? = some (trB t A c) ∧ ¬ S9 (w.heap.size + 1)) ∧ (hostA D W b y2).holds S9 X) 8 (by kernel_rfl) rfl (l := #[false, false, false, false, false, false, false, false]) rfl
        ⟨M.out.drew, b0.out, b1.out, Asr.drew hH.out⟩ ?_
      clear M b0 b1 hH
      rintro x5 ⟨M, b0, b1, hH⟩
      obtain ⟨c0, c1, c2, c3, c4, c5, c6⟩ := tr_cells b1.1
      replace M := Lib.hid M
      replace b0 := Lib.hid b0
      replace b1 := Lib.hid b1
      replace hH := Lib.hid hH
      ((first | (refine takeT 0 (v := ?_) rfl (by decide +kernel) (by decide +kernel) (by decide +kernel) (fun _ _ _ h => h) (by decide +kernel) (Or.inl ⟨by rfl, ?_⟩) ?_; rotate_left 1; (focus (intro W hW; have hcW := hW.at; (try dsimp only at hcW); go_simp; first | done | with_reducible rfl)); try simp only [Act.put, List.setIfInBounds_toArray, List.set_cons_zero, List.set_cons_succ]) | (refine takeW 0 (v := ?_) rfl (by decide +kernel) (by decide +kernel) (by decide +kernel) (fun _ _ _ h => h) (Or.inl ⟨by rfl, ?_⟩) ?_; rotate_left 1; (focus (intro W hW; go_simp; first | done | with_reducible rfl)); try simp only [Act.put, List.setIfInBounds_toArray, List.set_cons_zero, List.set_cons_succ]) | (refine takeW 0 rfl (by decide +kernel) (by decide +kernel) (by decide +kernel) (fun _ _ _ h => h) (Or.inr ⟨by rfl, rfl⟩) ?_; try simp only [Act.put, List.setIfInBounds_toArray, List.set_cons_zero, List.set_cons_succ]) | skip); (first | (refine takeT 1 (v := ?_) rfl (by decide +kernel) (by decide +kernel) (by decide +kernel) (fun _ _ _ h => h) (by decide +kernel) (Or.inl ⟨by rfl, ?_⟩) ?_; rotate_left 1; (focus (intro W hW; have hcW := hW.at; (try dsimp only at hcW); go_simp; first | done | with_reducible rfl)); try simp only [Act.put, List.setIfInBounds_toArray, List.set_cons_zero, List.set_cons_succ]) | (refine takeW 1 (v := ?_) rfl (by decide +kernel) (by decide +kernel) (by decide +kernel) (fun _ _ _ h => h) (Or.inl ⟨by rfl, ?_⟩) ?_; rotate_left 1; (focus (intro W hW; go_simp; first | done | with_reducible rfl)); try simp only [Act.put, List.setIfInBounds_toArray, List.set_cons_zero, List.set_cons_succ]) | (refine takeW 1 rfl (by decide +kernel) (by decide +kernel) (by decide +kernel) (fun _ _ _ h => h) (Or.inr ⟨by rfl, rfl⟩) ?_; try simp only [Act.put, List.setIfInBounds_toArray, List.set_cons_zero, List.set_cons_succ]) | skip))
      ((first | (refine takeT 3 (v := ?_) rfl (by decide +kernel) (by decide +kernel) (by decide +kernel) (fun _ _ _ h => h) (by decide +kernel) (Or.inl ⟨by rfl, ?_⟩) ?_; rotate_left 1; (focus (intro W hW; have hcW := hW.at; (try dsimp only at hcW); go_simp; first | done | with_reducible rfl)); try simp only [Act.put, List.setIfInBounds_toArray, List.set_cons_zero, List.set_cons_succ]) | (refine takeW 3 (v := ?_) rfl (by decide +kernel) (by decide +kernel) (by decide +kernel) (fun _ _ _ h => h) (Or.inl ⟨by rfl, ?_⟩) ?_; rotate_left 1; (focus (intro W hW; go_simp; first | done | with_reducible rfl)); try simp only [Act.put, List.setIfInBounds_toArray, List.set_cons_zero, List.set_cons_succ]) | (refine takeW 3 rfl (by decide +kernel) (by decide +kernel) (by decide +kernel) (fun _ _ _ h => h) (Or.inr ⟨by rfl, rfl⟩) ?_; try simp only [Act.put, List.setIfInBounds_toArray, List.set_cons_zero, List.set_cons_succ]) | skip); (first | (refine takeT 4 (v := ?_) rfl (by decide +kernel) (by decide +kernel) (by decide +kernel) (fun _ _ _ h => h) (by decide +kernel) (Or.inl ⟨by rfl, ?_⟩) ?_; rotate_left 1; (focus (intro W hW; have hcW := hW.at; (try dsimp only at hcW); go_simp; first | done | with_reducible rfl)); try simp only [Act.put, List.setIfInBounds_toArray, List.set_cons_zero, List.set_cons_succ]) | (refine takeW 4 (v := ?_) rfl (by decide +kernel) (by decide +kernel) (by decide +kernel) (fun _ _ _ h => h) (Or.inl ⟨by rfl, ?_⟩) ?_; rotate_left 1; (focus (intro W hW; go_simp; first | done | with_reducible rfl)); try simp only [Act.put, List.setIfInBounds_toArray, List.set_cons_zero, List.set_cons_succ]) | (refine takeW 4 rfl (by decide +kernel) (by decide +kernel) (by decide +kernel) (fun _ _ _ h => h) (Or.inr ⟨by rfl, rfl⟩) ?_; try simp only [Act.put, List.setIfInBounds_toArray, List.set_cons_zero, List.set_cons_succ]) | skip))
      clear c0 c1 c2 c3 c4 c5 c6
      refine stepTA [2, 6] (by decide +kernel) (by decide) ?_
      intro i hi
      rcases (by simpa using hi : i = 2 ∨ i = 6) with rfl | rfl
      · clear hi
        refine ⟨_, rfl, by rfl, ?_⟩
        intro K hK
        go_simp
        refine (dpid_any x5 t.tog).mono ?_
        rintro e x6 ⟨rfl, rfl⟩
        refine hK _ _ (.inr (Sm.refl _ _)) ?_
        clear hK K
        try simp only [Act.put, List.setIfInBounds_toArray, List.set_cons_zero, List.set_cons_succ]
        ((first | (refine takeT 5 (v := ?_) rfl (by decide +kernel) (by decide +kernel) (by decide +kernel) (fun _ _ _ h => h) (by decide +kernel) (Or.inl ⟨by rfl, ?_⟩) ?_; rotate_left 1; (focus (intro W hW; have hcW := hW.at; (try dsimp only at hcW); go_simp; first | done | with_reducible rfl)); try simp only [Act.put, List.setIfInBounds_toArray, List.set_cons_zero, List.set_cons_succ]) | (refine takeW 5 (v := ?_) rfl (by decide +kernel) (by decide +kernel) (by decide +kernel) (fun _ _ _ h => h) (Or.inl ⟨by rfl, ?_⟩) ?_; rotate_left 1; (focus (intro W hW; go_simp; first | done | with_reducible rfl)); try simp only [Act.put, List.setIfInBounds_toArray, List.set_cons_zero, List.set_cons_succ]) | (refine takeW 5 rfl (by decide +kernel) (by decide +kernel) (by decide +kernel) (fun _ _ _ h => h) (Or.inr ⟨by rfl, rfl⟩) ?_; try simp only [Act.put, List.setIfInBounds_toArray, List.set_cons_zero, List.set_cons_succ]) | skip))
        refine stepT 6 rfl (by decide +kernel) (by rfl) ?_
        intro K hK
        go_simp
        have lb6 := block_lt b1.out.1
        have nS : ¬ S9 x5.heap.size := fun hf => Nat.lt_irrefl _ ((hostA D W b y2).ge hH.out _ hf).2
        have bb := (Below.refl x5.heap.size x5).alloc (Nat.le_refl _) pkZ
        have hm := Mv.of_below S9 bb
        have sm := smOf hm b0.out b1.out
        replace hH := Lib.hid (Asr.below hH.out bb (Nat.le_trans hN0.out M.out.size))
        replace M := Lib.hid (M.out.trans hm)
        replace b0 := Lib.hid (hm.box b0.out)
        replace b1 := Lib.hid (hm.box b1.out)
        have b6 := Lib.hid (show (x5.alloc pkZ).heap[x5.heap.size]? = some pkZ ∧ ¬ S9 x5.heap.size from ⟨alloc1 x5 pkZ, nS⟩)
        refine hK _ _ (.inr sm) ?_
        clear hK K hm sm bb nS
        try simp only [Act.put, List.setIfInBounds_toArray, List.set_cons_zero, List.set_cons_succ]
        generalize x5.alloc pkZ = x7 at M b0 b1 hH b6 ⊢
        generalize x5.heap.size = g6 at b6 lb6 ⊢
        refine stepT 7 rfl (by decide +kernel) (by rfl) ?_
        intro K hK
        refine wp_storeB flatPk (.tmp 6) (.tmp 22) rfl g6 rfl _ rfl b6.out.1 rfl rfl rfl ?_
        intro z k6 hg6 hs6
        have hge6 : w.heap.size + 1 + 1 ≤ g6 := lb6
        have hN6 := hN0.out
        have hN7 := Nat.le_trans hN0.out M.out.size
        refine hK _ _ (.inl (by decide)) ?_
        clear hK K
        try simp only [Act.put, List.setIfInBounds_toArray, List.set_cons_zero, List.set_cons_succ]
        refine doneT (by kernel_rfl) ?_
        exact ⟨g6, rfl, k6, b6.out.2, hge6, M.out.grown_new hg6 (by omega), Asr.grown hH.out hg6 b6.out.2 (by omega) hN7, ⟨grown_block hg6 b0.out.1 (fun e => by injection e; omega), b0.out.2⟩, ⟨grown_block hg6 b1.out.1 (fun e => by injection e; omega), b1.out.2⟩⟩
      · clear hi
        refine ⟨_, rfl, by rfl, ?_⟩
        intro K hK
        go_simp
        have lb6 := block_lt b1.out.1
        have nS : ¬ S9 x5.heap.size := fun hf => Nat.lt_irrefl _ ((hostA D W b y2).ge hH.out _ hf).2
        have bb := (Below.refl x5.heap.size x5).alloc (Nat.le_refl _) pkZ
        have hm := Mv.of_below S9 bb
        have sm := smOf hm b0.out b1.out
        replace hH := Lib.hid (Asr.below hH.out bb (Nat.le_trans hN0.out M.out.size))
        replace M := Lib.hid (M.out.trans hm)
        replace b0 := Lib.hid (hm.box b0.out)
        replace b1 := Lib.hid (hm.box b1.out)
        have b6 := Lib.hid (show (x5.alloc pkZ).heap[x5.heap.size]? = some pkZ ∧ ¬ S9 x5.heap.size from ⟨alloc1 x5 pkZ, nS⟩)
        refine hK _ _ (.inr sm) ?_
        clear hK K hm sm bb nS
        try simp only [Act.put, List.setIfInBounds_toArray, List.set_cons_zero, List.set_cons_succ]
        generalize x5.alloc pkZ = x7 at M b0 b1 hH b6 ⊢
        generalize x5.heap.size = g6 at b6 lb6 ⊢
        refine stepT 2 rfl (by decide +kernel) (by rfl) ?_
        intro K hK
        go_simp
        refine (dpid_any x7 t.tog).mono ?_
        rintro e x6 ⟨rfl, rfl⟩
        refine hK _ _ (.inr (Sm.refl _ _)) ?_
        clear hK K
        try simp only [Act.put, List.setIfInBounds_toArray, List.set_cons_zero, List.set_cons_succ]
        ((first | (refine takeT 5 (v := ?_) rfl (by decide +kernel) (by decide +kernel) (by decide +kernel) (fun _ _ _ h => h) (by decide +kernel) (Or.inl ⟨by rfl, ?_⟩) ?_; rotate_left 1; (focus (intro W hW; have hcW := hW.at; (try dsimp only at hcW); go_simp; first | done | with_reducible rfl)); try simp only [Act.put, List.setIfInBounds_toArray, List.set_cons_zero, List.set_cons_succ]) | (refine takeW 5 (v := ?_) rfl (by decide +kernel) (by decide +kernel) (by decide +kernel) (fun _ _ _ h => h) (Or.inl ⟨by rfl, ?_⟩) ?_; rotate_left 1; (focus (intro W hW; go_simp; first | done | with_reducible rfl)); try simp only [Act.put, List.setIfInBounds_toArray, List.set_cons_zero, List.set_cons_succ]) | (refine takeW 5 rfl (by decide +kernel) (by decide +kernel) (by decide +kernel) (fun _ _ _ h => h) (Or.inr ⟨by rfl, rfl⟩) ?_; try simp only [Act.put, List.setIfInBounds_toArray, List.set_cons_zero, List.set_cons_succ]) | skip))
        refine stepT 7 rfl (by decide +kernel) (by rfl) ?_
        intro K hK
        refine wp_storeB flatPk (.tmp 6) (.tmp 22) rfl g6 rfl _ rfl b6.out.1 rfl rfl rfl ?_
        intro z k6 hg6 hs6
        have hge6 : w.heap.size + 1 + 1 ≤ g6 := lb6
        have hN6 := hN0.out
        have hN7 := Nat.le_trans hN0.out M.out.size
        refine hK _ _ (.inl (by decide)) ?_
        clear hK K
        try simp only [Act.put, List.setIfInBounds_toArray, List.set_cons_zero, List.set_cons_succ]
        refine doneT (by kernel_rfl) ?_
        exact ⟨g6, rfl, k6, b6.out.2, hge6, M.out.grown_new hg6 (by omega), Asr.grown hH.out hg6 b6.out.2 (by omega) hN7, ⟨grown_block hg6 b0.out.1 (fun e => by injection e; omega), b0.out.2⟩, ⟨grown_block hg6 b1.out.1 (fun e => by injection e; omega), b1.out.2⟩⟩
    clear M b0 b1 hH
    rintro act z ⟨g6, rfl, k6, n6, hge6, M, hH, b0, b1⟩
    try simp only [Act.put, List.setIfInBounds_toArray, List.set_cons_zero, List.set_cons_succ]
    have hNz := Nat.le_trans hN0.out M.size
    have Hr6 := Lib.hid (Hr.out.mvlt M)
    have k7 := Lib.hid (alloc1 z pkZ)
    have hbz := Lib.hid ((Below.refl z.heap.size z).alloc (Nat.le_refl _) pkZ)
    have n7 := Lib.hid (show ¬ S9 z.heap.size from fun hf => Nat.lt_irrefl _ ((hostA D W b y2).ge hH _ hf).2)
    have K6 := Lib.hid (show _ ∧ _ from ⟨k6, n6⟩)
    have M6 := Lib.hid M
    have H6 := Lib.hid hH
    have B06 := Lib.hid b0
    have B16 := Lib.hid b1
    have Hge6 := Lib.hid hge6
    have HNz := Lib.hid hNz
    clear k6 n6 M hH b0 b1 hge6 hNz
    go_wp2_with (first | (refine wpl_storeB flatPk rfl (.tmp 7) (.tmp 23) rfl _ rfl _ rfl k7.out rfl rfl rfl ?_; intro z2 k72 hg7 hs7; have B02 := Lib.hid (grown_block hg7 ((hbz.out.block _ (block_lt B06.out.1)).trans B06.out.1) (fun e => by injection e; have := block_lt B06.out.1; omega)); have B12 := Lib.hid (grown_block hg7 ((hbz.out.block _ (block_lt B16.out.1)).trans B16.out.1) (fun e => by injection e; have := block_lt B16.out.1; omega)); have K62 := Lib.hid (grown_block hg7 ((hbz.out.block _ (block_lt K6.out.1)).trans K6.out.1) (fun e => by injection e; have := block_lt K6.out.1; omega)); replace k72 := Lib.hid k72; replace hg7 := Lib.hid hg7; replace hs7 := Lib.hid hs7) | (refine wpl_loadB flatHost rfl (.tmp 2) rfl _ rfl B02.out rfl ?_) | (refine wpl_loadB flatPk rfl (.tmp 6) rfl _ rfl K62.out rfl ?_))
    have hbelow : Below z.heap.size z z2 := below_grown hbz.out hg7.out hbz.out.size (Nat.le_refl _)
    have hm2 := Mv.of_below S9 hbelow
    have hN2 := Nat.le_trans HNz.out hbelow.size
    have hH2 := Asr.below H6.out hbelow HNz.out
    refine (KS2.out z2 S9 hH2 (Hr6.out.mv hm2) hN2).mono ?_
    rintro e z3 ⟨rfl, S3, hH3, hm3⟩
    have M3 := Lib.hid ((M6.out.trans hm2).trans hm3)
    have hb7 := hm3.box ⟨k72.out, n7.out⟩
    have hb0 := hm3.box ⟨B02.out, B06.out.2⟩
    have hb1 := hm3.box ⟨B12.out, B16.out.2⟩
    have hb6 := hm3.box ⟨K62.out, K6.out.2⟩
    have K73 := Lib.hid hb7
    have B03 := Lib.hid hb0
    have B13 := Lib.hid hb1
    have K63 := Lib.hid hb6
    have H3 := Lib.hid hH3
    have HN3 := Lib.hid (Nat.le_trans hN2 hm3.size)
    have e4 := block_at hb1.1 (i := 4) (v := .bool t.iso) rfl
    have hz7 := block_lt B06.out.1
    have Hz7 := Lib.hid hz7
    clear hbelow hm2 hN2 hH2 hH3 hm3 hb7 hb0 hb1 hb6 hz7
    cases fb2
    · cases hiso : t.iso
      · rw [hiso] at HR0 e4
        have HR1 : (x', res) = ((y2.1, (next y2.2.1).1, y2.2.2 ++ [(datP t, true, (next y2.2.1).2)]), hsR t.what t.iso zeroP.pid) := by rw [← HR0.out, show dataR next ask true y2 t = ((y2.1, (next y2.2.1).1, y2.2.2 ++ [(datP t, true, (next y2.2.1).2)]), zeroP, false) from by unfold dataR; rw [if_neg (fun h => by have := Hfb2.out; rw [h.1] at this; cases this)], if_neg (by simp), hiso]
        have HR2 := Lib.hid HR1
        clear HR1 hiso
        have i0 := block_at K73.out.1 (i := 0) (v := .int .u8 (zeroP.pid : Int)) rfl
        have KH := Lib.hid fun X => hand_any X t A c zeroP.pid
        go_wp2_with (refine wpl_loadB flatTry rfl (.tmp 3) rfl _ rfl B13.out.1 rfl ?_)
        refine (KH.out _).mono ?_
        rintro e zz ⟨rfl, bb⟩
        obtain ⟨rfl, rfl⟩ := pair_eq HR2.out
        have Hf := Lib.hid (And.intro (Asr.below H3.out bb HN3.out) (M3.out.trans (Mv.of_below _ bb)))
        clear bb i0
        go_wp2
        go_ret
        exact ⟨rfl, _, Hf.out.1, Hf.out.2⟩
      · rw [hiso] at HR0 e4
        clear hiso
        have HR1 : (x', res) = ((y2.1, (next y2.2.1).1, y2.2.2 ++ [(datP t, true, (next y2.2.1).2)]), 1) := by rw [← HR0.out, show dataR next ask true y2 t = ((y2.1, (next y2.2.1).1, y2.2.2 ++ [(datP t, true, (next y2.2.1).2)]), zeroP, false) from by unfold dataR; rw [if_neg (fun h => by have := Hfb2.out; rw [h.1] at this; cases this)], if_pos rfl]
        obtain ⟨rfl, rfl⟩ := pair_eq HR1
        clear HR1
        go_wp2
        go_ret
        exact ⟨rfl, _, H3.out, M3.out⟩
    · obtain ⟨q, hq⟩ : ∃ q, dataR next ask true y2 t = q := ⟨_, rfl⟩
      have hy3 : q = ask y2.1 (next y2.2.1).1 (y2.2.2 ++ [(datP t, true, (next y2.2.1).2)]) (datP t) := by rw [← hq]; unfold dataR; rw [if_pos ⟨by have := Hfb2.out; simpa using this, rfl⟩]
      rw [← hy3] at KA2
      clear hy3
      obtain ⟨y3, a, o⟩ := q
      have Hq := Lib.hid hq
      clear hq
      go_wp2_with (first | (refine wpl_loadB flatHost rfl (.tmp 2) rfl _ rfl B03.out.1 rfl ?_) | (refine wpl_loadB flatPk rfl (.tmp 6) rfl _ rfl K63.out.1 rfl ?_))
      refine (KA2.out z3 S3 H3.out (Hr.out.mvlt M3.out) HN3.out (HL.out.belowN (M3.out.belowN (fun k hk => (Hge.out k hk).1) hN0.out) hLN)).mono ?_
      rintro e z4 ⟨A4, c4, S4, rfl, _, hH4, hm4⟩
      have hb7 := hm4.box K73.out
      have hb1 := hm4.box B13.out
      have K74 := Lib.hid hb7
      have B14 := Lib.hid hb1
      have M4 := Lib.hid (M3.out.trans hm4)
      have H4 := Lib.hid hH4
      have HN4 := Lib.hid (Nat.le_trans HN3.out hm4.size)
      clear hb7 hb1 hH4 hm4 e4
      have KH := Lib.hid fun X => hand_any X t A c a.pid
      cases hiso : t.iso
      · rw [hiso] at HR0
        have HR1 : (x', res) = (y3, hsR t.what t.iso a.pid) := by rw [← HR0.out, Hq.out, if_neg (by simp), hiso]
        have HR2 := Lib.hid HR1
        replace hiso := Lib.hid hiso
        clear HR1
        go_wp2_with (first | (refine wpl_storeB flatPk rfl (.tmp 7) (.tmp 34) rfl _ rfl _ rfl K74.out.1 rfl rfl rfl ?_; intro z5 k75 hg75 hs75; have B15 := grown_block hg75 B14.out.1 (fun e => by injection e; have := Hz7.out; have := block_lt B16.out.1; omega); have e4 := block_at B15 (i := 4) (v := .bool t.iso) rfl; rw [hiso.out] at e4; have i0 := block_at k75 (i := 0) (v := .int .u8 (a.pid : Int)) rfl; replace B15 := Lib.hid B15; replace k75 := Lib.hid k75; replace hg75 := Lib.hid hg75; replace hs75 := Lib.hid hs75) | (refine wpl_loadB flatTry rfl (.tmp 3) rfl _ rfl B15.out rfl ?_))
        have hlt := Lib.hid (block_lt B16.out.1)
        have M5 := Lib.hid (M4.out.grown_new hg75.out (by have := hlt.out; omega))
        have H5 := Lib.hid (Asr.grown H4.out hg75.out K74.out.2 HNz.out HN4.out)
        have HN5 := Lib.hid (show N ≤ z5.heap.size by rw [hs75.out]; exact HN4.out)
        refine (KH.out z5).mono ?_
        rintro e zz ⟨rfl, bb⟩
        obtain ⟨rfl, rfl⟩ := pair_eq HR2.out
        have Hf := Lib.hid (And.intro (Asr.below H5.out bb HN5.out) (M5.out.trans (Mv.of_below _ bb)))
        clear bb i0
        go_wp2
        go_ret
        exact ⟨rfl, _, Hf.out.1, Hf.out.2⟩
      · rw [hiso] at HR0
        have HR1 : (x', res) = (y3, 1) := by rw [← HR0.out, Hq.out, if_pos rfl]
        replace hiso := Lib.hid hiso
        obtain ⟨rfl, rfl⟩ := pair_eq HR1
        clear HR1
        go_wp2_with (refine wpl_storeB flatPk rfl (.tmp 7) (.tmp 34) rfl _ rfl _ rfl K74.out.1 rfl rfl rfl ?_; intro z5 k75 hg75 hs75; have B15 := grown_block hg75 B14.out.1 (fun e => by injection e; have := Hz7.out; have := block_lt B16.out.1; omega); have e4 := block_at B15 (i := 4) (v := .bool t.iso) rfl; rw [hiso.out] at e4; have i0 := block_at k75 (i := 0) (v := .int .u8 (a.pid : Int)) rfl; replace B15 := Lib.hid B15; replace k75 := Lib.hid k75; replace hg75 := Lib.hid hg75; replace hs75 := Lib.hid hs75)
        have hlt := Lib.hid (block_lt B16.out.1)
        have M5 := Lib.hid (M4.out.grown_new hg75.out (by have := hlt.out; omega))
        have H5 := Lib.hid (Asr.grown H4.out hg75.out K74.out.2 HNz.out HN4.out)
        have HN5 := Lib.hid (show N ≤ z5.heap.size by rw [hs75.out]; exact HN4.out)
        go_ret
        exact ⟨rfl, _, H5.out, M5.out⟩
end

end Go.Proofs.YtkfkcpogcobmbaaDoor
