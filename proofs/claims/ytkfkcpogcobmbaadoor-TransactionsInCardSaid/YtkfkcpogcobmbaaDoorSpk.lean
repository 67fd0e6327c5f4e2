/-
  Helper text: the host speaks; no statement is proved here.
-/
import Derived.Test.YtkfkcpogcobmbaaDoorAsk
namespace Go.Proofs.YtkfkcpogcobmbaaDoor
open Go Go.RowKit

theorem triple_eq {α β γ : Type} {x y : α} {a b : β} {o q : γ} (h : (x, a, o) = (y, b, q)) : x = y ∧ a = b ∧ o = q := by
  cases h
  exact ⟨rfl, rfl, rfl⟩
/-- What ask does, of whatever device. -/
def AskC {N : Nat} {σ τ : Type} (D : σ → Asr N) (W : τ → Asr N) (b : Nat) (dv wv : Value) (ask : σ → τ → List SentP → Pkt → (σ × τ × List SentP) × Pkt × Bool) (J : σ → List SentP → Prop) : Prop :=
  ∀ (w : World) (s : σ) (t : τ) (l : List SentP) (S : Nat → Prop), (∃ l0 y, l = l0 ++ [y] ∧ J s l0) → (hostA D W b (s, t, l)).holds S w → ∀ (p : Pkt), p.Ok → ∀ (A : Option Addr) (c : Nat), RdS (fun k => ¬ S k) w A c p.data → l.length ≤ 1000000 → N ≤ w.heap.size → Laid w →
    Calls Tryd.prog 60 #[hostV dv wv b, pkV p A c] w (AnsPost (hostA D W b (ask s t l p).1) S w (ask s t l p).2)

section
variable {N : Nat} {σ τ : Type} {D : σ → Asr N} {W : τ → Asr N} {next : τ → τ × Nat} {wv dv : Value} {b : Nat} {ask : σ → τ → List SentP → Pkt → (σ × τ × List SentP) × Pkt × Bool}

theorem askC_dev {hear : σ → Pkt → σ × Pkt × Bool} {T : Nat} {v : Value} {K0 : Nat} {rv : Value} {P : σ → Prop} (hD : DevOK D hear T v K0 rv P) (hW : WireOK W next wv) {J : σ → List SentP → Prop} (hJP : ∀ s l, J s l → l.length ≤ 1000000 → P s) (b : Nat) (hLN : 0 < N) : AskC D W b (.iface T v) wv (askR hear next) J :=
  fun w s t l S hj h p ok A c hr hl hN hL => ask_any hD hW w b s (by obtain ⟨l0, y, rfl, h0⟩ := hj; exact hJP s l0 h0 (by rw [List.length_append] at hl; omega)) t l S h p ok A c hr hl hN hL hLN

/-- Without a device. -/
def askN {τ : Type} (s : Unit) (t : τ) (l : List SentP) (_ : Pkt) : (Unit × τ × List SentP) × Pkt × Bool := ((s, t, l), zeroP, false)
set_option maxHeartbeats 400000 in
set_option maxRecDepth 100000 in
theorem askC_nil (W : τ → Asr N) (b : Nat) (wv : Value) (J : Unit → List SentP → Prop) : AskC (fun _ : Unit => noA N) W b .nilIface wv askN J := by
  intro w s t l S _ h p ok A c hr hl hN hL
  have q := isNil_dev0
  obtain ⟨g0, g1, g2, g3, g4⟩ := alloc3 w (.cells #[.nilIface, wv, noteV b] 108) (pkB p A c) pkZ
  have d0 := block_at g0 (i := 0) (v := .nilIface) rfl
  have hlt : ∀ k, S k → k < w.heap.size := fun k hk => ((hostA (fun _ : Unit => noA N) W b (s, t, l)).ge h k hk).2
  have HN := Lib.hid hN
  have H4 := Lib.hid (Asr.below h g4 hN)
  have HM := Lib.hid (Mv.of_below S g4)
  have Hlt := Lib.hid hlt
  have B2 := Lib.hid g2
  have Hsz := Lib.hid g3
  clear g0 g1 g2 g3 g4 hlt h hr hl hN hL ok
  go_enter Tryd.func60, Tryd.ntmps60
  go_wp2_with (refine wpl_storeB flatPk rfl (.tmp 4) (.tmp 11) rfl _ rfl _ rfl B2.out rfl rfl rfl ?_; intro y2 k2 hg2 hs2)
  refine bodyPost_ret (ret_cell_tmp flatPk rfl _ (w.heap.size + 1 + 1) rfl k2 rfl) rfl ?_
  exact ⟨none, 0, S, rfl, RdU.nil _, Asr.grown H4.out hg2 (fun hf => by have := Hlt.out _ hf; omega) (by have := HN.out; omega) (by have := HN.out; have := Hsz.out; omega), HM.out.grown_new hg2 (by omega)⟩

/-- What speaking comes to. -/
def speakR (next : τ → τ × Nat) (ask : σ → τ → List SentP → Pkt → (σ × τ × List SentP) × Pkt × Bool) (x : σ × τ × List SentP) (p : Pkt) : (σ × τ × List SentP) × Pkt × Bool :=
  if (next x.2.1).2 = 0 then ask x.1 (next x.2.1).1 (x.2.2 ++ [(p, true, (next x.2.1).2)]) p else ((x.1, (next x.2.1).1, x.2.2 ++ [(p, true, (next x.2.1).2)]), zeroP, false)

set_option maxHeartbeats 1600000 in
set_option maxRecDepth 100000 in
theorem speak_any {J : σ → List SentP → Prop} (hW : WireOK W next wv) (hA : AskC D W b dv wv ask J) (hLN : 0 < N) (w : World) (x : σ × τ × List SentP) (hj : J x.1 x.2.2) (S : Nat → Prop) (h : (hostA D W b x).holds S w) (p : Pkt) (ok : p.Ok) (A : Option Addr) (c : Nat)
    (hr : RdS (fun k => ¬ S k) w A c p.data) (hl : x.2.2.length ≤ 999999) (hN : N ≤ w.heap.size) (hL : Laid w) :
    Calls Tryd.prog 39 #[hostV dv wv b, pkV p A c] w (AnsPost (hostA D W b (speakR next ask x p).1) S w (speakR next ask x p).2) := by
  obtain ⟨s, t, l⟩ := x
  obtain ⟨FD, FR, hA1, hR, hd, rfl⟩ := Asr.sep_eq h
  replace hA1 : (D s).holds FD w := hA1
  replace hR : ((W t).sep (snA N b l)).holds FR w := hR
  obtain ⟨g0, g1, g2, g3, g4⟩ := alloc3 w (.cells #[dv, wv, noteV b] 108) (pkB p A c) pkZ
  have hge : ∀ k, (FD k ∨ FR k) → N ≤ k ∧ k < w.heap.size := fun k hk => (hostA D W b (s, t, l)).ge h k hk
  have hr1 := hr.below g4
  have hN1 := Nat.le_trans hN g4.size
  have KS := Lib.hid (send_any hW dv _ b t l FR (Asr.below hR g4 hN) p ok true A c (hr1.mono fun k hk hf => hk (.inr hf)) (by show l.length ≤ 1000000; have : l.length ≤ 999999 := hl; omega) hN1)
  have KA := Lib.hid fun (X : World) (S : Nat → Prop) (h : (hostA D W b (s, (next t).1, l ++ [(p, true, (next t).2)])).holds S X) (hr : RdS (fun k => ¬ S k) X A c p.data) (hN : N ≤ X.heap.size) (hL : Laid X) => hA X s (next t).1 (l ++ [(p, true, (next t).2)]) S ⟨_, _, rfl, hj⟩ h p ok A c hr (by rw [List.length_append]; show l.length + 1 ≤ 1000000; have : l.length ≤ 999999 := hl; omega) hN hL
  obtain ⟨R, hR0⟩ : ∃ R, speakR next ask (s, t, l) p = R := ⟨_, rfl⟩
  rw [hR0]
  unfold speakR at hR0
  simp only at hR0
  obtain ⟨fb, hfb⟩ : ∃ fb, ((next t).2 == 0) = fb := ⟨_, rfl⟩
  rw [hfb] at KS
  obtain ⟨x', a, o⟩ := R
  have HR0 := Lib.hid hR0
  have Hfb := Lib.hid hfb
  have B0 := Lib.hid g0
  have B1 := Lib.hid g1
  have B2 := Lib.hid g2
  have Hsz := Lib.hid g3
  have Hb := Lib.hid g4
  have HN := Lib.hid hN
  have HN1 := Lib.hid hN1
  have HL := Lib.hid hL
  have Hge := Lib.hid hge
  have HA1 := Lib.hid (Asr.below hA1 g4 hN)
  have HR := Lib.hid (Asr.below hR g4 hN)
  have Hd := Lib.hid hd
  have Hr1 := Lib.hid hr1
  clear hR0 hfb g0 g1 g2 g3 g4 hN hN1 hL hge hA1 hR hd hr1 h hr hl ok hj
  go_enter Tryd.func39, Tryd.ntmps39
  go_wp2_with (first | (refine wpl_loadB flatHost rfl (.tmp 2) rfl _ rfl B0.out rfl ?_) | (refine wpl_loadB flatPk rfl (.tmp 3) rfl _ rfl B1.out rfl ?_))
  refine KS.out.mono ?_
  rintro e y ⟨rfl, S1, hR1, hm1⟩
  obtain ⟨hs, hm⟩ := Asr.sep_right HA1.out HR.out Hd.out hR1 hm1 HN1.out
  have hnew : ∀ k, w.heap.size ≤ k → ¬ (FD k ∨ FR k) := fun k hk hf => by have := (Hge.out k hf).2; omega
  have b0 := hm.box ⟨B0.out, hnew _ (by omega)⟩
  have b1 := hm.box ⟨B1.out, hnew _ (by omega)⟩
  have b2 := hm.box ⟨B2.out, hnew _ (by omega)⟩
  have hM := (Mv.of_below (fun k => FD k ∨ FR k) Hb.out).trans hm
  have hr2 := Hr1.out.mv hm
  have hNy := Nat.le_trans HN1.out hm.size
  have hLy := HL.out.belowN (hM.belowN (fun k hk => (Hge.out k hk).1) HN.out) hLN
  have Hs := Lib.hid hs
  have C0 := Lib.hid b0.1
  have C1 := Lib.hid b1.1
  have C2 := Lib.hid b2.1
  have N2 := Lib.hid b2.2
  have HM := Lib.hid hM
  have Hr2 := Lib.hid hr2
  have HNy := Lib.hid hNy
  have HLy := Lib.hid hLy
  clear hs hm hm1 hR1 b0 b1 b2 hM hr2 hNy hLy hnew
  cases fb
  · have HR1 : (x', a, o) = ((s, (next t).1, l ++ [(p, true, (next t).2)]), zeroP, false) := by
      rw [← HR0.out, if_neg (fun h => by have := Hfb.out; rw [h] at this; cases this)]
    obtain ⟨rfl, rfl, rfl⟩ := triple_eq HR1
    go_wp2_with (refine wpl_storeB flatPk rfl (.tmp 4) (.tmp 10) rfl _ rfl _ rfl C2.out rfl rfl rfl ?_; intro y5 k2 hg5 hs5)
    refine bodyPost_ret (ret_cell_tmp flatPk rfl _ (w.heap.size + 1 + 1) rfl k2 rfl) rfl ?_
    exact ⟨none, 0, _, rfl, RdU.nil _, Asr.grown Hs.out hg5 N2.out (by have := HN.out; omega) HNy.out, HM.out.grown_new hg5 (by omega)⟩
  · have HR1 : (x', a, o) = ask s (next t).1 (l ++ [(p, true, (next t).2)]) p := by
      rw [← HR0.out, if_pos (by have := Hfb.out; simpa using this)]
    rw [← HR1] at KA
    clear HR1
    go_wp2_with (first | (refine wpl_loadB flatHost rfl (.tmp 2) rfl _ rfl C0.out rfl ?_) | (refine wpl_loadB flatPk rfl (.tmp 3) rfl _ rfl C1.out rfl ?_))
    refine (KA.out y _ Hs.out Hr2.out HNy.out HLy.out).mono ?_
    rintro e z ⟨A2, c2, S2, rfl, hr3, hs3, hm3⟩
    have b2 := hm3.box ⟨C2.out, N2.out⟩
    have D2 := Lib.hid b2.1
    have M2 := Lib.hid b2.2
    have Hr3 := Lib.hid hr3
    have Hs3 := Lib.hid hs3
    have HM3 := Lib.hid (HM.out.trans hm3)
    have HNz := Lib.hid (Nat.le_trans HNy.out hm3.size)
    clear b2 hr3 hs3 hm3
    go_wp2_with (refine wpl_storeB flatPk rfl (.tmp 4) (.tmp 14) rfl _ rfl _ rfl D2.out rfl rfl rfl ?_; intro y5 k2 hg5 hs5)
    refine bodyPost_ret (ret_cell_tmp flatPk rfl _ (w.heap.size + 1 + 1) rfl k2 rfl) rfl ?_
    exact ⟨A2, c2, S2, rfl, (Hr3.out.grown hg5 fun k hk e => by have := block_lt C2.out; omega).mono fun k hk => ⟨hk.1, by have := block_lt C2.out; omega⟩, Asr.grown Hs3.out hg5 M2.out (by have := HN.out; omega) HNz.out, HM3.out.grown_new hg5 (by omega)⟩
end

end Go.Proofs.YtkfkcpogcobmbaaDoor
