/-
  Helper text: the program's Speak, for every device and wire; no statement is proved here.
-/
import Derived.Test.YtgihpgdjkanodaaGreatDoorDo2
import Derived.Test.YtgihpgdjkanodaaGreatDoorRsA
namespace Go.Proofs.YtgihpgdjkanodaaGreatDoor
open Go Go.RowKit

/-- What has been sent, with no room behind it. -/
def PostC (F : Nat → Prop) (l : List SentP) (w : World) (e : Ending) (w' : World) : Prop :=
  ∃ A, e = .returned (.slice A l.length l.length) ∧ RdL laySn F w' A l.length l ∧ w = w'
set_option maxRecDepth 100000 in
theorem sentC_any (w : World) (N b : Nat) (l : List SentP) (F : Nat → Prop) (h : (snA N b l).holds F w) :
    Calls Tryz.prog 65 #[.pointer (some ⟨b, 0, none⟩)] w (PostC F l w) := by
  obtain ⟨⟨v, hv, ho⟩, hFb, hF⟩ := h
  obtain ⟨A0, c0, rfl, hr⟩ := ho.rdl
  have cb := block_at hv (i := 0) rfl
  have hle := hr.le
  have hcap := hr.cap
  have hr2 := Lib.hid (hr.mono (G := F) fun k hk => hk.elim (·.1) (fun h => by omega))
  clear hr ho hF hv
  go_enter Tryz.func65, Tryz.ntmps65
  go_wp2_with fail
  refine (sclip_any _ A0 l.length c0 hle hcap).mono ?_
  rintro e w1 ⟨rfl, rfl⟩
  go_wp2
  go_ret
  exact ⟨A0, rfl, ⟨Nat.le_refl _, by omega, hr2.out.cells⟩, rfl⟩

section
variable {N : Nat} {σ τ : Type} {D : σ → Asr N} {W : τ → Asr N} {next : τ → τ × Nat} {wv dv : Value} {ask : σ → τ → List SentP → Pkt → (σ × τ × List SentP) × Pkt × Bool}
def SpkPost {N : Nat} (A : Asr N) (S : Nat → Prop) (w : World) (r : Pkt × Bool) (l : List SentP) (e : Ending) (w' : World) : Prop :=
  ∃ (A1 : Option Addr) (c1 : Nat) (A2 : Option Addr) (S1 F : Nat → Prop), e = .returned (.tuple #[pkV r.1 A1 c1, .bool r.2, .slice A2 l.length l.length]) ∧ RdS (fun k => ¬ S1 k ∧ ¬ F k ∧ w.heap.size ≤ k) w' A1 c1 r.1.data ∧ RdL laySn F w' A2 l.length l ∧
    (∀ k, F k → ¬ S1 k ∧ N ≤ k ∧ k < w'.heap.size) ∧ A.holds S1 w' ∧ Mv S w S1 w' ∧ ∀ k, F k → S k ∨ w.heap.size ≤ k
/-- What Speak comes to. -/
def spkR (next : τ → τ × Nat) (ask : σ → τ → List SentP → Pkt → (σ × τ × List SentP) × Pkt × Bool) (s : σ) (q : τ) (p : Pkt) : (σ × τ × List SentP) × Pkt × Bool :=
  if p.err = 0 then speakR next ask (s, q, []) p else ((s, q, []), zeroP, false)

set_option maxHeartbeats 1600000 in
set_option maxRecDepth 100000 in
theorem spkP_any {J : σ → List SentP → Prop} (hdv : IsIface dv) (hwv : IsIface wv) (hW : WireOK W next wv) (hA : ∀ b, AskC D W b dv wv ask J) (hLN : 0 < N) (w : World) (s : σ) (hj : J s []) (q : τ) (S : Nat → Prop) (h : ((D s).sep (W q)).holds S w) (p : Pkt) (ok : p.Ok)
    (A : Option Addr) (c : Nat) (hr : RdS (fun k => ¬ S k) w A c p.data) (hN : N ≤ w.heap.size) (hL : Laid w) :
    Calls Tryz.prog 38 #[dv, wv, pkV p A c] w (SpkPost ((D (spkR next ask s q p).1.1).sep (W (spkR next ask s q p).1.2.1)) S w (spkR next ask s q p).2 (spkR next ask s q p).1.2.2) := by
  have hge : ∀ k, S k → N ≤ k ∧ k < w.heap.size := fun k hk => ((D s).sep (W q)).ge h k hk
  obtain ⟨g0, g1, g2, g3⟩ := alloc2 w (pkB p A c) pkZ
  have Hone := fun b => host_one hdv hwv b
  have KC := Lib.hid (pcheck_any _ (hL.belowN (g3.mono hN) hLN) p ok A c (hr.below g3).rdT)
  have KN := Lib.hid fun X => newHost_any X dv wv hdv hwv
  have KP := Lib.hid fun (X : World) (b : Nat) (S : Nat → Prop) (hX : (hostA D W b (s, q, [])).holds S X) (hr : RdS (fun k => ¬ S k) X A c p.data) (hN : N ≤ X.heap.size) (hL : Laid X) => speak_any hW (hA b) hLN X (s, q, []) hj S hX p ok A c hr (by simp) hN hL
  obtain ⟨R, hR⟩ : ∃ R, spkR next ask s q p = R := ⟨_, rfl⟩
  rw [hR]
  unfold spkR at hR
  obtain ⟨P, hP⟩ : ∃ P, speakR next ask (s, q, []) p = P := ⟨_, rfl⟩
  rw [hP] at hR KP
  have HR := Lib.hid hR
  have Hh := Lib.hid h
  have Hr := Lib.hid hr
  have HN := Lib.hid hN
  have HL := Lib.hid hL
  have Hge := Lib.hid hge
  have B0 := Lib.hid g0
  have B1 := Lib.hid g1
  have Hsz := Lib.hid g2
  have Hb := Lib.hid g3
  obtain ⟨E, hE⟩ : ∃ E, (p.err : Int) = E := ⟨_, rfl⟩
  rw [hE] at KC
  clear g0 g1 g2 g3 h hr hN hL hge hR hP ok hA hW hdv hwv hj
  by_cases he : p.err = 0
  · rw [if_pos he] at HR
    have hE0 : E = 0 := by rw [← hE, he]; rfl
    subst hE0
    have := HR.out
    subst this
    clear HR he hE
    obtain ⟨x', a, o⟩ := P
    simp only at KP ⊢
    go_enter Tryz.func38, Tryz.ntmps38
    go_wp2_with (refine wpl_loadB flatPk rfl (.tmp 5) rfl _ rfl B0.out rfl ?_)
    refine KC.out.mono ?_
    rintro e y1 ⟨rfl, bb1⟩
    have hbb := Hb.out.trans (bb1.mono Hb.out.size)
    have B01 := Lib.hid ((bb1.block _ (block_lt B0.out)).trans B0.out)
    have B11 := Lib.hid ((bb1.block _ (block_lt B1.out)).trans B1.out)
    have Hb1 := Lib.hid hbb
    clear bb1 hbb
    go_wp2_with fail
    refine (KN.out y1).mono ?_
    rintro e y2 ⟨b, rfl, hbx, hgb, bb2⟩
    replace Hone := Lib.hid (Hone b)
    have hbb := Hb1.out.trans (bb2.mono Hb1.out.size)
    have B02 := Lib.hid ((bb2.block _ (block_lt B01.out)).trans B01.out)
    have B12 := Lib.hid ((bb2.block _ (block_lt B11.out)).trans B11.out)
    have Hb2 := Lib.hid hbb
    have Hbx := Lib.hid hbx
    have Hgb := Lib.hid (show w.heap.size + 1 + 1 ≤ b by have := block_lt B11.out; omega)
    have k8 := Lib.hid (alloc1 y2 (.cells #[.nilIface, .nilIface, .nilFunc] 127))
    have Hb8 := Lib.hid ((Below.refl y2.heap.size y2).alloc (Nat.le_refl _) (.cells #[.nilIface, .nilIface, .nilFunc] 127))
    clear bb2 hbb hbx hgb
    go_wp2_with (first | (refine wpl_storeB flatHost rfl (.tmp 9) (.tmp 21) rfl _ rfl _ rfl k8.out rfl rfl Hone.out ?_; intro y3 k83 hg3 hs3; have B03 := Lib.hid (grown_block hg3 ((Hb8.out.block _ (block_lt B02.out)).trans B02.out) (fun e => by injection e; have := block_lt B02.out; omega)); have B13 := Lib.hid (grown_block hg3 ((Hb8.out.block _ (block_lt B12.out)).trans B12.out) (fun e => by injection e; have := block_lt B12.out; omega)); have Bx3 := Lib.hid (grown_block hg3 ((Hb8.out.block _ (block_lt Hbx.out)).trans Hbx.out) (fun e => by injection e; have := block_lt Hbx.out; omega)); have Hb3 := Lib.hid (Hb2.out.trans ((below_grown Hb8.out hg3 Hb8.out.size (Nat.le_refl _)).mono Hb2.out.size)); replace k83 := Lib.hid k83; clear hg3 hs3) | (refine wpl_loadB flatHost rfl (.tmp 9) rfl _ rfl k83.out rfl ?_) | (refine wpl_loadB flatPk rfl (.tmp 5) rfl _ rfl B03.out rfl ?_))
    have hN3 := Nat.le_trans HN.out Hb3.out.size
    have hh3 := open_host Hh.out Hb3.out HN.out Bx3.out (by have := Hgb.out; omega)
    have hr3 : RdS (fun k => ¬ (S k ∨ k = b)) y3 A c p.data := (Hr.out.lt.keep fun k hk => Hb3.out.block k hk.2).mono fun k hk hf => hf.elim hk.1 (fun e => by have := hk.2; have := Hgb.out; omega)
    have hL3 := HL.out.belowN (Hb3.out.mono HN.out) hLN
    refine (KP.out y3 b _ hh3 hr3 hN3 hL3).mono ?_
    rintro e y4 ⟨A1, c1, S', rfl, hr4, hh4, hm4⟩
    have b1 := hm4.box ⟨B13.out, fun hf => hf.elim (fun hs => by have := (Hge.out _ hs).2; omega) (fun e => by have := Hgb.out; omega)⟩
    have hN4 := Nat.le_trans hN3 hm4.size
    obtain ⟨S1, F, hh5, hsn, hdis, hS'⟩ := close_host hh4
    have hmw : Mv S w S1 y4 := ⟨hm4.os.trans Hb3.out.os, hm4.tape.trans Hb3.out.tape, hm4.output.trans Hb3.out.output, Nat.le_trans Hb3.out.size hm4.size, fun k hk hn => (hm4.keep k (Nat.lt_of_lt_of_le hk Hb3.out.size) (fun hf => hf.elim hn (fun e => by have := Hgb.out; omega))).trans (Hb3.out.block k hk),
      fun k hk => (hm4.new k ((hS' k).2 (.inl hk))).elim (fun h => h.elim .inl (fun e => .inr (by have := Hgb.out; omega))) (fun h => .inr (Nat.le_trans Hb3.out.size h))⟩
    have HS' := Lib.hid hS'
    have Hfn := Lib.hid (show ∀ k, F k → S k ∨ w.heap.size ≤ k from fun k hk => (hm4.new k ((hS' k).2 (.inr hk))).elim (fun h => h.elim .inl (fun e => .inr (by have := Hgb.out; omega))) (fun h => .inr (Nat.le_trans Hb3.out.size h)))
    have Hdis := Lib.hid hdis
    have H5 := Lib.hid hh5
    have Hsn := Lib.hid hsn
    have Hm4 := Lib.hid hmw
    have Hr4 := Lib.hid hr4
    have B14 := Lib.hid b1
    have HN4 := Lib.hid hN4
    have Hlt13 := Lib.hid (block_lt B13.out)
    have k10 := Lib.hid (alloc1 y4 pkZ)
    have Hb10 := Lib.hid ((Below.refl y4.heap.size y4).alloc (Nat.le_refl _) pkZ)
    clear hN3 hh3 hr3 hL3 hr4 hh4 hm4 b1 hN4 hh5 hsn hdis hS' hmw
    go_wp2_with (refine wpl_storeB flatPk rfl (.tmp 11) (.tmp 27) rfl _ rfl _ rfl k10.out rfl rfl rfl ?_; intro y5 k105 hg5 hs5; have B15 := Lib.hid (grown_block hg5 ((Hb10.out.block _ (block_lt B14.out.1)).trans B14.out.1) (fun e => by injection e; have := block_lt B14.out.1; omega)); have Hb5 := Lib.hid (below_grown Hb10.out hg5 Hb10.out.size (Nat.le_refl _)); replace k105 := Lib.hid k105; clear hg5 hs5)
    refine startTP (S := fun a => a.block = y4.heap.size) (T := [4]) (fun X => X.heap[y4.heap.size]? = some (pkB a A1 c1) ∧ X.heap[w.heap.size + 1]? = some pkZ ∧ Below y4.heap.size y4 X) 7 (by kernel_rfl) rfl (l := #[false, false, false, false, false, false, false]) rfl
      ⟨k105.out, B15.out, Hb5.out.drew⟩ ?_
    clear k105 B15 Hb5
    rintro x0 ⟨k10, b1, hb⟩
    have d1 := range_of k10
    have B16 := Lib.hid b1
    have Hb6 := Lib.hid hb
    clear b1 hb k10
    refine takeT 0 (v := pkV a A1 c1) rfl (by decide +kernel) (by decide +kernel) (by decide +kernel) (fun _ _ _ h => h) (by decide +kernel) (yieldsIf_load_mid (by rfl) _ (.tmp 11) rfl y4.heap.size 0 rfl (pkL a A1 c1) _ (fun W hW => range_sm hW (fun j => rfl) d1) Tryz.underlying82 rfl (by kernel_rfl)) ?_
    try simp only [Act.put, List.setIfInBounds_toArray, List.set_cons_zero, List.set_cons_succ]
    clear d1
    ((first | (refine takeT 1 (v := ?_) rfl (by decide +kernel) (by decide +kernel) (by decide +kernel) (fun _ _ _ h => h) (by decide +kernel) (Or.inl ⟨by rfl, ?_⟩) ?_; rotate_left 1; (focus (intro W hW; have hcW := hW.at; (try dsimp only at hcW); go_simp; first | done | with_reducible rfl)); try simp only [Act.put, List.setIfInBounds_toArray, List.set_cons_zero, List.set_cons_succ]) | (refine takeW 1 (v := ?_) rfl (by decide +kernel) (by decide +kernel) (by decide +kernel) (fun _ _ _ h => h) (Or.inl ⟨by rfl, ?_⟩) ?_; rotate_left 1; (focus (intro W hW; go_simp; first | done | with_reducible rfl)); try simp only [Act.put, List.setIfInBounds_toArray, List.set_cons_zero, List.set_cons_succ]) | (refine takeW 1 rfl (by decide +kernel) (by decide +kernel) (by decide +kernel) (fun _ _ _ h => h) (Or.inr ⟨by rfl, rfl⟩) ?_; try simp only [Act.put, List.setIfInBounds_toArray, List.set_cons_zero, List.set_cons_succ]) | skip); (first | (refine takeT 2 (v := ?_) rfl (by decide +kernel) (by decide +kernel) (by decide +kernel) (fun _ _ _ h => h) (by decide +kernel) (Or.inl ⟨by rfl, ?_⟩) ?_; rotate_left 1; (focus (intro W hW; have hcW := hW.at; (try dsimp only at hcW); go_simp; first | done | with_reducible rfl)); try simp only [Act.put, List.setIfInBounds_toArray, List.set_cons_zero, List.set_cons_succ]) | (refine takeW 2 (v := ?_) rfl (by decide +kernel) (by decide +kernel) (by decide +kernel) (fun _ _ _ h => h) (Or.inl ⟨by rfl, ?_⟩) ?_; rotate_left 1; (focus (intro W hW; go_simp; first | done | with_reducible rfl)); try simp only [Act.put, List.setIfInBounds_toArray, List.set_cons_zero, List.set_cons_succ]) | (refine takeW 2 rfl (by decide +kernel) (by decide +kernel) (by decide +kernel) (fun _ _ _ h => h) (Or.inr ⟨by rfl, rfl⟩) ?_; try simp only [Act.put, List.setIfInBounds_toArray, List.set_cons_zero, List.set_cons_succ]) | skip))
    refine stepT 3 rfl (by decide +kernel) (by rfl) ?_
    intro K hK
    go_simp
    refine (sentC_any x0 N b x'.2.2 F (Asr.below Hsn.out Hb6.out HN4.out)).mono ?_
    rintro e x1 ⟨A2, rfl, hrl, rfl⟩
    refine hK _ _ (.inr (Sm.refl _ _)) ?_
    clear hK K
    have Hrl := Lib.hid hrl
    clear hrl
    try simp only [Act.put, List.setIfInBounds_toArray, List.set_cons_zero, List.set_cons_succ]
    refine stepT 4 rfl (by decide +kernel) (by rfl) ?_
    intro K hK
    refine wp_storeB flatPk (.tmp 6) (.tmp 29) rfl (w.heap.size + 1) rfl _ rfl B16.out rfl rfl rfl ?_
    intro z kz hgz hsz
    refine hK _ _ (.inl (by decide)) ?_
    clear hK K
    try simp only [Act.put, List.setIfInBounds_toArray, List.set_cons_zero, List.set_cons_succ]
    ((first | (refine takeT 5 (v := ?_) rfl (by decide +kernel) (by decide +kernel) (by decide +kernel) (fun _ _ _ h => h) (by decide +kernel) (Or.inl ⟨by rfl, ?_⟩) ?_; rotate_left 1; (focus (intro W hW; have hcW := hW.at; (try dsimp only at hcW); go_simp; first | done | with_reducible rfl)); try simp only [Act.put, List.setIfInBounds_toArray, List.set_cons_zero, List.set_cons_succ]) | (refine takeW 5 (v := ?_) rfl (by decide +kernel) (by decide +kernel) (by decide +kernel) (fun _ _ _ h => h) (Or.inl ⟨by rfl, ?_⟩) ?_; rotate_left 1; (focus (intro W hW; go_simp; first | done | with_reducible rfl)); try simp only [Act.put, List.setIfInBounds_toArray, List.set_cons_zero, List.set_cons_succ]) | (refine takeW 5 rfl (by decide +kernel) (by decide +kernel) (by decide +kernel) (fun _ _ _ h => h) (Or.inr ⟨by rfl, rfl⟩) ?_; try simp only [Act.put, List.setIfInBounds_toArray, List.set_cons_zero, List.set_cons_succ]) | skip); (first | (refine takeT 6 (v := ?_) rfl (by decide +kernel) (by decide +kernel) (by decide +kernel) (fun _ _ _ h => h) (by decide +kernel) (Or.inl ⟨by rfl, ?_⟩) ?_; rotate_left 1; (focus (intro W hW; have hcW := hW.at; (try dsimp only at hcW); go_simp; first | done | with_reducible rfl)); try simp only [Act.put, List.setIfInBounds_toArray, List.set_cons_zero, List.set_cons_succ]) | (refine takeW 6 (v := ?_) rfl (by decide +kernel) (by decide +kernel) (by decide +kernel) (fun _ _ _ h => h) (Or.inl ⟨by rfl, ?_⟩) ?_; rotate_left 1; (focus (intro W hW; go_simp; first | done | with_reducible rfl)); try simp only [Act.put, List.setIfInBounds_toArray, List.set_cons_zero, List.set_cons_succ]) | (refine takeW 6 rfl (by decide +kernel) (by decide +kernel) (by decide +kernel) (fun _ _ _ h => h) (Or.inr ⟨by rfl, rfl⟩) ?_; try simp only [Act.put, List.setIfInBounds_toArray, List.set_cons_zero, List.set_cons_succ]) | skip))
    refine doneT (by kernel_rfl) ?_
    have Kz := Lib.hid kz
    have Hgz := Lib.hid hgz
    have Hsz := Lib.hid hsz
    clear kz hgz hsz
    go_wp2
    refine bodyPost_ret (ret_cell_tmp2 flatPk rfl _ (w.heap.size + 1) rfl Kz.out rfl) rfl ?_
    have hN6 : N ≤ x0.heap.size := Nat.le_trans HN4.out Hb6.out.size
    have n1 : ¬ (S1 (w.heap.size + 1) ∨ F (w.heap.size + 1)) := fun h => B14.out.2 ((HS'.out _).2 h)
    have hF : ∀ k, F k → N ≤ k ∧ k < y4.heap.size := fun k hk => (snA N b x'.2.2).ge Hsn.out k hk
    have hNw := HN.out
    refine ⟨A1, c1, A2, S1, F, rfl, ?_, ?_, fun k hk => ⟨Hdis.out k hk, (hF k hk).1, by have := (hF k hk).2; have := Hb6.out.size; rw [Hsz.out]; omega⟩, ?_, ?_⟩
    · refine ((Hr4.out.rds.below Hb6.out).grown Hgz.out fun k hk e => ?_).mono fun k hk => ⟨fun hs => hk.1 ((HS'.out k).2 (.inl hs)), fun hf => hk.1 ((HS'.out k).2 (.inr hf)), by have := hk.2; have := Hb3.out.size; omega⟩
      have := hk.2
      have := Hlt13.out
      omega
    · refine Hrl.out.keep fun k hk => ?_
      refine Hgz.out.block k ?_ (fun e => ?_)
      · have := (hF k hk).2; have := Hb6.out.size; omega
      · injection e with e
        subst e
        exact n1 (.inr hk)
    · exact Asr.grown (Asr.below H5.out Hb6.out HN4.out) Hgz.out (fun hs => n1 (.inl hs)) (by omega) hN6
    · exact ⟨(Hm4.out.trans (Mv.of_below S1 Hb6.out)).grown_new Hgz.out (by omega), Hfn.out⟩
  · rw [if_neg he] at HR
    have hE1 : (E != 0) = true := by rw [bne_iff_ne, ← hE]; omega
    have := HR.out
    subst this
    clear HR he hE
    go_enter Tryz.func38, Tryz.ntmps38
    go_wp2_with (refine wpl_loadB flatPk rfl (.tmp 5) rfl _ rfl B0.out rfl ?_)
    refine KC.out.mono ?_
    rintro e y1 ⟨rfl, bb1⟩
    have hbb := Hb.out.trans (bb1.mono Hb.out.size)
    have B11 := Lib.hid ((bb1.block _ (block_lt B1.out)).trans B1.out)
    have Hb1 := Lib.hid hbb
    clear bb1 hbb
    go_wp2_with (refine wpl_storeB flatPk rfl (.tmp 6) (.tmp 16) rfl _ rfl _ rfl B11.out rfl rfl rfl ?_; intro y5 k2 hg5 hs5)
    refine bodyPost_ret (ret_cell_tmp2 flatPk rfl _ (w.heap.size + 1) rfl k2 rfl) rfl ?_
    have hNw := HN.out
    exact ⟨none, 0, none, S, fun _ => False, rfl, RdS.nil _, ⟨Nat.le_refl _, by simp, fun hn => by simp at hn⟩, fun k hk => hk.elim, Asr.grown (Asr.below Hh.out Hb1.out hNw) hg5 (fun hs => by have := (Hge.out _ hs).2; omega) (by omega) (Nat.le_trans hNw Hb1.out.size), (Mv.of_below S Hb1.out).grown_new hg5 (by omega), fun k hk => hk.elim⟩
end

end Go.Proofs.YtgihpgdjkanodaaGreatDoor
