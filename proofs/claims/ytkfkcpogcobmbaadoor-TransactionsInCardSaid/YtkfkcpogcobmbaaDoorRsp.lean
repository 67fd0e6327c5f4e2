/-
  Helper text: the walk of the reference's Speak; no statement is proved here.
-/
import Derived.Test.YtkfkcpogcobmbaaDoorRsA
namespace Go.Proofs.YtkfkcpogcobmbaaDoor
open Go Go.RowKit

set_option maxHeartbeats 6400000 in
set_option maxRecDepth 100000 in
theorem rsp_any (w : World) (N : Bd) (v : Value) (x : Rw) (F : Nat → Prop) (h : (rwA N v x).holds F w) (p : Pkt) (ok : p.Ok) (A : Option Addr) (c : Nat) (hr : RdS (fun k => k < N.lo ∧ k < N.hi) w A c p.data) (hls : x.sent.length ≤ 999999) (hlh : x.heard.length ≤ 1000000) (hans : ∀ a ∈ x.ans, a.Ok) (hN : N ≤ w.heap.size) :
    Calls Tryd.prog 20 #[v, pkV p A c] w (RspPost N (speakW x p).1 (speakW x p).2 F w) := by
  have hF0 := (rwA N v x).ge h
  have h' := h
  obtain ⟨Aa, ca, Af, cf, A2, c2, A3, c3, rfl, _⟩ := h'
  obtain ⟨g0, g1, g2, g3, g4, g5⟩ := alloc4 w (.cells #[.slice Aa x.ans.length ca, .slice Af x.flt.length cf, .slice A2 x.heard.length c2, .slice A3 x.sent.length c3] 67) (pkB p A c) (.cells #[.slice none 0 0, .slice none 0 0, .slice none 0 0, .slice none 0 0] 67) pkZ
  have HN := Lib.hid hN
  have H0 := Lib.hid (Asr.below h g5 hN)
  have HR0 := Lib.hid (hr.keep fun k hk => g5.block k (Nat.lt_of_lt_of_le hk.2 hN))
  have HF0 := Lib.hid hF0
  have HW := Lib.hid g0
  have HP := Lib.hid g1
  have HZ := Lib.hid g2
  have HQ := Lib.hid g3
  have Hs := Lib.hid g4
  have Hb := Lib.hid g5
  have KC := Lib.hid fun X => rcheck_any X p ok A c
  have HO := Lib.hid hans
  have Hls := Lib.hid hls
  have Hlh := Lib.hid hlh
  obtain ⟨R, hR⟩ : ∃ R, speakW x p = R := ⟨_, rfl⟩
  rw [hR]
  unfold speakW at hR
  have HR := Lib.hid hR
  obtain ⟨E, hE⟩ : ∃ E, p.err = E := ⟨_, rfl⟩
  rw [hE] at KC HR
  clear g0 g1 g2 g3 g4 g5 hN h hr hF0 hR hE hans hls hlh ok
  go_enter Tryd.func20, Tryd.ntmps20
  go_wp2_with (refine wpl_loadB flatPk rfl (.tmp 3) rfl _ rfl HP.out rfl ?_)
  refine (KC.out _).mono ?_
  rintro e y1 ⟨rfl, bb⟩
  have HN4 := Nat.le_trans HN.out Hb.out.size
  have HW1 := Lib.hid ((bb.block _ (block_lt HW.out)).trans HW.out)
  have HP1 := Lib.hid ((bb.block _ (block_lt HP.out)).trans HP.out)
  have HZ1 := Lib.hid ((bb.block _ (block_lt HZ.out)).trans HZ.out)
  have HQ1 := Lib.hid ((bb.block _ (block_lt HQ.out)).trans HQ.out)
  have H1 := Lib.hid (Asr.below H0.out bb HN4)
  have hR1 := HR0.out.keep (w' := y1) fun k hk => bb.block k (Nat.lt_of_lt_of_le hk.2 HN4)
  have HR1 := Lib.hid hR1
  have M1 := Lib.hid (Mv.of_below F (Hb.out.trans (bb.mono Hb.out.size)))
  have nF : ∀ k, w.heap.size ≤ k → ¬ F k := fun k hk hf => by have := (HF0.out k hf).2; omega
  have NF := Lib.hid nF
  clear bb HN4 hR1 nF HW HP HZ HQ H0 HR0 Hb Hs KC
  by_cases he : E = 0
  · subst he
    rw [if_pos rfl] at HR
    have hN1 : N ≤ y1.heap.size := Nat.le_trans HN.out M1.out.size
    have KA := arr_any y1 N _ x F H1.out p true A c HR1.out (Nat.le_succ_of_le Hls.out) hN1
    have hX1 : (arrR x p true).1.ans = x.ans ∧ (arrR x p true).1.flt = x.flt.drop 1 ∧ (arrR x p true).1.heard = x.heard ∧ (arrR x p true).1.sent.length = x.sent.length + 1 := ⟨rfl, rfl, rfl, by unfold arrR; simp⟩
    obtain ⟨X1, hX⟩ : ∃ X1, (arrR x p true).1 = X1 := ⟨_, rfl⟩
    obtain ⟨b, hb⟩ : ∃ b, (arrR x p true).2 = b := ⟨_, rfl⟩
    rw [hX, hb] at KA HR
    rw [hX] at hX1
    obtain ⟨hx1, hx2, hx3, hx4⟩ := hX1
    rw [← hx1, ← hx2, ← hx3] at HR
    rw [← hx1] at HO
    have Hls1 := Lib.hid (show X1.sent.length ≤ 1000000 by have := Hls.out; omega)
    have Hlh1 := Lib.hid (show X1.heard.length ≤ 1000000 by rw [hx3]; exact Hlh.out)
    have KA := Lib.hid KA
    clear hX hb hx1 hx2 hx3 hx4 hN1 Hls Hlh
    go_wp2_with (first | (refine wpl_loadB flatRw rfl (.tmp 2) rfl _ rfl HW1.out rfl ?_) | (refine wpl_loadB flatPk rfl (.tmp 3) rfl _ rfl HP1.out rfl ?_))
    refine KA.out.mono ?_
    rintro e y2 ⟨v2, F2, rfl, h2, hm2⟩
    have h2' := h2
    obtain ⟨Ba, cb, Bf, cg, B2, d2, B3, d3, rfl, _⟩ := h2'
    have W2 := Lib.hid (hm2.box ⟨HW1.out, NF.out _ (Nat.le_refl _)⟩)
    have P2 := Lib.hid (hm2.box ⟨HP1.out, NF.out _ (by omega)⟩)
    have Z2 := Lib.hid (hm2.box ⟨HZ1.out, NF.out _ (by omega)⟩)
    have Q2 := Lib.hid (hm2.box ⟨HQ1.out, NF.out _ (by omega)⟩)
    have HW2 := Lib.hid W2.out.1
    have H2 := Lib.hid h2
    have M2 := Lib.hid (M1.out.trans hm2)
    have HR2 := Lib.hid (HR1.out.keep (w' := y2) fun k hk => hm2.keep k (by have := HN.out; have := M1.out.size; omega) (fun hf => by have := (HF0.out k hf).1; omega))
    have nf2 : ∀ k, k = w.heap.size ∨ k = w.heap.size + 1 ∨ k = w.heap.size + 1 + 1 ∨ k = w.heap.size + 1 + 1 + 1 → ¬ F2 k := fun k hk => by rcases hk with rfl | rfl | rfl | rfl <;> first | exact W2.out.2 | exact P2.out.2 | exact Z2.out.2 | exact Q2.out.2
    clear h2 hm2 HW1 HP1 HZ1 HQ1 H1 M1 HR1 KA
    cases b
    · rw [if_neg (by simp)] at HR
      have := HR.out
      subst this
      clear HR
      go_wp2_with (first | (refine wpl_storeB flatRw rfl (.tmp 2) (.tmp 18) rfl _ rfl _ rfl HW2.out rfl rfl rfl ?_; intro y3 k3 hg3 hs3; have HW3 := Lib.hid k3; have HP3 := Lib.hid (grown_block hg3 P2.out.1 (fun e => by injection e; omega)); have HZ3 := Lib.hid (grown_block hg3 Z2.out.1 (fun e => by injection e; omega)); have HQ3 := Lib.hid (grown_block hg3 Q2.out.1 (fun e => by injection e; omega)); have H3 := Lib.hid (Asr.grown H2.out hg3 W2.out.2 (by have := HN.out; omega) (Nat.le_trans HN.out M2.out.size)); have M3 := Lib.hid (M2.out.grown_new hg3 (Nat.le_refl _)); have HR3 := Lib.hid (HR2.out.grown hg3 (fun k hk => by have := HN.out; omega)); clear k3 hg3 hs3) | (refine wpl_loadB flatRw rfl (.tmp 2) rfl _ rfl HW3.out rfl ?_) | (refine wpl_storeB flatRw rfl (.tmp 4) (.tmp 22) rfl _ rfl _ rfl HZ3.out rfl rfl rfl ?_; intro z1 kz1 hgz1 hsz1; have HQz := Lib.hid (grown_block hgz1 HQ3.out (fun e => by injection e; omega)); replace kz1 := Lib.hid kz1; replace hgz1 := Lib.hid hgz1; clear hsz1) | (refine wpl_storeB flatPk rfl (.tmp 5) (.tmp 23) rfl _ rfl _ rfl HQz.out rfl rfl rfl ?_; intro z2 kz2 hgz2 hsz2; have KZ1 := Lib.hid (grown_block hgz2 kz1.out (fun e => by injection e; omega)); replace kz2 := Lib.hid kz2; replace hgz2 := Lib.hid hgz2; clear hsz2))
      refine bodyPost_ret (ret_cell2_tmp flatRw flatPk rfl _ (w.heap.size + 1 + 1) rfl KZ1.out rfl (w.heap.size + 1 + 1 + 1) rfl kz2.out rfl) rfl ?_
      have hE := bad_end H3.out M3.out hgz1.out hgz2.out (nf2 _ (.inr (.inr (.inl rfl)))) (nf2 _ (.inr (.inr (.inr rfl)))) (by omega) (by omega) HN.out
      exact hE
    · rw [if_pos rfl] at HR
      cases hA : X1.ans with
      | nil =>
        rw [hA] at HR
        have := HR.out
        subst this
        clear HR
        obtain ⟨ans, flt, heard, sent⟩ := X1
        simp only at hA
        subst hA
        simp only [List.length_nil] at *
        go_wp2_with (first | (refine wpl_storeB flatRw rfl (.tmp 2) (.tmp 18) rfl _ rfl _ rfl HW2.out rfl rfl rfl ?_; intro y3 k3 hg3 hs3; have HW3 := Lib.hid k3; have HP3 := Lib.hid (grown_block hg3 P2.out.1 (fun e => by injection e; omega)); have HZ3 := Lib.hid (grown_block hg3 Z2.out.1 (fun e => by injection e; omega)); have HQ3 := Lib.hid (grown_block hg3 Q2.out.1 (fun e => by injection e; omega)); have H3 := Lib.hid (Asr.grown H2.out hg3 W2.out.2 (by have := HN.out; omega) (Nat.le_trans HN.out M2.out.size)); have M3 := Lib.hid (M2.out.grown_new hg3 (Nat.le_refl _)); have HR3 := Lib.hid (HR2.out.grown hg3 (fun k hk => by have := HN.out; omega)); have Hrb := (Below.refl y3.heap.size y3).alloc (Nat.le_refl _) (.cells (pkL p A c).toArray 40); have hN3 := Nat.le_trans HN.out M3.out.size; have H3r := Asr.below H3.out Hrb hN3; have HWr := Lib.hid (Hrb.block _ (block_lt HW3.out) |>.trans HW3.out); have HPr := Lib.hid (Hrb.block _ (block_lt HP3.out) |>.trans HP3.out); have HZr := Lib.hid (Hrb.block _ (block_lt HZ3.out) |>.trans HZ3.out); have HQr := Lib.hid (Hrb.block _ (block_lt HQ3.out) |>.trans HQ3.out); have HRr := Lib.hid (HR3.out.keep (w' := World.alloc y3 (.cells (pkL p A c).toArray 40)) fun k hk => Hrb.block k (Nat.lt_of_lt_of_le hk.2 hN3)); have Mr := Lib.hid (M3.out.alloc (.cells (pkL p A c).toArray 40)); have hNr := Lib.hid (Nat.le_trans hN3 Hrb.size); have HRow := Lib.hid (alloc1 y3 (.cells (pkL p A c).toArray 40)); have m2 := block_at HW3.out (i := 2) (v := .slice B2 heard.length d2) rfl; obtain ⟨Ba', cb', Bf', cg', B2', d2', B3', d3', ev, r1, r2, r3, r4, r5, r6⟩ := H3r; obtain ⟨rfl, rfl, rfl, rfl, rfl, rfl, rfl, rfl⟩ := agg4_inj ev; replace r1 := Lib.hid r1; replace r2 := Lib.hid r2; replace r3 := Lib.hid r3; replace r4 := Lib.hid r4; replace r5 := Lib.hid r5; replace r6 := Lib.hid r6; clear Hrb hN3; clear k3 hg3 hs3) | (refine wpl_loadB flatPk rfl (.tmp 3) rfl _ rfl HP3.out rfl ?_) | (at_builtin; refine wpl_appendB r3.out Tryd.underlying51 infPk rfl (by decide) (by decide) rfl (.tmp 25) (.tmp 27) rfl rfl p A c HRr.out _ HRow.out rfl Hlh1.out hNr.out ?_; intro A' c' w' ho hg he; obtain ⟨F4, h4, m4⟩ := heard_step hNr.out r1.out r2.out r3.out r4.out r5.out r6.out ho hg he; have W4 := Lib.hid (m4.box ⟨HWr.out, nf2 _ (.inl rfl)⟩); have P4 := Lib.hid (m4.box ⟨HPr.out, nf2 _ (.inr (.inl rfl))⟩); have Z4 := Lib.hid (m4.box ⟨HZr.out, nf2 _ (.inr (.inr (.inl rfl)))⟩); have Q4 := Lib.hid (m4.box ⟨HQr.out, nf2 _ (.inr (.inr (.inr rfl)))⟩); have HW4 := Lib.hid W4.out.1; have M4 := Lib.hid (Mr.out.trans m4); replace h4 := Lib.hid h4; clear ho hg he m4) | (refine wpl_storeC rfl (.tmp 29) (.tmp 28) rfl w.heap.size 2 rfl _ rfl rfl (by kernel_rfl) HW4.out (by simp) ?_; intro y5 k5 hg5 hs5; have HW5 := Lib.hid k5; have HZ5 := Lib.hid (grown_block hg5 Z4.out.1 (fun e => by injection e; omega)); have HQ5 := Lib.hid (grown_block hg5 Q4.out.1 (fun e => by injection e; omega)); have hN4 := Nat.le_trans HN.out M4.out.size; have H5 := Lib.hid (Asr.grown h4.out hg5 W4.out.2 (by have := HN.out; omega) hN4); have M5 := Lib.hid (M4.out.grown_new hg5 (Nat.le_refl _)); have m0 := block_at HW5.out (i := 0) (v := .slice Ba 0 cb) rfl;  clear k5 hg5 hs5 hN4) | (refine wpl_loadB flatRw rfl (.tmp 2) rfl _ rfl HW5.out rfl ?_) | (refine wpl_storeB flatRw rfl (.tmp 4) (.tmp 34) rfl _ rfl _ rfl HZ5.out rfl rfl rfl ?_; intro z1 kz1 hgz1 hsz1; have HQz := Lib.hid (grown_block hgz1 HQ5.out (fun e => by injection e; omega)); replace kz1 := Lib.hid kz1; replace hgz1 := Lib.hid hgz1; clear hsz1) | (refine wpl_storeB flatPk rfl (.tmp 5) (.tmp 35) rfl _ rfl _ rfl HQz.out rfl rfl rfl ?_; intro z2 kz2 hgz2 hsz2; have KZ1 := Lib.hid (grown_block hgz2 kz1.out (fun e => by injection e; omega)); replace kz2 := Lib.hid kz2; replace hgz2 := Lib.hid hgz2; clear hsz2))
        refine bodyPost_ret (ret_cell2_tmp flatRw flatPk rfl _ (w.heap.size + 1 + 1) rfl KZ1.out rfl (w.heap.size + 1 + 1 + 1) rfl kz2.out rfl) rfl ?_
        have hE := bad_end H5.out M5.out hgz1.out hgz2.out Z4.out.2 Q4.out.2 (by omega) (by omega) HN.out
        simp only [List.length_append, List.length_cons, List.length_nil, Nat.zero_add] at hE
        exact hE
      | cons a al =>
        rw [hA] at HR HO
        have HOA := HO
        obtain ⟨ans, flt, heard, sent⟩ := X1
        simp only at hA
        subst hA
        obtain ⟨b0, off, A1, c1, A5, c5, hBa, _, _, hsl, _⟩ := ans_step H2.out
        subst hBa
        obtain ⟨n, hn⟩ : ∃ n, (a :: al).length = n := ⟨_, rfl⟩
        have hn1 : n = al.length + 1 := by rw [← hn]; rfl
        have hsx := fun W : World => slicePk_from (some ⟨b0, off, none⟩) n cb 1 W (by omega) (by omega)
        rw [hn] at hsl
        rw [show (1 : Int).toNat = 1 from rfl, hsl] at hsx
        have oka := HO.out a (by simp)
        have i0 : ((n : Int) == 0) = false := (neF' (y := 0) (by omega)).1
        have i1 : (1 : Int) ≤ (n : Int) := by omega
        have Hsl := Lib.hid hsl
        have Hn := Lib.hid hn
        have KC2 := Lib.hid fun X => rcheck_any X a oka A1 c1
        try simp only
        rw [hn]
        simp only at HR
        clear KC2
        obtain ⟨E2, hE2⟩ : ∃ E2, a.err = E2 := ⟨_, rfl⟩
        rw [hE2] at HR
        have HE2 := Lib.hid hE2
        clear hsl hn hn1 oka hE2 HO
        have OKA := Lib.hid (HOA.out a (by simp))
        go_wp2_with (first | (refine wpl_storeB flatRw rfl (.tmp 2) (.tmp 18) rfl _ rfl _ rfl HW2.out rfl rfl rfl ?_; intro y3 k3 hg3 hs3; have HW3 := Lib.hid k3; have HP3 := Lib.hid (grown_block hg3 P2.out.1 (fun e => by injection e; omega)); have HZ3 := Lib.hid (grown_block hg3 Z2.out.1 (fun e => by injection e; omega)); have HQ3 := Lib.hid (grown_block hg3 Q2.out.1 (fun e => by injection e; omega)); have H3 := Lib.hid (Asr.grown H2.out hg3 W2.out.2 (by have := HN.out; omega) (Nat.le_trans HN.out M2.out.size)); have M3 := Lib.hid (M2.out.grown_new hg3 (Nat.le_refl _)); have HR3 := Lib.hid (HR2.out.grown hg3 (fun k hk => by have := HN.out; omega)); have Hrb := (Below.refl y3.heap.size y3).alloc (Nat.le_refl _) (.cells (pkL p A c).toArray 40); have hN3 := Nat.le_trans HN.out M3.out.size; have H3r := Asr.below H3.out Hrb hN3; have HWr := Lib.hid (Hrb.block _ (block_lt HW3.out) |>.trans HW3.out); have HPr := Lib.hid (Hrb.block _ (block_lt HP3.out) |>.trans HP3.out); have HZr := Lib.hid (Hrb.block _ (block_lt HZ3.out) |>.trans HZ3.out); have HQr := Lib.hid (Hrb.block _ (block_lt HQ3.out) |>.trans HQ3.out); have HRr := Lib.hid (HR3.out.keep (w' := World.alloc y3 (.cells (pkL p A c).toArray 40)) fun k hk => Hrb.block k (Nat.lt_of_lt_of_le hk.2 hN3)); have Mr := Lib.hid (M3.out.alloc (.cells (pkL p A c).toArray 40)); have hNr := Lib.hid (Nat.le_trans hN3 Hrb.size); have HRow := Lib.hid (alloc1 y3 (.cells (pkL p A c).toArray 40)); have m2 := block_at HW3.out (i := 2) (v := .slice B2 heard.length d2) rfl; obtain ⟨Ba', cb', Bf', cg', B2', d2', B3', d3', ev, r1, r2, r3, r4, r5, r6⟩ := H3r; obtain ⟨rfl, rfl, rfl, rfl, rfl, rfl, rfl, rfl⟩ := agg4_inj ev; replace r1 := Lib.hid r1; replace r2 := Lib.hid r2; replace r3 := Lib.hid r3; replace r4 := Lib.hid r4; replace r5 := Lib.hid r5; replace r6 := Lib.hid r6; clear Hrb hN3; clear k3 hg3 hs3) | (refine wpl_loadB flatPk rfl (.tmp 3) rfl _ rfl HP3.out rfl ?_) | (at_builtin; refine wpl_appendB r3.out Tryd.underlying51 infPk rfl (by decide) (by decide) rfl (.tmp 25) (.tmp 27) rfl rfl p A c HRr.out _ HRow.out rfl Hlh1.out hNr.out ?_; intro A' c' w' ho hg he; obtain ⟨F4, h4, m4⟩ := heard_step hNr.out r1.out r2.out r3.out r4.out r5.out r6.out ho hg he; have W4 := Lib.hid (m4.box ⟨HWr.out, nf2 _ (.inl rfl)⟩); have P4 := Lib.hid (m4.box ⟨HPr.out, nf2 _ (.inr (.inl rfl))⟩); have Z4 := Lib.hid (m4.box ⟨HZr.out, nf2 _ (.inr (.inr (.inl rfl)))⟩); have Q4 := Lib.hid (m4.box ⟨HQr.out, nf2 _ (.inr (.inr (.inr rfl)))⟩); have HW4 := Lib.hid W4.out.1; have M4 := Lib.hid (Mr.out.trans m4); replace h4 := Lib.hid h4; clear ho hg he m4) | (refine wpl_storeC rfl (.tmp 29) (.tmp 28) rfl w.heap.size 2 rfl _ rfl rfl (by kernel_rfl) HW4.out (by simp) ?_; intro y5 k5 hg5 hs5; have HW5 := Lib.hid k5; have HZ5 := Lib.hid (grown_block hg5 Z4.out.1 (fun e => by injection e; omega)); have HQ5 := Lib.hid (grown_block hg5 Q4.out.1 (fun e => by injection e; omega)); have hN4 := Nat.le_trans HN.out M4.out.size; have H5 := Lib.hid (Asr.grown h4.out hg5 W4.out.2 (by have := HN.out; omega) hN4); have M5 := Lib.hid (M4.out.grown_new hg5 (Nat.le_refl _)); have m0 := block_at HW5.out (i := 0) (v := .slice (some ⟨b0, off, none⟩) n cb) rfl; obtain ⟨b5, off5, A1x, c1x, A5x, c5x, hBx, hrange, hra, hslx, h6⟩ := ans_step H5.out; cases hBx; rw [Hn.out] at hslx; obtain ⟨rfl, rfl⟩ := slice_inj (hslx.symm.trans Hsl.out); have hb6 := (Below.refl y5.heap.size y5).alloc (Nat.le_refl _) pkZ; have hN5 := Nat.le_trans HN.out M5.out.size; have HA6 := Lib.hid (alloc1 y5 pkZ); have HW6 := Lib.hid ((hb6.block _ (block_lt HW5.out)).trans HW5.out); have HZ6 := Lib.hid ((hb6.block _ (block_lt HZ5.out)).trans HZ5.out); have HQ6 := Lib.hid ((hb6.block _ (block_lt HQ5.out)).trans HQ5.out); have nF4 := Lib.hid (show ¬ F4 y5.heap.size from fun hf => by have := ((rwA N _ _).ge H5.out _ hf).2; omega); have lt5 := Lib.hid (show w.heap.size + 1 + 1 + 1 < y5.heap.size from block_lt HQ5.out); have H6 := Lib.hid (Asr.below h6 hb6 hN5); have M6 := Lib.hid (M5.out.alloc pkZ); have hN6 := Lib.hid (Nat.le_trans hN5 hb6.size); have Hra6 := Lib.hid (hra.keep (w' := World.alloc y5 pkZ) fun k hk => hb6.block k (Nat.lt_of_lt_of_le hk.2 hN5)); replace hrange := Lib.hid hrange; have KC3 := (fun X => rcheck_any X a OKA.out A1x c1x); rw [HE2.out] at KC3; replace KC3 := Lib.hid KC3; clear h6 hb6 hN5 hra hslx;  clear k5 hg5 hs5 hN4) | (refine wpList_load_mid rfl _ (.tmp 38) rfl b0 off rfl (pkL a A1x c1x) _ hrange.out Tryd.underlying40 rfl (by kernel_rfl) ?_) | (refine wpl_storeB flatPk rfl (.tmp 8) (.tmp 39) rfl _ rfl _ rfl HA6.out rfl rfl rfl ?_; intro y6 k6 hg6 hs6; have HA7 := Lib.hid k6; have HW7 := Lib.hid (grown_block hg6 HW6.out (fun e => by injection e; have := lt5.out; omega)); have HZ7 := Lib.hid (grown_block hg6 HZ6.out (fun e => by injection e; have := lt5.out; omega)); have HQ7 := Lib.hid (grown_block hg6 HQ6.out (fun e => by injection e; have := lt5.out; omega)); have H7 := Lib.hid (Asr.grown H6.out hg6 nF4.out (by have := lt5.out; have := HN.out; omega) hN6.out); have M7 := Lib.hid (M6.out.grown_new hg6 (by have := lt5.out; omega)); have Hra7 := Lib.hid (Hra6.out.grown hg6 (fun k hk => by have := lt5.out; have := HN.out; omega)); have m0' := block_at HW7.out (i := 0) (v := .slice (some ⟨b0, off, none⟩) n cb) rfl; clear k6 hg6 hs6) | (refine wpl_storeC rfl (.tmp 43) (.tmp 42) rfl w.heap.size 0 rfl _ rfl rfl (by kernel_rfl) HW7.out (by simp) ?_; intro y7 k7 hg7 hs7; have HW8 := Lib.hid k7; have HA8 := Lib.hid (grown_block hg7 HA7.out (fun e => by injection e; have := lt5.out; omega)); have HZ8 := Lib.hid (grown_block hg7 HZ7.out (fun e => by injection e; omega)); have HQ8 := Lib.hid (grown_block hg7 HQ7.out (fun e => by injection e; omega)); have H8 := Lib.hid (Asr.grown H7.out hg7 W4.out.2 HN.out (Nat.le_trans HN.out M7.out.size)); have M8 := Lib.hid (M7.out.grown_new hg7 (Nat.le_refl _)); have Hra8 := Lib.hid (Hra7.out.grown hg7 (fun k hk => by have := HN.out; omega)); clear k7 hg7 hs7) | (refine wpl_loadB flatPk rfl (.tmp 8) rfl _ rfl HA8.out rfl ?_))
        refine (KC3.out _).mono ?_
        rintro e y8 ⟨rfl, bb⟩
        have hN8 := Nat.le_trans HN.out M8.out.size
        have HW9 := Lib.hid ((bb.block _ (block_lt HW8.out)).trans HW8.out)
        have HA9 := Lib.hid ((bb.block _ (block_lt HA8.out)).trans HA8.out)
        have HZ9 := Lib.hid ((bb.block _ (block_lt HZ8.out)).trans HZ8.out)
        have HQ9 := Lib.hid ((bb.block _ (block_lt HQ8.out)).trans HQ8.out)
        have H9 := Lib.hid (Asr.below H8.out bb hN8)
        have M9 := Lib.hid (M8.out.trans (Mv.of_below F4 bb))
        have Hra9 := Lib.hid (Hra8.out.keep (w' := y8) fun k hk => bb.block k (Nat.lt_of_lt_of_le hk.2 hN8))
        replace hN8 := Nat.le_trans hN8 bb.size
        clear bb
        by_cases he2 : E2 = 0
        · subst he2
          rw [if_pos rfl] at HR
          have KA2 := arr_any y8 N _ _ F4 H9.out a false A1x c1x Hra9.out Hls1.out hN8
          obtain ⟨X3, hX3⟩ : ∃ X3, (arrR ⟨al, flt, heard ++ [p], sent⟩ a false).1 = X3 := ⟨_, rfl⟩
          obtain ⟨b3, hb3⟩ : ∃ b3, (arrR ⟨al, flt, heard ++ [p], sent⟩ a false).2 = b3 := ⟨_, rfl⟩
          rw [hX3, hb3] at KA2 HR
          simp only [List.length_append, List.length_cons, List.length_nil, Nat.zero_add] at KA2
          replace KA2 := Lib.hid KA2
          have Hge := Lib.hid ((rwA N _ _).ge H9.out)
          clear hX3 hb3
          go_wp2_with (first | (refine wpl_loadB flatRw rfl (.tmp 2) rfl _ rfl HW9.out rfl ?_) | (refine wpl_loadB flatPk rfl (.tmp 8) rfl _ rfl HA9.out rfl ?_))
          refine KA2.out.mono ?_
          rintro e y9 ⟨v9, F9, rfl, h9, hm9⟩
          have h9' := h9
          obtain ⟨Ca, ea, Cf, ef, C2, e2, C3, e3, rfl, _⟩ := h9'
          have W9 := Lib.hid (hm9.box ⟨HW9.out, W4.out.2⟩)
          have A9 := Lib.hid (hm9.box ⟨HA9.out, nF4.out⟩)
          have Z9 := Lib.hid (hm9.box ⟨HZ9.out, Z4.out.2⟩)
          have Q9 := Lib.hid (hm9.box ⟨HQ9.out, Q4.out.2⟩)
          have HW10 := Lib.hid W9.out.1
          have H10 := Lib.hid h9
          have M10 := Lib.hid (M9.out.trans hm9)
          have Hra10 := Lib.hid (Hra9.out.keep (w' := y9) fun k hk => hm9.keep k (Nat.lt_of_lt_of_le hk.2 hN8) (fun hf => by have := (Hge.out k hf).1; omega))
          have hN9 := Nat.le_trans hN8 hm9.size
          clear h9 hm9 hN8 HW9 HA9 HZ9 HQ9 H9 M9 Hra9 KA2
          cases b3
          · rw [if_neg (by simp)] at HR
            have := HR.out
            subst this
            clear HR
            go_wp2_with (first | (refine wpl_storeB flatRw rfl (.tmp 2) (.tmp 53) rfl _ rfl _ rfl HW10.out rfl rfl rfl ?_; intro y10 k10 hg10 hs10; have HW11 := Lib.hid k10; have HA11 := Lib.hid (grown_block hg10 A9.out.1 (fun e => by injection e; have := lt5.out; omega)); have HZ11 := Lib.hid (grown_block hg10 Z9.out.1 (fun e => by injection e; omega)); have HQ11 := Lib.hid (grown_block hg10 Q9.out.1 (fun e => by injection e; omega)); have H11 := Lib.hid (Asr.grown H10.out hg10 W9.out.2 HN.out hN9); have M11 := Lib.hid (M10.out.grown_new hg10 (Nat.le_refl _)); have Hra11 := Lib.hid (Hra10.out.grown hg10 (fun k hk => by have := HN.out; omega)); clear k10 hg10 hs10) | (refine wpl_loadB flatRw rfl (.tmp 2) rfl _ rfl HW11.out rfl ?_) | (refine wpl_storeB flatRw rfl (.tmp 4) (.tmp 57) rfl _ rfl _ rfl HZ11.out rfl rfl rfl ?_; intro z1 kz1 hgz1 hsz1; have HQz := Lib.hid (grown_block hgz1 HQ11.out (fun e => by injection e; omega)); replace kz1 := Lib.hid kz1; replace hgz1 := Lib.hid hgz1; clear hsz1) | (refine wpl_storeB flatPk rfl (.tmp 5) (.tmp 58) rfl _ rfl _ rfl HQz.out rfl rfl rfl ?_; intro z2 kz2 hgz2 hsz2; have KZ1 := Lib.hid (grown_block hgz2 kz1.out (fun e => by injection e; omega)); replace kz2 := Lib.hid kz2; replace hgz2 := Lib.hid hgz2; clear hsz2))
            refine bodyPost_ret (ret_cell2_tmp flatRw flatPk rfl _ (w.heap.size + 1 + 1) rfl KZ1.out rfl (w.heap.size + 1 + 1 + 1) rfl kz2.out rfl) rfl ?_
            have hE := bad_end H11.out M11.out hgz1.out hgz2.out Z9.out.2 Q9.out.2 (by omega) (by omega) HN.out
            exact hE
          · rw [if_pos rfl] at HR
            have := HR.out
            subst this
            clear HR
            go_wp2_with (first | (refine wpl_storeB flatRw rfl (.tmp 2) (.tmp 53) rfl _ rfl _ rfl HW10.out rfl rfl rfl ?_; intro y10 k10 hg10 hs10; have HW11 := Lib.hid k10; have HA11 := Lib.hid (grown_block hg10 A9.out.1 (fun e => by injection e; have := lt5.out; omega)); have HZ11 := Lib.hid (grown_block hg10 Z9.out.1 (fun e => by injection e; omega)); have HQ11 := Lib.hid (grown_block hg10 Q9.out.1 (fun e => by injection e; omega)); have H11 := Lib.hid (Asr.grown H10.out hg10 W9.out.2 HN.out hN9); have M11 := Lib.hid (M10.out.grown_new hg10 (Nat.le_refl _)); have Hra11 := Lib.hid (Hra10.out.grown hg10 (fun k hk => by have := HN.out; omega)); clear k10 hg10 hs10))
            refine startTP (S := fun a => a.block = w.heap.size ∨ a.block = y5.heap.size) (T := []) (fun X => X.heap[w.heap.size]? = some (.cells #[.slice Ca X3.ans.length ea, .slice Cf X3.flt.length ef, .slice C2 X3.heard.length e2, .slice C3 X3.sent.length e3] 67 (0, 0)) ∧ X.heap[y5.heap.size]? = some (pkB a A1x c1x) ∧ X.heap[w.heap.size + 1 + 1]? = some (.cells #[.slice none 0 0, .slice none 0 0, .slice none 0 0, .slice none 0 0] 67 (0, 0)) ∧ X.heap[w.heap.size + 1 + 1 + 1]? = some pkZ ∧ (rwA N (.agg #[.slice Ca X3.ans.length ea, .slice Cf X3.flt.length ef, .slice C2 X3.heard.length e2, .slice C3 X3.sent.length e3]) X3).holds F9 X ∧ Mv F w F9 X ∧ RdS (fun k => k < N.lo ∧ k < N.hi) X A1x c1x a.data) 5 (by kernel_rfl) rfl (l := #[false, false, false, false, false]) rfl
              ⟨HW11.out, HA11.out, HZ11.out, HQ11.out, (rwA N _ X3).loc H11.out (Nat.le_refl _) (fun _ _ => rfl), M11.out.drew, Hra11.out.keep (fun _ _ => rfl)⟩ ?_
            clear HW11 HA11 HZ11 HQ11 H11 M11 Hra11
            rintro x0 ⟨q1, q2, q3, q4, q5, q6, q7⟩
            have d1 := range_of q1
            have d2 := range_of q2
            refine takeT 0 (v := .agg #[.slice Ca X3.ans.length ea, .slice Cf X3.flt.length ef, .slice C2 X3.heard.length e2, .slice C3 X3.sent.length e3]) rfl (by decide +kernel) (by decide +kernel) (by decide +kernel) (fun _ _ _ h => h) (by decide +kernel) (yieldsIf_load_mid (by rfl) _ (.tmp 2) rfl w.heap.size 0 rfl [.slice Ca X3.ans.length ea, .slice Cf X3.flt.length ef, .slice C2 X3.heard.length e2, .slice C3 X3.sent.length e3] _ (fun W hW => range_sm hW (fun j => .inl rfl) d1) Tryd.underlying67 rfl (by kernel_rfl)) ?_
            try simp only [Act.put, List.setIfInBounds_toArray, List.set_cons_zero, List.set_cons_succ]
            refine takeT 1 (v := pkV a A1x c1x) rfl (by decide +kernel) (by decide +kernel) (by decide +kernel) (fun _ _ _ h => h) (by decide +kernel) (yieldsIf_load_mid (by rfl) _ (.tmp 8) rfl y5.heap.size 0 rfl (pkL a A1x c1x) _ (fun W hW => range_sm hW (fun j => .inr rfl) d2) Tryd.underlying40 rfl (by kernel_rfl)) ?_
            try simp only [Act.put, List.setIfInBounds_toArray, List.set_cons_zero, List.set_cons_succ]
            have Q1 := Lib.hid q1
            have Q3 := Lib.hid q3
            have Q4 := Lib.hid q4
            have Q5 := Lib.hid q5
            have Q6 := Lib.hid q6
            have Q7 := Lib.hid q7
            clear q1 q2 q3 q4 q5 q6 q7 d1 d2
            refine stepT 2 rfl (by decide +kernel) (by rfl) ?_
            intro K hK
            refine wp_storeB flatRw (.tmp 4) (.tmp 59) rfl (w.heap.size + 1 + 1) rfl _ rfl Q3.out rfl rfl rfl ?_
            intro z1 kz1 hgz1 hsz1
            refine hK _ _ (.inr (sm_grown hgz1 hsz1 (fun a ha e => by have := lt5.out; rcases ha with h | h <;> omega))) ?_
            clear hK K
            try simp only [Act.put, List.setIfInBounds_toArray, List.set_cons_zero, List.set_cons_succ]
            have HQz := Lib.hid (grown_block hgz1 Q4.out (fun e => by injection e; omega))
            replace kz1 := Lib.hid kz1
            replace hgz1 := Lib.hid hgz1
            clear hsz1
            refine stepT 3 rfl (by decide +kernel) (by rfl) ?_
            intro K hK
            refine wp_storeB flatPk (.tmp 5) (.tmp 60) rfl (w.heap.size + 1 + 1 + 1) rfl _ rfl HQz.out rfl rfl rfl ?_
            intro z2 kz2 hgz2 hsz2
            refine hK _ _ (.inr (sm_grown hgz2 hsz2 (fun a ha e => by have := lt5.out; rcases ha with h | h <;> omega))) ?_
            clear hK K
            try simp only [Act.put, List.setIfInBounds_toArray, List.set_cons_zero, List.set_cons_succ]
            have KZ1 := Lib.hid (grown_block hgz2 kz1.out (fun e => by injection e; omega))
            replace kz2 := Lib.hid kz2
            replace hgz2 := Lib.hid hgz2
            clear hsz2
            ((first | (refine takeT 4 (v := ?_) rfl (by decide +kernel) (by decide +kernel) (by decide +kernel) (fun _ _ _ h => h) (by decide +kernel) (Or.inl ⟨by rfl, ?_⟩) ?_; rotate_left 1; (focus (intro W hW; have hcW := hW.at; (try dsimp only at hcW); go_simp; first | done | with_reducible rfl)); try simp only [Act.put, List.setIfInBounds_toArray, List.set_cons_zero, List.set_cons_succ]) | (refine takeW 4 (v := ?_) rfl (by decide +kernel) (by decide +kernel) (by decide +kernel) (fun _ _ _ h => h) (Or.inl ⟨by rfl, ?_⟩) ?_; rotate_left 1; (focus (intro W hW; go_simp; first | done | with_reducible rfl)); try simp only [Act.put, List.setIfInBounds_toArray, List.set_cons_zero, List.set_cons_succ]) | (refine takeW 4 rfl (by decide +kernel) (by decide +kernel) (by decide +kernel) (fun _ _ _ h => h) (Or.inr ⟨by rfl, rfl⟩) ?_; try simp only [Act.put, List.setIfInBounds_toArray, List.set_cons_zero, List.set_cons_succ]) | skip))
            refine doneT (by kernel_rfl) ?_
            go_wp2
            refine bodyPost_ret (ret_cell2_tmp flatRw flatPk rfl _ (w.heap.size + 1 + 1) rfl KZ1.out rfl (w.heap.size + 1 + 1 + 1) rfl kz2.out rfl) rfl ?_
            have hc : N ≤ x0.heap.size := Nat.le_trans HN.out Q6.out.size
            exact ⟨_, F9, A1x, c1x, rfl, (Q7.out.grown hgz1.out (fun k hk => by have := HN.out; omega)).grown hgz2.out (fun k hk => by have := HN.out; omega), Asr.grown (Asr.grown Q5.out hgz1.out Z9.out.2 (by have := HN.out; omega) hc) hgz2.out Q9.out.2 (by have := HN.out; omega) (Nat.le_trans hc hgz1.out.size), (Q6.out.grown_new hgz1.out (by omega)).grown_new hgz2.out (by omega)⟩
        · have hE3 : ((E2 : Int) != 0) = true := (neF' (y := 0) he2).2
          rw [if_neg he2] at HR
          have := HR.out
          subst this
          clear HR
          go_wp2_with (first | (refine wpl_loadB flatRw rfl (.tmp 2) rfl _ rfl HW9.out rfl ?_) | (refine wpl_storeB flatRw rfl (.tmp 4) (.tmp 47) rfl _ rfl _ rfl HZ9.out rfl rfl rfl ?_; intro z1 kz1 hgz1 hsz1; have HQz := Lib.hid (grown_block hgz1 HQ9.out (fun e => by injection e; omega)); replace kz1 := Lib.hid kz1; replace hgz1 := Lib.hid hgz1; clear hsz1) | (refine wpl_storeB flatPk rfl (.tmp 5) (.tmp 48) rfl _ rfl _ rfl HQz.out rfl rfl rfl ?_; intro z2 kz2 hgz2 hsz2; have KZ1 := Lib.hid (grown_block hgz2 kz1.out (fun e => by injection e; omega)); replace kz2 := Lib.hid kz2; replace hgz2 := Lib.hid hgz2; clear hsz2))
          refine bodyPost_ret (ret_cell2_tmp flatRw flatPk rfl _ (w.heap.size + 1 + 1) rfl KZ1.out rfl (w.heap.size + 1 + 1 + 1) rfl kz2.out rfl) rfl ?_
          have hE := bad_end H9.out M9.out hgz1.out hgz2.out Z4.out.2 Q4.out.2 (by omega) (by omega) HN.out
          simp only [List.length_append, List.length_cons, List.length_nil, Nat.zero_add] at hE
          exact hE
  · have hE1 : ((E : Int) != 0) = true := (neF' (y := 0) he).2
    rw [if_neg he] at HR
    have := HR.out
    subst this
    clear HR
    go_wp2_with (first | (refine wpl_loadB flatRw rfl (.tmp 2) rfl _ rfl HW1.out rfl ?_) | (refine wpl_storeB flatRw rfl (.tmp 4) (.tmp 12) rfl _ rfl _ rfl HZ1.out rfl rfl rfl ?_; intro z1 kz1 hgz1 hsz1; have HQz := Lib.hid (grown_block hgz1 HQ1.out (fun e => by injection e; omega)); replace kz1 := Lib.hid kz1; replace hgz1 := Lib.hid hgz1; clear hsz1) | (refine wpl_storeB flatPk rfl (.tmp 5) (.tmp 13) rfl _ rfl _ rfl HQz.out rfl rfl rfl ?_; intro z2 kz2 hgz2 hsz2; have KZ1 := Lib.hid (grown_block hgz2 kz1.out (fun e => by injection e; omega)); replace kz2 := Lib.hid kz2; replace hgz2 := Lib.hid hgz2; clear hsz2))
    refine bodyPost_ret (ret_cell2_tmp flatRw flatPk rfl _ (w.heap.size + 1 + 1) rfl KZ1.out rfl (w.heap.size + 1 + 1 + 1) rfl kz2.out rfl) rfl ?_
    have hE := bad_end H1.out M1.out hgz1.out hgz2.out (NF.out (w.heap.size + 1 + 1) (by omega)) (NF.out (w.heap.size + 1 + 1 + 1) (by omega)) (by omega) (by omega) HN.out
    exact hE

end Go.Proofs.YtkfkcpogcobmbaaDoor
