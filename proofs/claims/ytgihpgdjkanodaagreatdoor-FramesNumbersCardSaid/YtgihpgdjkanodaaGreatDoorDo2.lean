/-
  Helper text, several in one; no statement is proved here.
-/
import Derived.Test.YtgihpgdjkanodaaGreatDoorWrite
namespace Go.Proofs.YtgihpgdjkanodaaGreatDoor
open Go Go.RowKit

/-- A host and the function that tells what was sent are returned. -/
def HostPost (w : World) (dv wv : Value) (e : Ending) (w' : World) : Prop :=
  ∃ b, e = .returned (.tuple #[hostV dv wv b, .func (.func 65) #[] #[.pointer (some ⟨b, 0, none⟩)]]) ∧ w'.heap[b]? = some (.cells #[.slice none 0 0] 31 (0, 0)) ∧ w.heap.size ≤ b ∧ Below w.heap.size w w'
/-- An interface value. -/
def IsIface (v : Value) : Prop := v = .nilIface ∨ ∃ T u, v = .iface T u
set_option maxHeartbeats 800000 in
set_option maxRecDepth 100000 in
theorem newHost_any (w : World) (dv wv : Value) (h1 : IsIface dv) (h2 : IsIface wv) : Calls Tryz.prog 50 #[dv, wv] w (HostPost w dv wv) := by
  have hmf : ∀ (fn : Fn) (first cap : Array Value) (w : World), (Instr.makeFunc fn first cap).run Tryz.prog w = .ok (.func fn first cap) w := fun _ _ _ _ => rfl
  obtain ⟨g0, g1, g2, g3⟩ := alloc2 w (.cells #[.nilIface, .nilIface, .nilFunc] 127) (.cells #[.slice none 0 0] 31)
  have B0 := Lib.hid g0
  have B1 := Lib.hid g1
  have Hsz := Lib.hid g2
  have Hb := Lib.hid g3
  clear g0 g1 g2 g3
  rcases h1 with rfl | ⟨T, u, rfl⟩ <;> rcases h2 with rfl | ⟨T2, u2, rfl⟩
  all_goals
    go_enter Tryz.func50, Tryz.ntmps50
    go_wp2_with (refine wpl_storeB flatHost rfl (.tmp 4) (.tmp 12) rfl _ rfl _ rfl B0.out rfl rfl rfl ?_; intro y k2 hg hs)
    refine bodyPost_ret (ret_cell_tmp flatHost rfl _ w.heap.size rfl k2 rfl) rfl ?_
    exact ⟨w.heap.size + 1, rfl, grown_block hg B1.out (fun e => by injection e; omega), by omega, below_grown Hb.out hg Hb.out.size (Nat.le_refl _)⟩

section
variable {N : Nat} {σ τ : Type} {D : σ → Asr N} {W : τ → Asr N} {next : τ → τ × Nat} {wv dv : Value} {ask : σ → τ → List SentP → Pkt → (σ × τ × List SentP) × Pkt × Bool}

/-- What a transaction comes to. -/
def performR (next : τ → τ × Nat) (ask : σ → τ → List SentP → Pkt → (σ × τ × List SentP) × Pkt × Bool) (x : σ × τ × List SentP) (t : Tr) : (σ × τ × List SentP) × Nat × List UInt8 :=
  if t.what = 9 then readR next ask x t else ((writeR next ask x t).1, (writeR next ask x t).2, [])

set_option maxHeartbeats 1600000 in
set_option maxRecDepth 100000 in
theorem perform_any {J : σ → List SentP → Prop} {b : Nat} (hW : WireOK W next wv) (hA : AskC D W b dv wv ask J) (hAl : AskLen ask) (hAj : AskJ ask J) (hLN : 0 < N) (w : World) (x : σ × τ × List SentP) (hj : J x.1 x.2.2) (S : Nat → Prop) (h : (hostA D W b x).holds S w) (t : Tr) (ok : t.Ok) (A : Option Addr) (c : Nat)
    (hr : RdS (fun k => ¬ S k) w A c t.data) (hl : x.2.2.length ≤ 999990) (hN : N ≤ w.heap.size) (hL : Laid w) :
    Calls Tryz.prog 52 #[hostV dv wv b, trV t A c] w (OutPost (hostA D W b (performR next ask x t).1) S w (performR next ask x t).2) := by
  have hge : ∀ k, S k → N ≤ k ∧ k < w.heap.size := fun k hk => (hostA D W b x).ge h k hk
  obtain ⟨g0, g1, g2, g3, g4⟩ := alloc3 w (.cells #[dv, wv, noteV b] 127) (trB t A c) (.cells #[.int .u8 0, .slice none 0 0] 74)
  have hm := Mv.of_below S g4
  have hN1 := Nat.le_trans hN g4.size
  have hL1 := hL.belowN (hm.belowN (fun k hk => (hge k hk).1) hN) hLN
  have hh := Asr.below h g4 hN
  have KR := Lib.hid (read_any hW hA hAl hAj hLN _ x hj S hh t ok A c hl hN1 hL1)
  have KW := Lib.hid (write_any hW hA hAl hAj hLN _ x hj S hh t ok A c (hr.below g4) hl hN1 hL1)
  have i9 : ((t.what : Int) == 9) = (t.what == 9) := castEq t.what 9
  obtain ⟨b9, hb9⟩ : ∃ b9, (t.what == 9) = b9 := ⟨_, rfl⟩
  rw [hb9] at i9
  have H9 := Lib.hid hb9
  have c2 := block_at g1 (i := 2) (v := .int .u8 (t.what : Int)) rfl
  have B0 := Lib.hid g0
  have B1 := Lib.hid g1
  have B2 := Lib.hid g2
  have Hm := Lib.hid hm
  have HN := Lib.hid hN
  have HN1 := Lib.hid hN1
  have Hge := Lib.hid hge
  obtain ⟨R, hR⟩ : ∃ R, performR next ask x t = R := ⟨_, rfl⟩
  rw [hR]
  unfold performR at hR
  have HR := Lib.hid hR
  clear g0 g1 g2 g3 g4 hm hN hN1 hL1 hL hh hge h hr hR ok hb9 hA hAl hW hAj hj
  cases b9
  · rw [if_neg (by simpa using H9.out)] at HR
    generalize writeR next ask x t = r at *
    obtain ⟨x', res⟩ := r
    have := HR.out
    subst this
    clear HR
    simp only at KW ⊢
    go_enter Tryz.func52, Tryz.ntmps52
    go_wp2_with (first | (refine wpl_loadB flatHost rfl (.tmp 2) rfl _ rfl B0.out rfl ?_) | (refine wpl_loadB flatTry rfl (.tmp 3) rfl _ rfl B1.out rfl ?_))
    refine KW.out.mono ?_
    rintro e y ⟨rfl, S1, h1, hm1⟩
    have b2 := hm1.box ⟨B2.out, fun hf => by have := (Hge.out _ hf).2; omega⟩
    have C2 := Lib.hid b2
    have H1 := Lib.hid h1
    have M1 := Lib.hid (Hm.out.trans hm1)
    have HNy := Lib.hid (Nat.le_trans HN1.out hm1.size)
    clear b2 h1 hm1
    go_wp2_with (refine wpl_storeB flatOut rfl (.tmp 4) (.tmp 14) rfl _ rfl _ rfl C2.out.1 rfl rfl rfl ?_; intro y5 k2 hg5 hs5)
    refine bodyPost_ret (ret_cell flatOut rfl _ (w.heap.size + 1 + 1) rfl k2 rfl) rfl ?_
    exact ⟨none, 0, _, rfl, RdU.nil _, Asr.grown H1.out hg5 C2.out.2 (by have := HN.out; omega) HNy.out, M1.out.grown_new hg5 (by omega)⟩
  · rw [if_pos (by simpa using H9.out)] at HR
    have := HR.out
    subst this
    clear HR
    generalize readR next ask x t = r at *
    obtain ⟨x', res, out⟩ := r
    simp only at KR ⊢
    go_enter Tryz.func52, Tryz.ntmps52
    go_wp2_with (first | (refine wpl_loadB flatHost rfl (.tmp 2) rfl _ rfl B0.out rfl ?_) | (refine wpl_loadB flatTry rfl (.tmp 3) rfl _ rfl B1.out rfl ?_))
    refine KR.out.mono ?_
    rintro e y ⟨A1, c1, S1, rfl, hr1, h1, hm1⟩
    have b2 := hm1.box ⟨B2.out, fun hf => by have := (Hge.out _ hf).2; omega⟩
    have hlt2 := Lib.hid (block_lt B2.out)
    have Hr1 := Lib.hid hr1
    have C2 := Lib.hid b2
    have H1 := Lib.hid h1
    have M1 := Lib.hid (Hm.out.trans hm1)
    have HNy := Lib.hid (Nat.le_trans HN1.out hm1.size)
    clear b2 h1 hm1 hr1
    go_wp2_with (refine wpl_storeB flatOut rfl (.tmp 4) (.tmp 10) rfl _ rfl _ rfl C2.out.1 rfl rfl rfl ?_; intro y5 k2 hg5 hs5)
    refine bodyPost_ret (ret_cell flatOut rfl _ (w.heap.size + 1 + 1) rfl k2 rfl) rfl ?_
    exact ⟨A1, c1, _, rfl, (Hr1.out.grown hg5 fun k hk e => by have := hlt2.out; omega).mono fun k hk => ⟨hk.1, by have := hlt2.out; omega⟩, Asr.grown H1.out hg5 C2.out.2 (by have := HN.out; omega) HNy.out, M1.out.grown_new hg5 (by omega)⟩
end

end Go.Proofs.YtgihpgdjkanodaaGreatDoor

namespace Go.Proofs.YtgihpgdjkanodaaGreatDoor
open Go Go.RowKit

section
variable {N : Nat} {σ τ : Type} {D : σ → Asr N} {W : τ → Asr N} {next : τ → τ × Nat} {wv dv : Value} {ask : σ → τ → List SentP → Pkt → (σ × τ × List SentP) × Pkt × Bool}

/-- What Do comes to. -/
def doR (next : τ → τ × Nat) (ask : σ → τ → List SentP → Pkt → (σ × τ × List SentP) × Pkt × Bool) (s : σ) (q : τ) (t : Tr) : (σ × τ × List SentP) × Nat × List UInt8 :=
  if t.err = 0 then performR next ask (s, q, []) t else ((s, q, []), 0, [])

/-- An outcome, and what was sent. -/
def DoPost {N : Nat} (A : Asr N) (S : Nat → Prop) (w : World) (r : Nat × List UInt8) (l : List SentP) (e : Ending) (w' : World) : Prop :=
  ∃ (A1 : Option Addr) (c1 : Nat) (A2 : Option Addr) (c2 : Nat) (S1 F : Nat → Prop), e = .returned (.tuple #[.agg #[.int .u8 (r.1 : Int), .slice A1 r.2.length c1], .slice A2 l.length c2]) ∧ RdU (fun k => ¬ S1 k ∧ ¬ F k ∧ w.heap.size ≤ k) w' A1 c1 r.2 ∧ RdL laySn F w' A2 c2 l ∧
    (∀ k, F k → ¬ S1 k ∧ N ≤ k ∧ k < w'.heap.size) ∧ A.holds S1 w' ∧ Mv S w S1 w' ∧ ∀ k, F k → S k ∨ w.heap.size ≤ k

theorem host_one (h1 : IsIface dv) (h2 : IsIface wv) (b : Nat) : ((#[dv, wv, noteV b] : Array Value).toList.all (·.oneCell')) = true := by
  rcases h1 with rfl | ⟨T, u, rfl⟩ <;> rcases h2 with rfl | ⟨T2, u2, rfl⟩ <;> rfl
theorem open_host {s : σ} {q : τ} {S : Nat → Prop} {w y : World} {b : Nat} (h : ((D s).sep (W q)).holds S w) (hb : Below w.heap.size w y) (hN : N ≤ w.heap.size) (hy : y.heap[b]? = some (.cells #[.slice none 0 0] 31 (0, 0))) (hwb : w.heap.size ≤ b) :
    (hostA D W b (s, q, [])).holds (fun k => S k ∨ k = b) y := by
  obtain ⟨FD, FW, h1, h2, h3, rfl⟩ := Asr.sep_eq h
  have hlt := block_lt hy
  have hFD := fun k hk => ((D s).ge h1 k hk).2
  have hFW := fun k hk => ((W q).ge h2 k hk).2
  refine ⟨FD, fun k => FW k ∨ k = b, Asr.below h1 hb hN, ⟨FW, fun k => k = b, Asr.below h2 hb hN, ⟨⟨_, hy, OwnL.nil _ _ _⟩, rfl, fun k hk => by subst hk; omega⟩, fun k hk e => by have := hFW k hk; omega, fun _ => Iff.rfl⟩, fun k hk hf => hf.elim (h3 k hk) (fun e => by have := hFD k hk; omega), fun k => by show (FD k ∨ FW k) ∨ k = b ↔ FD k ∨ (FW k ∨ k = b); rw [or_assoc]⟩
theorem close_host {x : σ × τ × List SentP} {S' : Nat → Prop} {z : World} {b : Nat} (h : (hostA D W b x).holds S' z) :
    ∃ S1 F, ((D x.1).sep (W x.2.1)).holds S1 z ∧ (snA N b x.2.2).holds F z ∧ (∀ k, F k → ¬ S1 k) ∧ ∀ k, S' k ↔ S1 k ∨ F k := by
  obtain ⟨FD, FR, h1, h2, h3, h4⟩ := h
  obtain ⟨FW, F, h5, h6, h7, h8⟩ := h2
  refine ⟨fun k => FD k ∨ FW k, F, ⟨FD, FW, h1, h5, fun k hk hf => h3 k hk ((h8 k).2 (.inl hf)), fun _ => Iff.rfl⟩, h6, fun k hk hs => hs.elim (fun h => h3 k h ((h8 k).2 (.inr hk))) (fun h => h7 k h hk), fun k => ?_⟩
  rw [h4 k, h8 k, or_assoc]

set_option maxHeartbeats 1600000 in
set_option maxRecDepth 100000 in
theorem do_any {J : σ → List SentP → Prop} (hdv : IsIface dv) (hwv : IsIface wv) (hW : WireOK W next wv) (hA : ∀ b, AskC D W b dv wv ask J) (hAl : AskLen ask) (hAj : AskJ ask J) (hLN : 0 < N) (w : World) (s : σ) (hj : J s []) (q : τ) (S : Nat → Prop) (h : ((D s).sep (W q)).holds S w) (t : Tr) (ok : t.Ok)
    (A : Option Addr) (c : Nat) (hr : RdS (fun k => ¬ S k) w A c t.data) (hN : N ≤ w.heap.size) (hL : Laid w) :
    Calls Tryz.prog 39 #[dv, wv, trV t A c] w (DoPost ((D (doR next ask s q t).1.1).sep (W (doR next ask s q t).1.2.1)) S w (doR next ask s q t).2 (doR next ask s q t).1.2.2) := by
  have hge : ∀ k, S k → N ≤ k ∧ k < w.heap.size := fun k hk => ((D s).sep (W q)).ge h k hk
  obtain ⟨g0, g1, g2, g3⟩ := alloc2 w (trB t A c) (.cells #[.int .u8 0, .slice none 0 0] 74)
  have Hone := fun b => host_one hdv hwv b
  have KC := Lib.hid fun X => tcheck_any X t A c (by have := ok.len; omega)
  have KN := Lib.hid fun X => newHost_any X dv wv hdv hwv
  have KP := Lib.hid fun (X : World) (b : Nat) (S : Nat → Prop) (hX : (hostA D W b (s, q, [])).holds S X) (hr : RdS (fun k => ¬ S k) X A c t.data) (hN : N ≤ X.heap.size) (hL : Laid X) => perform_any hW (hA b) hAl hAj hLN X (s, q, []) hj S hX t ok A c hr (by simp) hN hL
  obtain ⟨R, hR⟩ : ∃ R, doR next ask s q t = R := ⟨_, rfl⟩
  rw [hR]
  unfold doR at hR
  obtain ⟨P, hP⟩ : ∃ P, performR next ask (s, q, []) t = P := ⟨_, rfl⟩
  rw [hP] at hR KP
  have HR := Lib.hid hR
  have Hh := Lib.hid h
  have Hr := Lib.hid hr
  have HN := Lib.hid hN
  have HL := Lib.hid hL
  have Hge := Lib.hid hge
  have B0 := Lib.hid g0
  have B1 := Lib.hid g1
  have Hsz := Lib.hid g2
  have Hb := Lib.hid g3
  obtain ⟨E, hE⟩ : ∃ E, (t.err : Int) = E := ⟨_, rfl⟩
  rw [hE] at KC
  clear g0 g1 g2 g3 h hr hN hL hge hR hP ok hA hAl hW hdv hwv hAj hj
  by_cases he : t.err = 0
  · rw [if_pos he] at HR
    have hE0 : E = 0 := by rw [← hE, he]; rfl
    subst hE0
    have := HR.out
    subst this
    clear HR he hE
    obtain ⟨x', res, out⟩ := P
    simp only at KP ⊢
    go_enter Tryz.func39, Tryz.ntmps39
    go_wp2_with (refine wpl_loadB flatTry rfl (.tmp 5) rfl _ rfl B0.out rfl ?_)
    refine (KC.out _).mono ?_
    rintro e y1 ⟨rfl, bb1⟩
    have hbb := Hb.out.trans (bb1.mono Hb.out.size)
    have B01 := Lib.hid ((bb1.block _ (block_lt B0.out)).trans B0.out)
    have B11 := Lib.hid ((bb1.block _ (block_lt B1.out)).trans B1.out)
    have Hb1 := Lib.hid hbb
    clear bb1 hbb
    go_wp2_with fail
    refine (KN.out y1).mono ?_
    rintro e y2 ⟨b, rfl, hbx, hgb, bb2⟩
    replace Hone := Lib.hid (Hone b)
    have hbb := Hb1.out.trans (bb2.mono Hb1.out.size)
    have B02 := Lib.hid ((bb2.block _ (block_lt B01.out)).trans B01.out)
    have B12 := Lib.hid ((bb2.block _ (block_lt B11.out)).trans B11.out)
    have Hb2 := Lib.hid hbb
    have Hbx := Lib.hid hbx
    have Hgb := Lib.hid (show w.heap.size + 1 + 1 ≤ b by have := block_lt B11.out; omega)
    have k8 := Lib.hid (alloc1 y2 (.cells #[.nilIface, .nilIface, .nilFunc] 127))
    have Hb8 := Lib.hid ((Below.refl y2.heap.size y2).alloc (Nat.le_refl _) (.cells #[.nilIface, .nilIface, .nilFunc] 127))
    clear bb2 hbb hbx hgb
    go_wp2_with (first | (refine wpl_storeB flatHost rfl (.tmp 8) (.tmp 19) rfl _ rfl _ rfl k8.out rfl rfl Hone.out ?_; intro y3 k83 hg3 hs3; have B03 := Lib.hid (grown_block hg3 ((Hb8.out.block _ (block_lt B02.out)).trans B02.out) (fun e => by injection e; have := block_lt B02.out; omega)); have B13 := Lib.hid (grown_block hg3 ((Hb8.out.block _ (block_lt B12.out)).trans B12.out) (fun e => by injection e; have := block_lt B12.out; omega)); have Bx3 := Lib.hid (grown_block hg3 ((Hb8.out.block _ (block_lt Hbx.out)).trans Hbx.out) (fun e => by injection e; have := block_lt Hbx.out; omega)); have Hb3 := Lib.hid (Hb2.out.trans ((below_grown Hb8.out hg3 Hb8.out.size (Nat.le_refl _)).mono Hb2.out.size)); replace k83 := Lib.hid k83; clear hg3 hs3) | (refine wpl_loadB flatHost rfl (.tmp 8) rfl _ rfl k83.out rfl ?_) | (refine wpl_loadB flatTry rfl (.tmp 5) rfl _ rfl B03.out rfl ?_))
    have hN3 := Nat.le_trans HN.out Hb3.out.size
    have hh3 := open_host Hh.out Hb3.out HN.out Bx3.out (by have := Hgb.out; omega)
    have hr3 : RdS (fun k => ¬ (S k ∨ k = b)) y3 A c t.data := (Hr.out.lt.keep fun k hk => Hb3.out.block k hk.2).mono fun k hk hf => hf.elim hk.1 (fun e => by have := hk.2; have := Hgb.out; omega)
    have hL3 := HL.out.belowN (Hb3.out.mono HN.out) hLN
    refine (KP.out y3 b _ hh3 hr3 hN3 hL3).mono ?_
    rintro e y4 ⟨A1, c1, S', rfl, hr4, hh4, hm4⟩
    have b1 := hm4.box ⟨B13.out, fun hf => hf.elim (fun hs => by have := (Hge.out _ hs).2; omega) (fun e => by have := Hgb.out; omega)⟩
    have hN4 := Nat.le_trans hN3 hm4.size
    obtain ⟨S1, F, hh5, hsn, hdis, hS'⟩ := close_host hh4
    have hmw : Mv S w S1 y4 := ⟨hm4.os.trans Hb3.out.os, hm4.tape.trans Hb3.out.tape, hm4.output.trans Hb3.out.output, Nat.le_trans Hb3.out.size hm4.size, fun k hk hn => (hm4.keep k (Nat.lt_of_lt_of_le hk Hb3.out.size) (fun hf => hf.elim hn (fun e => by have := Hgb.out; omega))).trans (Hb3.out.block k hk),
      fun k hk => (hm4.new k ((hS' k).2 (.inl hk))).elim (fun h => h.elim .inl (fun e => .inr (by have := Hgb.out; omega))) (fun h => .inr (Nat.le_trans Hb3.out.size h))⟩
    have HS' := Lib.hid hS'
    have Hfn := Lib.hid (show ∀ k, F k → S k ∨ w.heap.size ≤ k from fun k hk => (hm4.new k ((hS' k).2 (.inr hk))).elim (fun h => h.elim .inl (fun e => .inr (by have := Hgb.out; omega))) (fun h => .inr (Nat.le_trans Hb3.out.size h)))
    have Hdis := Lib.hid hdis
    have H5 := Lib.hid hh5
    have Hsn := Lib.hid hsn
    have Hm4 := Lib.hid hmw
    have Hr4 := Lib.hid hr4
    have B14 := Lib.hid b1
    have HN4 := Lib.hid hN4
    have Hlt13 := Lib.hid (block_lt B13.out)
    have k10 := Lib.hid (alloc1 y4 (.cells #[.int .u8 0, .slice none 0 0] 74))
    have Hb10 := Lib.hid ((Below.refl y4.heap.size y4).alloc (Nat.le_refl _) (.cells #[.int .u8 0, .slice none 0 0] 74))
    clear hN3 hh3 hr3 hL3 hr4 hh4 hm4 b1 hN4 hh5 hsn hdis hS' hmw
    go_wp2_with (refine wpl_storeB flatOut rfl (.tmp 10) (.tmp 23) rfl _ rfl _ rfl k10.out rfl rfl rfl ?_; intro y5 k105 hg5 hs5; have B15 := Lib.hid (grown_block hg5 ((Hb10.out.block _ (block_lt B14.out.1)).trans B14.out.1) (fun e => by injection e; have := block_lt B14.out.1; omega)); have Hb5 := Lib.hid (below_grown Hb10.out hg5 Hb10.out.size (Nat.le_refl _)); replace k105 := Lib.hid k105; clear hg5 hs5)
    refine startTP (S := fun a => a.block = y4.heap.size) (T := [3]) (fun X => X.heap[y4.heap.size]? = some (.cells #[.int .u8 (res : Int), .slice A1 out.length c1] 74 (0, 0)) ∧ X.heap[w.heap.size + 1]? = some (.cells #[.int .u8 0, .slice none 0 0] 74 (0, 0)) ∧ Below y4.heap.size y4 X) 5 (by kernel_rfl) rfl (l := #[false, false, false, false, false]) rfl
      ⟨k105.out, B15.out, Hb5.out.drew⟩ ?_
    clear k105 B15 Hb5
    rintro x0 ⟨k10, b1, hb⟩
    have d0 := block_at k10 (i := 0) (v := .int .u8 (res : Int)) rfl
    have d1 := block_at k10 (i := 1) (v := .slice A1 out.length c1) rfl
    have B16 := Lib.hid b1
    have Hb6 := Lib.hid hb
    clear b1 hb k10
    ((first | (refine takeT 0 (v := ?_) rfl (by decide +kernel) (by decide +kernel) (by decide +kernel) (fun _ _ _ h => h) (by decide +kernel) (Or.inl ⟨by rfl, ?_⟩) ?_; rotate_left 1; (focus (intro W hW; have hcW := hW.at; (try dsimp only at hcW); go_simp; first | done | with_reducible rfl)); try simp only [Act.put, List.setIfInBounds_toArray, List.set_cons_zero, List.set_cons_succ]) | (refine takeW 0 (v := ?_) rfl (by decide +kernel) (by decide +kernel) (by decide +kernel) (fun _ _ _ h => h) (Or.inl ⟨by rfl, ?_⟩) ?_; rotate_left 1; (focus (intro W hW; go_simp; first | done | with_reducible rfl)); try simp only [Act.put, List.setIfInBounds_toArray, List.set_cons_zero, List.set_cons_succ]) | (refine takeW 0 rfl (by decide +kernel) (by decide +kernel) (by decide +kernel) (fun _ _ _ h => h) (Or.inr ⟨by rfl, rfl⟩) ?_; try simp only [Act.put, List.setIfInBounds_toArray, List.set_cons_zero, List.set_cons_succ]) | skip); (first | (refine takeT 1 (v := ?_) rfl (by decide +kernel) (by decide +kernel) (by decide +kernel) (fun _ _ _ h => h) (by decide +kernel) (Or.inl ⟨by rfl, ?_⟩) ?_; rotate_left 1; (focus (intro W hW; have hcW := hW.at; (try dsimp only at hcW); go_simp; first | done | with_reducible rfl)); try simp only [Act.put, List.setIfInBounds_toArray, List.set_cons_zero, List.set_cons_succ]) | (refine takeW 1 (v := ?_) rfl (by decide +kernel) (by decide +kernel) (by decide +kernel) (fun _ _ _ h => h) (Or.inl ⟨by rfl, ?_⟩) ?_; rotate_left 1; (focus (intro W hW; go_simp; first | done | with_reducible rfl)); try simp only [Act.put, List.setIfInBounds_toArray, List.set_cons_zero, List.set_cons_succ]) | (refine takeW 1 rfl (by decide +kernel) (by decide +kernel) (by decide +kernel) (fun _ _ _ h => h) (Or.inr ⟨by rfl, rfl⟩) ?_; try simp only [Act.put, List.setIfInBounds_toArray, List.set_cons_zero, List.set_cons_succ]) | skip))
    clear d0 d1
    refine stepT 2 rfl (by decide +kernel) (by rfl) ?_
    intro K hK
    go_simp
    refine (sent_any x0 N b x'.2.2 F (Asr.below Hsn.out Hb6.out HN4.out)).mono ?_
    rintro e x1 ⟨A2, c2, rfl, hrl, rfl⟩
    refine hK _ _ (.inr (Sm.refl _ _)) ?_
    clear hK K
    have Hrl := Lib.hid hrl
    clear hrl
    try simp only [Act.put, List.setIfInBounds_toArray, List.set_cons_zero, List.set_cons_succ]
    refine stepT 3 rfl (by decide +kernel) (by rfl) ?_
    intro K hK
    refine wp_storeB flatOut (.tmp 6) (.tmp 24) rfl (w.heap.size + 1) rfl _ rfl B16.out rfl rfl rfl ?_
    intro z kz hgz hsz
    refine hK _ _ (.inl (by decide)) ?_
    clear hK K
    try simp only [Act.put, List.setIfInBounds_toArray, List.set_cons_zero, List.set_cons_succ]
    ((first | (refine takeT 4 (v := ?_) rfl (by decide +kernel) (by decide +kernel) (by decide +kernel) (fun _ _ _ h => h) (by decide +kernel) (Or.inl ⟨by rfl, ?_⟩) ?_; rotate_left 1; (focus (intro W hW; have hcW := hW.at; (try dsimp only at hcW); go_simp; first | done | with_reducible rfl)); try simp only [Act.put, List.setIfInBounds_toArray, List.set_cons_zero, List.set_cons_succ]) | (refine takeW 4 (v := ?_) rfl (by decide +kernel) (by decide +kernel) (by decide +kernel) (fun _ _ _ h => h) (Or.inl ⟨by rfl, ?_⟩) ?_; rotate_left 1; (focus (intro W hW; go_simp; first | done | with_reducible rfl)); try simp only [Act.put, List.setIfInBounds_toArray, List.set_cons_zero, List.set_cons_succ]) | (refine takeW 4 rfl (by decide +kernel) (by decide +kernel) (by decide +kernel) (fun _ _ _ h => h) (Or.inr ⟨by rfl, rfl⟩) ?_; try simp only [Act.put, List.setIfInBounds_toArray, List.set_cons_zero, List.set_cons_succ]) | skip))
    refine doneT (by kernel_rfl) ?_
    have Kz := Lib.hid kz
    have Hgz := Lib.hid hgz
    have Hsz := Lib.hid hsz
    clear kz hgz hsz
    go_wp2
    refine bodyPost_ret (ret_cell_tmp flatOut rfl _ (w.heap.size + 1) rfl Kz.out rfl) rfl ?_
    have hN6 : N ≤ x0.heap.size := Nat.le_trans HN4.out Hb6.out.size
    have n1 : ¬ (S1 (w.heap.size + 1) ∨ F (w.heap.size + 1)) := fun h => B14.out.2 ((HS'.out _).2 h)
    have hF : ∀ k, F k → N ≤ k ∧ k < y4.heap.size := fun k hk => (snA N b x'.2.2).ge Hsn.out k hk
    have hNw := HN.out
    refine ⟨A1, c1, A2, c2, S1, F, rfl, ?_, ?_, fun k hk => ⟨Hdis.out k hk, (hF k hk).1, by have := (hF k hk).2; have := Hb6.out.size; rw [Hsz.out]; omega⟩, ?_, ?_⟩
    · refine ((Hr4.out.below Hb6.out).grown Hgz.out fun k hk e => ?_).mono fun k hk => ⟨fun hs => hk.1 ((HS'.out k).2 (.inl hs)), fun hf => hk.1 ((HS'.out k).2 (.inr hf)), by have := hk.2; have := Hb3.out.size; omega⟩
      have := hk.2
      have := Hlt13.out
      omega
    · refine Hrl.out.keep fun k hk => ?_
      refine Hgz.out.block k ?_ (fun e => ?_)
      · have := (hF k hk).2; have := Hb6.out.size; omega
      · injection e with e
        subst e
        exact n1 (.inr hk)
    · exact Asr.grown (Asr.below H5.out Hb6.out HN4.out) Hgz.out (fun hs => n1 (.inl hs)) (by omega) hN6
    · exact ⟨(Hm4.out.trans (Mv.of_below S1 Hb6.out)).grown_new Hgz.out (by omega), Hfn.out⟩
  · rw [if_neg he] at HR
    have hE1 : (E != 0) = true := by rw [bne_iff_ne, ← hE]; omega
    have := HR.out
    subst this
    clear HR he hE
    go_enter Tryz.func39, Tryz.ntmps39
    go_wp2_with (refine wpl_loadB flatTry rfl (.tmp 5) rfl _ rfl B0.out rfl ?_)
    refine (KC.out _).mono ?_
    rintro e y1 ⟨rfl, bb1⟩
    have hbb := Hb.out.trans (bb1.mono Hb.out.size)
    have B11 := Lib.hid ((bb1.block _ (block_lt B1.out)).trans B1.out)
    have Hb1 := Lib.hid hbb
    clear bb1 hbb
    go_wp2_with (refine wpl_storeB flatOut rfl (.tmp 6) (.tmp 14) rfl _ rfl _ rfl B11.out rfl rfl rfl ?_; intro y5 k2 hg5 hs5)
    refine bodyPost_ret (ret_cell_tmp flatOut rfl _ (w.heap.size + 1) rfl k2 rfl) rfl ?_
    have hNw := HN.out
    exact ⟨none, 0, none, 0, S, fun _ => False, rfl, RdU.nil _, ⟨Nat.le_refl _, by omega, fun hn => by simp at hn⟩, fun k hk => hk.elim, Asr.grown (Asr.below Hh.out Hb1.out hNw) hg5 (fun hs => by have := (Hge.out _ hs).2; omega) (by omega) (Nat.le_trans hNw Hb1.out.size), (Mv.of_below S Hb1.out).grown_new hg5 (by omega), fun k hk => hk.elim⟩
end

end Go.Proofs.YtgihpgdjkanodaaGreatDoor

