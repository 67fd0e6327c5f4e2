/-
  Helper text: Do and Speak; no statement is proved here.
-/
import Derived.Test.YtkfkcpogcobmbaaDoorWrite
import Derived.Test.YtkfkcpogcobmbaaDoorPos
namespace Go.Proofs.YtkfkcpogcobmbaaDoor
open Go Go.RowKit

/-- A host and the function that tells what was sent are returned. -/
def HostPost (w : World) (dv wv : Value) (e : Ending) (w' : World) : Prop :=
  ∃ b, e = .returned (.tuple #[hostV dv wv b, .func (.func 52) #[] #[.pointer (some ⟨b, 0, none⟩)]]) ∧ w'.heap[b]? = some (.cells #[.slice none 0 0] 57 (0, 0)) ∧ w.heap.size ≤ b ∧ Below w.heap.size w w'
/-- An interface value. -/
def IsIface (v : Value) : Prop := v = .nilIface ∨ ∃ T u, v = .iface T u
set_option maxHeartbeats 800000 in
set_option maxRecDepth 100000 in
theorem newHost_any (w : World) (dv wv : Value) (h1 : IsIface dv) (h2 : IsIface wv) : Calls Tryd.prog 36 #[dv, wv] w (HostPost w dv wv) := by
  have hmf : ∀ (fn : Fn) (first cap : Array Value) (w : World), (Instr.makeFunc fn first cap).run Tryd.prog w = .ok (.func fn first cap) w := fun _ _ _ _ => rfl
  obtain ⟨g0, g1, g2, g3⟩ := alloc2 w (.cells #[.nilIface, .nilIface, .nilFunc] 108) (.cells #[.slice none 0 0] 57)
  have B0 := Lib.hid g0
  have B1 := Lib.hid g1
  have Hsz := Lib.hid g2
  have Hb := Lib.hid g3
  clear g0 g1 g2 g3
  rcases h1 with rfl | ⟨T, u, rfl⟩ <;> rcases h2 with rfl | ⟨T2, u2, rfl⟩
  all_goals
    go_enter Tryd.func36, Tryd.ntmps36
    go_wp2_with (refine wpl_storeB flatHost rfl (.tmp 4) (.tmp 12) rfl _ rfl _ rfl B0.out rfl rfl rfl ?_; intro y k2 hg hs)
    refine bodyPost_ret (ret_cell_tmp flatHost rfl _ w.heap.size rfl k2 rfl) rfl ?_
    exact ⟨w.heap.size + 1, rfl, grown_block hg B1.out (fun e => by injection e; omega), by omega, below_grown Hb.out hg Hb.out.size (Nat.le_refl _)⟩

section
variable {N : Nat} {σ τ : Type} {D : σ → Asr N} {W : τ → Asr N} {next : τ → τ × Nat} {wv dv : Value} {ask : σ → τ → List SentP → Pkt → (σ × τ × List SentP) × Pkt × Bool}

/-- What a transaction comes to. -/
def performR (next : τ → τ × Nat) (ask : σ → τ → List SentP → Pkt → (σ × τ × List SentP) × Pkt × Bool) (x : σ × τ × List SentP) (t : Tr) : (σ × τ × List SentP) × Nat × List UInt8 :=
  if t.what = 9 then readR next ask x t else ((writeR next ask x t).1, (writeR next ask x t).2, [])

set_option maxHeartbeats 1600000 in
set_option maxRecDepth 100000 in
theorem perform_any {J : σ → List SentP → Prop} {b : Nat} (hW : WireOK W next wv) (hA : AskC D W b dv wv ask J) (hAl : AskLen ask) (hAj : AskJ ask J) (hLN : 0 < N) (w : World) (x : σ × τ × List SentP) (hj : J x.1 x.2.2) (S : Nat → Prop) (h : (hostA D W b x).holds S w) (t : Tr) (ok : t.Ok) (A : Option Addr) (c : Nat)
    (hr : RdS (fun k => ¬ S k) w A c t.data) (hl : x.2.2.length ≤ 999990) (hN : N ≤ w.heap.size) (hL : Laid w) :
    Calls Tryd.prog 37 #[hostV dv wv b, trV t A c] w (OutPost (hostA D W b (performR next ask x t).1) S w (performR next ask x t).2) := by
  have hge : ∀ k, S k → N ≤ k ∧ k < w.heap.size := fun k hk => (hostA D W b x).ge h k hk
  obtain ⟨g0, g1, g2, g3, g4⟩ := alloc3 w (.cells #[dv, wv, noteV b] 108) (trB t A c) (.cells #[.int .u8 0, .slice none 0 0] 56)
  have hm := Mv.of_below S g4
  have hN1 := Nat.le_trans hN g4.size
  have hL1 := hL.belowN (hm.belowN (fun k hk => (hge k hk).1) hN) hLN
  have hh := Asr.below h g4 hN
  have KR := Lib.hid (read_any hW hA hAl hAj hLN _ x hj S hh t ok A c hl hN1 hL1)
  have KW := Lib.hid (write_any hW hA hAl hAj hLN _ x hj S hh t ok A c (hr.below g4) hl hN1 hL1)
  have i9 : ((t.what : Int) == 9) = (t.what == 9) := castEq t.what 9
  obtain ⟨b9, hb9⟩ : ∃ b9, (t.what == 9) = b9 := ⟨_, rfl⟩
  rw [hb9] at i9
  have H9 := Lib.hid hb9
  have c2 := block_at g1 (i := 2) (v := .int .u8 (t.what : Int)) rfl
  have B0 := Lib.hid g0
  have B1 := Lib.hid g1
  have B2 := Lib.hid g2
  have Hm := Lib.hid hm
  have HN := Lib.hid hN
  have HN1 := Lib.hid hN1
  have Hge := Lib.hid hge
  obtain ⟨R, hR⟩ : ∃ R, performR next ask x t = R := ⟨_, rfl⟩
  rw [hR]
  unfold performR at hR
  have HR := Lib.hid hR
  clear g0 g1 g2 g3 g4 hm hN hN1 hL1 hL hh hge h hr hR ok hb9 hA hAl hW hAj hj
  cases b9
  · rw [if_neg (by simpa using H9.out)] at HR
    generalize writeR next ask x t = r at *
    obtain ⟨x', res⟩ := r
    have := HR.out
    subst this
    clear HR
    simp only at KW ⊢
    go_enter Tryd.func37, Tryd.ntmps37
    go_wp2_with (first | (refine wpl_loadB flatHost rfl (.tmp 2) rfl _ rfl B0.out rfl ?_) | (refine wpl_loadB flatTry rfl (.tmp 3) rfl _ rfl B1.out rfl ?_))
    refine KW.out.mono ?_
    rintro e y ⟨rfl, S1, h1, hm1⟩
    have b2 := hm1.box ⟨B2.out, fun hf => by have := (Hge.out _ hf).2; omega⟩
    have C2 := Lib.hid b2
    have H1 := Lib.hid h1
    have M1 := Lib.hid (Hm.out.trans hm1)
    have HNy := Lib.hid (Nat.le_trans HN1.out hm1.size)
    clear b2 h1 hm1
    go_wp2_with (refine wpl_storeB flatOut rfl (.tmp 4) (.tmp 14) rfl _ rfl _ rfl C2.out.1 rfl rfl rfl ?_; intro y5 k2 hg5 hs5)
    refine bodyPost_ret (ret_cell flatOut rfl _ (w.heap.size + 1 + 1) rfl k2 rfl) rfl ?_
    exact ⟨none, 0, _, rfl, RdU.nil _, Asr.grown H1.out hg5 C2.out.2 (by have := HN.out; omega) HNy.out, M1.out.grown_new hg5 (by omega)⟩
  · rw [if_pos (by simpa using H9.out)] at HR
    have := HR.out
    subst this
    clear HR
    generalize readR next ask x t = r at *
    obtain ⟨x', res, out⟩ := r
    simp only at KR ⊢
    go_enter Tryd.func37, Tryd.ntmps37
    go_wp2_with (first | (refine wpl_loadB flatHost rfl (.tmp 2) rfl _ rfl B0.out rfl ?_) | (refine wpl_loadB flatTry rfl (.tmp 3) rfl _ rfl B1.out rfl ?_))
    refine KR.out.mono ?_
    rintro e y ⟨A1, c1, S1, rfl, hr1, h1, hm1⟩
    have b2 := hm1.box ⟨B2.out, fun hf => by have := (Hge.out _ hf).2; omega⟩
    have hlt2 := Lib.hid (block_lt B2.out)
    have Hr1 := Lib.hid hr1
    have C2 := Lib.hid b2
    have H1 := Lib.hid h1
    have M1 := Lib.hid (Hm.out.trans hm1)
    have HNy := Lib.hid (Nat.le_trans HN1.out hm1.size)
    clear b2 h1 hm1 hr1
    go_wp2_with (refine wpl_storeB flatOut rfl (.tmp 4) (.tmp 10) rfl _ rfl _ rfl C2.out.1 rfl rfl rfl ?_; intro y5 k2 hg5 hs5)
    refine bodyPost_ret (ret_cell flatOut rfl _ (w.heap.size + 1 + 1) rfl k2 rfl) rfl ?_
    exact ⟨A1, c1, _, rfl, (Hr1.out.grown hg5 fun k hk e => by have := hlt2.out; omega).mono fun k hk => ⟨hk.1, by have := hlt2.out; omega⟩, Asr.grown H1.out hg5 C2.out.2 (by have := HN.out; omega) HNy.out, M1.out.grown_new hg5 (by omega)⟩
end

end Go.Proofs.YtkfkcpogcobmbaaDoor
