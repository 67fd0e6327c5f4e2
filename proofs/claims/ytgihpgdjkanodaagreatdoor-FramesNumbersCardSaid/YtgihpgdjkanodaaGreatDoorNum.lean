/-
  Helper text, several in one; no statement is proved here.
-/
import Derived.Test.YtgihpgdjkanodaaGreatDoorPf
import Derived.Test.YtgihpgdjkanodaaGreatDoorFrB
import Derived.Test.YtgihpgdjkanodaaGreatDoorScD
namespace Go.Proofs.YtgihpgdjkanodaaGreatDoor
open Go Go.RowKit

/-- The budget of a bus. -/
def busB (sp : Nat) : Nat := if sp = 2 then 60000 else 12000
theorem bus_budget (w : World) (s : Nat) (hs : s = 1 ∨ s = 2) : Calls Tryz.prog 26 #[.int .u8 (s : Int)] w fun e w' => e = .returned (.int .i64 (busB s : Int)) ∧ w = w' := by
  rcases hs with rfl | rfl
  all_goals
    go_enter Tryz.func26, Tryz.ntmps26
    go_wp2
    go_ret
    exact ⟨rfl, rfl⟩
theorem fit_none (w : World) (z : Int) (A : Option Addr) (c : Nat) : Calls Tryz.prog 25 #[.int .i64 z, .slice A 0 c] w fun e w' => e = .returned (.int .i64 0) ∧ w = w' := by
  go_enter Tryz.func25, Tryz.ntmps25
  go_wp2
  go_loopw [5, 11] (fun l i W => i = .int .i64 0 ∧ W = w) (fun _ _ _ => 0)
  case atStart => exact ⟨rfl, rfl⟩
  case round =>
    obtain ⟨rfl, rfl⟩ := hrel
    go_wp2
    go_ret
    exact ⟨rfl, rfl⟩
theorem sum_none (w : World) (A : Option Addr) (c : Nat) : Calls Tryz.prog 29 #[.slice A 0 c] w fun e w' => e = .returned (.int .i64 0) ∧ w = w' := by
  go_enter Tryz.func29, Tryz.ntmps29
  go_wp2
  go_loopw [3, 8] (fun l i W => i = .int .i64 0 ∧ l = .int .i64 0 ∧ W = w) (fun _ _ _ => 0)
  case atStart => exact ⟨rfl, rfl, rfl⟩
  case round =>
    obtain ⟨rfl, rfl, rfl⟩ := hrel
    go_wp2
    go_ret
    exact ⟨rfl, rfl⟩

section
variable {N : Nat} {σ τ : Type} {D : σ → Asr N} {W : τ → Asr N} {next : τ → τ × Nat} {wv dv : Value} {ask : σ → τ → List SentP → Pkt → (σ × τ × List SentP) × Pkt × Bool}
/-- Behind a frame without transactions. -/
def Fra0 {N : Nat} (A : Asr N) (S : Nat → Prop) (w : World) (b sp tk : Nat) (dv wv : Value) (l : List SentP) (e : Ending) (w' : World) : Prop :=
  ∃ (Ao : Option Addr) (co : Nat) (A2 : Option Addr) (S1 F : Nat → Prop), e = .returned (.tuple #[.slice Ao 0 co, .int .i64 0]) ∧ w'.heap[b]? = some (busC sp dv wv tk A2 l.length l.length) ∧ ¬ S1 b ∧ ¬ F b ∧ RdL laySn F w' A2 l.length l ∧
    (∀ k, F k → ¬ S1 k ∧ N ≤ k ∧ k < w'.heap.size ∧ (S k ∨ w.heap.size ≤ k)) ∧ A.holds S1 w' ∧ Mv (fun k => S k ∨ k = b) w (fun k => S1 k ∨ k = b) w'
set_option maxHeartbeats 1600000 in
set_option maxRecDepth 100000 in
theorem frame_none {J : σ → List SentP → Prop} (hdv : IsIface dv) (hwv : IsIface wv) (hW : WireOK W next wv) (hA : ∀ b, AskC D W b dv wv ask J) (hLN : 0 < N) (w : World) (s : σ) (hj : J s []) (q : τ) (S : Nat → Prop) (h : ((D s).sep (W q)).holds S w)
    (hN : N ≤ w.heap.size) (hL : Laid w) (b sp tk : Nat) (hsp : sp = 1 ∨ sp = 2) (htk : tk < 1048576) (A0 : Option Addr) (n0 c0 : Nat) (hb : w.heap[b]? = some (busC sp dv wv tk A0 n0 c0)) (hSb : ¬ S b) (hNb : N ≤ b) :
    Calls Tryz.prog 10 #[.pointer (some ⟨b, 0, none⟩), .slice none 0 0, .int .i64 0] w (Fra0 ((D (spkR next ask s q (sofP (tk / 8 % 2048))).1.1).sep (W (spkR next ask s q (sofP (tk / 8 % 2048))).1.2.1)) S w b sp (tk + stepN sp) dv wv (spkR next ask s q (sofP (tk / 8 % 2048))).1.2.2) := by
  have hbw := block_lt hb
  have bb := (Below.refl w.heap.size w).alloc (Nat.le_refl _) (.cells #[] 3)
  have hb1 := (bb.block b hbw).trans hb
  have K := Lib.hid (none_no w b sp (by omega) dv wv tk A0 n0 c0 hb)
  have c3 := block_at hb (i := 3) rfl
  have d0 := block_at hb1 (i := 0) rfl
  have hbs := block_set (w := (w.alloc (.cells #[] 3)).drew) hb1 3 (.int .i64 ((tk + stepN sp : Nat) : Int))
  have hoth : ∀ k, k ≠ b → ((w.alloc (.cells #[] 3)).drew.setCell ⟨b, 3, none⟩ (.int .i64 ((tk + stepN sp : Nat) : Int))).heap[k]? = (w.alloc (.cells #[] 3)).heap[k]? := fun k hk => Below.heap_setCell _ ⟨b, 3, none⟩ _ k hk
  have hsz : ((w.alloc (.cells #[] 3)).drew.setCell ⟨b, 3, none⟩ (.int .i64 ((tk + stepN sp : Nat) : Int))).heap.size = (w.alloc (.cells #[] 3)).heap.size := by simp [World.setCell]
  have hm0 : Mv (fun k => S k ∨ k = b) w (fun k => S k ∨ k = b) ((w.alloc (.cells #[] 3)).drew.setCell ⟨b, 3, none⟩ (.int .i64 ((tk + stepN sp : Nat) : Int))) := (Mv.of_below (fun k => S k ∨ k = b) bb).drew.setCell (p := ⟨b, 3, none⟩) (.inr rfl) _
  have hh1 := ((D s).sep (W q)).loc (Asr.below h bb hN) (Nat.le_of_eq hsz.symm) fun k hk => hoth k (fun e => by subst e; exact hk.elim hSb (fun h => by omega))
  have hL1 : Laid ((w.alloc (.cells #[] 3)).drew.setCell ⟨b, 3, none⟩ (.int .i64 ((tk + stepN sp : Nat) : Int))) := ⟨fun j hj => (World.cell?_of_block ((hoth _ (by show 0 ≠ b; omega)).trans (bb.block _ (by show 0 < w.heap.size; omega)))).trans (hL.pid j hj)⟩
  have hfr : tk / 8 % 2048 < 2048 := Nat.mod_lt _ (by omega)
  have KB := Lib.hid fun W => bus_budget W sp hsp
  have KG := Lib.hid (begin_any (w.alloc (.cells #[] 3)).drew b sp hsp dv wv tk (by omega) A0 n0 c0 hb1)
  have KF := Lib.hid fun W A c => fit_none W 0 A c
  have KM := Lib.hid fun W A c => sum_none W A c
  have hsy := bb.size
  generalize tk / 8 % 2048 = fr at KG hfr ⊢
  have KP := Lib.hid fun W1 => fun (hW1 : (w.alloc (.cells #[] 3)).drew.setCell ⟨b, 3, none⟩ (.int .i64 ((tk + stepN sp : Nat) : Int)) = W1) => (by
    subst hW1
    exact perf_none hdv hwv hW hA hLN _ s hj q S hh1 fr hfr (by rw [hsz]; omega) hL1 b sp (tk + stepN sp) A0 n0 c0 hbs hSb hNb none 0 : Calls Tryz.prog 27 #[.pointer (some ⟨b, 0, none⟩), .int .u16 (fr : Int), .slice none 0 0] W1 (Perf0 ((D (spkR next ask s q (sofP fr)).1.1).sep (W (spkR next ask s q (sofP fr)).1.2.1)) S W1 b sp (tk + stepN sp) dv wv (spkR next ask s q (sofP fr)).1.2.2))
  have hmk0 := make_int 0 w (by omega) (by omega)
  rw [show (0 : Int).toNat = 0 from rfl, made_zero] at hmk0
  have Hmk := Lib.hid hmk0
  clear hmk0
  have Hm0 := Lib.hid hm0
  have Hsy := Lib.hid (show w.heap.size ≤ ((w.alloc (.cells #[] 3)).drew.setCell ⟨b, 3, none⟩ (.int .i64 ((tk + stepN sp : Nat) : Int))).heap.size by rw [hsz]; exact hsy)
  have ht0 : decide ((1048576 : Int) ≤ (tk : Int)) = false := decide_eq_false (by omega)
  obtain ⟨P, hP⟩ : ∃ P, spkR next ask s q (sofP fr) = P := ⟨_, rfl⟩
  rw [hP] at KP ⊢
  have Hbw := Lib.hid hbw
  generalize w.alloc (.cells #[] 3) = y at *
  clear hb bb hb1 hbs hoth hsz hm0 hh1 hL1 hfr hbw h hN hL hSb hNb hP hsy htk hsp hA hW hLN hdv hwv hj
  go_enter Tryz.func10, Tryz.ntmps10
  go_wp2_with fail
  refine K.out.mono ?_
  rintro e w1 ⟨rfl, rfl⟩
  go_wp2_with (refine wpl_make rfl (.tmp 23) (.tmp 23) rfl rfl rfl Hmk.out ?_)
  go_loopw [27] (fun i W => i = .int .i64 0 ∧ W = y) (fun _ _ => 0)
  case atStart => exact ⟨rfl, rfl⟩
  case round =>
    obtain ⟨rfl, rfl⟩ := hrel
    go_wp2_with fail
    refine (KB.out _).mono ?_
    rintro e w2 ⟨rfl, rfl⟩
    go_wp2_with fail
    refine (KF.out _ _ _).mono ?_
    rintro e w2 ⟨rfl, rfl⟩
    go_wp2
    have hsl : ∀ X, (Instr.slice 22 (.slice none 0 0) none (some (.int .i64 0)) none).run Tryz.prog X = .ok (.slice none 0 0) X := fun X => by kernel_rfl
    refine startT (S := fun _ => False) (T := []) 8 (by kernel_rfl) rfl (l := #[false, false, false, false, false, false, false, false]) rfl ?_
    ((first | (refine takeT 0 (v := ?_) rfl (by decide +kernel) (by decide +kernel) (by decide +kernel) (fun _ _ _ h => h) (by decide +kernel) (Or.inl ⟨by rfl, ?_⟩) ?_; rotate_left 1; (focus (intro W hW; have hcW := hW.at; (try dsimp only at hcW); go_simp; first | done | with_reducible rfl)); try simp only [Act.put, List.setIfInBounds_toArray, List.set_cons_zero, List.set_cons_succ]) | (refine takeW 0 (v := ?_) rfl (by decide +kernel) (by decide +kernel) (by decide +kernel) (fun _ _ _ h => h) (Or.inl ⟨by rfl, ?_⟩) ?_; rotate_left 1; (focus (intro W hW; go_simp; first | done | with_reducible rfl)); try simp only [Act.put, List.setIfInBounds_toArray, List.set_cons_zero, List.set_cons_succ]) | (refine takeW 0 rfl (by decide +kernel) (by decide +kernel) (by decide +kernel) (fun _ _ _ h => h) (Or.inr ⟨by rfl, rfl⟩) ?_; try simp only [Act.put, List.setIfInBounds_toArray, List.set_cons_zero, List.set_cons_succ]) | skip); (first | (refine takeT 1 (v := ?_) rfl (by decide +kernel) (by decide +kernel) (by decide +kernel) (fun _ _ _ h => h) (by decide +kernel) (Or.inl ⟨by rfl, ?_⟩) ?_; rotate_left 1; (focus (intro W hW; have hcW := hW.at; (try dsimp only at hcW); go_simp; first | done | with_reducible rfl)); try simp only [Act.put, List.setIfInBounds_toArray, List.set_cons_zero, List.set_cons_succ]) | (refine takeW 1 (v := ?_) rfl (by decide +kernel) (by decide +kernel) (by decide +kernel) (fun _ _ _ h => h) (Or.inl ⟨by rfl, ?_⟩) ?_; rotate_left 1; (focus (intro W hW; go_simp; first | done | with_reducible rfl)); try simp only [Act.put, List.setIfInBounds_toArray, List.set_cons_zero, List.set_cons_succ]) | (refine takeW 1 rfl (by decide +kernel) (by decide +kernel) (by decide +kernel) (fun _ _ _ h => h) (Or.inr ⟨by rfl, rfl⟩) ?_; try simp only [Act.put, List.setIfInBounds_toArray, List.set_cons_zero, List.set_cons_succ]) | skip); (first | (refine takeT 3 (v := ?_) rfl (by decide +kernel) (by decide +kernel) (by decide +kernel) (fun _ _ _ h => h) (by decide +kernel) (Or.inl ⟨by rfl, ?_⟩) ?_; rotate_left 1; (focus (intro W hW; have hcW := hW.at; (try dsimp only at hcW); go_simp; first | done | with_reducible rfl)); try simp only [Act.put, List.setIfInBounds_toArray, List.set_cons_zero, List.set_cons_succ]) | (refine takeW 3 (v := ?_) rfl (by decide +kernel) (by decide +kernel) (by decide +kernel) (fun _ _ _ h => h) (Or.inl ⟨by rfl, ?_⟩) ?_; rotate_left 1; (focus (intro W hW; go_simp; first | done | with_reducible rfl)); try simp only [Act.put, List.setIfInBounds_toArray, List.set_cons_zero, List.set_cons_succ]) | (refine takeW 3 rfl (by decide +kernel) (by decide +kernel) (by decide +kernel) (fun _ _ _ h => h) (Or.inr ⟨by rfl, rfl⟩) ?_; try simp only [Act.put, List.setIfInBounds_toArray, List.set_cons_zero, List.set_cons_succ]) | skip); (first | (refine takeT 4 (v := ?_) rfl (by decide +kernel) (by decide +kernel) (by decide +kernel) (fun _ _ _ h => h) (by decide +kernel) (Or.inl ⟨by rfl, ?_⟩) ?_; rotate_left 1; (focus (intro W hW; have hcW := hW.at; (try dsimp only at hcW); go_simp; first | done | with_reducible rfl)); try simp only [Act.put, List.setIfInBounds_toArray, List.set_cons_zero, List.set_cons_succ]) | (refine takeW 4 (v := ?_) rfl (by decide +kernel) (by decide +kernel) (by decide +kernel) (fun _ _ _ h => h) (Or.inl ⟨by rfl, ?_⟩) ?_; rotate_left 1; (focus (intro W hW; go_simp; first | done | with_reducible rfl)); try simp only [Act.put, List.setIfInBounds_toArray, List.set_cons_zero, List.set_cons_succ]) | (refine takeW 4 rfl (by decide +kernel) (by decide +kernel) (by decide +kernel) (fun _ _ _ h => h) (Or.inr ⟨by rfl, rfl⟩) ?_; try simp only [Act.put, List.setIfInBounds_toArray, List.set_cons_zero, List.set_cons_succ]) | skip); (first | (refine takeT 5 (v := ?_) rfl (by decide +kernel) (by decide +kernel) (by decide +kernel) (fun _ _ _ h => h) (by decide +kernel) (Or.inl ⟨by rfl, ?_⟩) ?_; rotate_left 1; (focus (intro W hW; have hcW := hW.at; (try dsimp only at hcW); go_simp; first | done | with_reducible rfl)); try simp only [Act.put, List.setIfInBounds_toArray, List.set_cons_zero, List.set_cons_succ]) | (refine takeW 5 (v := ?_) rfl (by decide +kernel) (by decide +kernel) (by decide +kernel) (fun _ _ _ h => h) (Or.inl ⟨by rfl, ?_⟩) ?_; rotate_left 1; (focus (intro W hW; go_simp; first | done | with_reducible rfl)); try simp only [Act.put, List.setIfInBounds_toArray, List.set_cons_zero, List.set_cons_succ]) | (refine takeW 5 rfl (by decide +kernel) (by decide +kernel) (by decide +kernel) (fun _ _ _ h => h) (Or.inr ⟨by rfl, rfl⟩) ?_; try simp only [Act.put, List.setIfInBounds_toArray, List.set_cons_zero, List.set_cons_succ]) | skip))
    refine stepT 2 rfl (by decide +kernel) (by rfl) ?_
    intro K hK
    go_simp
    refine KG.out.mono ?_
    rintro e x1 ⟨rfl, hx1⟩
    replace hx1 := Lib.hid hx1
    refine hK _ _ (.inr fun a ha => ha.elim) ?_
    clear hK K
    try simp only [Act.put, List.setIfInBounds_toArray, List.set_cons_zero, List.set_cons_succ]
    refine stepT 6 rfl (by decide +kernel) (by rfl) ?_
    intro K hK
    go_simp
    refine (KP.out x1 hx1.out.symm).mono ?_
    rintro e x2 ⟨Ao, co, A2, S1, F, rfl, hbz, hS1b, hFb, hrl, hF, hA2, hm2⟩
    refine hK _ _ (.inr fun a ha => ha.elim) ?_
    clear hK K
    try simp only [Act.put, List.setIfInBounds_toArray, List.set_cons_zero, List.set_cons_succ]
    ((first | (refine takeT 7 (v := ?_) rfl (by decide +kernel) (by decide +kernel) (by decide +kernel) (fun _ _ _ h => h) (by decide +kernel) (Or.inl ⟨by rfl, ?_⟩) ?_; rotate_left 1; (focus (intro W hW; have hcW := hW.at; (try dsimp only at hcW); go_simp; first | done | with_reducible rfl)); try simp only [Act.put, List.setIfInBounds_toArray, List.set_cons_zero, List.set_cons_succ]) | (refine takeW 7 (v := ?_) rfl (by decide +kernel) (by decide +kernel) (by decide +kernel) (fun _ _ _ h => h) (Or.inl ⟨by rfl, ?_⟩) ?_; rotate_left 1; (focus (intro W hW; go_simp; first | done | with_reducible rfl)); try simp only [Act.put, List.setIfInBounds_toArray, List.set_cons_zero, List.set_cons_succ]) | (refine takeW 7 rfl (by decide +kernel) (by decide +kernel) (by decide +kernel) (fun _ _ _ h => h) (Or.inr ⟨by rfl, rfl⟩) ?_; try simp only [Act.put, List.setIfInBounds_toArray, List.set_cons_zero, List.set_cons_succ]) | skip))
    refine doneT (by kernel_rfl) ?_
    have hm3 := Lib.hid ((show Mv (fun k => S k ∨ k = b) w (fun k => S k ∨ k = b) x1 from hx1.out ▸ Hm0.out).trans hm2)
    have hs3 := Lib.hid (show w.heap.size ≤ x1.heap.size from hx1.out ▸ Hsy.out)
    have R := Lib.hid (And.intro hbz (And.intro hS1b (And.intro hFb (And.intro hrl (And.intro hF hA2)))))
    clear hbz hS1b hFb hrl hF hA2 hm2 hx1 KP KG
    go_wp2_with fail
    refine (KM.out _ _ _).mono ?_
    rintro e w2 ⟨rfl, rfl⟩
    go_wp2
    go_ret2
    obtain ⟨hbz, hS1b, hFb, hrl, hF, hA2⟩ := R.out
    exact ⟨Ao, co, A2, S1, F, rfl, hbz, hS1b, hFb, hrl, fun k hk => ⟨(hF k hk).1, (hF k hk).2.1, (hF k hk).2.2.1, (hF k hk).2.2.2.imp id (fun h => Nat.le_trans hs3.out h)⟩, hA2, hm3.out⟩
end
end Go.Proofs.YtgihpgdjkanodaaGreatDoor

namespace Go.Proofs.YtgihpgdjkanodaaGreatDoor
open Go Go.RowKit

/-- The cells of a list of what was sent, whose bytes may be written. -/
def VsU (D : Nat → Prop) (w : World) : List SentP → List Value → Prop
  | [], vs => vs = []
  | s :: l, vs => ∃ A c rest, vs = snL s A c ++ rest ∧ RdU D w A c s.1.data ∧ VsU D w l rest
theorem VsU.vs {D : Nat → Prop} {w : World} : ∀ {l : List SentP} {vs : List Value}, VsU D w l vs → Vs laySn D w l vs
  | [], _, h => h
  | _ :: _, _, ⟨A, c, rest, e, h1, h2⟩ => ⟨A, c, rest, e, h1.rds, VsU.vs h2⟩
theorem VsU.keep {D : Nat → Prop} {w w' : World} (hk : ∀ k, D k → w'.heap[k]? = w.heap[k]?) : ∀ {l : List SentP} {vs : List Value}, VsU D w l vs → VsU D w' l vs
  | [], _, h => h
  | _ :: _, _, ⟨A, c, rest, e, h1, h2⟩ => ⟨A, c, rest, e, h1.keep hk, VsU.keep hk h2⟩
theorem VsU.mono {D G : Nat → Prop} {w : World} (hk : ∀ k, D k → G k) : ∀ {l : List SentP} {vs : List Value}, VsU D w l vs → VsU G w l vs
  | [], _, h => h
  | _ :: _, _, ⟨A, c, rest, e, h1, h2⟩ => ⟨A, c, rest, e, h1.mono hk, VsU.mono hk h2⟩
theorem VsU.lt {D : Nat → Prop} {w : World} : ∀ {l : List SentP} {vs : List Value}, VsU D w l vs → VsU (fun k => D k ∧ k < w.heap.size) w l vs
  | [], _, h => h
  | _ :: _, _, ⟨A, c, rest, e, h1, h2⟩ => ⟨A, c, rest, e, h1.lt, VsU.lt h2⟩
theorem VsU.snoc {D : Nat → Prop} {w : World} {s : SentP} {A : Option Addr} {c : Nat} (hr : RdU D w A c s.1.data) : ∀ {l : List SentP} {vs : List Value}, VsU D w l vs → VsU D w (l ++ [s]) (vs ++ snL s A c)
  | [], _, h => ⟨A, c, [], by rw [show _ = [] from h]; simp, hr, rfl⟩
  | _ :: _, _, ⟨A', c', rest, e, h1, h2⟩ => ⟨A', c', rest ++ snL s A c, by rw [e, List.append_assoc], h1, VsU.snoc hr h2⟩

/-- A list of what was sent in a row of the call's own, all of it new since M. -/
structure OwnU (M : Nat) (w : World) (v : Value) (l : List SentP) : Prop where
  ex : ∃ vs D, w.ownsRow M 85 12 v l.length vs ∧ VsU D w l vs ∧ ∀ k, D k → v.ownBlock ≠ some k ∧ M ≤ k
theorem OwnU.nil (M : Nat) (w : World) : OwnU M w (.slice none 0 0) [] := ⟨[], fun _ => False, ⟨by simp, .inl ⟨rfl, rfl⟩⟩, rfl, fun _ h => h.elim⟩
theorem OwnU.below {M : Nat} {w w' : World} {v : Value} {l : List SentP} (h : OwnU M w v l) (hb : Below w.heap.size w w') : OwnU M w' v l := by
  obtain ⟨vs, D, h1, h2, h3⟩ := h
  refine ⟨vs, _, ⟨h1.1, h1.2.imp id ?_⟩, h2.lt.keep fun k hk => hb.block k hk.2, fun k hk => h3 k hk.1⟩
  rintro ⟨g, cap, cur, rfl, hg, hh, r⟩
  exact ⟨g, cap, cur, rfl, hg, (hb.block g (Array.getElem?_eq_some_iff.1 hh).1).trans hh, r⟩
theorem OwnU.shape {M : Nat} {w : World} {v : Value} {l : List SentP} (h : OwnU M w v l) : ∃ A c, v = .slice A l.length c ∧ l.length ≤ c ∧ c ≤ 9223372036854775807 := by
  obtain ⟨vs, D, h1, _⟩ := h
  rcases h1.2 with ⟨rfl, h⟩ | ⟨g, cap, cur, rfl, _, _, h1, h2, _⟩
  · exact ⟨none, 0, by rw [h], by omega, by omega⟩
  · exact ⟨_, cap, rfl, h1, by unfold maxLen at h2; omega⟩
theorem OwnU.lt {M : Nat} {w : World} {v : Value} {l : List SentP} (h : OwnU M w v l) : ∀ k, v.ownBlock = some k → M ≤ k ∧ k < w.heap.size := by
  obtain ⟨vs, D, h1, _⟩ := h
  exact fun k hk => h1.lt k hk
theorem OwnU.append {M : Nat} {w : World} {v : Value} {l : List SentP} (h : OwnU M w v l) {ty : TypeId} (s : SentP) (A : Option Addr) (c : Nat) {G : Nat → Prop} (hr : RdU G w A c s.1.data) (hG : ∀ k, G k → v.ownBlock ≠ some k ∧ M ≤ k)
    (g1 : Nat) (hc : w.heap[g1]? = some (.cells (snL s A c).toArray 85 (0, 0))) (hl : l.length ≤ 1000000) (hN : M ≤ w.heap.size) :
    ∃ v' w', (Builtin.append_ #[31, 31] ty #[v, .slice (some ⟨g1, 0, none⟩) 1 1]).run Tryz.prog w = .ok v' w' ∧ OwnU M w' v' (l ++ [s]) ∧ w.grownBy w' v.ownBlock := by
  obtain ⟨vs, D, h1, h2, h3⟩ := h
  obtain ⟨i0, hi, hz0, hz1, hz2⟩ := info_parts infSn
  obtain ⟨v', w', e0, e1, e2, _, e4⟩ := run_append_own_at (P := Tryz.prog) w M 31 ty 85 i0 _ 12 48 Tryz.underlying31 hi hz0 hz1 hz2 rfl (by decide) v l.length vs h1 ⟨g1, 0, none⟩ 1 1 (snL s A c) (by simp [snL])
    (fun j u hj => by
      rw [Go.WideShapes.add_plain, Nat.zero_add, cell_of_row w g1 j _ 85 (0, 0) hc]
      simpa using hj) (laySn.one s A c) (by unfold maxLen; omega) (by omega) hN
  have hlt := h2.lt
  have hrl := hr.lt
  have hk1 : ∀ k, D k ∧ k < w.heap.size → w'.heap[k]? = w.heap[k]? := fun k hk => e2.block k hk.2 (fun e => (h3 k hk.1).1 e.symm)
  have hk2 : ∀ k, G k ∧ k < w.heap.size → w'.heap[k]? = w.heap[k]? := fun k hk => e2.block k hk.2 (fun e => (hG k hk.1).1 e.symm)
  refine ⟨v', w', e0, ⟨vs ++ snL s A c, fun k => (D k ∧ k < w.heap.size) ∨ (G k ∧ k < w.heap.size), by simpa using e1, VsU.snoc ((hrl.keep hk2).mono fun k hk => .inr hk) ((hlt.keep hk1).mono fun k hk => .inl hk), fun k hk => ?_⟩, e2⟩
  have hlt : k < w.heap.size := hk.elim (·.2) (·.2)
  refine ⟨?_, hk.elim (fun h => (h3 k h.1).2) (fun h => (hG k h.1).2)⟩
  rcases e4 with e | e
  · rw [e]; exact hk.elim (fun h => (h3 k h.1).1) (fun h => (hG k h.1).1)
  · rw [e]; intro e'; injection e' with e'; omega
theorem wpl_appendU {ops : Array Oper} {rest : List Oper} {o : Oper} {a : Act} {Q : Exit → Act → World → Prop} {w : World} {M : Nat} {v : Value} {l : List SentP} (h : OwnU M w v l)
    (hgd : o.guard = none) (sl x : Operand) (ho : o.op = .call { callee := .builtin .append, args := #[sl, x], argTypes := #[31, 31] }) (hs : a.eval sl = v) (s : SentP) (A : Option Addr) (c : Nat) {G : Nat → Prop} (hr : RdU G w A c s.1.data) (hG : ∀ k, G k → v.ownBlock ≠ some k ∧ M ≤ k)
    (g1 : Nat) (hc : w.heap[g1]? = some (.cells (snL s A c).toArray 85 (0, 0))) (hx : a.eval x = .slice (some ⟨g1, 0, none⟩) 1 1) (hl : l.length ≤ 1000000) (hN : M ≤ w.heap.size)
    (hk : ∀ A' c' w', OwnU M w' (.slice A' (l ++ [s]).length c') (l ++ [s]) → w.grownBy w' v.ownBlock → wpList Tryz.prog ops Q rest (a.put o.dst (.slice A' (l ++ [s]).length c')) w') : wpList Tryz.prog ops Q (o :: rest) a w := by
  obtain ⟨v', w', e0, e1, e2⟩ := h.append (ty := o.type) s A c hr hG g1 hc hl hN
  obtain ⟨A', c', rfl, _⟩ := e1.shape
  refine wpList_plain hgd fun K hK => ?_
  unfold Oper.wp execOp
  simp only [ho, resolve, invoke, builtin, Sem.run_bind, Sem.run_pure, Result.andThen_ok, List.map_toArray, List.map_cons, List.map_nil, hs, hx, e0]
  exact hK _ _ (hk A' c' w' e1 e2)

/-- Behind Trace: a copy. -/
def TracePost (w : World) (l : List SentP) (e : Ending) (w' : World) : Prop :=
  ∃ A c, e = .returned (.slice A l.length l.length) ∧ OwnU w.heap.size w' (.slice A l.length c) l ∧ Below w.heap.size w w'
set_option maxHeartbeats 3200000 in
set_option maxRecDepth 100000 in
theorem trace_any (w : World) (b sp : Nat) (hsp : sp ≠ 0) (dv wv : Value) (tk : Nat) (A2 : Option Addr) (c2 : Nat) (l : List SentP) (hb : w.heap[b]? = some (busC sp dv wv tk A2 l.length c2)) {F : Nat → Prop} (hrl : RdL laySn F w A2 c2 l) (hl : l.length ≤ 1000000)
    (hd : ∀ j (h : j < l.length), l[j].1.data.length ≤ 1000000) : Calls Tryz.prog 9 #[.pointer (some ⟨b, 0, none⟩)] w (TracePost w l) := by
  have K := Lib.hid (none_no w b sp hsp dv wv tk A2 l.length c2 hb)
  have c4 := block_at hb (i := 4) rfl
  have HRL := Lib.hid hrl
  have HD := Lib.hid hd
  have HL := Lib.hid hl
  clear hb hrl hd hl
  go_enter Tryz.func9, Tryz.ntmps9
  go_wp2_with fail
  refine K.out.mono ?_
  rintro e w1 ⟨rfl, rfl⟩
  go_wp2
  go_loopw [3, 13] (fun t i W => ∃ (k : Nat) (A : Option Addr) (c : Nat), k ≤ l.length ∧ i = .int .i64 k ∧ t = .slice A (l.take k).length c ∧ OwnU w.heap.size W (.slice A (l.take k).length c) (l.take k) ∧ Below w.heap.size w W) (fun _ i _ => l.length - (intOf i).toNat)
  case atStart => exact ⟨0, none, 0, Nat.zero_le _, rfl, by simp, by simpa using OwnU.nil _ _, Below.refl _ _⟩
  case round =>
    obtain ⟨k, At, ct, hk, rfl, rfl, hown, hbb⟩ := hrel
    have hlb := HL.out
    by_cases hkl : k < l.length
    · obtain ⟨bq, off, A1, c1, rfl, _, hr1, hd1⟩ := (HRL.out.below hbb (by decide)).elem k hkl
      have hsn : l.take (k + 1) = l.take k ++ [l[k]] := by rw [List.take_add_one, List.getElem?_eq_getElem hkl]; rfl
      have hdl := HD.out k hkl
      have hzl : (l.take k).length ≤ 1000000 := by have := HL.out; simp; omega
      have hr1' : wr.rangeAt bq (off + k * 12) (snL l[k] A1 c1) := hr1
      have hd1' : RdS F wr A1 c1 l[k].1.data := hd1
      obtain ⟨s, hs⟩ : ∃ s, l[k] = s := ⟨_, rfl⟩
      rw [hs] at hsn hdl hr1' hd1'
      obtain ⟨zs, hzs⟩ : ∃ zs, l.take k = zs := ⟨_, rfl⟩
      rw [hzs] at hsn hzl hown ⊢
      have Hsn := Lib.hid hsn
      have Hdl := Lib.hid hdl
      have Hzl := Lib.hid hzl
      have HR1 := Lib.hid hr1'
      have HD1 := Lib.hid hd1'
      have Ho := Lib.hid hown
      have Hb := Lib.hid hbb
      clear hsn hdl hzl hr1 hd1 hr1' hd1' hown hbb hs hzs
      obtain ⟨p, hbo, f⟩ := s
      simp only at HD1 Hdl
      have K0 := Lib.hid (alloc1 wr (.cells #[.int .u8 0, .int .u8 0, .int .u8 0, .int .u16 0, .int .u8 0, .int .u8 0, .bool false, .bool false, .int .u8 0, .slice none 0 0, .bool false, .int .u8 0] 85))
      have B0 := Lib.hid ((Below.refl wr.heap.size wr).alloc (Nat.le_refl _) (.cells #[.int .u8 0, .int .u8 0, .int .u8 0, .int .u16 0, .int .u8 0, .int .u8 0, .bool false, .bool false, .int .u8 0, .slice none 0 0, .bool false, .int .u8 0] 85))
      go_wp2_with (first | (refine wpList_load_mid rfl _ (.tmp 15) rfl bq (off + k * 12) rfl (snL (p, hbo, f) A1 c1) _ HR1.out Tryz.underlying85 rfl (by kernel_rfl) ?_) | (refine wpl_storeB flatSent rfl (.tmp 5) (.tmp 16) rfl wr.heap.size rfl _ rfl K0.out rfl rfl rfl ?_; intro y1 k1 hg1 hs1; have B1 := Lib.hid (below_grown B0.out hg1 B0.out.size (Nat.le_refl _)); have c9 := block_at k1 (i := 9) rfl; have K1 := Lib.hid k1; clear k1 hg1 hs1))
      refine (bcloneU_any _ A1 c1 p.data (HD1.out.below B1.out).rdT Hdl.out).mono ?_
      rintro e y2 ⟨A3, c3, rfl, hr3, bb2⟩
      have hle := hr3.le
      have hcap := hr3.cap
      have k2 := (bb2.block _ (block_lt K1.out)).trans K1.out
      have f9 := block_free k2 9
      have c92 := block_at k2 (i := 9) (v := .slice A1 p.data.length c1) rfl
      have K2 := Lib.hid k2
      have hlt1 := Lib.hid (block_lt K1.out)
      have HR3 := Lib.hid (hr3.clip.mono (G := fun k => y1.heap.size ≤ k ∧ k < y2.heap.size) fun k hk => hk)
      have B2 := Lib.hid (B1.out.trans (bb2.mono B1.out.size))
      have HB12 := Lib.hid bb2
      clear c9 k2 hr3 bb2
      go_wp2_with fail
      refine (bclip_any _ A3 p.data.length c3 hle hcap).mono ?_
      rintro e y2' ⟨rfl, rfl⟩
      clear f9 c92
      go_wp2_with (first | (refine wpl_storeC rfl (.tmp 23) (.tmp 21) rfl wr.heap.size 9 rfl _ rfl rfl (by kernel_rfl) K2.out (show (9 : Nat) < 12 by decide) ?_; intro y3 k3 hg3 hs3; have k3' : y3.heap[wr.heap.size]? = some (.cells (snL (p, hbo, f) A3 p.data.length).toArray 85 (0, 0)) := k3; have K3 := Lib.hid k3'; have B3 := Lib.hid (below_grown B2.out hg3 B2.out.size (Nat.le_refl _)); have HR4 := Lib.hid (HR3.out.grown hg3 (fun k hk e => by have := hk.1; have := hlt1.out; omega)); have HS3 := Lib.hid hs3; have K4 := Lib.hid (alloc1 y3 (.cells (snL (p, hbo, f) A3 p.data.length).toArray 85)); have B4 := Lib.hid (B3.out.alloc B3.out.size (.cells (snL (p, hbo, f) A3 p.data.length).toArray 85)); have Ho4 := Lib.hid (Ho.out.below B4.out); have HR5 := Lib.hid (HR4.out.below ((Below.refl y3.heap.size y3).alloc (Nat.le_refl _) (.cells (snL (p, hbo, f) A3 p.data.length).toArray 85))); have HG := Lib.hid (show ∀ k, (y1.heap.size ≤ k ∧ k < y2.heap.size) → (Value.slice At zs.length ct).ownBlock ≠ some k ∧ w.heap.size ≤ k from fun k hk => ⟨fun e => by have := (Ho.out.lt k e).2; have := B1.out.size; omega, by have := Hb.out.size; have := B1.out.size; omega⟩); have HN4 := Lib.hid (Nat.le_trans Hb.out.size B4.out.size); clear k3 k3' hg3 hs3) | (refine wpl_loadB flatSent rfl (.tmp 5) rfl wr.heap.size rfl K3.out rfl ?_) | (at_builtin; refine wpl_appendU Ho4.out rfl (.tmp 24) (.tmp 26) rfl rfl (p, hbo, f) A3 p.data.length HR5.out HG.out y3.heap.size K4.out rfl Hzl.out HN4.out ?_; intro A' c' w5 ho5 hg5; have B5 := Lib.hid ((Hb.out.trans (B4.out.mono Hb.out.size)).grown hg5 HN4.out fun k e => (Ho.out.lt k e).1); replace ho5 := Lib.hid ho5; clear hg5; generalize hn : (zs ++ [((p, hbo, f) : SentP)]).length = n3 at ho5 ⊢; replace hn := Lib.hid hn))
      go_roundw
      case rel => exact ⟨k + 1, A', c', by omega, by go_num, by rw [Hsn.out, hn.out], by rw [Hsn.out, hn.out]; exact ho5.out, B5.out⟩
      case measure => simp [intOf]; omega
    · have hk9 : k = l.length := by omega
      subst hk9
      rw [List.take_length] at hown ⊢
      obtain ⟨A1, c1, e, hle, hcap⟩ := hown.shape
      injection e with e1 _ e2
      subst e1; subst e2
      have Ho := Lib.hid hown
      have Hb := Lib.hid hbb
      clear hown hbb hk hkl
      go_wp2
      go_ret
      exact ⟨_, _, rfl, Ho.out, Hb.out⟩
end Go.Proofs.YtgihpgdjkanodaaGreatDoor

namespace Go.Proofs.YtgihpgdjkanodaaGreatDoor
open Go Go.RowKit

theorem sof_all : ∀ fr, fr < 2048 → (sofP fr).err = 0 := by decide +kernel
theorem sof_err {fr : Nat} (h : fr < 2048) : (sofP fr).err = 0 := sof_all fr h
theorem spk_sof {fr : Nat} (h : fr < 2048) : spkR (fun t : Unit => (t, 0)) askN () () (sofP fr) = (((), (), [(sofP fr, true, 0)]), zeroP, false) := by
  unfold spkR
  rw [if_pos (sof_err h)]
  rfl
theorem nil_holds (N : Nat) (w : World) : ((noA N).sep (noA N)).holds (fun _ => False) w := ⟨fun _ => False, fun _ => False, fun _ h => h, fun _ h => h, fun _ h => h.elim, fun _ => ⟨fun h => .inl h, fun h => h.elim id id⟩⟩
theorem nil_empty {N : Nat} {S : Nat → Prop} {w : World} (h : ((noA N).sep (noA N)).holds S w) : ∀ k, ¬ S k := by
  obtain ⟨F, G, h1, h2, _, h4⟩ := h
  exact fun k hk => ((h4 k).1 hk).elim (h1 k) (h2 k)

/-- A bus without a device behind some frames. -/
def NumI (w : World) (b sp tk : Nat) (l : List SentP) (W : World) : Prop :=
  ∃ (A : Option Addr) (c : Nat) (F : Nat → Prop), W.heap[b]? = some (busC sp .nilIface .nilIface tk A l.length c) ∧ RdL laySn F W A c l ∧ (∀ k, F k → w.heap.size ≤ k ∧ k < W.heap.size ∧ k ≠ b) ∧ Below w.heap.size w W
/-- The ticks behind one more frame, and what it has sent. -/
def nTk (sp tk : Nat) : Nat := if tk < 1048576 then tk + stepN sp else tk
def nSn (tk : Nat) (l : List SentP) : List SentP := if tk < 1048576 then [(sofP (tk / 8 % 2048), true, 0)] else l

theorem frameNum (w X : World) (hL : Laid w) (hLN : 0 < w.heap.size) (b sp tk : Nat) (hsp : sp = 1 ∨ sp = 2) (hb : w.heap.size ≤ b) (l : List SentP) (h : NumI w b sp tk l X) :
    Calls Tryz.prog 10 #[.pointer (some ⟨b, 0, none⟩), .slice none 0 0, .int .i64 0] X fun e W' => (∃ Ao co, e = .returned (.tuple #[.slice Ao 0 co, .int .i64 0])) ∧ NumI w b sp (nTk sp tk) (nSn tk l) W' := by
  obtain ⟨A, c, F, h1, h2, h3, h4⟩ := h
  by_cases ht : tk < 1048576
  · have hfr : tk / 8 % 2048 < 2048 := Nat.mod_lt _ (by omega)
    have := frame_none (N := w.heap.size) (D := fun _ : Unit => noA w.heap.size) (W := fun _ : Unit => noA w.heap.size) (next := fun t : Unit => (t, 0)) (ask := askN) (J := fun _ _ => True) (dv := .nilIface) (wv := .nilIface) (.inl rfl) (.inl rfl) (fault_nil _) (fun b => askC_nil _ b _ _) hLN X () trivial () (fun _ => False) (nil_holds _ X) h4.size (hL.below h4) b sp tk hsp ht A l.length c h1 (fun h => h) hb
    rw [spk_sof hfr] at this
    refine this.mono ?_
    rintro e W' ⟨Ao, co, A2, S1, F', rfl, hbz, hS1b, hFb, hrl, hF, hA, hm⟩
    refine ⟨⟨Ao, co, rfl⟩, A2, 1, F', ?_, ?_, fun k hk => ⟨(hF k hk).2.1, (hF k hk).2.2.1, fun e => hFb (e ▸ hk)⟩, ?_⟩
    · unfold nTk nSn
      rw [if_pos ht, if_pos ht]
      exact hbz
    · unfold nSn
      rw [if_pos ht]
      exact hrl
    · exact h4.trans (hm.belowN (N := w.heap.size) (fun k hk => hk.elim (fun h => h.elim) (fun e => by omega)) h4.size)
  · refine (frame_over X none 0 0 0 b sp (by omega) _ _ tk (by omega) A l.length c h1).mono ?_
    rintro e W' ⟨rfl, rfl⟩
    unfold nTk nSn
    rw [if_neg ht, if_neg ht]
    exact ⟨⟨none, 0, rfl⟩, A, c, F, h1, h2, h3, h4⟩
theorem numI_new (w : World) (sp : Nat) : NumI w w.heap.size sp 0 [] (w.alloc (busC sp .nilIface .nilIface 0 none 0 0)) :=
  ⟨none, 0, fun _ => False, alloc1 w _, ⟨Nat.le_refl _, by omega, fun h => absurd h (by simp)⟩, fun _ h => h.elim, (Below.refl _ w).alloc (Nat.le_refl _) _⟩
end Go.Proofs.YtgihpgdjkanodaaGreatDoor

