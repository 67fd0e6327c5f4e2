/-
  Helper text, several in one; no statement is proved here.
-/
import Derived.Test.YtgihpgdjkanodaaGreatDoorFrA
import Derived.Test.YtgihpgdjkanodaaGreatDoorSpkP
import Derived.Test.YtgihpgdjkanodaaGreatDoorLvA
import Derived.Laws.MakeOwn
namespace Go.Proofs.YtgihpgdjkanodaaGreatDoor
open Go Go.RowKit

theorem infOut : (Tryz.prog.info? 74).map (fun i => (i.zero, i.size, i.bytes)) = some (some (.agg #[.int .u8 0, .slice none 0 0]), 2, 32) := by kernel_rfl
theorem infInt : (Tryz.prog.info? 3).map (fun i => (i.zero, i.size, i.bytes)) = some (some (.int .i64 0), 1, 8) := by kernel_rfl
/-- make([]transactions.Outcome, n). -/
theorem make_out (n : Int) (W : World) (h0 : 0 ≤ n) (h : n ≤ 1000000) : (Instr.makeSlice 41 (.int .i64 n) (.int .i64 n)).run Tryz.prog W = .ok (.slice (some ⟨W.heap.size, 0, none⟩) n.toNat n.toNat) (W.alloc (.cells (madeCells #[.int .u8 0, .slice none 0 0] (n.toNat * 2)) 74)) := by
  obtain ⟨i0, hi, hz0, hz1, hz2⟩ := info_parts infOut
  have := run_make (P := Tryz.prog) W 41 74 i0 _ Tryz.underlying41 hi hz0 .i64 .i64 n n (by omega) (by omega) (by rw [hz2]; omega) (by omega)
  rw [this, hz1]
  simp [Value.cells]
/-- make([]int, n). -/
theorem make_int (n : Int) (W : World) (h0 : 0 ≤ n) (h : n ≤ 1000000) : (Instr.makeSlice 90 (.int .i64 n) (.int .i64 n)).run Tryz.prog W = .ok (.slice (some ⟨W.heap.size, 0, none⟩) n.toNat n.toNat) (W.alloc (.cells (madeCells #[.int .i64 0] n.toNat) 3)) := by
  obtain ⟨i0, hi, hz0, hz1, hz2⟩ := info_parts infInt
  have := run_make (P := Tryz.prog) W 90 3 i0 _ Tryz.underlying90 hi hz0 .i64 .i64 n n (by omega) (by omega) (by rw [hz2]; omega) (by omega)
  rw [this, hz1]
  simp [Value.cells]
theorem made_zero (z : Array Value) : madeCells z 0 = #[] := by simp [madeCells]
section
variable {P : Program} {ops : Array Oper} {rest : List Oper} {o : Oper} {a : Act} {w : World} {Q : Exit → Act → World → Prop}
/-- make, by its run. -/
theorem wpl_make (hgd : o.guard = none) {t : TypeId} (x y : Operand) (ho : o.op = .makeSlice t x y) {u v r : Value} {w' : World} (hx : a.eval x = u) (hy : a.eval y = v) (hr : (Instr.makeSlice t u v).run P w = .ok r w')
    (h : wpList P ops Q rest (a.put o.dst r) w') : wpList P ops Q (o :: rest) a w := by
  refine wpList_plain hgd fun K hK => ?_
  unfold Oper.wp execOp
  simp only [ho, hx, hy, Sem.run_bind, Sem.run_pure, Result.andThen_ok, hr]
  exact hK _ _ h
end
end Go.Proofs.YtgihpgdjkanodaaGreatDoor

namespace Go.Proofs.YtgihpgdjkanodaaGreatDoor
open Go Go.RowKit

/-- The start of a frame. -/
def sofP (n : Nat) : Pkt := ⟨5, 0, 0, n, 0, 0, false, false, 0, []⟩
theorem sofP_ok {n : Nat} (h : n < 2048) : (sofP n).Ok := ⟨by show 5 < 256; omega, by show 0 < 256; omega, by show 0 < 256; omega, (by show n < 65536; omega), by show 0 < 256; omega, by show 0 < 256; omega, by show 0 < 256; omega, by show 0 ≤ 1000000; omega⟩

section
variable {N : Nat} {σ τ : Type} {D : σ → Asr N} {W : τ → Asr N} {next : τ → τ × Nat} {wv dv : Value} {ask : σ → τ → List SentP → Pkt → (σ × τ × List SentP) × Pkt × Bool}
/-- Behind a frame without transactions. -/
def Perf0 {N : Nat} (A : Asr N) (S : Nat → Prop) (w : World) (b sp tk : Nat) (dv wv : Value) (l : List SentP) (e : Ending) (w' : World) : Prop :=
  ∃ (Ao : Option Addr) (co : Nat) (A2 : Option Addr) (S1 F : Nat → Prop), e = .returned (.slice Ao 0 co) ∧ w'.heap[b]? = some (busC sp dv wv tk A2 l.length l.length) ∧ ¬ S1 b ∧ ¬ F b ∧ RdL laySn F w' A2 l.length l ∧
    (∀ k, F k → ¬ S1 k ∧ N ≤ k ∧ k < w'.heap.size ∧ (S k ∨ w.heap.size ≤ k)) ∧ A.holds S1 w' ∧ Mv (fun k => S k ∨ k = b) w (fun k => S1 k ∨ k = b) w'
set_option maxHeartbeats 1600000 in
set_option maxRecDepth 100000 in
theorem perf_none {J : σ → List SentP → Prop} (hdv : IsIface dv) (hwv : IsIface wv) (hW : WireOK W next wv) (hA : ∀ b, AskC D W b dv wv ask J) (hLN : 0 < N) (w : World) (s : σ) (hj : J s []) (q : τ) (S : Nat → Prop) (h : ((D s).sep (W q)).holds S w) (fr : Nat) (hfr : fr < 2048)
    (hN : N ≤ w.heap.size) (hL : Laid w) (b sp tk : Nat) (A0 : Option Addr) (n0 c0 : Nat) (hb : w.heap[b]? = some (busC sp dv wv tk A0 n0 c0)) (hSb : ¬ S b) (hNb : N ≤ b) (At : Option Addr) (ct : Nat) :
    Calls Tryz.prog 27 #[.pointer (some ⟨b, 0, none⟩), .int .u16 (fr : Int), .slice At 0 ct] w (Perf0 ((D (spkR next ask s q (sofP fr)).1.1).sep (W (spkR next ask s q (sofP fr)).1.2.1)) S w b sp tk dv wv (spkR next ask s q (sofP fr)).1.2.2) := by
  have KS := Lib.hid fun (X : World) (hX : ((D s).sep (W q)).holds S X) (hN : N ≤ X.heap.size) (hL : Laid X) => show Calls Tryz.prog 38 #[dv, wv, .agg #[.int .u8 5, .int .u8 0, .int .u8 0, .int .u16 (fr : Int), .int .u8 0, .int .u8 0, .bool false, .bool false, .int .u8 0, .slice none 0 0]] X (SpkPost ((D (spkR next ask s q (sofP fr)).1.1).sep (W (spkR next ask s q (sofP fr)).1.2.1)) S X (spkR next ask s q (sofP fr)).2 (spkR next ask s q (sofP fr)).1.2.2) from spkP_any hdv hwv hW hA hLN X s hj q S hX (sofP fr) (sofP_ok hfr) none 0 (RdS.nil _) hN hL
  obtain ⟨⟨⟨s', q', l⟩, a, o⟩, hR⟩ : ∃ R, spkR next ask s q (sofP fr) = R := ⟨_, rfl⟩
  rw [hR] at KS ⊢
  simp only at KS ⊢
  have hge : ∀ k, S k → N ≤ k ∧ k < w.heap.size := fun k hk => ((D s).sep (W q)).ge h k hk
  have hbw := block_lt hb
  have HB := Lib.hid hb
  have HH := Lib.hid h
  have HN := Lib.hid hN
  have HL := Lib.hid hL
  have HSb := Lib.hid hSb
  have Hge := Lib.hid hge
  have Hbw := Lib.hid hbw
  clear hb h hN hL hSb hge hbw hR
  go_enter Tryz.func27, Tryz.ntmps27
  go_wp2
  refine region_inv (fun a₀ act y => ∃ (u7 u8 u15 u16 u17 u18 u19 u20 u21 u22 u23 u24 u25 u26 u27 u28 u29 u30 u31 : Value) (A2 : Option Addr) (S1 F : Nat → Prop),
    act = { tmps := #[.pointer (some ⟨b, 0, none⟩), .int .u16 (fr : Int), .slice At 0 ct, undef, undef, undef, .slice none 0 0, u7, u8, .slice A2 l.length l.length, undef, undef, undef, undef, undef, u15, u16, u17, u18, u19, u20, u21, u22, u23, u24, u25, u26, u27, u28, u29, u30, u31, undef, undef, undef, undef, undef, undef, undef, undef, undef, undef, undef, undef, undef, undef, undef, undef, undef, undef, undef, undef, undef, undef, undef, undef, undef, undef, undef, undef, undef, undef, undef, undef, undef, undef, undef, undef, undef, undef], defers := [] } ∧
    y.heap[b]? = some (busC sp dv wv tk A0 n0 c0) ∧ ¬ S1 b ∧ ¬ F b ∧ RdL laySn F y A2 l.length l ∧ (∀ k, F k → ¬ S1 k ∧ N ≤ k ∧ k < y.heap.size ∧ (S k ∨ w.heap.size ≤ k)) ∧ ((D s').sep (W q')).holds S1 y ∧ Mv S w S1 y) ?_ ?_
  · refine startTP (S := fun a => a.block = b) (T := [18]) (fun x => x.heap[b]? = some (busC sp dv wv tk A0 n0 c0) ∧ ((D s).sep (W q)).holds S x ∧ N ≤ x.heap.size ∧ Laid x ∧ Mv S w S x) 21 (by kernel_rfl) rfl (l := #[false, false, false, false, false, false, false, false, false, false, false, false, false, false, false, false, false, false, false, false, false]) rfl
      ⟨HB.out, ((D s).sep (W q)).loc HH.out (Nat.le_refl _) fun _ _ => rfl, HN.out, ⟨HL.out.pid⟩, (Mv.refl S w).drew⟩ ?_
    rintro x0 ⟨hb, hA, hN, hL, hm⟩
    have d1 := block_at hb (i := 1) (v := dv) rfl
    have d2 := block_at hb (i := 2) (v := wv) rfl
    replace hb := Lib.hid hb
    replace hA := Lib.hid hA
    replace hN := Lib.hid hN
    replace hL := Lib.hid hL
    have M := Lib.hid hm
    clear hm
    ((first | (refine takeT 0 (v := ?_) rfl (by decide +kernel) (by decide +kernel) (by decide +kernel) (fun _ _ _ h => h) (by decide +kernel) (Or.inl ⟨by rfl, ?_⟩) ?_; rotate_left 1; (focus (intro W hW; have hcW := hW.at; (try dsimp only at hcW); go_simp; first | done | with_reducible rfl)); try simp only [Act.put, List.setIfInBounds_toArray, List.set_cons_zero, List.set_cons_succ]) | (refine takeW 0 (v := ?_) rfl (by decide +kernel) (by decide +kernel) (by decide +kernel) (fun _ _ _ h => h) (Or.inl ⟨by rfl, ?_⟩) ?_; rotate_left 1; (focus (intro W hW; go_simp; first | done | with_reducible rfl)); try simp only [Act.put, List.setIfInBounds_toArray, List.set_cons_zero, List.set_cons_succ]) | (refine takeW 0 rfl (by decide +kernel) (by decide +kernel) (by decide +kernel) (fun _ _ _ h => h) (Or.inr ⟨by rfl, rfl⟩) ?_; try simp only [Act.put, List.setIfInBounds_toArray, List.set_cons_zero, List.set_cons_succ]) | skip); (first | (refine takeT 1 (v := ?_) rfl (by decide +kernel) (by decide +kernel) (by decide +kernel) (fun _ _ _ h => h) (by decide +kernel) (Or.inl ⟨by rfl, ?_⟩) ?_; rotate_left 1; (focus (intro W hW; have hcW := hW.at; (try dsimp only at hcW); go_simp; first | done | with_reducible rfl)); try simp only [Act.put, List.setIfInBounds_toArray, List.set_cons_zero, List.set_cons_succ]) | (refine takeW 1 (v := ?_) rfl (by decide +kernel) (by decide +kernel) (by decide +kernel) (fun _ _ _ h => h) (Or.inl ⟨by rfl, ?_⟩) ?_; rotate_left 1; (focus (intro W hW; go_simp; first | done | with_reducible rfl)); try simp only [Act.put, List.setIfInBounds_toArray, List.set_cons_zero, List.set_cons_succ]) | (refine takeW 1 rfl (by decide +kernel) (by decide +kernel) (by decide +kernel) (fun _ _ _ h => h) (Or.inr ⟨by rfl, rfl⟩) ?_; try simp only [Act.put, List.setIfInBounds_toArray, List.set_cons_zero, List.set_cons_succ]) | skip); (first | (refine takeT 2 (v := ?_) rfl (by decide +kernel) (by decide +kernel) (by decide +kernel) (fun _ _ _ h => h) (by decide +kernel) (Or.inl ⟨by rfl, ?_⟩) ?_; rotate_left 1; (focus (intro W hW; have hcW := hW.at; (try dsimp only at hcW); go_simp; first | done | with_reducible rfl)); try simp only [Act.put, List.setIfInBounds_toArray, List.set_cons_zero, List.set_cons_succ]) | (refine takeW 2 (v := ?_) rfl (by decide +kernel) (by decide +kernel) (by decide +kernel) (fun _ _ _ h => h) (Or.inl ⟨by rfl, ?_⟩) ?_; rotate_left 1; (focus (intro W hW; go_simp; first | done | with_reducible rfl)); try simp only [Act.put, List.setIfInBounds_toArray, List.set_cons_zero, List.set_cons_succ]) | (refine takeW 2 rfl (by decide +kernel) (by decide +kernel) (by decide +kernel) (fun _ _ _ h => h) (Or.inr ⟨by rfl, rfl⟩) ?_; try simp only [Act.put, List.setIfInBounds_toArray, List.set_cons_zero, List.set_cons_succ]) | skip); (first | (refine takeT 3 (v := ?_) rfl (by decide +kernel) (by decide +kernel) (by decide +kernel) (fun _ _ _ h => h) (by decide +kernel) (Or.inl ⟨by rfl, ?_⟩) ?_; rotate_left 1; (focus (intro W hW; have hcW := hW.at; (try dsimp only at hcW); go_simp; first | done | with_reducible rfl)); try simp only [Act.put, List.setIfInBounds_toArray, List.set_cons_zero, List.set_cons_succ]) | (refine takeW 3 (v := ?_) rfl (by decide +kernel) (by decide +kernel) (by decide +kernel) (fun _ _ _ h => h) (Or.inl ⟨by rfl, ?_⟩) ?_; rotate_left 1; (focus (intro W hW; go_simp; first | done | with_reducible rfl)); try simp only [Act.put, List.setIfInBounds_toArray, List.set_cons_zero, List.set_cons_succ]) | (refine takeW 3 rfl (by decide +kernel) (by decide +kernel) (by decide +kernel) (fun _ _ _ h => h) (Or.inr ⟨by rfl, rfl⟩) ?_; try simp only [Act.put, List.setIfInBounds_toArray, List.set_cons_zero, List.set_cons_succ]) | skip); (first | (refine takeT 4 (v := ?_) rfl (by decide +kernel) (by decide +kernel) (by decide +kernel) (fun _ _ _ h => h) (by decide +kernel) (Or.inl ⟨by rfl, ?_⟩) ?_; rotate_left 1; (focus (intro W hW; have hcW := hW.at; (try dsimp only at hcW); go_simp; first | done | with_reducible rfl)); try simp only [Act.put, List.setIfInBounds_toArray, List.set_cons_zero, List.set_cons_succ]) | (refine takeW 4 (v := ?_) rfl (by decide +kernel) (by decide +kernel) (by decide +kernel) (fun _ _ _ h => h) (Or.inl ⟨by rfl, ?_⟩) ?_; rotate_left 1; (focus (intro W hW; go_simp; first | done | with_reducible rfl)); try simp only [Act.put, List.setIfInBounds_toArray, List.set_cons_zero, List.set_cons_succ]) | (refine takeW 4 rfl (by decide +kernel) (by decide +kernel) (by decide +kernel) (fun _ _ _ h => h) (Or.inr ⟨by rfl, rfl⟩) ?_; try simp only [Act.put, List.setIfInBounds_toArray, List.set_cons_zero, List.set_cons_succ]) | skip); (first | (refine takeT 5 (v := ?_) rfl (by decide +kernel) (by decide +kernel) (by decide +kernel) (fun _ _ _ h => h) (by decide +kernel) (Or.inl ⟨by rfl, ?_⟩) ?_; rotate_left 1; (focus (intro W hW; have hcW := hW.at; (try dsimp only at hcW); go_simp; first | done | with_reducible rfl)); try simp only [Act.put, List.setIfInBounds_toArray, List.set_cons_zero, List.set_cons_succ]) | (refine takeW 5 (v := ?_) rfl (by decide +kernel) (by decide +kernel) (by decide +kernel) (fun _ _ _ h => h) (Or.inl ⟨by rfl, ?_⟩) ?_; rotate_left 1; (focus (intro W hW; go_simp; first | done | with_reducible rfl)); try simp only [Act.put, List.setIfInBounds_toArray, List.set_cons_zero, List.set_cons_succ]) | (refine takeW 5 rfl (by decide +kernel) (by decide +kernel) (by decide +kernel) (fun _ _ _ h => h) (Or.inr ⟨by rfl, rfl⟩) ?_; try simp only [Act.put, List.setIfInBounds_toArray, List.set_cons_zero, List.set_cons_succ]) | skip); (first | (refine takeT 6 (v := ?_) rfl (by decide +kernel) (by decide +kernel) (by decide +kernel) (fun _ _ _ h => h) (by decide +kernel) (Or.inl ⟨by rfl, ?_⟩) ?_; rotate_left 1; (focus (intro W hW; have hcW := hW.at; (try dsimp only at hcW); go_simp; first | done | with_reducible rfl)); try simp only [Act.put, List.setIfInBounds_toArray, List.set_cons_zero, List.set_cons_succ]) | (refine takeW 6 (v := ?_) rfl (by decide +kernel) (by decide +kernel) (by decide +kernel) (fun _ _ _ h => h) (Or.inl ⟨by rfl, ?_⟩) ?_; rotate_left 1; (focus (intro W hW; go_simp; first | done | with_reducible rfl)); try simp only [Act.put, List.setIfInBounds_toArray, List.set_cons_zero, List.set_cons_succ]) | (refine takeW 6 rfl (by decide +kernel) (by decide +kernel) (by decide +kernel) (fun _ _ _ h => h) (Or.inr ⟨by rfl, rfl⟩) ?_; try simp only [Act.put, List.setIfInBounds_toArray, List.set_cons_zero, List.set_cons_succ]) | skip); (first | (refine takeT 7 (v := ?_) rfl (by decide +kernel) (by decide +kernel) (by decide +kernel) (fun _ _ _ h => h) (by decide +kernel) (Or.inl ⟨by rfl, ?_⟩) ?_; rotate_left 1; (focus (intro W hW; have hcW := hW.at; (try dsimp only at hcW); go_simp; first | done | with_reducible rfl)); try simp only [Act.put, List.setIfInBounds_toArray, List.set_cons_zero, List.set_cons_succ]) | (refine takeW 7 (v := ?_) rfl (by decide +kernel) (by decide +kernel) (by decide +kernel) (fun _ _ _ h => h) (Or.inl ⟨by rfl, ?_⟩) ?_; rotate_left 1; (focus (intro W hW; go_simp; first | done | with_reducible rfl)); try simp only [Act.put, List.setIfInBounds_toArray, List.set_cons_zero, List.set_cons_succ]) | (refine takeW 7 rfl (by decide +kernel) (by decide +kernel) (by decide +kernel) (fun _ _ _ h => h) (Or.inr ⟨by rfl, rfl⟩) ?_; try simp only [Act.put, List.setIfInBounds_toArray, List.set_cons_zero, List.set_cons_succ]) | skip); (first | (refine takeT 8 (v := ?_) rfl (by decide +kernel) (by decide +kernel) (by decide +kernel) (fun _ _ _ h => h) (by decide +kernel) (Or.inl ⟨by rfl, ?_⟩) ?_; rotate_left 1; (focus (intro W hW; have hcW := hW.at; (try dsimp only at hcW); go_simp; first | done | with_reducible rfl)); try simp only [Act.put, List.setIfInBounds_toArray, List.set_cons_zero, List.set_cons_succ]) | (refine takeW 8 (v := ?_) rfl (by decide +kernel) (by decide +kernel) (by decide +kernel) (fun _ _ _ h => h) (Or.inl ⟨by rfl, ?_⟩) ?_; rotate_left 1; (focus (intro W hW; go_simp; first | done | with_reducible rfl)); try simp only [Act.put, List.setIfInBounds_toArray, List.set_cons_zero, List.set_cons_succ]) | (refine takeW 8 rfl (by decide +kernel) (by decide +kernel) (by decide +kernel) (fun _ _ _ h => h) (Or.inr ⟨by rfl, rfl⟩) ?_; try simp only [Act.put, List.setIfInBounds_toArray, List.set_cons_zero, List.set_cons_succ]) | skip); (first | (refine takeT 9 (v := ?_) rfl (by decide +kernel) (by decide +kernel) (by decide +kernel) (fun _ _ _ h => h) (by decide +kernel) (Or.inl ⟨by rfl, ?_⟩) ?_; rotate_left 1; (focus (intro W hW; have hcW := hW.at; (try dsimp only at hcW); go_simp; first | done | with_reducible rfl)); try simp only [Act.put, List.setIfInBounds_toArray, List.set_cons_zero, List.set_cons_succ]) | (refine takeW 9 (v := ?_) rfl (by decide +kernel) (by decide +kernel) (by decide +kernel) (fun _ _ _ h => h) (Or.inl ⟨by rfl, ?_⟩) ?_; rotate_left 1; (focus (intro W hW; go_simp; first | done | with_reducible rfl)); try simp only [Act.put, List.setIfInBounds_toArray, List.set_cons_zero, List.set_cons_succ]) | (refine takeW 9 rfl (by decide +kernel) (by decide +kernel) (by decide +kernel) (fun _ _ _ h => h) (Or.inr ⟨by rfl, rfl⟩) ?_; try simp only [Act.put, List.setIfInBounds_toArray, List.set_cons_zero, List.set_cons_succ]) | skip); (first | (refine takeT 10 (v := ?_) rfl (by decide +kernel) (by decide +kernel) (by decide +kernel) (fun _ _ _ h => h) (by decide +kernel) (Or.inl ⟨by rfl, ?_⟩) ?_; rotate_left 1; (focus (intro W hW; have hcW := hW.at; (try dsimp only at hcW); go_simp; first | done | with_reducible rfl)); try simp only [Act.put, List.setIfInBounds_toArray, List.set_cons_zero, List.set_cons_succ]) | (refine takeW 10 (v := ?_) rfl (by decide +kernel) (by decide +kernel) (by decide +kernel) (fun _ _ _ h => h) (Or.inl ⟨by rfl, ?_⟩) ?_; rotate_left 1; (focus (intro W hW; go_simp; first | done | with_reducible rfl)); try simp only [Act.put, List.setIfInBounds_toArray, List.set_cons_zero, List.set_cons_succ]) | (refine takeW 10 rfl (by decide +kernel) (by decide +kernel) (by decide +kernel) (fun _ _ _ h => h) (Or.inr ⟨by rfl, rfl⟩) ?_; try simp only [Act.put, List.setIfInBounds_toArray, List.set_cons_zero, List.set_cons_succ]) | skip); (first | (refine takeT 11 (v := ?_) rfl (by decide +kernel) (by decide +kernel) (by decide +kernel) (fun _ _ _ h => h) (by decide +kernel) (Or.inl ⟨by rfl, ?_⟩) ?_; rotate_left 1; (focus (intro W hW; have hcW := hW.at; (try dsimp only at hcW); go_simp; first | done | with_reducible rfl)); try simp only [Act.put, List.setIfInBounds_toArray, List.set_cons_zero, List.set_cons_succ]) | (refine takeW 11 (v := ?_) rfl (by decide +kernel) (by decide +kernel) (by decide +kernel) (fun _ _ _ h => h) (Or.inl ⟨by rfl, ?_⟩) ?_; rotate_left 1; (focus (intro W hW; go_simp; first | done | with_reducible rfl)); try simp only [Act.put, List.setIfInBounds_toArray, List.set_cons_zero, List.set_cons_succ]) | (refine takeW 11 rfl (by decide +kernel) (by decide +kernel) (by decide +kernel) (fun _ _ _ h => h) (Or.inr ⟨by rfl, rfl⟩) ?_; try simp only [Act.put, List.setIfInBounds_toArray, List.set_cons_zero, List.set_cons_succ]) | skip))
    clear d1 d2
    refine stepTA [12, 17] (by decide +kernel) (by decide) ?_
    intro i hi
    rcases (by simpa using hi : i = 12 ∨ i = 17) with rfl | rfl
    · clear hi
      refine ⟨_, rfl, by rfl, ?_⟩
      intro K hK
      go_simp
      refine (KS.out x0 hA.out hN.out hL.out).mono ?_
      rintro e x1 ⟨A1, c1, A2, S1, F, rfl, ra, rl, hF, hA2, hm2, hFn⟩
      have sm : Sm (fun a => a.block = b) x0 x1 := fun a ha => World.cell?_of_block (by rw [ha]; exact hm2.keep b (block_lt hb.out) HSb.out)
      have B1 := Lib.hid (hm2.box ⟨hb.out, HSb.out⟩)
      have RL := Lib.hid rl
      have HF := Lib.hid hF
      have HA2 := Lib.hid hA2
      have M1 := Lib.hid (M.out.trans hm2)
      have M0 := M
      have HFn := Lib.hid hFn
      have HN1 := Lib.hid (Nat.le_trans hN.out hm2.size)
      refine hK _ _ (.inr sm) ?_
      clear hK K sm ra rl hF hA2 hm2 hFn
      try simp only [Act.put, List.setIfInBounds_toArray, List.set_cons_zero, List.set_cons_succ]
      ((first | (refine takeT 13 (v := ?_) rfl (by decide +kernel) (by decide +kernel) (by decide +kernel) (fun _ _ _ h => h) (by decide +kernel) (Or.inl ⟨by rfl, ?_⟩) ?_; rotate_left 1; (focus (intro W hW; have hcW := hW.at; (try dsimp only at hcW); go_simp; first | done | with_reducible rfl)); try simp only [Act.put, List.setIfInBounds_toArray, List.set_cons_zero, List.set_cons_succ]) | (refine takeW 13 (v := ?_) rfl (by decide +kernel) (by decide +kernel) (by decide +kernel) (fun _ _ _ h => h) (Or.inl ⟨by rfl, ?_⟩) ?_; rotate_left 1; (focus (intro W hW; go_simp; first | done | with_reducible rfl)); try simp only [Act.put, List.setIfInBounds_toArray, List.set_cons_zero, List.set_cons_succ]) | (refine takeW 13 rfl (by decide +kernel) (by decide +kernel) (by decide +kernel) (fun _ _ _ h => h) (Or.inr ⟨by rfl, rfl⟩) ?_; try simp only [Act.put, List.setIfInBounds_toArray, List.set_cons_zero, List.set_cons_succ]) | skip); (first | (refine takeT 14 (v := ?_) rfl (by decide +kernel) (by decide +kernel) (by decide +kernel) (fun _ _ _ h => h) (by decide +kernel) (Or.inl ⟨by rfl, ?_⟩) ?_; rotate_left 1; (focus (intro W hW; have hcW := hW.at; (try dsimp only at hcW); go_simp; first | done | with_reducible rfl)); try simp only [Act.put, List.setIfInBounds_toArray, List.set_cons_zero, List.set_cons_succ]) | (refine takeW 14 (v := ?_) rfl (by decide +kernel) (by decide +kernel) (by decide +kernel) (fun _ _ _ h => h) (Or.inl ⟨by rfl, ?_⟩) ?_; rotate_left 1; (focus (intro W hW; go_simp; first | done | with_reducible rfl)); try simp only [Act.put, List.setIfInBounds_toArray, List.set_cons_zero, List.set_cons_succ]) | (refine takeW 14 rfl (by decide +kernel) (by decide +kernel) (by decide +kernel) (fun _ _ _ h => h) (Or.inr ⟨by rfl, rfl⟩) ?_; try simp only [Act.put, List.setIfInBounds_toArray, List.set_cons_zero, List.set_cons_succ]) | skip); (first | (refine takeT 15 (v := ?_) rfl (by decide +kernel) (by decide +kernel) (by decide +kernel) (fun _ _ _ h => h) (by decide +kernel) (Or.inl ⟨by rfl, ?_⟩) ?_; rotate_left 1; (focus (intro W hW; have hcW := hW.at; (try dsimp only at hcW); go_simp; first | done | with_reducible rfl)); try simp only [Act.put, List.setIfInBounds_toArray, List.set_cons_zero, List.set_cons_succ]) | (refine takeW 15 (v := ?_) rfl (by decide +kernel) (by decide +kernel) (by decide +kernel) (fun _ _ _ h => h) (Or.inl ⟨by rfl, ?_⟩) ?_; rotate_left 1; (focus (intro W hW; go_simp; first | done | with_reducible rfl)); try simp only [Act.put, List.setIfInBounds_toArray, List.set_cons_zero, List.set_cons_succ]) | (refine takeW 15 rfl (by decide +kernel) (by decide +kernel) (by decide +kernel) (fun _ _ _ h => h) (Or.inr ⟨by rfl, rfl⟩) ?_; try simp only [Act.put, List.setIfInBounds_toArray, List.set_cons_zero, List.set_cons_succ]) | skip); (first | (refine takeT 16 (v := ?_) rfl (by decide +kernel) (by decide +kernel) (by decide +kernel) (fun _ _ _ h => h) (by decide +kernel) (Or.inl ⟨by rfl, ?_⟩) ?_; rotate_left 1; (focus (intro W hW; have hcW := hW.at; (try dsimp only at hcW); go_simp; first | done | with_reducible rfl)); try simp only [Act.put, List.setIfInBounds_toArray, List.set_cons_zero, List.set_cons_succ]) | (refine takeW 16 (v := ?_) rfl (by decide +kernel) (by decide +kernel) (by decide +kernel) (fun _ _ _ h => h) (Or.inl ⟨by rfl, ?_⟩) ?_; rotate_left 1; (focus (intro W hW; go_simp; first | done | with_reducible rfl)); try simp only [Act.put, List.setIfInBounds_toArray, List.set_cons_zero, List.set_cons_succ]) | (refine takeW 16 rfl (by decide +kernel) (by decide +kernel) (by decide +kernel) (fun _ _ _ h => h) (Or.inr ⟨by rfl, rfl⟩) ?_; try simp only [Act.put, List.setIfInBounds_toArray, List.set_cons_zero, List.set_cons_succ]) | skip))
      refine stepTA [17] (by decide +kernel) (by decide) ?_
      intro i hi
      obtain rfl : i = 17 := by simpa using hi
      clear hi
      refine ⟨_, rfl, by rfl, ?_⟩
      intro K hK
      go_simp
      have bb := (Below.refl x1.heap.size x1).alloc (Nat.le_refl _) pkZ
      have sm : Sm (fun a => a.block = b) x1 (x1.alloc pkZ) := fun a ha => World.cell?_of_block (by rw [ha]; exact bb.block b (block_lt B1.out.1))
      have k7 := Lib.hid (alloc1 x1 pkZ)
      refine hK _ _ (.inr sm) ?_
      clear hK K sm
      try simp only [Act.put, List.setIfInBounds_toArray, List.set_cons_zero, List.set_cons_succ]
      refine stepT 18 rfl (by decide +kernel) (by rfl) ?_
      intro K hK
      refine wp_storeB flatPk (.tmp 7) (.tmp 29) rfl x1.heap.size rfl _ rfl k7.out rfl rfl rfl ?_
      intro y k8 hg7 hs7
      have hb7 := below_grown bb hg7 bb.size (Nat.le_refl _)
      refine hK _ _ (.inl (by decide)) ?_
      clear hK K
      try simp only [Act.put, List.setIfInBounds_toArray, List.set_cons_zero, List.set_cons_succ]
      ((first | (refine takeT 19 (v := ?_) rfl (by decide +kernel) (by decide +kernel) (by decide +kernel) (fun _ _ _ h => h) (by decide +kernel) (Or.inl ⟨by rfl, ?_⟩) ?_; rotate_left 1; (focus (intro W hW; have hcW := hW.at; (try dsimp only at hcW); go_simp; first | done | with_reducible rfl)); try simp only [Act.put, List.setIfInBounds_toArray, List.set_cons_zero, List.set_cons_succ]) | (refine takeW 19 (v := ?_) rfl (by decide +kernel) (by decide +kernel) (by decide +kernel) (fun _ _ _ h => h) (Or.inl ⟨by rfl, ?_⟩) ?_; rotate_left 1; (focus (intro W hW; go_simp; first | done | with_reducible rfl)); try simp only [Act.put, List.setIfInBounds_toArray, List.set_cons_zero, List.set_cons_succ]) | (refine takeW 19 rfl (by decide +kernel) (by decide +kernel) (by decide +kernel) (fun _ _ _ h => h) (Or.inr ⟨by rfl, rfl⟩) ?_; try simp only [Act.put, List.setIfInBounds_toArray, List.set_cons_zero, List.set_cons_succ]) | skip); (first | (refine takeT 20 (v := ?_) rfl (by decide +kernel) (by decide +kernel) (by decide +kernel) (fun _ _ _ h => h) (by decide +kernel) (Or.inl ⟨by rfl, ?_⟩) ?_; rotate_left 1; (focus (intro W hW; have hcW := hW.at; (try dsimp only at hcW); go_simp; first | done | with_reducible rfl)); try simp only [Act.put, List.setIfInBounds_toArray, List.set_cons_zero, List.set_cons_succ]) | (refine takeW 20 (v := ?_) rfl (by decide +kernel) (by decide +kernel) (by decide +kernel) (fun _ _ _ h => h) (Or.inl ⟨by rfl, ?_⟩) ?_; rotate_left 1; (focus (intro W hW; go_simp; first | done | with_reducible rfl)); try simp only [Act.put, List.setIfInBounds_toArray, List.set_cons_zero, List.set_cons_succ]) | (refine takeW 20 rfl (by decide +kernel) (by decide +kernel) (by decide +kernel) (fun _ _ _ h => h) (Or.inr ⟨by rfl, rfl⟩) ?_; try simp only [Act.put, List.setIfInBounds_toArray, List.set_cons_zero, List.set_cons_succ]) | skip))
      refine doneT (by kernel_rfl) ?_
      refine ⟨_, _, _, _, _, _, _, _, _, _, _, _, _, _, _, _, _, _, _, A2, S1, F, rfl, (hb7.block b (block_lt B1.out.1)).trans B1.out.1, B1.out.2, fun hf => ?_, RL.out.below hb7 (by decide), fun k hk => ?_, Asr.below HA2.out hb7 HN1.out, M1.out.trans (Mv.of_below S1 hb7)⟩
      · have h1 := block_lt hb.out
        exact (HFn.out b hf).elim HSb.out (fun h => by omega)
      · have h1 := HF.out k hk
        have h2 := hb7.size
        have h3 := M0.out.size
        exact ⟨h1.1, h1.2.1, by omega, (HFn.out k hk).imp id (fun h => by omega)⟩
    · clear hi
      refine ⟨_, rfl, by rfl, ?_⟩
      intro K hK
      go_simp
      have bb := (Below.refl x0.heap.size x0).alloc (Nat.le_refl _) pkZ
      have sm : Sm (fun a => a.block = b) x0 (x0.alloc pkZ) := fun a ha => World.cell?_of_block (by rw [ha]; exact bb.block b (block_lt hb.out))
      have k7 := Lib.hid (alloc1 x0 pkZ)
      have nS : ¬ S x0.heap.size := fun hs => by have := (((D s).sep (W q)).ge hA.out _ hs).2; omega
      have NS := Lib.hid nS
      have lb := Lib.hid (block_lt hb.out)
      replace hb := Lib.hid ((bb.block b (block_lt hb.out)).trans hb.out)
      replace hA := Lib.hid (Asr.below hA.out bb hN.out)
      replace hN := Lib.hid (Nat.le_trans hN.out bb.size)
      replace hL := Lib.hid (hL.out.below bb)
      have l7 := Lib.hid M.out.size
      replace M := Lib.hid (M.out.trans (Mv.of_below S bb))
      refine hK _ _ (.inr sm) ?_
      clear hK K sm bb nS
      try simp only [Act.put, List.setIfInBounds_toArray, List.set_cons_zero, List.set_cons_succ]
      generalize x0.alloc pkZ = x4 at hb hA hN hL M k7 ⊢
      generalize x0.heap.size = g7 at k7 NS lb l7 ⊢
      refine stepTA [12] (by decide +kernel) (by decide) ?_
      intro i hi
      obtain rfl : i = 12 := by simpa using hi
      clear hi
      refine ⟨_, rfl, by rfl, ?_⟩
      intro K hK
      go_simp
      refine (KS.out x4 hA.out hN.out hL.out).mono ?_
      rintro e x1 ⟨A1, c1, A2, S1, F, rfl, ra, rl, hF, hA2, hm2, hFn⟩
      have sm : Sm (fun a => a.block = b) x4 x1 := fun a ha => World.cell?_of_block (by rw [ha]; exact hm2.keep b (block_lt hb.out) HSb.out)
      have B1 := Lib.hid (hm2.box ⟨hb.out, HSb.out⟩)
      have B7 := Lib.hid (hm2.box ⟨k7.out, NS.out⟩)
      have nF7 := Lib.hid (show ¬ F g7 from fun hf => (hFn g7 hf).elim NS.out (fun h => by have := block_lt k7.out; omega))
      have RL := Lib.hid rl
      have HF := Lib.hid hF
      have HA2 := Lib.hid hA2
      have M1 := Lib.hid (M.out.trans hm2)
      have M0 := M
      have HFn := Lib.hid hFn
      have HN1 := Lib.hid (Nat.le_trans hN.out hm2.size)
      refine hK _ _ (.inr sm) ?_
      clear hK K sm ra rl hF hA2 hm2 hFn
      try simp only [Act.put, List.setIfInBounds_toArray, List.set_cons_zero, List.set_cons_succ]
      ((first | (refine takeT 13 (v := ?_) rfl (by decide +kernel) (by decide +kernel) (by decide +kernel) (fun _ _ _ h => h) (by decide +kernel) (Or.inl ⟨by rfl, ?_⟩) ?_; rotate_left 1; (focus (intro W hW; have hcW := hW.at; (try dsimp only at hcW); go_simp; first | done | with_reducible rfl)); try simp only [Act.put, List.setIfInBounds_toArray, List.set_cons_zero, List.set_cons_succ]) | (refine takeW 13 (v := ?_) rfl (by decide +kernel) (by decide +kernel) (by decide +kernel) (fun _ _ _ h => h) (Or.inl ⟨by rfl, ?_⟩) ?_; rotate_left 1; (focus (intro W hW; go_simp; first | done | with_reducible rfl)); try simp only [Act.put, List.setIfInBounds_toArray, List.set_cons_zero, List.set_cons_succ]) | (refine takeW 13 rfl (by decide +kernel) (by decide +kernel) (by decide +kernel) (fun _ _ _ h => h) (Or.inr ⟨by rfl, rfl⟩) ?_; try simp only [Act.put, List.setIfInBounds_toArray, List.set_cons_zero, List.set_cons_succ]) | skip); (first | (refine takeT 14 (v := ?_) rfl (by decide +kernel) (by decide +kernel) (by decide +kernel) (fun _ _ _ h => h) (by decide +kernel) (Or.inl ⟨by rfl, ?_⟩) ?_; rotate_left 1; (focus (intro W hW; have hcW := hW.at; (try dsimp only at hcW); go_simp; first | done | with_reducible rfl)); try simp only [Act.put, List.setIfInBounds_toArray, List.set_cons_zero, List.set_cons_succ]) | (refine takeW 14 (v := ?_) rfl (by decide +kernel) (by decide +kernel) (by decide +kernel) (fun _ _ _ h => h) (Or.inl ⟨by rfl, ?_⟩) ?_; rotate_left 1; (focus (intro W hW; go_simp; first | done | with_reducible rfl)); try simp only [Act.put, List.setIfInBounds_toArray, List.set_cons_zero, List.set_cons_succ]) | (refine takeW 14 rfl (by decide +kernel) (by decide +kernel) (by decide +kernel) (fun _ _ _ h => h) (Or.inr ⟨by rfl, rfl⟩) ?_; try simp only [Act.put, List.setIfInBounds_toArray, List.set_cons_zero, List.set_cons_succ]) | skip); (first | (refine takeT 15 (v := ?_) rfl (by decide +kernel) (by decide +kernel) (by decide +kernel) (fun _ _ _ h => h) (by decide +kernel) (Or.inl ⟨by rfl, ?_⟩) ?_; rotate_left 1; (focus (intro W hW; have hcW := hW.at; (try dsimp only at hcW); go_simp; first | done | with_reducible rfl)); try simp only [Act.put, List.setIfInBounds_toArray, List.set_cons_zero, List.set_cons_succ]) | (refine takeW 15 (v := ?_) rfl (by decide +kernel) (by decide +kernel) (by decide +kernel) (fun _ _ _ h => h) (Or.inl ⟨by rfl, ?_⟩) ?_; rotate_left 1; (focus (intro W hW; go_simp; first | done | with_reducible rfl)); try simp only [Act.put, List.setIfInBounds_toArray, List.set_cons_zero, List.set_cons_succ]) | (refine takeW 15 rfl (by decide +kernel) (by decide +kernel) (by decide +kernel) (fun _ _ _ h => h) (Or.inr ⟨by rfl, rfl⟩) ?_; try simp only [Act.put, List.setIfInBounds_toArray, List.set_cons_zero, List.set_cons_succ]) | skip); (first | (refine takeT 16 (v := ?_) rfl (by decide +kernel) (by decide +kernel) (by decide +kernel) (fun _ _ _ h => h) (by decide +kernel) (Or.inl ⟨by rfl, ?_⟩) ?_; rotate_left 1; (focus (intro W hW; have hcW := hW.at; (try dsimp only at hcW); go_simp; first | done | with_reducible rfl)); try simp only [Act.put, List.setIfInBounds_toArray, List.set_cons_zero, List.set_cons_succ]) | (refine takeW 16 (v := ?_) rfl (by decide +kernel) (by decide +kernel) (by decide +kernel) (fun _ _ _ h => h) (Or.inl ⟨by rfl, ?_⟩) ?_; rotate_left 1; (focus (intro W hW; go_simp; first | done | with_reducible rfl)); try simp only [Act.put, List.setIfInBounds_toArray, List.set_cons_zero, List.set_cons_succ]) | (refine takeW 16 rfl (by decide +kernel) (by decide +kernel) (by decide +kernel) (fun _ _ _ h => h) (Or.inr ⟨by rfl, rfl⟩) ?_; try simp only [Act.put, List.setIfInBounds_toArray, List.set_cons_zero, List.set_cons_succ]) | skip))
      refine stepT 18 rfl (by decide +kernel) (by rfl) ?_
      intro K hK
      refine wp_storeB flatPk (.tmp 7) (.tmp 29) rfl g7 rfl _ rfl B7.out.1 rfl rfl rfl ?_
      intro y k8 hg7 hs7
      have hNg : N ≤ g7 := Nat.le_trans HN.out l7.out
      refine hK _ _ (.inl (by decide)) ?_
      clear hK K
      try simp only [Act.put, List.setIfInBounds_toArray, List.set_cons_zero, List.set_cons_succ]
      ((first | (refine takeT 19 (v := ?_) rfl (by decide +kernel) (by decide +kernel) (by decide +kernel) (fun _ _ _ h => h) (by decide +kernel) (Or.inl ⟨by rfl, ?_⟩) ?_; rotate_left 1; (focus (intro W hW; have hcW := hW.at; (try dsimp only at hcW); go_simp; first | done | with_reducible rfl)); try simp only [Act.put, List.setIfInBounds_toArray, List.set_cons_zero, List.set_cons_succ]) | (refine takeW 19 (v := ?_) rfl (by decide +kernel) (by decide +kernel) (by decide +kernel) (fun _ _ _ h => h) (Or.inl ⟨by rfl, ?_⟩) ?_; rotate_left 1; (focus (intro W hW; go_simp; first | done | with_reducible rfl)); try simp only [Act.put, List.setIfInBounds_toArray, List.set_cons_zero, List.set_cons_succ]) | (refine takeW 19 rfl (by decide +kernel) (by decide +kernel) (by decide +kernel) (fun _ _ _ h => h) (Or.inr ⟨by rfl, rfl⟩) ?_; try simp only [Act.put, List.setIfInBounds_toArray, List.set_cons_zero, List.set_cons_succ]) | skip); (first | (refine takeT 20 (v := ?_) rfl (by decide +kernel) (by decide +kernel) (by decide +kernel) (fun _ _ _ h => h) (by decide +kernel) (Or.inl ⟨by rfl, ?_⟩) ?_; rotate_left 1; (focus (intro W hW; have hcW := hW.at; (try dsimp only at hcW); go_simp; first | done | with_reducible rfl)); try simp only [Act.put, List.setIfInBounds_toArray, List.set_cons_zero, List.set_cons_succ]) | (refine takeW 20 (v := ?_) rfl (by decide +kernel) (by decide +kernel) (by decide +kernel) (fun _ _ _ h => h) (Or.inl ⟨by rfl, ?_⟩) ?_; rotate_left 1; (focus (intro W hW; go_simp; first | done | with_reducible rfl)); try simp only [Act.put, List.setIfInBounds_toArray, List.set_cons_zero, List.set_cons_succ]) | (refine takeW 20 rfl (by decide +kernel) (by decide +kernel) (by decide +kernel) (fun _ _ _ h => h) (Or.inr ⟨by rfl, rfl⟩) ?_; try simp only [Act.put, List.setIfInBounds_toArray, List.set_cons_zero, List.set_cons_succ]) | skip))
      refine doneT (by kernel_rfl) ?_
      refine ⟨_, _, _, _, _, _, _, _, _, _, _, _, _, _, _, _, _, _, _, A2, S1, F, rfl, grown_block hg7 B1.out.1 (fun e => by injection e with e; have := lb.out; omega), B1.out.2, fun hf => ?_, RL.out.grown hg7 (fun k hk e => nF7.out (e ▸ hk)) (by decide), fun k hk => ?_, Asr.grown HA2.out hg7 B7.out.2 hNg HN1.out, M1.out.grown_new hg7 l7.out⟩
      · exact (HFn.out b hf).elim HSb.out (fun h => by have := block_lt hb.out; omega)
      · have h1 := HF.out k hk
        have h3 := M0.out.size
        exact ⟨h1.1, h1.2.1, by omega, (HFn.out k hk).imp id (fun h => by omega)⟩
  rintro act y ⟨u7, u8, u15, u16, u17, u18, u19, u20, u21, u22, u23, u24, u25, u26, u27, u28, u29, u30, u31, A2, S1, F, rfl, hby, hS1b, hFb, hrl, hF, hA2, hmv⟩
  have HBy := Lib.hid hby
  have HF := Lib.hid hF
  have HRl := Lib.hid hrl
  have HA2 := Lib.hid hA2
  have HM := Lib.hid hmv
  have H1b := Lib.hid hS1b
  have HFb := Lib.hid hFb
  clear hby hF hrl hA2 hmv hS1b hFb KS
  have hmk := make_out 0 y (by omega) (by omega)
  rw [show (0 : Int).toNat = 0 from rfl, Nat.zero_mul, made_zero] at hmk
  have bb := (Below.refl y.heap.size y).alloc (Nat.le_refl _) (.cells #[] 74)
  have hb1 := (bb.block b (block_lt HBy.out)).trans HBy.out
  have f4 := block_free hb1 4
  have c4 := block_at hb1 (i := 4) rfl
  have Hb1 := Lib.hid hb1
  have Hbb := Lib.hid bb
  clear hb1 bb
  go_wp2
  go_loopw [9, 37] (fun t i W => t = .slice A2 l.length l.length ∧ i = .int .i64 0 ∧ W = y.alloc (.cells #[] 74)) (fun _ _ _ => 0)
  case atStart => exact ⟨rfl, rfl, rfl⟩
  case round =>
    obtain ⟨rfl, rfl, rfl⟩ := hrel
    go_wp2
    go_ret
    have hs := block_set Hb1.out 4 (.slice A2 l.length l.length)
    have hoth : ∀ k, k ≠ b → ((y.alloc (.cells #[] 74)).setCell ⟨b, 4, none⟩ (.slice A2 l.length l.length)).heap[k]? = (y.alloc (.cells #[] 74)).heap[k]? := fun k hk => Below.heap_setCell _ ⟨b, 4, none⟩ _ k hk
    have hsz : ((y.alloc (.cells #[] 74)).setCell ⟨b, 4, none⟩ (.slice A2 l.length l.length)).heap.size = (y.alloc (.cells #[] 74)).heap.size := by simp [World.setCell]
    have hsy := Hbb.out.size
    have hNy := Nat.le_trans HN.out HM.out.size
    refine ⟨_, _, A2, S1, F, rfl, hs, H1b.out, HFb.out, ((HRl.out.below Hbb.out (by decide)).mono (G := fun k => F k ∧ k ≠ b) fun k hk => ⟨hk, fun e => HFb.out (e ▸ hk)⟩).keep (fun k hk => hoth k hk.2) |>.mono fun k hk => hk.1, fun k hk => ?_, ?_, ?_⟩
    · have := HF.out k hk
      exact ⟨this.1, this.2.1, by rw [hsz]; omega, this.2.2.2⟩
    · exact ((D s').sep (W q')).loc (Asr.below HA2.out Hbb.out hNy) (by rw [hsz]; exact Nat.le_refl _) fun k hk => hoth k (fun e => by subst e; exact hk.elim H1b.out (fun h => by omega))
    · refine ((HM.out.trans (Mv.of_below S1 Hbb.out)).frame (G := fun k => k = b) fun k hk => ?_).setCell (p := ⟨b, 4, none⟩) (.inr rfl) _
      subst hk
      exact ⟨Hbw.out, HSb.out⟩
end
end Go.Proofs.YtgihpgdjkanodaaGreatDoor

