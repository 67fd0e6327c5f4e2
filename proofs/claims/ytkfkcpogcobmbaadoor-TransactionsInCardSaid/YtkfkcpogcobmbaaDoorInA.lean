/-
  Helper text, several in one; no statement is proved here.
-/
import Derived.Test.YtkfkcpogcobmbaaDoorRec
import Derived.Test.YtkfkcpogcobmbaaDoorScD
import Derived.Test.YtkfkcpogcobmbaaDoorOutA
import Derived.Test.YtkfkcpogcobmbaaDoorDoW
import Derived.Test.YtkfkcpogcobmbaaDoorLawOut
namespace Go.Proofs.YtkfkcpogcobmbaaDoor
open Go Go.RowKit

section
variable {P : Program} {ops : Array Oper} {rest : List Oper} {o : Oper} {a : Act} {w : World} {Q : Exit → Act → World → Prop} {K : Act → World → Prop}
/-- Two cells at a block's beginning are stored: only it changes. -/
theorem wpl_store2 {ty : TypeId} (hgd : o.guard = none) (x y : Operand) (ho : o.op = .store ty x y) (g : Nat) (hx : a.eval x = .pointer (some ⟨g, 0, none⟩)) (u v : Value) (hy : a.eval y = .agg #[u, v]) (h1 : u.oneCell' = true) (h2 : v.oneCell' = true) (hsz : (P.info? ty).map (·.size) = some 2)
    {t : Nat} {p q r : Value} (hg : w.heap[g]? = some (.cells #[p, q, r] t (0, 0)))
    (h : ∀ w', w'.heap[g]? = some (.cells #[u, v, r] t (0, 0)) → w.grownBy w' (some g) → w'.heap.size = w.heap.size → wpList P ops Q rest (a.put o.dst undef) w') : wpList P ops Q (o :: rest) a w := by
  refine wpList_plain hgd fun K hK => ?_
  have hc0 : w.cell? ⟨g, 0, none⟩ = some p := block_at hg rfl
  have hc1 : w.cell? ⟨g, 1, none⟩ = some q := block_at hg rfl
  have := run_storeCells_cells (P := P) g 0 [u, v] 0 w (fun j hj => by
    match j, hj with
    | 0, _ => simp [hc0]
    | 1, _ => simp [hc1]
    | j + 2, hj => exact absurd hj (by show ¬ j + 2 < 2; omega)) (fun j _ => by simp [World.frozen?, hg]) (fun z hz => by
    rcases List.mem_cons.1 hz with rfl | hz
    · exact h1
    · obtain rfl : z = v := by simpa using hz
      exact h2)
  have hrun : (storeVar ty ⟨g, 0, none⟩ (.agg #[u, v])).run P w = .ok () ((w.setCell ⟨g, 0, none⟩ u).setCell ⟨g, 1, none⟩ v) := by
    cases hq : P.info? ty with
    | none => simp [hq] at hsz
    | some j =>
      have hs : j.size = 2 := by simpa [hq] using hsz
      have hc : (Value.agg #[u, v]).cells = #[u, v] := rfl
      simp [storeVar, sizeOf, typeInfo, hq, hc, hs, this]
      rfl
  unfold Oper.wp execOp
  simp only [ho, hx, hy, Instr.storeAt, Instr.sureAddr, Sem.run_bind, Sem.run_pure, Result.andThen_ok, hrun]
  exact hK _ _ (h _ (block_set2 hg u v) (grown_set2 w g u v) (by simp [World.setCell]))
end

structure SndS where
  tog : Bool
  left : List (List UInt8)
  sent : Bool
def nakP : Pkt := ⟨10, 0, 0, 0, 0, 0, false, false, 0, []⟩
theorem nakP_ok : nakP.Ok := by constructor <;> decide
def daP (tg : Bool) (b : List UInt8) : Pkt := ⟨dpid tg, 0, 0, 0, 0, 0, false, false, 0, b⟩
/-- Behind an acknowledgement, if one was expected. -/
def ackS (s : SndS) (p : Pkt) : SndS := if p.pid = 2 ∧ s.sent = true then ⟨!s.tog, s.left.drop 1, false⟩ else ⟨s.tog, s.left, false⟩
def hearSnd (s : SndS) (p : Pkt) : SndS × Pkt × Bool :=
  if p.pid = 9 then
    (if (ackS s p).left.length = 0 then (ackS s p, nakP, true) else (⟨(ackS s p).tog, (ackS s p).left, true⟩, daP (ackS s p).tog ((ackS s p).left.getD 0 []), true))
  else (ackS s p, nakP, false)
/-- Block b is the device. -/
def sndA (N b : Nat) (s : SndS) : Asr N where
  holds F w := (∃ Ag cg, w.heap[b]? = some (.cells #[.bool s.tog, .slice Ag s.left.length cg, .bool s.sent] 97 (0, 0)) ∧ RdL layB (fun k => F k ∧ k ≠ b) w Ag cg s.left) ∧ F b ∧ ∀ k, F k → N ≤ k ∧ k < w.heap.size
  ge := fun h => h.2.2
  loc := fun ⟨⟨Ag, cg, h1, h2⟩, h3, h4⟩ hs hk => ⟨⟨Ag, cg, (hk _ (.inl h3)).trans h1, h2.keep fun k h => hk k (.inl h.1)⟩, h3, fun k hf => ⟨(h4 k hf).1, Nat.lt_of_lt_of_le (h4 k hf).2 hs⟩⟩
def sndP (s : SndS) : Prop := Tg.Sml s.left ∧ (s.sent = true → 0 < s.left.length) ∧ ∀ j, (s.left.getD j []).length ≤ 1000000

theorem ackS_P (s : SndS) (p : Pkt) (h : sndP s) : Tg.Sml (ackS s p).left ∧ (ackS s p).sent = false ∧ ∀ j, ((ackS s p).left.getD j []).length ≤ 1000000 := by
  unfold ackS
  split
  · refine ⟨h.1.drop 1, rfl, fun j => ?_⟩
    have := h.2.2 (j + 1)
    simpa [List.getD, List.getElem?_drop] using this
  · exact ⟨h.1, rfl, h.2.2⟩
theorem daP_pid (t : Bool) (l : List UInt8) : (daP t l).pid < 256 := by
  unfold daP
  cases t
  · show (3 : Nat) < 256; decide
  · show (11 : Nat) < 256; decide
theorem range2 {w : World} {g t : Nat} {p q r : Value} (h : w.heap[g]? = some (.cells #[p, q, r] t (0, 0))) : w.rangeAt g 0 [p, q] := fun j v hj => by
  rw [Nat.zero_add]
  match j, hj with
  | 0, hj => obtain rfl : p = v := by simpa using hj
             exact block_at h rfl
  | 1, hj => obtain rfl : q = v := by simpa using hj
             exact block_at h rfl
  | j + 2, hj => simp at hj
set_option maxHeartbeats 6400000 in
set_option maxRecDepth 100000 in
theorem snd_any (w : World) (N b : Nat) (s : SndS) (F : Nat → Prop) (h : (sndA N b s).holds F w) (hP : sndP s) (p : Pkt) (ok : p.Ok) (A : Option Addr) (c : Nat) (hr : RdS (fun k => ¬ F k) w A c p.data) (hN : N ≤ w.heap.size) :
    Calls Tryd.prog 119 #[.pointer (some ⟨b, 0, none⟩), pkV p A c] w (HearPost (sndA N b (hearSnd s p).1) F w (hearSnd s p).2.1 (hearSnd s p).2.2) := by
  have hF := (sndA N b s).ge h
  obtain ⟨g0, g1, g2, g3⟩ := alloc2 w (pkB p A c) pkZ
  have h3 := Asr.below h g3 hN
  obtain ⟨⟨Ag, cg, e1, e2⟩, e4, e5⟩ := h3
  have hbw : b < w.heap.size := (hF b e4).2
  have Hbw := Lib.hid hbw
  have Hsml := Lib.hid hP.1
  have HP := Lib.hid hP
  obtain ⟨tog, left, sent⟩ := s
  simp only at e1 e2
  have p0 := block_at g0 (i := 0) (v := .int .u8 (p.pid : Int)) rfl
  have c2 := block_at e1 (i := 2) rfl
  have HF := Lib.hid hF
  have HN := Lib.hid hN
  have B0 := Lib.hid g0
  have B1 := Lib.hid g1
  have Hs := Lib.hid g2
  have Hb := Lib.hid g3
  have E1 := Lib.hid e1
  have E2 := Lib.hid e2
  have E4 := Lib.hid e4
  have E5 := Lib.hid e5
  clear g0 g1 g2 g3 e1 e2 e4 e5 hN hF h hP hr
  obtain ⟨R, hR⟩ : ∃ R, hearSnd ⟨tog, left, sent⟩ p = R := ⟨_, rfl⟩
  rw [hR]
  obtain ⟨S1, hS1⟩ : ∃ S1, ackS ⟨tog, left, sent⟩ p = S1 := ⟨_, rfl⟩
  unfold hearSnd at hR
  rw [hS1] at hR
  have hps := ackS_P ⟨tog, left, sent⟩ p HP.out
  rw [hS1] at hps
  obtain ⟨tg, lf, sn⟩ := S1
  obtain ⟨hq1, rfl, hq3⟩ := hps
  have Q1 := Lib.hid hq1
  have Q3 := Lib.hid hq3
  clear hq1 hq3
  have HR := Lib.hid hR
  have HS1 := Lib.hid hS1
  clear hR hS1
  obtain ⟨b2, hb2⟩ : ∃ x, (p.pid == 2) = x := ⟨_, rfl⟩
  obtain ⟨b9, hb9⟩ : ∃ x, (p.pid == 9) = x := ⟨_, rfl⟩
  have j2 : ((p.pid : Int) == 2) = b2 := (castEq p.pid 2).trans hb2
  have j9 : ((p.pid : Int) == 9) = b9 := (castEq p.pid 9).trans hb9
  have j9' : ((p.pid : Int) != 9) = !b9 := by rw [bne, j9]
  have h29 : b2 = true → b9 = false := by rw [← hb2, ← hb9]; intro h; rw [eq_of_beq h]; rfl
  have H29 := Lib.hid h29
  have HB2 := Lib.hid hb2
  have HB9 := Lib.hid hb9
  clear hb2 hb9 h29
  by_cases hk : b2 = true ∧ sent = true
  · obtain ⟨rfl, rfl⟩ := hk
    obtain rfl : b9 = false := H29.out rfl
    have hs1 : tg = (!tog) ∧ lf = left.drop 1 := by have := HS1.out; unfold ackS at this; rw [if_pos ⟨by simpa using HB2.out, rfl⟩] at this; injection this with h1 h2 h3; exact ⟨h1.symm, h2.symm⟩
    obtain ⟨rfl, hlf⟩ := hs1
    have hl0 : 0 < left.length := HP.out.2.1 rfl
    have KA := Lib.hid (Tg.acks_some ((w.alloc (pkB p A c)).alloc pkZ) tog Ag cg left ((E2.out.lt (by decide)).rds fun k hk => hk.2) hl0 Hsml.out)
    rw [← hlf] at KA
    have Hlf := Lib.hid hlf
    clear hlf hl0
    go_enter Tryd.func119, Tryd.ntmps119
    go_wp2_with (refine wpList_load_mid rfl _ (.tmp 22) rfl b 0 rfl [.bool tog, .slice Ag left.length cg] _ (range2 E1.out) Tryd.underlying82 rfl (by kernel_rfl) ?_)
    refine KA.out.mono ?_
    rintro e x1 ⟨g, he, hn4, bb⟩
    obtain ⟨A1, hA1⟩ : ∃ A1 : Option Addr, A1 = some ⟨g, 0, none⟩ := ⟨_, rfl⟩
    obtain ⟨c1, hc1⟩ : ∃ c1, c1 = lf.length := ⟨_, rfl⟩
    obtain ⟨tg, htg⟩ : ∃ tg, (!tog) = tg := ⟨_, rfl⟩
    rw [htg] at HR he
    obtain rfl : e = .returned (.tuple #[Tg.sv tg (.slice A1 lf.length c1), .int .i64 0]) := by rw [hA1, hc1]; exact he
    have HA1 := Lib.hid hA1
    have HC1 := Lib.hid hc1
    have HTG := Lib.hid htg
    clear p0 c2 KA he hA1 hc1 htg
    have X1 := Lib.hid ((bb.block _ (block_lt E1.out)).trans E1.out)
    have X2 := Lib.hid ((bb.block _ (block_lt B0.out)).trans B0.out)
    have X3 := Lib.hid ((bb.block _ (block_lt B1.out)).trans B1.out)
    have hsw : w.heap.size + 1 + 1 = ((w.alloc (pkB p A c)).alloc pkZ).heap.size := Hs.out.symm
    have X4 := Lib.hid ((News.rdl hn4 Q1.out).mono (G := fun k => w.heap.size + 1 + 1 ≤ k ∧ k < x1.heap.size) fun k hk => by omega)
    have XM := Lib.hid ((Mv.of_below F Hb.out).trans (Mv.of_below F bb))
    have XS := Lib.hid (show w.heap.size + 1 + 1 ≤ x1.heap.size by have := bb.size; omega)
    clear bb hn4 hsw
    go_wp2_with (first | (refine wpl_store2 rfl (.tmp 28) (.tmp 25) rfl b rfl _ _ rfl rfl rfl (by kernel_rfl) X1.out ?_; intro y3 k3 hg3 hs3; have K3 := Lib.hid k3; have G3 := Lib.hid hg3; have S3 := Lib.hid hs3; clear k3 hg3 hs3) | (refine wpl_storeC rfl (.tmp 31) (.const (.bool false)) rfl b 2 rfl _ rfl rfl (by kernel_rfl) K3.out (by simp) ?_; intro y4 k4 hg4 hs4; have h10 := block_at k4 (i := 0) rfl; have h11 := block_at k4 (i := 1) rfl))
    have hbw := Hbw.out
    have hxs := XS.out
    have s3 := S3.out
    have gg := Tg.grown_trans G3.out hg4
    have F1e : ∃ F1 : Nat → Prop, F1 = fun k => k = b ∨ (w.heap.size + 1 + 1 ≤ k ∧ k < x1.heap.size) := ⟨_, rfl⟩
    obtain ⟨F1, hF1⟩ := F1e
    have KB : y4.heap[b]? = some (.cells #[.bool tg, .slice A1 lf.length c1, .bool false] 97 (0, 0)) := k4
    have P0 := Lib.hid (grown_block gg X2.out (fun e => by injection e; omega))
    have P1 := Lib.hid (grown_block gg X3.out (fun e => by injection e; omega))
    have RL := Lib.hid (show RdL layB (fun k => F1 k ∧ k ≠ b) y4 A1 c1 lf by rw [HA1.out, HC1.out, hF1]; exact (X4.out.keep (w' := y4) (fun k hk => gg.block k hk.2 (fun e => by injection e; omega))).mono fun k hk => ⟨.inr hk, by omega⟩)
    have MY := Lib.hid (show Mv F w F1 y4 from ⟨gg.os.trans XM.out.os, gg.tape.trans XM.out.tape, gg.output.trans XM.out.output, Nat.le_trans XM.out.size gg.size, fun k hk hn2 => by rw [gg.block k (by omega) (fun e => hn2 (by injection e with e; rw [e]; exact E4.out)), XM.out.keep k hk hn2], fun k hk => by rw [hF1] at hk; exact hk.elim (fun e => .inl (by rw [e]; exact E4.out)) (fun h => .inr (by omega))⟩)
    have FB := Lib.hid (show F1 b by rw [hF1]; exact .inl rfl)
    have GE := Lib.hid (show ∀ k, F1 k → N ≤ k ∧ k < y4.heap.size from fun k hk => by rw [hF1] at hk; have := HN.out; have := (HF.out b E4.out).1; have := gg.size; rcases hk with rfl | hk <;> omega)
    have NF := Lib.hid (show ¬ F1 (w.heap.size + 1) by rw [hF1]; omega)
    replace KB := Lib.hid KB
    clear k4 h10 h11 hg4 hs4 gg hF1 HA1 HC1 HTG hbw hxs s3 X1 X2 X3 X4 XM K3 G3 S3 HS1 E1 E2 B0 B1
    obtain ⟨ln, hln⟩ : ∃ ln, lf.length = ln := ⟨_, rfl⟩
    have Hln := Lib.hid hln
    clear hln
    by_cases hz : lf.length = 0
    · have Hlz := Lib.hid hz
      rw [hz] at KB ⊢
      refine (Tg.offer_none y4 tg A1 c1).mono ?_
      rintro e z1 ⟨rfl, bb⟩
      have KB1 := Lib.hid ((bb.block _ (block_lt KB.out)).trans KB.out)
      have P01 := Lib.hid ((bb.block _ (block_lt P0.out)).trans P0.out)
      have P11 := Lib.hid ((bb.block _ (block_lt P1.out)).trans P1.out)
      have RL1 := Lib.hid (RL.out.below bb (by decide))
      have M1 := Lib.hid (MY.out.trans (Mv.of_below _ bb))
      have GE1 := Lib.hid (show ∀ k, F1 k → N ≤ k ∧ k < z1.heap.size from fun k hk => ⟨(GE.out k hk).1, Nat.lt_of_lt_of_le (GE.out k hk).2 bb.size⟩)
      clear bb
      have c0 := block_at P01.out (i := 0) (v := .int .u8 (p.pid : Int)) rfl
      have n1 : ¬ F1 (w.heap.size + 1) := NF.out
      have NF1 := Lib.hid n1
      clear n1
      clear hz
      · go_wp2
        refine startTP (S := fun a => a.block = w.heap.size) (T := []) (fun X => X.heap[b]? = some (.cells #[.bool tg, .slice A1 0 c1, .bool false] 97 (0, 0)) ∧ X.heap[w.heap.size]? = some (pkB p A c) ∧ X.heap[w.heap.size + 1]? = some pkZ ∧ RdL layB (fun k => F1 k ∧ k ≠ b) X A1 c1 lf ∧ Mv F w F1 X ∧ X.heap.size = z1.heap.size) 6 (by kernel_rfl) rfl (l := #[false, false, false, false, false, false]) rfl ⟨KB1.out, P01.out, P11.out, RL1.out.keep fun _ _ => rfl, M1.out.drew, rfl⟩ ?_
        clear c0
        rintro x0 ⟨q1, q2, q3, q4, q5, q6⟩
        have d0 := block_at q2 (i := 0) (v := .int .u8 (p.pid : Int)) rfl
        ((first | (refine takeT 0 (v := ?_) rfl (by decide +kernel) (by decide +kernel) (by decide +kernel) (fun _ _ _ h => h) (by decide +kernel) (Or.inl ⟨by rfl, ?_⟩) ?_; rotate_left 1; (focus (intro W hW; have hcW := hW.at; (try dsimp only at hcW); go_simp; first | done | with_reducible rfl)); try simp only [Act.put, List.setIfInBounds_toArray, List.set_cons_zero, List.set_cons_succ]) | (refine takeW 0 (v := ?_) rfl (by decide +kernel) (by decide +kernel) (by decide +kernel) (fun _ _ _ h => h) (Or.inl ⟨by rfl, ?_⟩) ?_; rotate_left 1; (focus (intro W hW; go_simp; first | done | with_reducible rfl)); try simp only [Act.put, List.setIfInBounds_toArray, List.set_cons_zero, List.set_cons_succ]) | (refine takeW 0 rfl (by decide +kernel) (by decide +kernel) (by decide +kernel) (fun _ _ _ h => h) (Or.inr ⟨by rfl, rfl⟩) ?_; try simp only [Act.put, List.setIfInBounds_toArray, List.set_cons_zero, List.set_cons_succ]) | skip); (first | (refine takeT 1 (v := ?_) rfl (by decide +kernel) (by decide +kernel) (by decide +kernel) (fun _ _ _ h => h) (by decide +kernel) (Or.inl ⟨by rfl, ?_⟩) ?_; rotate_left 1; (focus (intro W hW; have hcW := hW.at; (try dsimp only at hcW); go_simp; first | done | with_reducible rfl)); try simp only [Act.put, List.setIfInBounds_toArray, List.set_cons_zero, List.set_cons_succ]) | (refine takeW 1 (v := ?_) rfl (by decide +kernel) (by decide +kernel) (by decide +kernel) (fun _ _ _ h => h) (Or.inl ⟨by rfl, ?_⟩) ?_; rotate_left 1; (focus (intro W hW; go_simp; first | done | with_reducible rfl)); try simp only [Act.put, List.setIfInBounds_toArray, List.set_cons_zero, List.set_cons_succ]) | (refine takeW 1 rfl (by decide +kernel) (by decide +kernel) (by decide +kernel) (fun _ _ _ h => h) (Or.inr ⟨by rfl, rfl⟩) ?_; try simp only [Act.put, List.setIfInBounds_toArray, List.set_cons_zero, List.set_cons_succ]) | skip); (first | (refine takeT 2 (v := ?_) rfl (by decide +kernel) (by decide +kernel) (by decide +kernel) (fun _ _ _ h => h) (by decide +kernel) (Or.inl ⟨by rfl, ?_⟩) ?_; rotate_left 1; (focus (intro W hW; have hcW := hW.at; (try dsimp only at hcW); go_simp; first | done | with_reducible rfl)); try simp only [Act.put, List.setIfInBounds_toArray, List.set_cons_zero, List.set_cons_succ]) | (refine takeW 2 (v := ?_) rfl (by decide +kernel) (by decide +kernel) (by decide +kernel) (fun _ _ _ h => h) (Or.inl ⟨by rfl, ?_⟩) ?_; rotate_left 1; (focus (intro W hW; go_simp; first | done | with_reducible rfl)); try simp only [Act.put, List.setIfInBounds_toArray, List.set_cons_zero, List.set_cons_succ]) | (refine takeW 2 rfl (by decide +kernel) (by decide +kernel) (by decide +kernel) (fun _ _ _ h => h) (Or.inr ⟨by rfl, rfl⟩) ?_; try simp only [Act.put, List.setIfInBounds_toArray, List.set_cons_zero, List.set_cons_succ]) | skip); (first | (refine takeT 3 (v := ?_) rfl (by decide +kernel) (by decide +kernel) (by decide +kernel) (fun _ _ _ h => h) (by decide +kernel) (Or.inl ⟨by rfl, ?_⟩) ?_; rotate_left 1; (focus (intro W hW; have hcW := hW.at; (try dsimp only at hcW); go_simp; first | done | with_reducible rfl)); try simp only [Act.put, List.setIfInBounds_toArray, List.set_cons_zero, List.set_cons_succ]) | (refine takeW 3 (v := ?_) rfl (by decide +kernel) (by decide +kernel) (by decide +kernel) (fun _ _ _ h => h) (Or.inl ⟨by rfl, ?_⟩) ?_; rotate_left 1; (focus (intro W hW; go_simp; first | done | with_reducible rfl)); try simp only [Act.put, List.setIfInBounds_toArray, List.set_cons_zero, List.set_cons_succ]) | (refine takeW 3 rfl (by decide +kernel) (by decide +kernel) (by decide +kernel) (fun _ _ _ h => h) (Or.inr ⟨by rfl, rfl⟩) ?_; try simp only [Act.put, List.setIfInBounds_toArray, List.set_cons_zero, List.set_cons_succ]) | skip))
        clear d0
        refine stepT 4 rfl (by decide +kernel) (by rfl) ?_
        intro K hK
        refine wp_storeB flatPk (.tmp 4) (.tmp 48) rfl (w.heap.size + 1) rfl _ rfl q3 rfl rfl rfl ?_
        intro z kz hgz hsz
        refine hK _ _ (.inr (sm_grown hgz hsz fun a (ha : a.block = w.heap.size) => by omega)) ?_
        clear hK K
        try simp only [Act.put, List.setIfInBounds_toArray, List.set_cons_zero, List.set_cons_succ]
        ((first | (refine takeT 5 (v := ?_) rfl (by decide +kernel) (by decide +kernel) (by decide +kernel) (fun _ _ _ h => h) (by decide +kernel) (Or.inl ⟨by rfl, ?_⟩) ?_; rotate_left 1; (focus (intro W hW; have hcW := hW.at; (try dsimp only at hcW); go_simp; first | done | with_reducible rfl)); try simp only [Act.put, List.setIfInBounds_toArray, List.set_cons_zero, List.set_cons_succ]) | (refine takeW 5 (v := ?_) rfl (by decide +kernel) (by decide +kernel) (by decide +kernel) (fun _ _ _ h => h) (Or.inl ⟨by rfl, ?_⟩) ?_; rotate_left 1; (focus (intro W hW; go_simp; first | done | with_reducible rfl)); try simp only [Act.put, List.setIfInBounds_toArray, List.set_cons_zero, List.set_cons_succ]) | (refine takeW 5 rfl (by decide +kernel) (by decide +kernel) (by decide +kernel) (fun _ _ _ h => h) (Or.inr ⟨by rfl, rfl⟩) ?_; try simp only [Act.put, List.setIfInBounds_toArray, List.set_cons_zero, List.set_cons_succ]) | skip))
        refine doneT (by kernel_rfl) ?_
        have Z := Lib.hid (show _ ∧ _ ∧ _ ∧ _ ∧ _ from ⟨q1, q4, q5, q6, hgz⟩)
        have Kz := Lib.hid kz
        clear q1 q2 q3 q4 q5 q6 hgz kz hsz
        go_wp2
        refine bodyPost_ret (ret_cell_tmp flatPk rfl _ (w.heap.size + 1) rfl Kz.out rfl) rfl ?_
        have hrr : ((⟨tg, lf, false⟩ : SndS), nakP, false) = R := by have := HR.out; rw [if_neg (by simpa using HB9.out)] at this; exact this
        subst hrr
        obtain ⟨a1, a2, a3, a4, a5⟩ := Z.out
        have hw := M1.out.size
        have hh : (sndA N b ⟨tg, lf, false⟩).holds F1 x0 := ⟨⟨A1, c1, by rw [show (⟨tg, lf, false⟩ : SndS).left.length = 0 from Hlz.out]; exact a1, a2⟩, FB.out, fun k hk => by rw [a4]; exact GE1.out k hk⟩
        have hn := HN.out
        exact ⟨none, 0, F1, rfl, nakP_ok, RdS.nil _, Asr.grown hh a5 NF1.out (by omega) (by omega), a3.grown_new a5 (by omega)⟩
    · have Hlz := Lib.hid hz
      have KO := Lib.hid (Tg.offer_some y4 tg A1 c1 lf ((RL.out.lt (by decide)).rds fun k hk => hk.2) (by omega) Q1.out)
      have GEb := Lib.hid (show b < y4.heap.size from block_lt KB.out)
      have PYs := Lib.hid (show w.heap.size + 1 < y4.heap.size from block_lt P1.out)
      clear hz
      refine (KO.out).mono ?_
      rintro e z1 ⟨q, rfl, hq, hrow, bb⟩
      have KB1 := Lib.hid ((bb.block _ (block_lt KB.out)).trans KB.out)
      have P01 := Lib.hid ((bb.block _ (block_lt P0.out)).trans P0.out)
      have P11 := Lib.hid ((bb.block _ (block_lt P1.out)).trans P1.out)
      have RL1 := Lib.hid (RL.out.below bb (by decide))
      have M1 := Lib.hid (MY.out.trans (Mv.of_below _ bb))
      have GE1 := Lib.hid (show ∀ k, F1 k → N ≤ k ∧ k < z1.heap.size from fun k hk => ⟨(GE.out k hk).1, Nat.lt_of_lt_of_le (GE.out k hk).2 bb.size⟩)
      have Rw := Lib.hid (row_rds hrow hq (by have := Q3.out 0; omega))
      have hyy := MY.out.size
      have Hzs := Lib.hid (show w.heap.size ≤ y4.heap.size from hyy)
      clear bb hrow hq hyy
      have c0 := block_at P01.out (i := 0) (v := .int .u8 (p.pid : Int)) rfl
      have n1 : ¬ F1 (w.heap.size + 1) := NF.out
      have NF1 := Lib.hid n1
      clear n1
      · go_wp2
        refine startTP (S := fun a => a.block = w.heap.size) (T := []) (fun X => X.heap[b]? = some (.cells #[.bool tg, .slice A1 lf.length c1, .bool false] 97 (0, 0)) ∧ X.heap[w.heap.size]? = some (pkB p A c) ∧ X.heap[w.heap.size + 1]? = some pkZ ∧ RdL layB (fun k => F1 k ∧ k ≠ b) X A1 c1 lf ∧ Mv F w F1 X ∧ X.heap.size = z1.heap.size) 6 (by kernel_rfl) rfl (l := #[false, false, false, false, false, false]) rfl ⟨KB1.out, P01.out, P11.out, RL1.out.keep fun _ _ => rfl, M1.out.drew, rfl⟩ ?_
        clear c0
        rintro x0 ⟨q1, q2, q3, q4, q5, q6⟩
        have d0 := block_at q2 (i := 0) (v := .int .u8 (p.pid : Int)) rfl
        ((first | (refine takeT 0 (v := ?_) rfl (by decide +kernel) (by decide +kernel) (by decide +kernel) (fun _ _ _ h => h) (by decide +kernel) (Or.inl ⟨by rfl, ?_⟩) ?_; rotate_left 1; (focus (intro W hW; have hcW := hW.at; (try dsimp only at hcW); go_simp; first | done | with_reducible rfl)); try simp only [Act.put, List.setIfInBounds_toArray, List.set_cons_zero, List.set_cons_succ]) | (refine takeW 0 (v := ?_) rfl (by decide +kernel) (by decide +kernel) (by decide +kernel) (fun _ _ _ h => h) (Or.inl ⟨by rfl, ?_⟩) ?_; rotate_left 1; (focus (intro W hW; go_simp; first | done | with_reducible rfl)); try simp only [Act.put, List.setIfInBounds_toArray, List.set_cons_zero, List.set_cons_succ]) | (refine takeW 0 rfl (by decide +kernel) (by decide +kernel) (by decide +kernel) (fun _ _ _ h => h) (Or.inr ⟨by rfl, rfl⟩) ?_; try simp only [Act.put, List.setIfInBounds_toArray, List.set_cons_zero, List.set_cons_succ]) | skip); (first | (refine takeT 1 (v := ?_) rfl (by decide +kernel) (by decide +kernel) (by decide +kernel) (fun _ _ _ h => h) (by decide +kernel) (Or.inl ⟨by rfl, ?_⟩) ?_; rotate_left 1; (focus (intro W hW; have hcW := hW.at; (try dsimp only at hcW); go_simp; first | done | with_reducible rfl)); try simp only [Act.put, List.setIfInBounds_toArray, List.set_cons_zero, List.set_cons_succ]) | (refine takeW 1 (v := ?_) rfl (by decide +kernel) (by decide +kernel) (by decide +kernel) (fun _ _ _ h => h) (Or.inl ⟨by rfl, ?_⟩) ?_; rotate_left 1; (focus (intro W hW; go_simp; first | done | with_reducible rfl)); try simp only [Act.put, List.setIfInBounds_toArray, List.set_cons_zero, List.set_cons_succ]) | (refine takeW 1 rfl (by decide +kernel) (by decide +kernel) (by decide +kernel) (fun _ _ _ h => h) (Or.inr ⟨by rfl, rfl⟩) ?_; try simp only [Act.put, List.setIfInBounds_toArray, List.set_cons_zero, List.set_cons_succ]) | skip); (first | (refine takeT 2 (v := ?_) rfl (by decide +kernel) (by decide +kernel) (by decide +kernel) (fun _ _ _ h => h) (by decide +kernel) (Or.inl ⟨by rfl, ?_⟩) ?_; rotate_left 1; (focus (intro W hW; have hcW := hW.at; (try dsimp only at hcW); go_simp; first | done | with_reducible rfl)); try simp only [Act.put, List.setIfInBounds_toArray, List.set_cons_zero, List.set_cons_succ]) | (refine takeW 2 (v := ?_) rfl (by decide +kernel) (by decide +kernel) (by decide +kernel) (fun _ _ _ h => h) (Or.inl ⟨by rfl, ?_⟩) ?_; rotate_left 1; (focus (intro W hW; go_simp; first | done | with_reducible rfl)); try simp only [Act.put, List.setIfInBounds_toArray, List.set_cons_zero, List.set_cons_succ]) | (refine takeW 2 rfl (by decide +kernel) (by decide +kernel) (by decide +kernel) (fun _ _ _ h => h) (Or.inr ⟨by rfl, rfl⟩) ?_; try simp only [Act.put, List.setIfInBounds_toArray, List.set_cons_zero, List.set_cons_succ]) | skip); (first | (refine takeT 3 (v := ?_) rfl (by decide +kernel) (by decide +kernel) (by decide +kernel) (fun _ _ _ h => h) (by decide +kernel) (Or.inl ⟨by rfl, ?_⟩) ?_; rotate_left 1; (focus (intro W hW; have hcW := hW.at; (try dsimp only at hcW); go_simp; first | done | with_reducible rfl)); try simp only [Act.put, List.setIfInBounds_toArray, List.set_cons_zero, List.set_cons_succ]) | (refine takeW 3 (v := ?_) rfl (by decide +kernel) (by decide +kernel) (by decide +kernel) (fun _ _ _ h => h) (Or.inl ⟨by rfl, ?_⟩) ?_; rotate_left 1; (focus (intro W hW; go_simp; first | done | with_reducible rfl)); try simp only [Act.put, List.setIfInBounds_toArray, List.set_cons_zero, List.set_cons_succ]) | (refine takeW 3 rfl (by decide +kernel) (by decide +kernel) (by decide +kernel) (fun _ _ _ h => h) (Or.inr ⟨by rfl, rfl⟩) ?_; try simp only [Act.put, List.setIfInBounds_toArray, List.set_cons_zero, List.set_cons_succ]) | skip))
        clear d0
        refine stepT 4 rfl (by decide +kernel) (by rfl) ?_
        intro K hK
        refine wp_storeB flatPk (.tmp 4) (.tmp 48) rfl (w.heap.size + 1) rfl _ rfl q3 rfl rfl rfl ?_
        intro z kz hgz hsz
        refine hK _ _ (.inr (sm_grown hgz hsz fun a (ha : a.block = w.heap.size) => by omega)) ?_
        clear hK K
        try simp only [Act.put, List.setIfInBounds_toArray, List.set_cons_zero, List.set_cons_succ]
        ((first | (refine takeT 5 (v := ?_) rfl (by decide +kernel) (by decide +kernel) (by decide +kernel) (fun _ _ _ h => h) (by decide +kernel) (Or.inl ⟨by rfl, ?_⟩) ?_; rotate_left 1; (focus (intro W hW; have hcW := hW.at; (try dsimp only at hcW); go_simp; first | done | with_reducible rfl)); try simp only [Act.put, List.setIfInBounds_toArray, List.set_cons_zero, List.set_cons_succ]) | (refine takeW 5 (v := ?_) rfl (by decide +kernel) (by decide +kernel) (by decide +kernel) (fun _ _ _ h => h) (Or.inl ⟨by rfl, ?_⟩) ?_; rotate_left 1; (focus (intro W hW; go_simp; first | done | with_reducible rfl)); try simp only [Act.put, List.setIfInBounds_toArray, List.set_cons_zero, List.set_cons_succ]) | (refine takeW 5 rfl (by decide +kernel) (by decide +kernel) (by decide +kernel) (fun _ _ _ h => h) (Or.inr ⟨by rfl, rfl⟩) ?_; try simp only [Act.put, List.setIfInBounds_toArray, List.set_cons_zero, List.set_cons_succ]) | skip))
        refine doneT (by kernel_rfl) ?_
        have Z := Lib.hid (show _ ∧ _ ∧ _ ∧ _ ∧ _ from ⟨q1, q4, q5, q6, hgz⟩)
        have Kz := Lib.hid kz
        clear q1 q2 q3 q4 q5 q6 hgz kz hsz
        go_wp2
        refine bodyPost_ret (ret_cell_tmp flatPk rfl _ (w.heap.size + 1) rfl Kz.out rfl) rfl ?_
        have hrr : ((⟨tg, lf, false⟩ : SndS), nakP, false) = R := by have := HR.out; rw [if_neg (by simpa using HB9.out)] at this; exact this
        subst hrr
        obtain ⟨a1, a2, a3, a4, a5⟩ := Z.out
        have hw := M1.out.size
        have hh : (sndA N b ⟨tg, lf, false⟩).holds F1 x0 := ⟨⟨A1, c1, a1, a2⟩, FB.out, fun k hk => by rw [a4]; exact GE1.out k hk⟩
        have hn := HN.out
        exact ⟨none, 0, F1, rfl, nakP_ok, RdS.nil _, Asr.grown hh a5 NF1.out (by omega) (by omega), a3.grown_new a5 (by omega)⟩
  · have hs1 : tg = tog ∧ lf = left := by have := HS1.out; unfold ackS at this; rw [if_neg (fun h => hk ⟨by rw [← HB2.out]; simpa using h.1, h.2⟩)] at this; injection this with h1 h2 h3; exact ⟨h1.symm, h2.symm⟩
    obtain ⟨rfl, rfl⟩ := hs1
    have hsn : b2 = false ∨ sent = false := by cases b2 <;> cases sent <;> simp at hk ⊢
    have Hsn := Lib.hid hsn
    clear hk hsn
    go_enter Tryd.func119, Tryd.ntmps119
    have hw2 : w.heap.size ≤ ((w.alloc (pkB p A c)).alloc pkZ).heap.size := Hb.out.size
    cases b2
    · go_wp2_with (refine wpl_storeC rfl (.tmp 31) (.const (.bool false)) rfl b 2 rfl _ rfl rfl (by kernel_rfl) E1.out (by simp) ?_; intro y4 k4 hg4 hs4; have h10 := block_at k4 (i := 0) rfl; have h11 := block_at k4 (i := 1) rfl)
      clear p0 c2
      have hbw := Hbw.out
      have hg4' : ((w.alloc (pkB p A c)).alloc pkZ).grownBy y4 (some b) := hg4
      have hs4' : y4.heap.size = ((w.alloc (pkB p A c)).alloc pkZ).heap.size := hs4
      obtain ⟨F1, hF1⟩ : ∃ F1 : Nat → Prop, F1 = F := ⟨_, rfl⟩
      have KB : y4.heap[b]? = some (.cells #[.bool tg, .slice Ag lf.length cg, .bool false] 97 (0, 0)) := k4
      have P0 := Lib.hid (grown_block hg4' B0.out (fun e => by injection e; omega))
      have P1 := Lib.hid (grown_block hg4' B1.out (fun e => by injection e; omega))
      have RL := Lib.hid (show RdL layB (fun k => F1 k ∧ k ≠ b) y4 Ag cg lf by rw [hF1]; exact ((E2.out.lt (by decide)).keep (w' := y4) (fun k hk => hg4'.block k hk.2 (fun e => by injection e with e; exact hk.1.2 e))).mono fun k hk => hk.1)
      have MY := Lib.hid (show Mv F w F1 y4 by rw [hF1]; exact ⟨hg4'.os.trans Hb.out.os, hg4'.tape.trans Hb.out.tape, hg4'.output.trans Hb.out.output, Nat.le_trans hw2 hg4'.size, fun k hk hn2 => by rw [hg4'.block k (by omega) (fun e => hn2 (by injection e with e; rw [e]; exact E4.out)), Hb.out.block k hk], fun k hk => .inl hk⟩)
      have FB := Lib.hid (show F1 b by rw [hF1]; exact E4.out)
      have GE := Lib.hid (show ∀ k, F1 k → N ≤ k ∧ k < y4.heap.size from fun k hk => by rw [hF1] at hk; rw [hs4']; exact E5.out k hk)
      have NF := Lib.hid (show ¬ F1 (w.heap.size + 1) by rw [hF1]; intro h; have := HF.out _ h; omega)
      replace KB := Lib.hid KB
      clear k4 h10 h11 hg4 hs4 hg4' hs4' hF1 hbw hw2 HS1 E1 E2 B0 B1
      obtain ⟨ln, hln⟩ : ∃ ln, lf.length = ln := ⟨_, rfl⟩
      have Hln := Lib.hid hln
      clear hln
      by_cases hz : lf.length = 0
      · have Hlz := Lib.hid hz
        rw [hz] at KB ⊢
        refine (Tg.offer_none y4 tg Ag cg).mono ?_
        rintro e z1 ⟨rfl, bb⟩
        have KB1 := Lib.hid ((bb.block _ (block_lt KB.out)).trans KB.out)
        have P01 := Lib.hid ((bb.block _ (block_lt P0.out)).trans P0.out)
        have P11 := Lib.hid ((bb.block _ (block_lt P1.out)).trans P1.out)
        have RL1 := Lib.hid (RL.out.below bb (by decide))
        have M1 := Lib.hid (MY.out.trans (Mv.of_below _ bb))
        have GE1 := Lib.hid (show ∀ k, F1 k → N ≤ k ∧ k < z1.heap.size from fun k hk => ⟨(GE.out k hk).1, Nat.lt_of_lt_of_le (GE.out k hk).2 bb.size⟩)
        clear bb
        have c0 := block_at P01.out (i := 0) (v := .int .u8 (p.pid : Int)) rfl
        have n1 : ¬ F1 (w.heap.size + 1) := NF.out
        have NF1 := Lib.hid n1
        clear n1
        clear hz
        cases b9
        · go_wp2
          refine startTP (S := fun a => a.block = w.heap.size) (T := []) (fun X => X.heap[b]? = some (.cells #[.bool tg, .slice Ag 0 cg, .bool false] 97 (0, 0)) ∧ X.heap[w.heap.size]? = some (pkB p A c) ∧ X.heap[w.heap.size + 1]? = some pkZ ∧ RdL layB (fun k => F1 k ∧ k ≠ b) X Ag cg lf ∧ Mv F w F1 X ∧ X.heap.size = z1.heap.size) 6 (by kernel_rfl) rfl (l := #[false, false, false, false, false, false]) rfl ⟨KB1.out, P01.out, P11.out, RL1.out.keep fun _ _ => rfl, M1.out.drew, rfl⟩ ?_
          clear c0
          rintro x0 ⟨q1, q2, q3, q4, q5, q6⟩
          have d0 := block_at q2 (i := 0) (v := .int .u8 (p.pid : Int)) rfl
          ((first | (refine takeT 0 (v := ?_) rfl (by decide +kernel) (by decide +kernel) (by decide +kernel) (fun _ _ _ h => h) (by decide +kernel) (Or.inl ⟨by rfl, ?_⟩) ?_; rotate_left 1; (focus (intro W hW; have hcW := hW.at; (try dsimp only at hcW); go_simp; first | done | with_reducible rfl)); try simp only [Act.put, List.setIfInBounds_toArray, List.set_cons_zero, List.set_cons_succ]) | (refine takeW 0 (v := ?_) rfl (by decide +kernel) (by decide +kernel) (by decide +kernel) (fun _ _ _ h => h) (Or.inl ⟨by rfl, ?_⟩) ?_; rotate_left 1; (focus (intro W hW; go_simp; first | done | with_reducible rfl)); try simp only [Act.put, List.setIfInBounds_toArray, List.set_cons_zero, List.set_cons_succ]) | (refine takeW 0 rfl (by decide +kernel) (by decide +kernel) (by decide +kernel) (fun _ _ _ h => h) (Or.inr ⟨by rfl, rfl⟩) ?_; try simp only [Act.put, List.setIfInBounds_toArray, List.set_cons_zero, List.set_cons_succ]) | skip); (first | (refine takeT 1 (v := ?_) rfl (by decide +kernel) (by decide +kernel) (by decide +kernel) (fun _ _ _ h => h) (by decide +kernel) (Or.inl ⟨by rfl, ?_⟩) ?_; rotate_left 1; (focus (intro W hW; have hcW := hW.at; (try dsimp only at hcW); go_simp; first | done | with_reducible rfl)); try simp only [Act.put, List.setIfInBounds_toArray, List.set_cons_zero, List.set_cons_succ]) | (refine takeW 1 (v := ?_) rfl (by decide +kernel) (by decide +kernel) (by decide +kernel) (fun _ _ _ h => h) (Or.inl ⟨by rfl, ?_⟩) ?_; rotate_left 1; (focus (intro W hW; go_simp; first | done | with_reducible rfl)); try simp only [Act.put, List.setIfInBounds_toArray, List.set_cons_zero, List.set_cons_succ]) | (refine takeW 1 rfl (by decide +kernel) (by decide +kernel) (by decide +kernel) (fun _ _ _ h => h) (Or.inr ⟨by rfl, rfl⟩) ?_; try simp only [Act.put, List.setIfInBounds_toArray, List.set_cons_zero, List.set_cons_succ]) | skip); (first | (refine takeT 2 (v := ?_) rfl (by decide +kernel) (by decide +kernel) (by decide +kernel) (fun _ _ _ h => h) (by decide +kernel) (Or.inl ⟨by rfl, ?_⟩) ?_; rotate_left 1; (focus (intro W hW; have hcW := hW.at; (try dsimp only at hcW); go_simp; first | done | with_reducible rfl)); try simp only [Act.put, List.setIfInBounds_toArray, List.set_cons_zero, List.set_cons_succ]) | (refine takeW 2 (v := ?_) rfl (by decide +kernel) (by decide +kernel) (by decide +kernel) (fun _ _ _ h => h) (Or.inl ⟨by rfl, ?_⟩) ?_; rotate_left 1; (focus (intro W hW; go_simp; first | done | with_reducible rfl)); try simp only [Act.put, List.setIfInBounds_toArray, List.set_cons_zero, List.set_cons_succ]) | (refine takeW 2 rfl (by decide +kernel) (by decide +kernel) (by decide +kernel) (fun _ _ _ h => h) (Or.inr ⟨by rfl, rfl⟩) ?_; try simp only [Act.put, List.setIfInBounds_toArray, List.set_cons_zero, List.set_cons_succ]) | skip); (first | (refine takeT 3 (v := ?_) rfl (by decide +kernel) (by decide +kernel) (by decide +kernel) (fun _ _ _ h => h) (by decide +kernel) (Or.inl ⟨by rfl, ?_⟩) ?_; rotate_left 1; (focus (intro W hW; have hcW := hW.at; (try dsimp only at hcW); go_simp; first | done | with_reducible rfl)); try simp only [Act.put, List.setIfInBounds_toArray, List.set_cons_zero, List.set_cons_succ]) | (refine takeW 3 (v := ?_) rfl (by decide +kernel) (by decide +kernel) (by decide +kernel) (fun _ _ _ h => h) (Or.inl ⟨by rfl, ?_⟩) ?_; rotate_left 1; (focus (intro W hW; go_simp; first | done | with_reducible rfl)); try simp only [Act.put, List.setIfInBounds_toArray, List.set_cons_zero, List.set_cons_succ]) | (refine takeW 3 rfl (by decide +kernel) (by decide +kernel) (by decide +kernel) (fun _ _ _ h => h) (Or.inr ⟨by rfl, rfl⟩) ?_; try simp only [Act.put, List.setIfInBounds_toArray, List.set_cons_zero, List.set_cons_succ]) | skip))
          clear d0
          refine stepT 4 rfl (by decide +kernel) (by rfl) ?_
          intro K hK
          refine wp_storeB flatPk (.tmp 4) (.tmp 48) rfl (w.heap.size + 1) rfl _ rfl q3 rfl rfl rfl ?_
          intro z kz hgz hsz
          refine hK _ _ (.inr (sm_grown hgz hsz fun a (ha : a.block = w.heap.size) => by omega)) ?_
          clear hK K
          try simp only [Act.put, List.setIfInBounds_toArray, List.set_cons_zero, List.set_cons_succ]
          ((first | (refine takeT 5 (v := ?_) rfl (by decide +kernel) (by decide +kernel) (by decide +kernel) (fun _ _ _ h => h) (by decide +kernel) (Or.inl ⟨by rfl, ?_⟩) ?_; rotate_left 1; (focus (intro W hW; have hcW := hW.at; (try dsimp only at hcW); go_simp; first | done | with_reducible rfl)); try simp only [Act.put, List.setIfInBounds_toArray, List.set_cons_zero, List.set_cons_succ]) | (refine takeW 5 (v := ?_) rfl (by decide +kernel) (by decide +kernel) (by decide +kernel) (fun _ _ _ h => h) (Or.inl ⟨by rfl, ?_⟩) ?_; rotate_left 1; (focus (intro W hW; go_simp; first | done | with_reducible rfl)); try simp only [Act.put, List.setIfInBounds_toArray, List.set_cons_zero, List.set_cons_succ]) | (refine takeW 5 rfl (by decide +kernel) (by decide +kernel) (by decide +kernel) (fun _ _ _ h => h) (Or.inr ⟨by rfl, rfl⟩) ?_; try simp only [Act.put, List.setIfInBounds_toArray, List.set_cons_zero, List.set_cons_succ]) | skip))
          refine doneT (by kernel_rfl) ?_
          have Z := Lib.hid (show _ ∧ _ ∧ _ ∧ _ ∧ _ from ⟨q1, q4, q5, q6, hgz⟩)
          have Kz := Lib.hid kz
          clear q1 q2 q3 q4 q5 q6 hgz kz hsz
          go_wp2
          refine bodyPost_ret (ret_cell_tmp flatPk rfl _ (w.heap.size + 1) rfl Kz.out rfl) rfl ?_
          have hrr : ((⟨tg, lf, false⟩ : SndS), nakP, false) = R := by have := HR.out; rw [if_neg (by simpa using HB9.out)] at this; exact this
          subst hrr
          obtain ⟨a1, a2, a3, a4, a5⟩ := Z.out
          have hw := M1.out.size
          have hh : (sndA N b ⟨tg, lf, false⟩).holds F1 x0 := ⟨⟨Ag, cg, by rw [show (⟨tg, lf, false⟩ : SndS).left.length = 0 from Hlz.out]; exact a1, a2⟩, FB.out, fun k hk => by rw [a4]; exact GE1.out k hk⟩
          have hn := HN.out
          exact ⟨none, 0, F1, rfl, nakP_ok, RdS.nil _, Asr.grown hh a5 NF1.out (by omega) (by omega), a3.grown_new a5 (by omega)⟩
        · go_wp2
          refine startTP (S := fun a => a.block = w.heap.size) (T := []) (fun X => X.heap[b]? = some (.cells #[.bool tg, .slice Ag 0 cg, .bool false] 97 (0, 0)) ∧ X.heap[w.heap.size]? = some (pkB p A c) ∧ X.heap[w.heap.size + 1]? = some pkZ ∧ RdL layB (fun k => F1 k ∧ k ≠ b) X Ag cg lf ∧ Mv F w F1 X ∧ X.heap.size = z1.heap.size) 6 (by kernel_rfl) rfl (l := #[false, false, false, false, false, false]) rfl ⟨KB1.out, P01.out, P11.out, RL1.out.keep fun _ _ => rfl, M1.out.drew, rfl⟩ ?_
          clear c0
          rintro x0 ⟨q1, q2, q3, q4, q5, q6⟩
          have d0 := block_at q2 (i := 0) (v := .int .u8 (p.pid : Int)) rfl
          ((first | (refine takeT 0 (v := ?_) rfl (by decide +kernel) (by decide +kernel) (by decide +kernel) (fun _ _ _ h => h) (by decide +kernel) (Or.inl ⟨by rfl, ?_⟩) ?_; rotate_left 1; (focus (intro W hW; have hcW := hW.at; (try dsimp only at hcW); go_simp; first | done | with_reducible rfl)); try simp only [Act.put, List.setIfInBounds_toArray, List.set_cons_zero, List.set_cons_succ]) | (refine takeW 0 (v := ?_) rfl (by decide +kernel) (by decide +kernel) (by decide +kernel) (fun _ _ _ h => h) (Or.inl ⟨by rfl, ?_⟩) ?_; rotate_left 1; (focus (intro W hW; go_simp; first | done | with_reducible rfl)); try simp only [Act.put, List.setIfInBounds_toArray, List.set_cons_zero, List.set_cons_succ]) | (refine takeW 0 rfl (by decide +kernel) (by decide +kernel) (by decide +kernel) (fun _ _ _ h => h) (Or.inr ⟨by rfl, rfl⟩) ?_; try simp only [Act.put, List.setIfInBounds_toArray, List.set_cons_zero, List.set_cons_succ]) | skip); (first | (refine takeT 1 (v := ?_) rfl (by decide +kernel) (by decide +kernel) (by decide +kernel) (fun _ _ _ h => h) (by decide +kernel) (Or.inl ⟨by rfl, ?_⟩) ?_; rotate_left 1; (focus (intro W hW; have hcW := hW.at; (try dsimp only at hcW); go_simp; first | done | with_reducible rfl)); try simp only [Act.put, List.setIfInBounds_toArray, List.set_cons_zero, List.set_cons_succ]) | (refine takeW 1 (v := ?_) rfl (by decide +kernel) (by decide +kernel) (by decide +kernel) (fun _ _ _ h => h) (Or.inl ⟨by rfl, ?_⟩) ?_; rotate_left 1; (focus (intro W hW; go_simp; first | done | with_reducible rfl)); try simp only [Act.put, List.setIfInBounds_toArray, List.set_cons_zero, List.set_cons_succ]) | (refine takeW 1 rfl (by decide +kernel) (by decide +kernel) (by decide +kernel) (fun _ _ _ h => h) (Or.inr ⟨by rfl, rfl⟩) ?_; try simp only [Act.put, List.setIfInBounds_toArray, List.set_cons_zero, List.set_cons_succ]) | skip); (first | (refine takeT 2 (v := ?_) rfl (by decide +kernel) (by decide +kernel) (by decide +kernel) (fun _ _ _ h => h) (by decide +kernel) (Or.inl ⟨by rfl, ?_⟩) ?_; rotate_left 1; (focus (intro W hW; have hcW := hW.at; (try dsimp only at hcW); go_simp; first | done | with_reducible rfl)); try simp only [Act.put, List.setIfInBounds_toArray, List.set_cons_zero, List.set_cons_succ]) | (refine takeW 2 (v := ?_) rfl (by decide +kernel) (by decide +kernel) (by decide +kernel) (fun _ _ _ h => h) (Or.inl ⟨by rfl, ?_⟩) ?_; rotate_left 1; (focus (intro W hW; go_simp; first | done | with_reducible rfl)); try simp only [Act.put, List.setIfInBounds_toArray, List.set_cons_zero, List.set_cons_succ]) | (refine takeW 2 rfl (by decide +kernel) (by decide +kernel) (by decide +kernel) (fun _ _ _ h => h) (Or.inr ⟨by rfl, rfl⟩) ?_; try simp only [Act.put, List.setIfInBounds_toArray, List.set_cons_zero, List.set_cons_succ]) | skip); (first | (refine takeT 3 (v := ?_) rfl (by decide +kernel) (by decide +kernel) (by decide +kernel) (fun _ _ _ h => h) (by decide +kernel) (Or.inl ⟨by rfl, ?_⟩) ?_; rotate_left 1; (focus (intro W hW; have hcW := hW.at; (try dsimp only at hcW); go_simp; first | done | with_reducible rfl)); try simp only [Act.put, List.setIfInBounds_toArray, List.set_cons_zero, List.set_cons_succ]) | (refine takeW 3 (v := ?_) rfl (by decide +kernel) (by decide +kernel) (by decide +kernel) (fun _ _ _ h => h) (Or.inl ⟨by rfl, ?_⟩) ?_; rotate_left 1; (focus (intro W hW; go_simp; first | done | with_reducible rfl)); try simp only [Act.put, List.setIfInBounds_toArray, List.set_cons_zero, List.set_cons_succ]) | (refine takeW 3 rfl (by decide +kernel) (by decide +kernel) (by decide +kernel) (fun _ _ _ h => h) (Or.inr ⟨by rfl, rfl⟩) ?_; try simp only [Act.put, List.setIfInBounds_toArray, List.set_cons_zero, List.set_cons_succ]) | skip))
          clear d0
          refine stepT 4 rfl (by decide +kernel) (by rfl) ?_
          intro K hK
          refine wp_storeB flatPk (.tmp 4) (.tmp 48) rfl (w.heap.size + 1) rfl _ rfl q3 rfl rfl rfl ?_
          intro z kz hgz hsz
          refine hK _ _ (.inr (sm_grown hgz hsz fun a (ha : a.block = w.heap.size) => by omega)) ?_
          clear hK K
          try simp only [Act.put, List.setIfInBounds_toArray, List.set_cons_zero, List.set_cons_succ]
          ((first | (refine takeT 5 (v := ?_) rfl (by decide +kernel) (by decide +kernel) (by decide +kernel) (fun _ _ _ h => h) (by decide +kernel) (Or.inl ⟨by rfl, ?_⟩) ?_; rotate_left 1; (focus (intro W hW; have hcW := hW.at; (try dsimp only at hcW); go_simp; first | done | with_reducible rfl)); try simp only [Act.put, List.setIfInBounds_toArray, List.set_cons_zero, List.set_cons_succ]) | (refine takeW 5 (v := ?_) rfl (by decide +kernel) (by decide +kernel) (by decide +kernel) (fun _ _ _ h => h) (Or.inl ⟨by rfl, ?_⟩) ?_; rotate_left 1; (focus (intro W hW; go_simp; first | done | with_reducible rfl)); try simp only [Act.put, List.setIfInBounds_toArray, List.set_cons_zero, List.set_cons_succ]) | (refine takeW 5 rfl (by decide +kernel) (by decide +kernel) (by decide +kernel) (fun _ _ _ h => h) (Or.inr ⟨by rfl, rfl⟩) ?_; try simp only [Act.put, List.setIfInBounds_toArray, List.set_cons_zero, List.set_cons_succ]) | skip))
          refine doneT (by kernel_rfl) ?_
          have Z := Lib.hid (show _ ∧ _ ∧ _ ∧ _ ∧ _ from ⟨q1, q4, q5, q6, hgz⟩)
          have Kz := Lib.hid kz
          clear q1 q2 q3 q4 q5 q6 hgz kz hsz
          go_wp2
          refine bodyPost_ret (ret_cell_tmp flatPk rfl _ (w.heap.size + 1) rfl Kz.out rfl) rfl ?_
          have hrr : ((⟨tg, lf, false⟩ : SndS), nakP, true) = R := by have := HR.out; rw [if_pos (by simpa using HB9.out), if_pos (show lf.length = 0 from Hlz.out)] at this; exact this
          subst hrr
          obtain ⟨a1, a2, a3, a4, a5⟩ := Z.out
          have hw := M1.out.size
          have hh : (sndA N b ⟨tg, lf, false⟩).holds F1 x0 := ⟨⟨Ag, cg, by rw [show (⟨tg, lf, false⟩ : SndS).left.length = 0 from Hlz.out]; exact a1, a2⟩, FB.out, fun k hk => by rw [a4]; exact GE1.out k hk⟩
          have hn := HN.out
          exact ⟨none, 0, F1, rfl, nakP_ok, RdS.nil _, Asr.grown hh a5 NF1.out (by omega) (by omega), a3.grown_new a5 (by omega)⟩
      · have Hlz := Lib.hid hz
        have KO := Lib.hid (Tg.offer_some y4 tg Ag cg lf ((RL.out.lt (by decide)).rds fun k hk => hk.2) (by omega) Q1.out)
        have GEb := Lib.hid (show b < y4.heap.size from block_lt KB.out)
        have PYs := Lib.hid (show w.heap.size + 1 < y4.heap.size from block_lt P1.out)
        clear hz
        refine (KO.out).mono ?_
        rintro e z1 ⟨q, rfl, hq, hrow, bb⟩
        have KB1 := Lib.hid ((bb.block _ (block_lt KB.out)).trans KB.out)
        have P01 := Lib.hid ((bb.block _ (block_lt P0.out)).trans P0.out)
        have P11 := Lib.hid ((bb.block _ (block_lt P1.out)).trans P1.out)
        have RL1 := Lib.hid (RL.out.below bb (by decide))
        have M1 := Lib.hid (MY.out.trans (Mv.of_below _ bb))
        have GE1 := Lib.hid (show ∀ k, F1 k → N ≤ k ∧ k < z1.heap.size from fun k hk => ⟨(GE.out k hk).1, Nat.lt_of_lt_of_le (GE.out k hk).2 bb.size⟩)
        have Rw := Lib.hid (row_rds hrow hq (by have := Q3.out 0; omega))
        have hyy := MY.out.size
        have Hzs := Lib.hid (show w.heap.size ≤ y4.heap.size from hyy)
        clear bb hrow hq hyy
        have c0 := block_at P01.out (i := 0) (v := .int .u8 (p.pid : Int)) rfl
        have n1 : ¬ F1 (w.heap.size + 1) := NF.out
        have NF1 := Lib.hid n1
        clear n1
        cases b9
        · go_wp2
          refine startTP (S := fun a => a.block = w.heap.size) (T := []) (fun X => X.heap[b]? = some (.cells #[.bool tg, .slice Ag lf.length cg, .bool false] 97 (0, 0)) ∧ X.heap[w.heap.size]? = some (pkB p A c) ∧ X.heap[w.heap.size + 1]? = some pkZ ∧ RdL layB (fun k => F1 k ∧ k ≠ b) X Ag cg lf ∧ Mv F w F1 X ∧ X.heap.size = z1.heap.size) 6 (by kernel_rfl) rfl (l := #[false, false, false, false, false, false]) rfl ⟨KB1.out, P01.out, P11.out, RL1.out.keep fun _ _ => rfl, M1.out.drew, rfl⟩ ?_
          clear c0
          rintro x0 ⟨q1, q2, q3, q4, q5, q6⟩
          have d0 := block_at q2 (i := 0) (v := .int .u8 (p.pid : Int)) rfl
          ((first | (refine takeT 0 (v := ?_) rfl (by decide +kernel) (by decide +kernel) (by decide +kernel) (fun _ _ _ h => h) (by decide +kernel) (Or.inl ⟨by rfl, ?_⟩) ?_; rotate_left 1; (focus (intro W hW; have hcW := hW.at; (try dsimp only at hcW); go_simp; first | done | with_reducible rfl)); try simp only [Act.put, List.setIfInBounds_toArray, List.set_cons_zero, List.set_cons_succ]) | (refine takeW 0 (v := ?_) rfl (by decide +kernel) (by decide +kernel) (by decide +kernel) (fun _ _ _ h => h) (Or.inl ⟨by rfl, ?_⟩) ?_; rotate_left 1; (focus (intro W hW; go_simp; first | done | with_reducible rfl)); try simp only [Act.put, List.setIfInBounds_toArray, List.set_cons_zero, List.set_cons_succ]) | (refine takeW 0 rfl (by decide +kernel) (by decide +kernel) (by decide +kernel) (fun _ _ _ h => h) (Or.inr ⟨by rfl, rfl⟩) ?_; try simp only [Act.put, List.setIfInBounds_toArray, List.set_cons_zero, List.set_cons_succ]) | skip); (first | (refine takeT 1 (v := ?_) rfl (by decide +kernel) (by decide +kernel) (by decide +kernel) (fun _ _ _ h => h) (by decide +kernel) (Or.inl ⟨by rfl, ?_⟩) ?_; rotate_left 1; (focus (intro W hW; have hcW := hW.at; (try dsimp only at hcW); go_simp; first | done | with_reducible rfl)); try simp only [Act.put, List.setIfInBounds_toArray, List.set_cons_zero, List.set_cons_succ]) | (refine takeW 1 (v := ?_) rfl (by decide +kernel) (by decide +kernel) (by decide +kernel) (fun _ _ _ h => h) (Or.inl ⟨by rfl, ?_⟩) ?_; rotate_left 1; (focus (intro W hW; go_simp; first | done | with_reducible rfl)); try simp only [Act.put, List.setIfInBounds_toArray, List.set_cons_zero, List.set_cons_succ]) | (refine takeW 1 rfl (by decide +kernel) (by decide +kernel) (by decide +kernel) (fun _ _ _ h => h) (Or.inr ⟨by rfl, rfl⟩) ?_; try simp only [Act.put, List.setIfInBounds_toArray, List.set_cons_zero, List.set_cons_succ]) | skip); (first | (refine takeT 2 (v := ?_) rfl (by decide +kernel) (by decide +kernel) (by decide +kernel) (fun _ _ _ h => h) (by decide +kernel) (Or.inl ⟨by rfl, ?_⟩) ?_; rotate_left 1; (focus (intro W hW; have hcW := hW.at; (try dsimp only at hcW); go_simp; first | done | with_reducible rfl)); try simp only [Act.put, List.setIfInBounds_toArray, List.set_cons_zero, List.set_cons_succ]) | (refine takeW 2 (v := ?_) rfl (by decide +kernel) (by decide +kernel) (by decide +kernel) (fun _ _ _ h => h) (Or.inl ⟨by rfl, ?_⟩) ?_; rotate_left 1; (focus (intro W hW; go_simp; first | done | with_reducible rfl)); try simp only [Act.put, List.setIfInBounds_toArray, List.set_cons_zero, List.set_cons_succ]) | (refine takeW 2 rfl (by decide +kernel) (by decide +kernel) (by decide +kernel) (fun _ _ _ h => h) (Or.inr ⟨by rfl, rfl⟩) ?_; try simp only [Act.put, List.setIfInBounds_toArray, List.set_cons_zero, List.set_cons_succ]) | skip); (first | (refine takeT 3 (v := ?_) rfl (by decide +kernel) (by decide +kernel) (by decide +kernel) (fun _ _ _ h => h) (by decide +kernel) (Or.inl ⟨by rfl, ?_⟩) ?_; rotate_left 1; (focus (intro W hW; have hcW := hW.at; (try dsimp only at hcW); go_simp; first | done | with_reducible rfl)); try simp only [Act.put, List.setIfInBounds_toArray, List.set_cons_zero, List.set_cons_succ]) | (refine takeW 3 (v := ?_) rfl (by decide +kernel) (by decide +kernel) (by decide +kernel) (fun _ _ _ h => h) (Or.inl ⟨by rfl, ?_⟩) ?_; rotate_left 1; (focus (intro W hW; go_simp; first | done | with_reducible rfl)); try simp only [Act.put, List.setIfInBounds_toArray, List.set_cons_zero, List.set_cons_succ]) | (refine takeW 3 rfl (by decide +kernel) (by decide +kernel) (by decide +kernel) (fun _ _ _ h => h) (Or.inr ⟨by rfl, rfl⟩) ?_; try simp only [Act.put, List.setIfInBounds_toArray, List.set_cons_zero, List.set_cons_succ]) | skip))
          clear d0
          refine stepT 4 rfl (by decide +kernel) (by rfl) ?_
          intro K hK
          refine wp_storeB flatPk (.tmp 4) (.tmp 48) rfl (w.heap.size + 1) rfl _ rfl q3 rfl rfl rfl ?_
          intro z kz hgz hsz
          refine hK _ _ (.inr (sm_grown hgz hsz fun a (ha : a.block = w.heap.size) => by omega)) ?_
          clear hK K
          try simp only [Act.put, List.setIfInBounds_toArray, List.set_cons_zero, List.set_cons_succ]
          ((first | (refine takeT 5 (v := ?_) rfl (by decide +kernel) (by decide +kernel) (by decide +kernel) (fun _ _ _ h => h) (by decide +kernel) (Or.inl ⟨by rfl, ?_⟩) ?_; rotate_left 1; (focus (intro W hW; have hcW := hW.at; (try dsimp only at hcW); go_simp; first | done | with_reducible rfl)); try simp only [Act.put, List.setIfInBounds_toArray, List.set_cons_zero, List.set_cons_succ]) | (refine takeW 5 (v := ?_) rfl (by decide +kernel) (by decide +kernel) (by decide +kernel) (fun _ _ _ h => h) (Or.inl ⟨by rfl, ?_⟩) ?_; rotate_left 1; (focus (intro W hW; go_simp; first | done | with_reducible rfl)); try simp only [Act.put, List.setIfInBounds_toArray, List.set_cons_zero, List.set_cons_succ]) | (refine takeW 5 rfl (by decide +kernel) (by decide +kernel) (by decide +kernel) (fun _ _ _ h => h) (Or.inr ⟨by rfl, rfl⟩) ?_; try simp only [Act.put, List.setIfInBounds_toArray, List.set_cons_zero, List.set_cons_succ]) | skip))
          refine doneT (by kernel_rfl) ?_
          have Z := Lib.hid (show _ ∧ _ ∧ _ ∧ _ ∧ _ from ⟨q1, q4, q5, q6, hgz⟩)
          have Kz := Lib.hid kz
          clear q1 q2 q3 q4 q5 q6 hgz kz hsz
          go_wp2
          refine bodyPost_ret (ret_cell_tmp flatPk rfl _ (w.heap.size + 1) rfl Kz.out rfl) rfl ?_
          have hrr : ((⟨tg, lf, false⟩ : SndS), nakP, false) = R := by have := HR.out; rw [if_neg (by simpa using HB9.out)] at this; exact this
          subst hrr
          obtain ⟨a1, a2, a3, a4, a5⟩ := Z.out
          have hw := M1.out.size
          have hh : (sndA N b ⟨tg, lf, false⟩).holds F1 x0 := ⟨⟨Ag, cg, a1, a2⟩, FB.out, fun k hk => by rw [a4]; exact GE1.out k hk⟩
          have hn := HN.out
          exact ⟨none, 0, F1, rfl, nakP_ok, RdS.nil _, Asr.grown hh a5 NF1.out (by omega) (by omega), a3.grown_new a5 (by omega)⟩
        · cases tg
          · go_wp2_with (first | (refine wpl_storeC rfl (.tmp 54) (.const (.bool true)) rfl b 2 rfl _ rfl rfl (by kernel_rfl) KB1.out (by simp) ?_; intro y5 k5 hg5 hs5; have P15 := Lib.hid (grown_block hg5 P11.out (fun e => by injection e; have := Hbw.out; omega)); have K5 := Lib.hid k5; have G5 := Lib.hid hg5; have S5 := Lib.hid hs5; clear k5 hg5 hs5) | (refine wpl_storeB flatPk rfl (.tmp 4) (.tmp 59) rfl _ rfl _ rfl P15.out rfl rfl rfl ?_; intro y6 k6 hg6 hs6))
            refine bodyPost_ret (ret_cell_tmp flatPk rfl _ (w.heap.size + 1) rfl k6 rfl) rfl ?_
            have hrr : ((⟨false, lf, true⟩ : SndS), daP false (lf.getD 0 []), true) = R := by have := HR.out; rw [if_pos (by simpa using HB9.out), if_neg (show ¬ lf.length = 0 from Hlz.out)] at this; exact this
            subst hrr
            have hw := M1.out.size
            have hn := HN.out
            have hs5 := S5.out
            have hbw := Hbw.out
            have hzs := Hzs.out
            have rl5 : RdL layB (fun k => F1 k ∧ k ≠ b) y5 Ag cg lf := ((RL1.out.lt (by decide)).keep (w' := y5) (fun k hk => G5.out.block k hk.2 (fun e => by injection e with e; exact hk.1.2 e))).mono fun k hk => hk.1
            have hh : (sndA N b ⟨false, lf, true⟩).holds F1 y5 := ⟨⟨Ag, cg, K5.out, rl5⟩, FB.out, fun k hk => by rw [hs5]; exact GE1.out k hk⟩
            have rw5 := (Rw.out.grown G5.out (fun k hk e => by have := GEb.out; omega)).grown hg6 (fun k hk e => by have := GEb.out; have := PYs.out; omega)
            refine ⟨_, _, F1, rfl, ⟨daP_pid false _, by show (0:Nat) < 256; omega, by show (0:Nat) < 256; omega, by show (0:Nat) < 65536; omega, by show (0:Nat) < 256; omega, by show (0:Nat) < 256; omega, by show (0:Nat) < 256; omega, Q3.out 0⟩, rw5.mono (fun k hk => .inr (.inr (by omega))), Asr.grown hh hg6 NF1.out (by omega) (by omega), ?_⟩
            refine Mv.grown_new (w' := y5) ⟨G5.out.os.trans M1.out.os, G5.out.tape.trans M1.out.tape, G5.out.output.trans M1.out.output, by omega, fun k hk hn2 => ?_, M1.out.new⟩ hg6 (by omega)
            rw [G5.out.block k (by omega) (fun e => hn2 (by injection e with e; rw [e]; exact E4.out)), M1.out.keep k hk hn2]
          · go_wp2_with (first | (refine wpl_storeC rfl (.tmp 54) (.const (.bool true)) rfl b 2 rfl _ rfl rfl (by kernel_rfl) KB1.out (by simp) ?_; intro y5 k5 hg5 hs5; have P15 := Lib.hid (grown_block hg5 P11.out (fun e => by injection e; have := Hbw.out; omega)); have K5 := Lib.hid k5; have G5 := Lib.hid hg5; have S5 := Lib.hid hs5; clear k5 hg5 hs5) | (refine wpl_storeB flatPk rfl (.tmp 4) (.tmp 57) rfl _ rfl _ rfl P15.out rfl rfl rfl ?_; intro y6 k6 hg6 hs6))
            refine bodyPost_ret (ret_cell_tmp flatPk rfl _ (w.heap.size + 1) rfl k6 rfl) rfl ?_
            have hrr : ((⟨true, lf, true⟩ : SndS), daP true (lf.getD 0 []), true) = R := by have := HR.out; rw [if_pos (by simpa using HB9.out), if_neg (show ¬ lf.length = 0 from Hlz.out)] at this; exact this
            subst hrr
            have hw := M1.out.size
            have hn := HN.out
            have hs5 := S5.out
            have hbw := Hbw.out
            have hzs := Hzs.out
            have rl5 : RdL layB (fun k => F1 k ∧ k ≠ b) y5 Ag cg lf := ((RL1.out.lt (by decide)).keep (w' := y5) (fun k hk => G5.out.block k hk.2 (fun e => by injection e with e; exact hk.1.2 e))).mono fun k hk => hk.1
            have hh : (sndA N b ⟨true, lf, true⟩).holds F1 y5 := ⟨⟨Ag, cg, K5.out, rl5⟩, FB.out, fun k hk => by rw [hs5]; exact GE1.out k hk⟩
            have rw5 := (Rw.out.grown G5.out (fun k hk e => by have := GEb.out; omega)).grown hg6 (fun k hk e => by have := GEb.out; have := PYs.out; omega)
            refine ⟨_, _, F1, rfl, ⟨daP_pid true _, by show (0:Nat) < 256; omega, by show (0:Nat) < 256; omega, by show (0:Nat) < 65536; omega, by show (0:Nat) < 256; omega, by show (0:Nat) < 256; omega, by show (0:Nat) < 256; omega, Q3.out 0⟩, rw5.mono (fun k hk => .inr (.inr (by omega))), Asr.grown hh hg6 NF1.out (by omega) (by omega), ?_⟩
            refine Mv.grown_new (w' := y5) ⟨G5.out.os.trans M1.out.os, G5.out.tape.trans M1.out.tape, G5.out.output.trans M1.out.output, by omega, fun k hk hn2 => ?_, M1.out.new⟩ hg6 (by omega)
            rw [G5.out.block k (by omega) (fun e => hn2 (by injection e with e; rw [e]; exact E4.out)), M1.out.keep k hk hn2]
    · obtain rfl : sent = false := by rcases Hsn.out with h | h; cases h; exact h
      go_wp2_with (refine wpl_storeC rfl (.tmp 31) (.const (.bool false)) rfl b 2 rfl _ rfl rfl (by kernel_rfl) E1.out (by simp) ?_; intro y4 k4 hg4 hs4; have h10 := block_at k4 (i := 0) rfl; have h11 := block_at k4 (i := 1) rfl)
      clear p0 c2
      have hbw := Hbw.out
      have hg4' : ((w.alloc (pkB p A c)).alloc pkZ).grownBy y4 (some b) := hg4
      have hs4' : y4.heap.size = ((w.alloc (pkB p A c)).alloc pkZ).heap.size := hs4
      obtain ⟨F1, hF1⟩ : ∃ F1 : Nat → Prop, F1 = F := ⟨_, rfl⟩
      have KB : y4.heap[b]? = some (.cells #[.bool tg, .slice Ag lf.length cg, .bool false] 97 (0, 0)) := k4
      have P0 := Lib.hid (grown_block hg4' B0.out (fun e => by injection e; omega))
      have P1 := Lib.hid (grown_block hg4' B1.out (fun e => by injection e; omega))
      have RL := Lib.hid (show RdL layB (fun k => F1 k ∧ k ≠ b) y4 Ag cg lf by rw [hF1]; exact ((E2.out.lt (by decide)).keep (w' := y4) (fun k hk => hg4'.block k hk.2 (fun e => by injection e with e; exact hk.1.2 e))).mono fun k hk => hk.1)
      have MY := Lib.hid (show Mv F w F1 y4 by rw [hF1]; exact ⟨hg4'.os.trans Hb.out.os, hg4'.tape.trans Hb.out.tape, hg4'.output.trans Hb.out.output, Nat.le_trans hw2 hg4'.size, fun k hk hn2 => by rw [hg4'.block k (by omega) (fun e => hn2 (by injection e with e; rw [e]; exact E4.out)), Hb.out.block k hk], fun k hk => .inl hk⟩)
      have FB := Lib.hid (show F1 b by rw [hF1]; exact E4.out)
      have GE := Lib.hid (show ∀ k, F1 k → N ≤ k ∧ k < y4.heap.size from fun k hk => by rw [hF1] at hk; rw [hs4']; exact E5.out k hk)
      have NF := Lib.hid (show ¬ F1 (w.heap.size + 1) by rw [hF1]; intro h; have := HF.out _ h; omega)
      replace KB := Lib.hid KB
      clear k4 h10 h11 hg4 hs4 hg4' hs4' hF1 hbw hw2 HS1 E1 E2 B0 B1
      obtain ⟨ln, hln⟩ : ∃ ln, lf.length = ln := ⟨_, rfl⟩
      have Hln := Lib.hid hln
      clear hln
      by_cases hz : lf.length = 0
      · have Hlz := Lib.hid hz
        rw [hz] at KB ⊢
        refine (Tg.offer_none y4 tg Ag cg).mono ?_
        rintro e z1 ⟨rfl, bb⟩
        have KB1 := Lib.hid ((bb.block _ (block_lt KB.out)).trans KB.out)
        have P01 := Lib.hid ((bb.block _ (block_lt P0.out)).trans P0.out)
        have P11 := Lib.hid ((bb.block _ (block_lt P1.out)).trans P1.out)
        have RL1 := Lib.hid (RL.out.below bb (by decide))
        have M1 := Lib.hid (MY.out.trans (Mv.of_below _ bb))
        have GE1 := Lib.hid (show ∀ k, F1 k → N ≤ k ∧ k < z1.heap.size from fun k hk => ⟨(GE.out k hk).1, Nat.lt_of_lt_of_le (GE.out k hk).2 bb.size⟩)
        clear bb
        have c0 := block_at P01.out (i := 0) (v := .int .u8 (p.pid : Int)) rfl
        have n1 : ¬ F1 (w.heap.size + 1) := NF.out
        have NF1 := Lib.hid n1
        clear n1
        clear hz
        cases b9
        · go_wp2
          refine startTP (S := fun a => a.block = w.heap.size) (T := []) (fun X => X.heap[b]? = some (.cells #[.bool tg, .slice Ag 0 cg, .bool false] 97 (0, 0)) ∧ X.heap[w.heap.size]? = some (pkB p A c) ∧ X.heap[w.heap.size + 1]? = some pkZ ∧ RdL layB (fun k => F1 k ∧ k ≠ b) X Ag cg lf ∧ Mv F w F1 X ∧ X.heap.size = z1.heap.size) 6 (by kernel_rfl) rfl (l := #[false, false, false, false, false, false]) rfl ⟨KB1.out, P01.out, P11.out, RL1.out.keep fun _ _ => rfl, M1.out.drew, rfl⟩ ?_
          clear c0
          rintro x0 ⟨q1, q2, q3, q4, q5, q6⟩
          have d0 := block_at q2 (i := 0) (v := .int .u8 (p.pid : Int)) rfl
          ((first | (refine takeT 0 (v := ?_) rfl (by decide +kernel) (by decide +kernel) (by decide +kernel) (fun _ _ _ h => h) (by decide +kernel) (Or.inl ⟨by rfl, ?_⟩) ?_; rotate_left 1; (focus (intro W hW; have hcW := hW.at; (try dsimp only at hcW); go_simp; first | done | with_reducible rfl)); try simp only [Act.put, List.setIfInBounds_toArray, List.set_cons_zero, List.set_cons_succ]) | (refine takeW 0 (v := ?_) rfl (by decide +kernel) (by decide +kernel) (by decide +kernel) (fun _ _ _ h => h) (Or.inl ⟨by rfl, ?_⟩) ?_; rotate_left 1; (focus (intro W hW; go_simp; first | done | with_reducible rfl)); try simp only [Act.put, List.setIfInBounds_toArray, List.set_cons_zero, List.set_cons_succ]) | (refine takeW 0 rfl (by decide +kernel) (by decide +kernel) (by decide +kernel) (fun _ _ _ h => h) (Or.inr ⟨by rfl, rfl⟩) ?_; try simp only [Act.put, List.setIfInBounds_toArray, List.set_cons_zero, List.set_cons_succ]) | skip); (first | (refine takeT 1 (v := ?_) rfl (by decide +kernel) (by decide +kernel) (by decide +kernel) (fun _ _ _ h => h) (by decide +kernel) (Or.inl ⟨by rfl, ?_⟩) ?_; rotate_left 1; (focus (intro W hW; have hcW := hW.at; (try dsimp only at hcW); go_simp; first | done | with_reducible rfl)); try simp only [Act.put, List.setIfInBounds_toArray, List.set_cons_zero, List.set_cons_succ]) | (refine takeW 1 (v := ?_) rfl (by decide +kernel) (by decide +kernel) (by decide +kernel) (fun _ _ _ h => h) (Or.inl ⟨by rfl, ?_⟩) ?_; rotate_left 1; (focus (intro W hW; go_simp; first | done | with_reducible rfl)); try simp only [Act.put, List.setIfInBounds_toArray, List.set_cons_zero, List.set_cons_succ]) | (refine takeW 1 rfl (by decide +kernel) (by decide +kernel) (by decide +kernel) (fun _ _ _ h => h) (Or.inr ⟨by rfl, rfl⟩) ?_; try simp only [Act.put, List.setIfInBounds_toArray, List.set_cons_zero, List.set_cons_succ]) | skip); (first | (refine takeT 2 (v := ?_) rfl (by decide +kernel) (by decide +kernel) (by decide +kernel) (fun _ _ _ h => h) (by decide +kernel) (Or.inl ⟨by rfl, ?_⟩) ?_; rotate_left 1; (focus (intro W hW; have hcW := hW.at; (try dsimp only at hcW); go_simp; first | done | with_reducible rfl)); try simp only [Act.put, List.setIfInBounds_toArray, List.set_cons_zero, List.set_cons_succ]) | (refine takeW 2 (v := ?_) rfl (by decide +kernel) (by decide +kernel) (by decide +kernel) (fun _ _ _ h => h) (Or.inl ⟨by rfl, ?_⟩) ?_; rotate_left 1; (focus (intro W hW; go_simp; first | done | with_reducible rfl)); try simp only [Act.put, List.setIfInBounds_toArray, List.set_cons_zero, List.set_cons_succ]) | (refine takeW 2 rfl (by decide +kernel) (by decide +kernel) (by decide +kernel) (fun _ _ _ h => h) (Or.inr ⟨by rfl, rfl⟩) ?_; try simp only [Act.put, List.setIfInBounds_toArray, List.set_cons_zero, List.set_cons_succ]) | skip); (first | (refine takeT 3 (v := ?_) rfl (by decide +kernel) (by decide +kernel) (by decide +kernel) (fun _ _ _ h => h) (by decide +kernel) (Or.inl ⟨by rfl, ?_⟩) ?_; rotate_left 1; (focus (intro W hW; have hcW := hW.at; (try dsimp only at hcW); go_simp; first | done | with_reducible rfl)); try simp only [Act.put, List.setIfInBounds_toArray, List.set_cons_zero, List.set_cons_succ]) | (refine takeW 3 (v := ?_) rfl (by decide +kernel) (by decide +kernel) (by decide +kernel) (fun _ _ _ h => h) (Or.inl ⟨by rfl, ?_⟩) ?_; rotate_left 1; (focus (intro W hW; go_simp; first | done | with_reducible rfl)); try simp only [Act.put, List.setIfInBounds_toArray, List.set_cons_zero, List.set_cons_succ]) | (refine takeW 3 rfl (by decide +kernel) (by decide +kernel) (by decide +kernel) (fun _ _ _ h => h) (Or.inr ⟨by rfl, rfl⟩) ?_; try simp only [Act.put, List.setIfInBounds_toArray, List.set_cons_zero, List.set_cons_succ]) | skip))
          clear d0
          refine stepT 4 rfl (by decide +kernel) (by rfl) ?_
          intro K hK
          refine wp_storeB flatPk (.tmp 4) (.tmp 48) rfl (w.heap.size + 1) rfl _ rfl q3 rfl rfl rfl ?_
          intro z kz hgz hsz
          refine hK _ _ (.inr (sm_grown hgz hsz fun a (ha : a.block = w.heap.size) => by omega)) ?_
          clear hK K
          try simp only [Act.put, List.setIfInBounds_toArray, List.set_cons_zero, List.set_cons_succ]
          ((first | (refine takeT 5 (v := ?_) rfl (by decide +kernel) (by decide +kernel) (by decide +kernel) (fun _ _ _ h => h) (by decide +kernel) (Or.inl ⟨by rfl, ?_⟩) ?_; rotate_left 1; (focus (intro W hW; have hcW := hW.at; (try dsimp only at hcW); go_simp; first | done | with_reducible rfl)); try simp only [Act.put, List.setIfInBounds_toArray, List.set_cons_zero, List.set_cons_succ]) | (refine takeW 5 (v := ?_) rfl (by decide +kernel) (by decide +kernel) (by decide +kernel) (fun _ _ _ h => h) (Or.inl ⟨by rfl, ?_⟩) ?_; rotate_left 1; (focus (intro W hW; go_simp; first | done | with_reducible rfl)); try simp only [Act.put, List.setIfInBounds_toArray, List.set_cons_zero, List.set_cons_succ]) | (refine takeW 5 rfl (by decide +kernel) (by decide +kernel) (by decide +kernel) (fun _ _ _ h => h) (Or.inr ⟨by rfl, rfl⟩) ?_; try simp only [Act.put, List.setIfInBounds_toArray, List.set_cons_zero, List.set_cons_succ]) | skip))
          refine doneT (by kernel_rfl) ?_
          have Z := Lib.hid (show _ ∧ _ ∧ _ ∧ _ ∧ _ from ⟨q1, q4, q5, q6, hgz⟩)
          have Kz := Lib.hid kz
          clear q1 q2 q3 q4 q5 q6 hgz kz hsz
          go_wp2
          refine bodyPost_ret (ret_cell_tmp flatPk rfl _ (w.heap.size + 1) rfl Kz.out rfl) rfl ?_
          have hrr : ((⟨tg, lf, false⟩ : SndS), nakP, false) = R := by have := HR.out; rw [if_neg (by simpa using HB9.out)] at this; exact this
          subst hrr
          obtain ⟨a1, a2, a3, a4, a5⟩ := Z.out
          have hw := M1.out.size
          have hh : (sndA N b ⟨tg, lf, false⟩).holds F1 x0 := ⟨⟨Ag, cg, by rw [show (⟨tg, lf, false⟩ : SndS).left.length = 0 from Hlz.out]; exact a1, a2⟩, FB.out, fun k hk => by rw [a4]; exact GE1.out k hk⟩
          have hn := HN.out
          exact ⟨none, 0, F1, rfl, nakP_ok, RdS.nil _, Asr.grown hh a5 NF1.out (by omega) (by omega), a3.grown_new a5 (by omega)⟩
        · go_wp2
          refine startTP (S := fun a => a.block = w.heap.size) (T := []) (fun X => X.heap[b]? = some (.cells #[.bool tg, .slice Ag 0 cg, .bool false] 97 (0, 0)) ∧ X.heap[w.heap.size]? = some (pkB p A c) ∧ X.heap[w.heap.size + 1]? = some pkZ ∧ RdL layB (fun k => F1 k ∧ k ≠ b) X Ag cg lf ∧ Mv F w F1 X ∧ X.heap.size = z1.heap.size) 6 (by kernel_rfl) rfl (l := #[false, false, false, false, false, false]) rfl ⟨KB1.out, P01.out, P11.out, RL1.out.keep fun _ _ => rfl, M1.out.drew, rfl⟩ ?_
          clear c0
          rintro x0 ⟨q1, q2, q3, q4, q5, q6⟩
          have d0 := block_at q2 (i := 0) (v := .int .u8 (p.pid : Int)) rfl
          ((first | (refine takeT 0 (v := ?_) rfl (by decide +kernel) (by decide +kernel) (by decide +kernel) (fun _ _ _ h => h) (by decide +kernel) (Or.inl ⟨by rfl, ?_⟩) ?_; rotate_left 1; (focus (intro W hW; have hcW := hW.at; (try dsimp only at hcW); go_simp; first | done | with_reducible rfl)); try simp only [Act.put, List.setIfInBounds_toArray, List.set_cons_zero, List.set_cons_succ]) | (refine takeW 0 (v := ?_) rfl (by decide +kernel) (by decide +kernel) (by decide +kernel) (fun _ _ _ h => h) (Or.inl ⟨by rfl, ?_⟩) ?_; rotate_left 1; (focus (intro W hW; go_simp; first | done | with_reducible rfl)); try simp only [Act.put, List.setIfInBounds_toArray, List.set_cons_zero, List.set_cons_succ]) | (refine takeW 0 rfl (by decide +kernel) (by decide +kernel) (by decide +kernel) (fun _ _ _ h => h) (Or.inr ⟨by rfl, rfl⟩) ?_; try simp only [Act.put, List.setIfInBounds_toArray, List.set_cons_zero, List.set_cons_succ]) | skip); (first | (refine takeT 1 (v := ?_) rfl (by decide +kernel) (by decide +kernel) (by decide +kernel) (fun _ _ _ h => h) (by decide +kernel) (Or.inl ⟨by rfl, ?_⟩) ?_; rotate_left 1; (focus (intro W hW; have hcW := hW.at; (try dsimp only at hcW); go_simp; first | done | with_reducible rfl)); try simp only [Act.put, List.setIfInBounds_toArray, List.set_cons_zero, List.set_cons_succ]) | (refine takeW 1 (v := ?_) rfl (by decide +kernel) (by decide +kernel) (by decide +kernel) (fun _ _ _ h => h) (Or.inl ⟨by rfl, ?_⟩) ?_; rotate_left 1; (focus (intro W hW; go_simp; first | done | with_reducible rfl)); try simp only [Act.put, List.setIfInBounds_toArray, List.set_cons_zero, List.set_cons_succ]) | (refine takeW 1 rfl (by decide +kernel) (by decide +kernel) (by decide +kernel) (fun _ _ _ h => h) (Or.inr ⟨by rfl, rfl⟩) ?_; try simp only [Act.put, List.setIfInBounds_toArray, List.set_cons_zero, List.set_cons_succ]) | skip); (first | (refine takeT 2 (v := ?_) rfl (by decide +kernel) (by decide +kernel) (by decide +kernel) (fun _ _ _ h => h) (by decide +kernel) (Or.inl ⟨by rfl, ?_⟩) ?_; rotate_left 1; (focus (intro W hW; have hcW := hW.at; (try dsimp only at hcW); go_simp; first | done | with_reducible rfl)); try simp only [Act.put, List.setIfInBounds_toArray, List.set_cons_zero, List.set_cons_succ]) | (refine takeW 2 (v := ?_) rfl (by decide +kernel) (by decide +kernel) (by decide +kernel) (fun _ _ _ h => h) (Or.inl ⟨by rfl, ?_⟩) ?_; rotate_left 1; (focus (intro W hW; go_simp; first | done | with_reducible rfl)); try simp only [Act.put, List.setIfInBounds_toArray, List.set_cons_zero, List.set_cons_succ]) | (refine takeW 2 rfl (by decide +kernel) (by decide +kernel) (by decide +kernel) (fun _ _ _ h => h) (Or.inr ⟨by rfl, rfl⟩) ?_; try simp only [Act.put, List.setIfInBounds_toArray, List.set_cons_zero, List.set_cons_succ]) | skip); (first | (refine takeT 3 (v := ?_) rfl (by decide +kernel) (by decide +kernel) (by decide +kernel) (fun _ _ _ h => h) (by decide +kernel) (Or.inl ⟨by rfl, ?_⟩) ?_; rotate_left 1; (focus (intro W hW; have hcW := hW.at; (try dsimp only at hcW); go_simp; first | done | with_reducible rfl)); try simp only [Act.put, List.setIfInBounds_toArray, List.set_cons_zero, List.set_cons_succ]) | (refine takeW 3 (v := ?_) rfl (by decide +kernel) (by decide +kernel) (by decide +kernel) (fun _ _ _ h => h) (Or.inl ⟨by rfl, ?_⟩) ?_; rotate_left 1; (focus (intro W hW; go_simp; first | done | with_reducible rfl)); try simp only [Act.put, List.setIfInBounds_toArray, List.set_cons_zero, List.set_cons_succ]) | (refine takeW 3 rfl (by decide +kernel) (by decide +kernel) (by decide +kernel) (fun _ _ _ h => h) (Or.inr ⟨by rfl, rfl⟩) ?_; try simp only [Act.put, List.setIfInBounds_toArray, List.set_cons_zero, List.set_cons_succ]) | skip))
          clear d0
          refine stepT 4 rfl (by decide +kernel) (by rfl) ?_
          intro K hK
          refine wp_storeB flatPk (.tmp 4) (.tmp 48) rfl (w.heap.size + 1) rfl _ rfl q3 rfl rfl rfl ?_
          intro z kz hgz hsz
          refine hK _ _ (.inr (sm_grown hgz hsz fun a (ha : a.block = w.heap.size) => by omega)) ?_
          clear hK K
          try simp only [Act.put, List.setIfInBounds_toArray, List.set_cons_zero, List.set_cons_succ]
          ((first | (refine takeT 5 (v := ?_) rfl (by decide +kernel) (by decide +kernel) (by decide +kernel) (fun _ _ _ h => h) (by decide +kernel) (Or.inl ⟨by rfl, ?_⟩) ?_; rotate_left 1; (focus (intro W hW; have hcW := hW.at; (try dsimp only at hcW); go_simp; first | done | with_reducible rfl)); try simp only [Act.put, List.setIfInBounds_toArray, List.set_cons_zero, List.set_cons_succ]) | (refine takeW 5 (v := ?_) rfl (by decide +kernel) (by decide +kernel) (by decide +kernel) (fun _ _ _ h => h) (Or.inl ⟨by rfl, ?_⟩) ?_; rotate_left 1; (focus (intro W hW; go_simp; first | done | with_reducible rfl)); try simp only [Act.put, List.setIfInBounds_toArray, List.set_cons_zero, List.set_cons_succ]) | (refine takeW 5 rfl (by decide +kernel) (by decide +kernel) (by decide +kernel) (fun _ _ _ h => h) (Or.inr ⟨by rfl, rfl⟩) ?_; try simp only [Act.put, List.setIfInBounds_toArray, List.set_cons_zero, List.set_cons_succ]) | skip))
          refine doneT (by kernel_rfl) ?_
          have Z := Lib.hid (show _ ∧ _ ∧ _ ∧ _ ∧ _ from ⟨q1, q4, q5, q6, hgz⟩)
          have Kz := Lib.hid kz
          clear q1 q2 q3 q4 q5 q6 hgz kz hsz
          go_wp2
          refine bodyPost_ret (ret_cell_tmp flatPk rfl _ (w.heap.size + 1) rfl Kz.out rfl) rfl ?_
          have hrr : ((⟨tg, lf, false⟩ : SndS), nakP, true) = R := by have := HR.out; rw [if_pos (by simpa using HB9.out), if_pos (show lf.length = 0 from Hlz.out)] at this; exact this
          subst hrr
          obtain ⟨a1, a2, a3, a4, a5⟩ := Z.out
          have hw := M1.out.size
          have hh : (sndA N b ⟨tg, lf, false⟩).holds F1 x0 := ⟨⟨Ag, cg, by rw [show (⟨tg, lf, false⟩ : SndS).left.length = 0 from Hlz.out]; exact a1, a2⟩, FB.out, fun k hk => by rw [a4]; exact GE1.out k hk⟩
          have hn := HN.out
          exact ⟨none, 0, F1, rfl, nakP_ok, RdS.nil _, Asr.grown hh a5 NF1.out (by omega) (by omega), a3.grown_new a5 (by omega)⟩
      · have Hlz := Lib.hid hz
        have KO := Lib.hid (Tg.offer_some y4 tg Ag cg lf ((RL.out.lt (by decide)).rds fun k hk => hk.2) (by omega) Q1.out)
        have GEb := Lib.hid (show b < y4.heap.size from block_lt KB.out)
        have PYs := Lib.hid (show w.heap.size + 1 < y4.heap.size from block_lt P1.out)
        clear hz
        refine (KO.out).mono ?_
        rintro e z1 ⟨q, rfl, hq, hrow, bb⟩
        have KB1 := Lib.hid ((bb.block _ (block_lt KB.out)).trans KB.out)
        have P01 := Lib.hid ((bb.block _ (block_lt P0.out)).trans P0.out)
        have P11 := Lib.hid ((bb.block _ (block_lt P1.out)).trans P1.out)
        have RL1 := Lib.hid (RL.out.below bb (by decide))
        have M1 := Lib.hid (MY.out.trans (Mv.of_below _ bb))
        have GE1 := Lib.hid (show ∀ k, F1 k → N ≤ k ∧ k < z1.heap.size from fun k hk => ⟨(GE.out k hk).1, Nat.lt_of_lt_of_le (GE.out k hk).2 bb.size⟩)
        have Rw := Lib.hid (row_rds hrow hq (by have := Q3.out 0; omega))
        have hyy := MY.out.size
        have Hzs := Lib.hid (show w.heap.size ≤ y4.heap.size from hyy)
        clear bb hrow hq hyy
        have c0 := block_at P01.out (i := 0) (v := .int .u8 (p.pid : Int)) rfl
        have n1 : ¬ F1 (w.heap.size + 1) := NF.out
        have NF1 := Lib.hid n1
        clear n1
        cases b9
        · go_wp2
          refine startTP (S := fun a => a.block = w.heap.size) (T := []) (fun X => X.heap[b]? = some (.cells #[.bool tg, .slice Ag lf.length cg, .bool false] 97 (0, 0)) ∧ X.heap[w.heap.size]? = some (pkB p A c) ∧ X.heap[w.heap.size + 1]? = some pkZ ∧ RdL layB (fun k => F1 k ∧ k ≠ b) X Ag cg lf ∧ Mv F w F1 X ∧ X.heap.size = z1.heap.size) 6 (by kernel_rfl) rfl (l := #[false, false, false, false, false, false]) rfl ⟨KB1.out, P01.out, P11.out, RL1.out.keep fun _ _ => rfl, M1.out.drew, rfl⟩ ?_
          clear c0
          rintro x0 ⟨q1, q2, q3, q4, q5, q6⟩
          have d0 := block_at q2 (i := 0) (v := .int .u8 (p.pid : Int)) rfl
          ((first | (refine takeT 0 (v := ?_) rfl (by decide +kernel) (by decide +kernel) (by decide +kernel) (fun _ _ _ h => h) (by decide +kernel) (Or.inl ⟨by rfl, ?_⟩) ?_; rotate_left 1; (focus (intro W hW; have hcW := hW.at; (try dsimp only at hcW); go_simp; first | done | with_reducible rfl)); try simp only [Act.put, List.setIfInBounds_toArray, List.set_cons_zero, List.set_cons_succ]) | (refine takeW 0 (v := ?_) rfl (by decide +kernel) (by decide +kernel) (by decide +kernel) (fun _ _ _ h => h) (Or.inl ⟨by rfl, ?_⟩) ?_; rotate_left 1; (focus (intro W hW; go_simp; first | done | with_reducible rfl)); try simp only [Act.put, List.setIfInBounds_toArray, List.set_cons_zero, List.set_cons_succ]) | (refine takeW 0 rfl (by decide +kernel) (by decide +kernel) (by decide +kernel) (fun _ _ _ h => h) (Or.inr ⟨by rfl, rfl⟩) ?_; try simp only [Act.put, List.setIfInBounds_toArray, List.set_cons_zero, List.set_cons_succ]) | skip); (first | (refine takeT 1 (v := ?_) rfl (by decide +kernel) (by decide +kernel) (by decide +kernel) (fun _ _ _ h => h) (by decide +kernel) (Or.inl ⟨by rfl, ?_⟩) ?_; rotate_left 1; (focus (intro W hW; have hcW := hW.at; (try dsimp only at hcW); go_simp; first | done | with_reducible rfl)); try simp only [Act.put, List.setIfInBounds_toArray, List.set_cons_zero, List.set_cons_succ]) | (refine takeW 1 (v := ?_) rfl (by decide +kernel) (by decide +kernel) (by decide +kernel) (fun _ _ _ h => h) (Or.inl ⟨by rfl, ?_⟩) ?_; rotate_left 1; (focus (intro W hW; go_simp; first | done | with_reducible rfl)); try simp only [Act.put, List.setIfInBounds_toArray, List.set_cons_zero, List.set_cons_succ]) | (refine takeW 1 rfl (by decide +kernel) (by decide +kernel) (by decide +kernel) (fun _ _ _ h => h) (Or.inr ⟨by rfl, rfl⟩) ?_; try simp only [Act.put, List.setIfInBounds_toArray, List.set_cons_zero, List.set_cons_succ]) | skip); (first | (refine takeT 2 (v := ?_) rfl (by decide +kernel) (by decide +kernel) (by decide +kernel) (fun _ _ _ h => h) (by decide +kernel) (Or.inl ⟨by rfl, ?_⟩) ?_; rotate_left 1; (focus (intro W hW; have hcW := hW.at; (try dsimp only at hcW); go_simp; first | done | with_reducible rfl)); try simp only [Act.put, List.setIfInBounds_toArray, List.set_cons_zero, List.set_cons_succ]) | (refine takeW 2 (v := ?_) rfl (by decide +kernel) (by decide +kernel) (by decide +kernel) (fun _ _ _ h => h) (Or.inl ⟨by rfl, ?_⟩) ?_; rotate_left 1; (focus (intro W hW; go_simp; first | done | with_reducible rfl)); try simp only [Act.put, List.setIfInBounds_toArray, List.set_cons_zero, List.set_cons_succ]) | (refine takeW 2 rfl (by decide +kernel) (by decide +kernel) (by decide +kernel) (fun _ _ _ h => h) (Or.inr ⟨by rfl, rfl⟩) ?_; try simp only [Act.put, List.setIfInBounds_toArray, List.set_cons_zero, List.set_cons_succ]) | skip); (first | (refine takeT 3 (v := ?_) rfl (by decide +kernel) (by decide +kernel) (by decide +kernel) (fun _ _ _ h => h) (by decide +kernel) (Or.inl ⟨by rfl, ?_⟩) ?_; rotate_left 1; (focus (intro W hW; have hcW := hW.at; (try dsimp only at hcW); go_simp; first | done | with_reducible rfl)); try simp only [Act.put, List.setIfInBounds_toArray, List.set_cons_zero, List.set_cons_succ]) | (refine takeW 3 (v := ?_) rfl (by decide +kernel) (by decide +kernel) (by decide +kernel) (fun _ _ _ h => h) (Or.inl ⟨by rfl, ?_⟩) ?_; rotate_left 1; (focus (intro W hW; go_simp; first | done | with_reducible rfl)); try simp only [Act.put, List.setIfInBounds_toArray, List.set_cons_zero, List.set_cons_succ]) | (refine takeW 3 rfl (by decide +kernel) (by decide +kernel) (by decide +kernel) (fun _ _ _ h => h) (Or.inr ⟨by rfl, rfl⟩) ?_; try simp only [Act.put, List.setIfInBounds_toArray, List.set_cons_zero, List.set_cons_succ]) | skip))
          clear d0
          refine stepT 4 rfl (by decide +kernel) (by rfl) ?_
          intro K hK
          refine wp_storeB flatPk (.tmp 4) (.tmp 48) rfl (w.heap.size + 1) rfl _ rfl q3 rfl rfl rfl ?_
          intro z kz hgz hsz
          refine hK _ _ (.inr (sm_grown hgz hsz fun a (ha : a.block = w.heap.size) => by omega)) ?_
          clear hK K
          try simp only [Act.put, List.setIfInBounds_toArray, List.set_cons_zero, List.set_cons_succ]
          ((first | (refine takeT 5 (v := ?_) rfl (by decide +kernel) (by decide +kernel) (by decide +kernel) (fun _ _ _ h => h) (by decide +kernel) (Or.inl ⟨by rfl, ?_⟩) ?_; rotate_left 1; (focus (intro W hW; have hcW := hW.at; (try dsimp only at hcW); go_simp; first | done | with_reducible rfl)); try simp only [Act.put, List.setIfInBounds_toArray, List.set_cons_zero, List.set_cons_succ]) | (refine takeW 5 (v := ?_) rfl (by decide +kernel) (by decide +kernel) (by decide +kernel) (fun _ _ _ h => h) (Or.inl ⟨by rfl, ?_⟩) ?_; rotate_left 1; (focus (intro W hW; go_simp; first | done | with_reducible rfl)); try simp only [Act.put, List.setIfInBounds_toArray, List.set_cons_zero, List.set_cons_succ]) | (refine takeW 5 rfl (by decide +kernel) (by decide +kernel) (by decide +kernel) (fun _ _ _ h => h) (Or.inr ⟨by rfl, rfl⟩) ?_; try simp only [Act.put, List.setIfInBounds_toArray, List.set_cons_zero, List.set_cons_succ]) | skip))
          refine doneT (by kernel_rfl) ?_
          have Z := Lib.hid (show _ ∧ _ ∧ _ ∧ _ ∧ _ from ⟨q1, q4, q5, q6, hgz⟩)
          have Kz := Lib.hid kz
          clear q1 q2 q3 q4 q5 q6 hgz kz hsz
          go_wp2
          refine bodyPost_ret (ret_cell_tmp flatPk rfl _ (w.heap.size + 1) rfl Kz.out rfl) rfl ?_
          have hrr : ((⟨tg, lf, false⟩ : SndS), nakP, false) = R := by have := HR.out; rw [if_neg (by simpa using HB9.out)] at this; exact this
          subst hrr
          obtain ⟨a1, a2, a3, a4, a5⟩ := Z.out
          have hw := M1.out.size
          have hh : (sndA N b ⟨tg, lf, false⟩).holds F1 x0 := ⟨⟨Ag, cg, a1, a2⟩, FB.out, fun k hk => by rw [a4]; exact GE1.out k hk⟩
          have hn := HN.out
          exact ⟨none, 0, F1, rfl, nakP_ok, RdS.nil _, Asr.grown hh a5 NF1.out (by omega) (by omega), a3.grown_new a5 (by omega)⟩
        · cases tg
          · go_wp2_with (first | (refine wpl_storeC rfl (.tmp 54) (.const (.bool true)) rfl b 2 rfl _ rfl rfl (by kernel_rfl) KB1.out (by simp) ?_; intro y5 k5 hg5 hs5; have P15 := Lib.hid (grown_block hg5 P11.out (fun e => by injection e; have := Hbw.out; omega)); have K5 := Lib.hid k5; have G5 := Lib.hid hg5; have S5 := Lib.hid hs5; clear k5 hg5 hs5) | (refine wpl_storeB flatPk rfl (.tmp 4) (.tmp 59) rfl _ rfl _ rfl P15.out rfl rfl rfl ?_; intro y6 k6 hg6 hs6))
            refine bodyPost_ret (ret_cell_tmp flatPk rfl _ (w.heap.size + 1) rfl k6 rfl) rfl ?_
            have hrr : ((⟨false, lf, true⟩ : SndS), daP false (lf.getD 0 []), true) = R := by have := HR.out; rw [if_pos (by simpa using HB9.out), if_neg (show ¬ lf.length = 0 from Hlz.out)] at this; exact this
            subst hrr
            have hw := M1.out.size
            have hn := HN.out
            have hs5 := S5.out
            have hbw := Hbw.out
            have hzs := Hzs.out
            have rl5 : RdL layB (fun k => F1 k ∧ k ≠ b) y5 Ag cg lf := ((RL1.out.lt (by decide)).keep (w' := y5) (fun k hk => G5.out.block k hk.2 (fun e => by injection e with e; exact hk.1.2 e))).mono fun k hk => hk.1
            have hh : (sndA N b ⟨false, lf, true⟩).holds F1 y5 := ⟨⟨Ag, cg, K5.out, rl5⟩, FB.out, fun k hk => by rw [hs5]; exact GE1.out k hk⟩
            have rw5 := (Rw.out.grown G5.out (fun k hk e => by have := GEb.out; omega)).grown hg6 (fun k hk e => by have := GEb.out; have := PYs.out; omega)
            refine ⟨_, _, F1, rfl, ⟨daP_pid false _, by show (0:Nat) < 256; omega, by show (0:Nat) < 256; omega, by show (0:Nat) < 65536; omega, by show (0:Nat) < 256; omega, by show (0:Nat) < 256; omega, by show (0:Nat) < 256; omega, Q3.out 0⟩, rw5.mono (fun k hk => .inr (.inr (by omega))), Asr.grown hh hg6 NF1.out (by omega) (by omega), ?_⟩
            refine Mv.grown_new (w' := y5) ⟨G5.out.os.trans M1.out.os, G5.out.tape.trans M1.out.tape, G5.out.output.trans M1.out.output, by omega, fun k hk hn2 => ?_, M1.out.new⟩ hg6 (by omega)
            rw [G5.out.block k (by omega) (fun e => hn2 (by injection e with e; rw [e]; exact E4.out)), M1.out.keep k hk hn2]
          · go_wp2_with (first | (refine wpl_storeC rfl (.tmp 54) (.const (.bool true)) rfl b 2 rfl _ rfl rfl (by kernel_rfl) KB1.out (by simp) ?_; intro y5 k5 hg5 hs5; have P15 := Lib.hid (grown_block hg5 P11.out (fun e => by injection e; have := Hbw.out; omega)); have K5 := Lib.hid k5; have G5 := Lib.hid hg5; have S5 := Lib.hid hs5; clear k5 hg5 hs5) | (refine wpl_storeB flatPk rfl (.tmp 4) (.tmp 57) rfl _ rfl _ rfl P15.out rfl rfl rfl ?_; intro y6 k6 hg6 hs6))
            refine bodyPost_ret (ret_cell_tmp flatPk rfl _ (w.heap.size + 1) rfl k6 rfl) rfl ?_
            have hrr : ((⟨true, lf, true⟩ : SndS), daP true (lf.getD 0 []), true) = R := by have := HR.out; rw [if_pos (by simpa using HB9.out), if_neg (show ¬ lf.length = 0 from Hlz.out)] at this; exact this
            subst hrr
            have hw := M1.out.size
            have hn := HN.out
            have hs5 := S5.out
            have hbw := Hbw.out
            have hzs := Hzs.out
            have rl5 : RdL layB (fun k => F1 k ∧ k ≠ b) y5 Ag cg lf := ((RL1.out.lt (by decide)).keep (w' := y5) (fun k hk => G5.out.block k hk.2 (fun e => by injection e with e; exact hk.1.2 e))).mono fun k hk => hk.1
            have hh : (sndA N b ⟨true, lf, true⟩).holds F1 y5 := ⟨⟨Ag, cg, K5.out, rl5⟩, FB.out, fun k hk => by rw [hs5]; exact GE1.out k hk⟩
            have rw5 := (Rw.out.grown G5.out (fun k hk e => by have := GEb.out; omega)).grown hg6 (fun k hk e => by have := GEb.out; have := PYs.out; omega)
            refine ⟨_, _, F1, rfl, ⟨daP_pid true _, by show (0:Nat) < 256; omega, by show (0:Nat) < 256; omega, by show (0:Nat) < 65536; omega, by show (0:Nat) < 256; omega, by show (0:Nat) < 256; omega, by show (0:Nat) < 256; omega, Q3.out 0⟩, rw5.mono (fun k hk => .inr (.inr (by omega))), Asr.grown hh hg6 NF1.out (by omega) (by omega), ?_⟩
            refine Mv.grown_new (w' := y5) ⟨G5.out.os.trans M1.out.os, G5.out.tape.trans M1.out.tape, G5.out.output.trans M1.out.output, by omega, fun k hk hn2 => ?_, M1.out.new⟩ hg6 (by omega)
            rw [G5.out.block k (by omega) (fun e => hn2 (by injection e with e; rw [e]; exact E4.out)), M1.out.keep k hk hn2]

theorem snd_dev (N b : Nat) : DevOK (sndA N b) hearSnd 95 (.pointer (some ⟨b, 0, none⟩)) 119 (.pointer (some ⟨b, 0, none⟩)) sndP where
  ahead := fun w => by kernel_rfl
  meth := fun w => by kernel_rfl
  enter := fun args w => by kernel_rfl
  call := fun w s F p A c hP hF ok hr hN => snd_any w N b s F hF hP p ok A c hr hN
theorem hearSnd_P (s : SndS) (p : Pkt) (h : sndP s) : sndP (hearSnd s p).1 := by
  have ha := ackS_P s p h
  have hb : sndP (ackS s p) := ⟨ha.1, (fun e => by rw [ha.2.1] at e; cases e), ha.2.2⟩
  unfold hearSnd
  split
  · split
    · exact hb
    · rename_i h1
      exact ⟨ha.1, fun _ => by show 0 < (ackS s p).left.length; omega, ha.2.2⟩
  · exact hb
def sndJ (s : SndS) (_ : List SentP) : Prop := sndP s
theorem snd_askJ {τ : Type} (next : τ → τ × Nat) : AskJ (askR hearSnd next) sndJ where
  add := fun s l y h => h
  ask := fun s t l y p h => by
    unfold askR
    split
    · exact hearSnd_P s p h
    · exact hearSnd_P s p h
theorem snd_askC {N b0 τ} {W : τ → Asr N} {next : τ → τ × Nat} {wv : Value} (hW : WireOK W next wv) (b : Nat) (hLN : 0 < N) : AskC (sndA N b0) W b (.iface 95 (.pointer (some ⟨b0, 0, none⟩))) wv (askR hearSnd next) sndJ :=
  askC_dev (snd_dev N b0) hW (fun s l h _ => h) b hLN

end Go.Proofs.YtkfkcpogcobmbaaDoor

namespace Go.Proofs.YtkfkcpogcobmbaaDoor
open Go Go.RowKit

def inTr (tg : Bool) : Tr := ⟨0, 0, 9, tg, false, 64, []⟩
theorem inTr_ok (tg : Bool) : (inTr tg).Ok := ⟨by show 0 < 256; omega, by show 0 < 256; omega, by show 9 < 256; omega, by show (-9223372036854775808 : Int) ≤ 64; omega, by show (64 : Int) ≤ 9223372036854775807; omega, by show 0 ≤ 1000000; omega⟩
theorem inTr_err (tg : Bool) : (inTr tg).err = 0 := by cases tg <;> decide +kernel
theorem daP_err (tg : Bool) (b : List UInt8) (h : b.length ≤ 64) : (daP tg b).err = 0 := by
  have e : daP tg b = datP (outTr tg b) := rfl
  rw [e]
  exact dat_err (outTr_err tg b h)
theorem nak_err : nakP.err = 0 := by decide +kernel
/-- The four ways of it. -/
theorem in_ways (st : Bool) (left : List (List UInt8)) (sn : Bool) (fs : List UInt8) (tg : Bool) (hb : (left.getD 0 []).length ≤ 64) :
    ∃ fs' l, fs'.length ≤ fs.length ∧ (
      (∃ sn', doR lineN (askR hearSnd lineN) ⟨st, left, sn⟩ fs (inTr tg) = ((⟨st, left, sn'⟩, fs', l), 4, []) ∧ fs'.length < fs.length ∧ (sn' = true → sn = true ∨ 0 < left.length)) ∨
      (left.length = 0 ∧ doR lineN (askR hearSnd lineN) ⟨st, left, sn⟩ fs (inTr tg) = ((⟨st, left, false⟩, fs', l), 2, [])) ∨
      (0 < left.length ∧ fs'.length < fs.length ∧ doR lineN (askR hearSnd lineN) ⟨st, left, sn⟩ fs (inTr tg) = ((⟨st, left, true⟩, fs', l), if st = tg then (1, left.getD 0 []) else (6, []))) ∨
      (0 < left.length ∧ doR lineN (askR hearSnd lineN) ⟨st, left, sn⟩ fs (inTr tg) = ((⟨!st, left.drop 1, false⟩, fs', l), if st = tg then (1, left.getD 0 []) else (6, [])))) := by
  have hneg : ∀ l : List UInt8, ¬ (l.getD 0 0).toNat = 0 → 0 < l.length := fun l h => by
    cases l with
    | nil => exact absurd rfl h
    | cons a l => simp
  have hdo : doR lineN (askR hearSnd lineN) ⟨st, left, sn⟩ fs (inTr tg) = readR lineN (askR hearSnd lineN) (⟨st, left, sn⟩, fs, []) (inTr tg) := by
    unfold doR
    rw [if_pos (inTr_err tg)]
    unfold performR
    rw [if_pos (show (inTr tg).what = 9 from rfl)]
  rw [hdo]
  have ha : ackS ⟨st, left, sn⟩ (tokP (inTr tg)) = ⟨st, left, false⟩ := by
    unfold ackS
    rw [if_neg (fun h => by have h1 : (9 : Nat) = 2 := h.1; omega)]
  have hk : hearSnd ⟨st, left, true⟩ ackP = (⟨!st, left.drop 1, false⟩, nakP, false) := by
    unfold hearSnd
    rw [if_neg (by show ¬ (2 : Nat) = 9; omega)]
    rfl
  by_cases f0 : (fs.getD 0 0).toNat = 0
  · by_cases hz : left.length = 0
    · have hh : hearSnd ⟨st, left, sn⟩ (tokP (inTr tg)) = (⟨st, left, false⟩, nakP, true) := by
        unfold hearSnd
        rw [if_pos (show (tokP (inTr tg)).pid = 9 from rfl), ha, if_pos hz]
      have hsp : speakR lineN (askR hearSnd lineN) (⟨st, left, sn⟩, fs, []) (tokP (inTr tg)) = ((⟨st, left, false⟩, (fs.drop 1).drop 1, [(tokP (inTr tg), true, (fs.getD 0 0).toNat)] ++ [(nakP, false, ((fs.drop 1).getD 0 0).toNat)]), if ((fs.drop 1).getD 0 0).toNat = 0 then (nakP, true) else (zeroP, false)) := by
        unfold speakR
        rw [if_pos (show (lineN fs).2 = 0 from f0)]
        unfold askR
        dsimp only
        rw [hh, if_pos ⟨rfl, nak_err⟩]
        rfl
      refine ⟨(fs.drop 1).drop 1, [(tokP (inTr tg), true, (fs.getD 0 0).toNat)] ++ [(nakP, false, ((fs.drop 1).getD 0 0).toNat)], by simp only [List.length_drop]; omega, ?_⟩
      by_cases f1 : ((fs.drop 1).getD 0 0).toNat = 0
      · refine .inr (.inl ⟨hz, ?_⟩)
        unfold readR
        rw [hsp, if_pos f1]
        rfl
      · have h1 := hneg _ f1
        simp only [List.length_drop] at h1
        refine .inl ⟨false, ?_, by simp only [List.length_drop]; omega, fun h => by cases h⟩
        unfold readR
        rw [hsp, if_neg f1]
        rfl
    · have hp : 0 < left.length := by omega
      have hh : hearSnd ⟨st, left, sn⟩ (tokP (inTr tg)) = (⟨st, left, true⟩, daP st (left.getD 0 []), true) := by
        unfold hearSnd
        rw [if_pos (show (tokP (inTr tg)).pid = 9 from rfl), ha, if_neg hz]
      have hsp : speakR lineN (askR hearSnd lineN) (⟨st, left, sn⟩, fs, []) (tokP (inTr tg)) = ((⟨st, left, true⟩, (fs.drop 1).drop 1, [(tokP (inTr tg), true, (fs.getD 0 0).toNat)] ++ [(daP st (left.getD 0 []), false, ((fs.drop 1).getD 0 0).toNat)]), if ((fs.drop 1).getD 0 0).toNat = 0 then (daP st (left.getD 0 []), true) else (zeroP, false)) := by
        unfold speakR
        rw [if_pos (show (lineN fs).2 = 0 from f0)]
        unfold askR
        dsimp only
        rw [hh, if_pos ⟨rfl, daP_err _ _ hb⟩]
        rfl
      by_cases f1 : ((fs.drop 1).getD 0 0).toNat = 0
      · rw [if_pos f1] at hsp
        obtain ⟨l2, hl2⟩ : ∃ l2, [(tokP (inTr tg), true, (fs.getD 0 0).toNat)] ++ [(daP st (left.getD 0 []), false, ((fs.drop 1).getD 0 0).toNat)] = l2 := ⟨_, rfl⟩
        rw [hl2] at hsp
        have hpid : ¬ ((daP st (left.getD 0 [])).pid ≠ 3 ∧ (daP st (left.getD 0 [])).pid ≠ 11) := by show ¬ (dpid st ≠ 3 ∧ dpid st ≠ 11); cases st <;> decide
        have hmax : ¬ (inTr tg).max < ((daP st (left.getD 0 [])).data.length : Int) := by show ¬ (64 : Int) < ((left.getD 0 []).length : Int); omega
        have heq : (if (daP st (left.getD 0 [])).pid = dpid (inTr tg).tog then ((1 : Nat), (daP st (left.getD 0 [])).data) else (6, [])) = if st = tg then (1, left.getD 0 []) else (6, []) := by
          show (if dpid st = dpid tg then ((1 : Nat), left.getD 0 []) else (6, [])) = _
          cases st <;> cases tg <;> rfl
        have hre : readR lineN (askR hearSnd lineN) (⟨st, left, sn⟩, fs, []) (inTr tg) = ((speakR lineN (askR hearSnd lineN) (⟨st, left, true⟩, (fs.drop 1).drop 1, l2) ackP).1, if st = tg then (1, left.getD 0 []) else (6, [])) := by
          unfold readR
          rw [hsp]
          dsimp only
          rw [if_neg hpid, if_neg hmax, if_neg (by show ¬ false = true; simp), heq]
        by_cases f2 : (((fs.drop 1).drop 1).getD 0 0).toNat = 0
        · have hs2 : speakR lineN (askR hearSnd lineN) (⟨st, left, true⟩, (fs.drop 1).drop 1, l2) ackP = ((⟨!st, left.drop 1, false⟩, ((fs.drop 1).drop 1).drop 1, l2 ++ [(ackP, true, (((fs.drop 1).drop 1).getD 0 0).toNat)]), zeroP, false) := by
            unfold speakR
            rw [if_pos (show (lineN ((fs.drop 1).drop 1)).2 = 0 from f2)]
            unfold askR
            dsimp only
            rw [hk, if_neg (fun h => by cases h.1)]
            rfl
          refine ⟨((fs.drop 1).drop 1).drop 1, l2 ++ [(ackP, true, (((fs.drop 1).drop 1).getD 0 0).toNat)], by simp only [List.length_drop]; omega, .inr (.inr (.inr ⟨hp, ?_⟩))⟩
          rw [hre, hs2]
        · have h2 := hneg _ f2
          simp only [List.length_drop] at h2
          have hs2 : speakR lineN (askR hearSnd lineN) (⟨st, left, true⟩, (fs.drop 1).drop 1, l2) ackP = ((⟨st, left, true⟩, ((fs.drop 1).drop 1).drop 1, l2 ++ [(ackP, true, (((fs.drop 1).drop 1).getD 0 0).toNat)]), zeroP, false) := by
            unfold speakR
            rw [if_neg (show ¬ (lineN ((fs.drop 1).drop 1)).2 = 0 from f2)]
            rfl
          refine ⟨((fs.drop 1).drop 1).drop 1, l2 ++ [(ackP, true, (((fs.drop 1).drop 1).getD 0 0).toNat)], by simp only [List.length_drop]; omega, .inr (.inr (.inl ⟨hp, by simp only [List.length_drop]; omega, ?_⟩))⟩
          rw [hre, hs2]
      · have h1 := hneg _ f1
        simp only [List.length_drop] at h1
        refine ⟨(fs.drop 1).drop 1, [(tokP (inTr tg), true, (fs.getD 0 0).toNat)] ++ [(daP st (left.getD 0 []), false, ((fs.drop 1).getD 0 0).toNat)], by simp only [List.length_drop]; omega, .inl ⟨true, ?_, by simp only [List.length_drop]; omega, fun _ => .inr hp⟩⟩
        unfold readR
        rw [hsp, if_neg f1]
        rfl
  · have h0 := hneg _ f0
    have hsp : speakR lineN (askR hearSnd lineN) (⟨st, left, sn⟩, fs, []) (tokP (inTr tg)) = ((⟨st, left, sn⟩, fs.drop 1, [(tokP (inTr tg), true, (fs.getD 0 0).toNat)]), zeroP, false) := by
      unfold speakR
      rw [if_neg (show ¬ (lineN fs).2 = 0 from f0)]
      rfl
    refine ⟨fs.drop 1, [(tokP (inTr tg), true, (fs.getD 0 0).toNat)], by simp only [List.length_drop]; omega, .inl ⟨sn, ?_, by simp only [List.length_drop]; omega, fun h => .inl h⟩⟩
    unfold readR
    rw [hsp]
    rfl

/-- d packets have been acknowledged. -/
structure IInv (l : List (List UInt8)) (d : Nat) (s : SndS) : Prop where
  tog : s.tog = par d
  left : s.left = l.drop d
  sent : s.sent = true → d < l.length
theorem par_ne (d : Nat) : ¬ par d = par (d + 1) := by show ¬ par d = !par d; cases par d <;> decide
/-- One transaction: t packets have been taken. -/
theorem in_step (l : List (List UInt8)) (hl : ∀ j, (l.getD j []).length ≤ 64) (d t : Nat) (hd : d ≤ l.length) (hdt : d ≤ t) (htd : t ≤ d + 1) (htl : t ≤ l.length) (s : SndS) (h : IInv l d s) (fs : List UInt8) :
    ∃ s2 fs' sn res xs d' t', doR lineN (askR hearSnd lineN) s fs (inTr (par t)) = ((s2, fs', sn), res, xs) ∧ IInv l d' s2 ∧ d' ≤ l.length ∧ d' ≤ t' ∧ t' ≤ d' + 1 ∧ t' ≤ l.length ∧ d ≤ d' ∧ fs'.length ≤ fs.length ∧
      (d < l.length → d + 1 + fs'.length ≤ d' + fs.length) ∧ ((res = 1 ∧ t' = t + 1 ∧ xs = l.getD t []) ∨ ((res = 4 ∨ res = 6 ∨ (res = 2 ∧ d' = l.length)) ∧ t' = t ∧ xs = [])) := by
  obtain ⟨st, left, sn⟩ := s
  obtain ⟨h1, h2, h3⟩ := h
  simp only at h1 h2 h3
  subst h1 h2
  have hg : (l.drop d).getD 0 [] = l.getD d [] := by simp [List.getD]
  have hlen : (l.drop d).length = l.length - d := List.length_drop ..
  obtain ⟨fs', sl, h0, hw⟩ := in_ways (par d) (l.drop d) sn fs (par t) (by rw [hg]; exact hl d)
  rw [hg, hlen] at hw
  rcases hw with ⟨sn', e, hlt, hs⟩ | ⟨hz, e⟩ | ⟨hp, hlt, e⟩ | ⟨hp, e⟩
  · exact ⟨_, fs', sl, 4, [], d, t, e, ⟨rfl, rfl, fun h => (hs h).elim h3 (fun h => by omega)⟩, hd, hdt, htd, htl, Nat.le_refl _, h0, fun _ => by omega, .inr ⟨.inl rfl, rfl, rfl⟩⟩
  · exact ⟨_, fs', sl, 2, [], d, t, e, ⟨rfl, rfl, fun h => by cases h⟩, hd, hdt, htd, htl, Nat.le_refl _, h0, fun _ => by omega, .inr ⟨.inr (.inr ⟨rfl, by omega⟩), rfl, rfl⟩⟩
  · by_cases ht : t = d
    · subst ht
      rw [if_pos rfl] at e
      exact ⟨_, fs', sl, 1, _, t, t + 1, e, ⟨rfl, rfl, fun _ => by show t < l.length; omega⟩, hd, by omega, by omega, by omega, Nat.le_refl _, h0, fun _ => by omega, .inl ⟨rfl, rfl, rfl⟩⟩
    · obtain rfl : t = d + 1 := by omega
      rw [if_neg (par_ne d)] at e
      exact ⟨_, fs', sl, 6, _, d, d + 1, e, ⟨rfl, rfl, fun _ => by show d < l.length; omega⟩, hd, by omega, by omega, by omega, Nat.le_refl _, h0, fun _ => by omega, .inr ⟨.inr (.inl rfl), rfl, rfl⟩⟩
  · rw [List.drop_drop] at e
    have hi : IInv l (d + 1) ⟨!par d, l.drop (d + 1), false⟩ := ⟨rfl, rfl, fun h => by cases h⟩
    by_cases ht : t = d
    · subst ht
      rw [if_pos rfl] at e
      exact ⟨_, fs', sl, 1, _, t + 1, t + 1, e, hi, by omega, by omega, by omega, by omega, by omega, h0, fun _ => by omega, .inl ⟨rfl, rfl, rfl⟩⟩
    · obtain rfl : t = d + 1 := by omega
      rw [if_neg (par_ne d)] at e
      exact ⟨_, fs', sl, 6, _, d + 1, d + 1, e, hi, by omega, by omega, by omega, by omega, by omega, h0, fun _ => by omega, .inr ⟨.inr (.inl rfl), rfl, rfl⟩⟩

end Go.Proofs.YtkfkcpogcobmbaaDoor

