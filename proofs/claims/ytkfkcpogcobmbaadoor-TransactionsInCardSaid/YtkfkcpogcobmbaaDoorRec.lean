/-
  Helper text: the law file's device that takes packets as a receiver; no statement is proved here.
-/
import Derived.Test.YtkfkcpogcobmbaaDoorTgApi2
import Derived.Test.YtkfkcpogcobmbaaDoorRsA
import Derived.Test.YtkfkcpogcobmbaaDoorLvA
import Derived.Test.YtkfkcpogcobmbaaDoorRowZ
namespace Go.Proofs.YtkfkcpogcobmbaaDoor
open Go Go.RowKit

/-- Bytes in a list of bytes: the header alone. -/
def layB : Lay (List UInt8) := ⟨22, 1, fun xs A c => [.slice A xs.length c], fun xs => xs, fun _ _ _ => rfl, fun p A c v hv => by
  obtain rfl : v = _ := by simpa using hv
  rfl⟩
theorem row_rds {w : World} {g t base : Nat} {xs : List UInt8} (h : Row w g t xs) (hb : base ≤ g) (hl : xs.length ≤ 9223372036854775807) : RdS (fun k => base ≤ k ∧ k < w.heap.size) w (some ⟨g, 0, none⟩) xs.length xs :=
  ⟨Nat.le_refl _, hl, fun _ => ⟨g, 0, rfl, ⟨hb, block_lt h⟩, fun j hj => by
    rw [Nat.zero_add, cell_at h j]
    simp [List.getD, hj]⟩⟩
/-- What is new, as a list. -/
theorem News.rdl {w : World} {base g : Nat} {ps : List (List UInt8)} (h : Tg.News w base g ps) (hs : Tg.Sml ps) : RdL layB (fun k => base ≤ k ∧ k < w.heap.size) w (some ⟨g, 0, none⟩) ps.length ps := by
  obtain ⟨vs, h1, h2, h3⟩ := h.hdr
  refine ⟨Nat.le_refl _, by have := hs.1; omega, fun hn => ?_⟩
  obtain ⟨vs2, hv, hc⟩ := Vs.of (L := layB) (F := fun k => base ≤ k ∧ k < w.heap.size) (w := w) (b := g) ps 0 (fun j hj => by
    obtain ⟨q, e1, e2, e3⟩ := h3 j hj
    have hg : ps.getD j [] = ps[j] := by simp [List.getD, hj]
    rw [hg] at e1 e3
    refine ⟨some ⟨q, 0, none⟩, ps[j].length, fun i v hi => ?_, ?_⟩
    · have h0 : i = 0 ∧ v = .slice (some ⟨q, 0, none⟩) ps[j].length ps[j].length := by
        cases i with
        | zero => exact ⟨rfl, by simpa [layB] using hi.symm⟩
        | succ i => simp [layB] at hi
      obtain ⟨rfl, rfl⟩ := h0
      show w.cell? ⟨g, 0 + j * 1 + 0, none⟩ = _
      rw [Nat.mul_one, Nat.zero_add, Nat.add_zero]
      exact Tg.block_at h1 (by simpa using e1)
    · exact row_rds e3 e2 (by have := hs.2 j; rw [hg] at this; omega))
  exact ⟨g, 0, vs2, rfl, ⟨h.ge, h.lt⟩, hv, hc⟩
/-- A list with blocks of F, as the other texts have it. -/
theorem RdL.rds {F : Nat → Prop} {w : World} {A : Option Addr} {c : Nat} {ps : List (List UInt8)} (h : RdL layB F w A c ps) {B : Nat} (hB : ∀ k, F k → k < B) : Tg.Rds w B A c ps := by
  refine ⟨h.le, h.cap, fun hn => ?_⟩
  obtain ⟨b, off, vs, rfl, hb, hv, hc⟩ := h.cells hn
  refine ⟨b, off, rfl, hB b hb, fun j hj => ?_⟩
  obtain ⟨A1, c1, h1, h2⟩ := hv.at_ j hj
  have hg : ps.getD j [] = ps[j] := by simp [List.getD, hj]
  rw [hg]
  refine ⟨A1, c1, ?_, h2.rd hB⟩
  have e := h1 0 (by decide)
  rw [show j * layB.sz + 0 = j from by show j * 1 + 0 = j; omega] at e
  rw [hc j (by show j < ps.length * 1; omega), e]
  rfl

theorem block_set2 {w : World} {g t : Nat} {a b c : Value} (h : w.heap[g]? = some (.cells #[a, b, c] t (0, 0))) (u v : Value) : ((w.setCell ⟨g, 0, none⟩ u).setCell ⟨g, 1, none⟩ v).heap[g]? = some (.cells #[u, v, c] t (0, 0)) := by
  have h1 := block_set h 0 u
  have h2 := block_set h1 1 v
  simpa using h2
theorem grown_set2 (w : World) (g : Nat) (u v : Value) : w.grownBy ((w.setCell ⟨g, 0, none⟩ u).setCell ⟨g, 1, none⟩ v) (some g) :=
  Tg.grown_trans (Tg.grown_setCell w ⟨g, 0, none⟩ u) (Tg.grown_setCell _ ⟨g, 1, none⟩ v)
structure RecS where
  tog : Bool
  got : List (List UInt8)
  tok : Bool
/-- The device behind a packet, and its answer. -/
def hearRec (s : RecS) (p : Pkt) : RecS × Pkt × Bool :=
  if p.pid = 1 then (⟨s.tog, s.got, true⟩, zeroP, false)
  else if s.tok = true ∧ (p.pid = 3 ∨ p.pid = 11) ∧ p.data.length ≤ 1000000 then
    (if (p.pid == 11) = s.tog then ⟨!s.tog, s.got ++ [p.data], false⟩ else ⟨s.tog, s.got, false⟩, ackP, true)
  else (s, zeroP, false)
/-- Block b is the device. -/
def recA (N b : Nat) (s : RecS) : Asr N where
  holds F w := (∃ Ag cg, w.heap[b]? = some (.cells #[.bool s.tog, .slice Ag s.got.length cg, .bool s.tok] 89 (0, 0)) ∧ RdL layB (fun k => F k ∧ k ≠ b) w Ag cg s.got) ∧ F b ∧ ∀ k, F k → N ≤ k ∧ k < w.heap.size
  ge := fun h => h.2.2
  loc := fun ⟨⟨Ag, cg, h1, h2⟩, h3, h4⟩ hs hk => ⟨⟨Ag, cg, (hk _ (.inl h3)).trans h1, h2.keep fun k h => hk k (.inl h.1)⟩, h3, fun k hf => ⟨(h4 k hf).1, Nat.lt_of_lt_of_le (h4 k hf).2 hs⟩⟩

def recP (s : RecS) : Prop := s.got.length ≤ 2000000 ∧ ∀ x ∈ s.got, x.length ≤ 1000000
theorem recP.sml {s : RecS} (h : recP s) : Tg.Sml s.got := ⟨by have := h.1; omega, fun j => by
  by_cases hj : j < s.got.length
  · have : s.got.getD j [] = s.got[j] := by simp [List.getD, hj]
    rw [this]
    have := h.2 _ (List.getElem_mem hj)
    omega
  · have : s.got.getD j [] = [] := by simp [List.getD, Nat.le_of_not_lt hj]
    rw [this]; simp⟩

set_option maxHeartbeats 3200000 in
set_option maxRecDepth 100000 in
theorem rec_any (w : World) (N b : Nat) (s : RecS) (F : Nat → Prop) (h : (recA N b s).holds F w) (hP : recP s) (p : Pkt) (ok : p.Ok) (A : Option Addr) (c : Nat) (hr : RdS (fun k => ¬ F k) w A c p.data) (hN : N ≤ w.heap.size) :
    Calls Tryd.prog 113 #[.pointer (some ⟨b, 0, none⟩), pkV p A c] w (HearPost (recA N b (hearRec s p).1) F w (hearRec s p).2.1 (hearRec s p).2.2) := by
  have hF := (recA N b s).ge h
  obtain ⟨g0, g1, g2, g3⟩ := alloc2 w (pkB p A c) pkZ
  have h3 := Asr.below h g3 hN
  have hr3 := hr.below g3
  obtain ⟨⟨Ag, cg, e1, e2⟩, e4, e5⟩ := h3
  have hbw : b < w.heap.size := (hF b e4).2
  have Hsml := Lib.hid hP.sml
  have HP := Lib.hid hP
  obtain ⟨tog, got, tok⟩ := s
  simp only at e1 e2
  have p0 := block_at g0 (i := 0) (v := .int .u8 (p.pid : Int)) rfl
  have p9 := block_at g0 (i := 9) (v := .slice A p.data.length c) rfl
  have c0 := block_at e1 (i := 0) rfl
  have c1 := block_at e1 (i := 1) rfl
  have c2 := block_at e1 (i := 2) rfl
  have f2 := block_free e1 2
  obtain ⟨R, hR⟩ : ∃ R, hearRec ⟨tog, got, tok⟩ p = R := ⟨_, rfl⟩
  rw [hR]
  have HR := Lib.hid hR
  have HF := Lib.hid hF
  have HN := Lib.hid hN
  have HL := Lib.hid ok.len
  have B0 := Lib.hid g0
  have B1 := Lib.hid g1
  have Hs := Lib.hid g2
  have Hb := Lib.hid g3
  have E1 := Lib.hid e1
  have E2 := Lib.hid e2
  have E4 := Lib.hid e4
  have E5 := Lib.hid e5
  have Hr3 := Lib.hid hr3
  clear g0 g1 g2 g3 e1 e2 e4 e5 hr3 hr hN hF hR h ok hP
  obtain ⟨b1, hb1⟩ : ∃ x, (p.pid == 1) = x := ⟨_, rfl⟩
  obtain ⟨b3, hb3⟩ : ∃ x, (p.pid == 3) = x := ⟨_, rfl⟩
  obtain ⟨b11, hb11⟩ : ∃ x, (p.pid == 11) = x := ⟨_, rfl⟩
  have j1 : ((p.pid : Int) == 1) = b1 := (castEq p.pid 1).trans hb1
  have j3 : ((p.pid : Int) != 3) = !b3 := by rw [bne, show ((p.pid : Int) == 3) = (p.pid == 3) from castEq p.pid 3, hb3]
  have j11 : ((p.pid : Int) != 11) = !b11 := by rw [bne, show ((p.pid : Int) == 11) = (p.pid == 11) from castEq p.pid 11, hb11]
  have j11' : ((p.pid : Int) == 11) = b11 := (castEq p.pid 11).trans hb11
  have hR2 : (if b1 = true then ((⟨tog, got, true⟩ : RecS), zeroP, false) else if tok = true ∧ (b3 = true ∨ b11 = true) then (if b11 = tog then ⟨!tog, got ++ [p.data], false⟩ else ⟨tog, got, false⟩, ackP, true) else (⟨tog, got, tok⟩, zeroP, false)) = R := by
    rw [← HR.out]
    unfold hearRec
    rw [← hb1, ← hb3, hb11, ← hb11]
    have hle : (p.data.length ≤ 1000000) = True := eq_true HL.out
    simp only [beq_iff_eq, hle, and_true]
  have HR2 := Lib.hid hR2
  have HX := Lib.hid (show b3 = true → b11 = false from by rw [← hb3, ← hb11]; intro h; rw [eq_of_beq h]; rfl)
  clear hb1 hb3 hb11 hR2 HR
  have KH := Lib.hid fun (X : World) (h : RdL layB (fun k => F k ∧ k ≠ b) X Ag cg got) (hd : RdS (fun k => ¬ F k) X A c p.data) => show Calls Tryd.prog 114 #[.agg #[.bool tog, .slice Ag got.length cg], .bool b11, .slice A p.data.length c] X (Tg.ResHr X (if b11 = tog then !tog else tog) (if b11 = tog then got ++ [p.data] else got) (b11 == tog)) from by
    have hrd := h.lt (by decide)
    by_cases e : b11 = tog
    · subst e
      rw [if_pos rfl, if_pos rfl]
      have := Tg.hear_yes X b11 Ag cg got (hrd.rds fun k hk => hk.2) Hsml.out A c p.data hd.rdT (by have := HP.out.1; simp only at this; omega) (by have := HL.out; omega)
      simpa using this
    · rw [if_neg e, if_neg e]
      have := Tg.hear_no X tog Ag cg got (hrd.rds fun k hk => hk.2) Hsml.out (.slice A p.data.length c)
      have hb : b11 = !tog := by cases b11 <;> cases tog <;> simp at e ⊢
      subst hb
      simpa using this
  cases b1
  · have HB := Lib.hid (show ∃ z, z = (if tok = true ∧ (b3 = true ∨ b11 = true) then (if b11 = tog then (⟨!tog, got ++ [p.data], false⟩ : RecS) else ⟨tog, got, false⟩, ackP, true) else (⟨tog, got, tok⟩, zeroP, false)) from ⟨_, rfl⟩)
    clear HB
    by_cases hk : tok = true ∧ (b3 = true ∨ b11 = true)
    · obtain ⟨rfl, hb⟩ := hk
      have HQ := Lib.hid hb
      have HR3 := Lib.hid (show ((⟨if b11 = tog then !tog else tog, if b11 = tog then got ++ [p.data] else got, false⟩ : RecS), ackP, true) = R from by
        have := HR2.out
        rw [if_neg (by simp), if_pos ⟨rfl, hb⟩] at this
        rw [← this]
        by_cases e : b11 = tog
        · simp [e]
        · simp [e])
      have := HR3.out
      subst this
      obtain ⟨tog', ht'⟩ : ∃ x, (if b11 = tog then !tog else tog) = x := ⟨_, rfl⟩
      obtain ⟨got', hg'⟩ : ∃ x, (if b11 = tog then got ++ [p.data] else got) = x := ⟨_, rfl⟩
      obtain ⟨fr, hfr⟩ : ∃ x, (b11 == tog) = x := ⟨_, rfl⟩
      rw [ht', hg', hfr] at KH
      rw [ht', hg']
      have hs2 : Tg.Sml got' := by
        rw [← hg']
        by_cases e : b11 = tog
        · rw [if_pos e]; exact Tg.Sml.snoc Hsml.out (show got.length ≤ 4000000 by have h : got.length ≤ 2000000 := HP.out.1; omega) (by have := HL.out; omega)
        · rw [if_neg e]; exact Hsml.out
      have Hs2 := Lib.hid hs2
      clear HR2 HR3 hb hs2 ht' hg' hfr
      have j3' : b3 = true → b11 = false := HX.out
      go_enter Tryd.func113, Tryd.ntmps113
      have hwm : ∀ (Q : Prop), ((b3 = false → b11 = true) → Q) → Q := fun Q h => h (fun e => HQ.out.elim (fun h => by rw [e] at h; cases h) id)
      have i27 : ((!b3) && (!b11)) = false := by have := HQ.out; cases b3 <;> cases b11 <;> simp at this ⊢
      clear hwm j3'
      cases b3
      · have : b11 = true := by simpa using i27
        subst this
        go_wp2_with (refine wpl_storeC rfl (.tmp 31) (.const (.bool false)) rfl b 2 rfl _ rfl rfl (by kernel_rfl) E1.out (by simp) ?_; intro y1 k1 hg1 hs1)
        have hs3 : y1.heap.size = ((w.alloc (pkB p A c)).alloc pkZ).heap.size := hs1
        have hw3 := Hb.out.size
        have hwz : w.heap.size + 1 + 1 = ((w.alloc (pkB p A c)).alloc pkZ).heap.size := Hs.out.symm
        have hn := HN.out
        have B01 := grown_block hg1 B0.out (fun e => by injection e; omega)
        have B11 := grown_block hg1 B1.out (fun e => by injection e; omega)
        have E21 : RdL layB (fun k => F k ∧ k ≠ b) y1 Ag cg got := (E2.out.lt (by decide)).keep (w' := y1) (fun k hk => hg1.block k hk.2 (fun e => by injection e with e; exact hk.1.2 e)) |>.mono fun k hk => hk.1
        have R1 : RdS (fun k => ¬ F k) y1 A c p.data := Hr3.out.grown hg1 (fun k hk e => hk (by rw [e]; exact E4.out))
        have M1 : Mv F w F y1 := ⟨hg1.os.trans Hb.out.os, hg1.tape.trans Hb.out.tape, hg1.output.trans Hb.out.output, by omega, fun k hk hn2 => by rw [hg1.block k (by omega) (fun e => hn2 (by injection e with e; rw [e]; exact E4.out)), Hb.out.block k hk], fun k hk => .inl hk⟩
        refine startTP (S := fun a => a.block = b ∨ a.block = w.heap.size) (T := [16]) (fun X => X.heap[b]? = some (.cells #[.bool tog, .slice Ag got.length cg, .bool false] 89 (0, 0)) ∧ X.heap[w.heap.size]? = some (pkB p A c) ∧ X.heap[w.heap.size + 1]? = some pkZ ∧ RdL layB (fun k => F k ∧ k ≠ b) X Ag cg got ∧ RdS (fun k => ¬ F k) X A c p.data ∧ Mv F w F X ∧ X.heap.size = w.heap.size + 1 + 1) 17 (by kernel_rfl) rfl (l := #[false, false, false, false, false, false, false, false, false, false, false, false, false, false, false, false, false]) rfl ⟨k1, B01, B11, E21.keep fun _ _ => rfl, R1.drew, M1.drew, by show y1.heap.size = _; omega⟩ ?_
        clear k1 B01 B11 E21 R1 M1 hg1 hs1 hs3 hw3 hwz c0 c1 c2 f2 p0 p9
        rintro x0 ⟨q1, q2, q3, q4, q5, q6, q7⟩
        have d0 := block_at q1 (i := 0) (v := .bool tog) rfl
        have d1 := block_at q1 (i := 1) (v := .slice Ag got.length cg) rfl
        have d2 := block_at q2 (i := 0) (v := .int .u8 (p.pid : Int)) rfl
        have d3 := block_at q2 (i := 9) (v := .slice A p.data.length c) rfl
        ((first | (refine takeT 0 (v := ?_) rfl (by decide +kernel) (by decide +kernel) (by decide +kernel) (fun _ _ _ h => h) (by decide +kernel) (Or.inl ⟨by rfl, ?_⟩) ?_; rotate_left 1; (focus (intro W hW; have hcW := hW.at; (try dsimp only at hcW); go_simp; first | done | with_reducible rfl)); try simp only [Act.put, List.setIfInBounds_toArray, List.set_cons_zero, List.set_cons_succ]) | (refine takeW 0 (v := ?_) rfl (by decide +kernel) (by decide +kernel) (by decide +kernel) (fun _ _ _ h => h) (Or.inl ⟨by rfl, ?_⟩) ?_; rotate_left 1; (focus (intro W hW; go_simp; first | done | with_reducible rfl)); try simp only [Act.put, List.setIfInBounds_toArray, List.set_cons_zero, List.set_cons_succ]) | (refine takeW 0 rfl (by decide +kernel) (by decide +kernel) (by decide +kernel) (fun _ _ _ h => h) (Or.inr ⟨by rfl, rfl⟩) ?_; try simp only [Act.put, List.setIfInBounds_toArray, List.set_cons_zero, List.set_cons_succ]) | skip); (first | (refine takeT 1 (v := ?_) rfl (by decide +kernel) (by decide +kernel) (by decide +kernel) (fun _ _ _ h => h) (by decide +kernel) (Or.inl ⟨by rfl, ?_⟩) ?_; rotate_left 1; (focus (intro W hW; have hcW := hW.at; (try dsimp only at hcW); go_simp; first | done | with_reducible rfl)); try simp only [Act.put, List.setIfInBounds_toArray, List.set_cons_zero, List.set_cons_succ]) | (refine takeW 1 (v := ?_) rfl (by decide +kernel) (by decide +kernel) (by decide +kernel) (fun _ _ _ h => h) (Or.inl ⟨by rfl, ?_⟩) ?_; rotate_left 1; (focus (intro W hW; go_simp; first | done | with_reducible rfl)); try simp only [Act.put, List.setIfInBounds_toArray, List.set_cons_zero, List.set_cons_succ]) | (refine takeW 1 rfl (by decide +kernel) (by decide +kernel) (by decide +kernel) (fun _ _ _ h => h) (Or.inr ⟨by rfl, rfl⟩) ?_; try simp only [Act.put, List.setIfInBounds_toArray, List.set_cons_zero, List.set_cons_succ]) | skip); (first | (refine takeT 2 (v := ?_) rfl (by decide +kernel) (by decide +kernel) (by decide +kernel) (fun _ _ _ h => h) (by decide +kernel) (Or.inl ⟨by rfl, ?_⟩) ?_; rotate_left 1; (focus (intro W hW; have hcW := hW.at; (try dsimp only at hcW); go_simp; first | done | with_reducible rfl)); try simp only [Act.put, List.setIfInBounds_toArray, List.set_cons_zero, List.set_cons_succ]) | (refine takeW 2 (v := ?_) rfl (by decide +kernel) (by decide +kernel) (by decide +kernel) (fun _ _ _ h => h) (Or.inl ⟨by rfl, ?_⟩) ?_; rotate_left 1; (focus (intro W hW; go_simp; first | done | with_reducible rfl)); try simp only [Act.put, List.setIfInBounds_toArray, List.set_cons_zero, List.set_cons_succ]) | (refine takeW 2 rfl (by decide +kernel) (by decide +kernel) (by decide +kernel) (fun _ _ _ h => h) (Or.inr ⟨by rfl, rfl⟩) ?_; try simp only [Act.put, List.setIfInBounds_toArray, List.set_cons_zero, List.set_cons_succ]) | skip); (first | (refine takeT 3 (v := ?_) rfl (by decide +kernel) (by decide +kernel) (by decide +kernel) (fun _ _ _ h => h) (by decide +kernel) (Or.inl ⟨by rfl, ?_⟩) ?_; rotate_left 1; (focus (intro W hW; have hcW := hW.at; (try dsimp only at hcW); go_simp; first | done | with_reducible rfl)); try simp only [Act.put, List.setIfInBounds_toArray, List.set_cons_zero, List.set_cons_succ]) | (refine takeW 3 (v := ?_) rfl (by decide +kernel) (by decide +kernel) (by decide +kernel) (fun _ _ _ h => h) (Or.inl ⟨by rfl, ?_⟩) ?_; rotate_left 1; (focus (intro W hW; go_simp; first | done | with_reducible rfl)); try simp only [Act.put, List.setIfInBounds_toArray, List.set_cons_zero, List.set_cons_succ]) | (refine takeW 3 rfl (by decide +kernel) (by decide +kernel) (by decide +kernel) (fun _ _ _ h => h) (Or.inr ⟨by rfl, rfl⟩) ?_; try simp only [Act.put, List.setIfInBounds_toArray, List.set_cons_zero, List.set_cons_succ]) | skip))
        refine takeT 4 (v := .agg #[.bool tog, .slice Ag got.length cg]) rfl (by decide +kernel) (by decide +kernel) (by decide +kernel) (fun _ _ _ h => h) (by decide +kernel) (yieldsIf_load_mid (by rfl) _ (.tmp 36) rfl b 0 rfl [.bool tog, .slice Ag got.length cg] _ (fun W hW => by
          intro j v hj
          rw [Nat.zero_add]
          match j, hj with
          | 0, hj => obtain rfl : _ = v := by simpa using hj
                     exact (hW ⟨b, 0, none⟩ (.inl rfl)).trans d0
          | 1, hj => obtain rfl : _ = v := by simpa using hj
                     exact (hW ⟨b, 1, none⟩ (.inl rfl)).trans d1
          | j + 2, hj => simp at hj) Tryd.underlying87 rfl (by kernel_rfl)) ?_
        try simp only [Act.put, List.setIfInBounds_toArray, List.set_cons_zero, List.set_cons_succ]
        ((first | (refine takeT 5 (v := ?_) rfl (by decide +kernel) (by decide +kernel) (by decide +kernel) (fun _ _ _ h => h) (by decide +kernel) (Or.inl ⟨by rfl, ?_⟩) ?_; rotate_left 1; (focus (intro W hW; have hcW := hW.at; (try dsimp only at hcW); go_simp; first | done | with_reducible rfl)); try simp only [Act.put, List.setIfInBounds_toArray, List.set_cons_zero, List.set_cons_succ]) | (refine takeW 5 (v := ?_) rfl (by decide +kernel) (by decide +kernel) (by decide +kernel) (fun _ _ _ h => h) (Or.inl ⟨by rfl, ?_⟩) ?_; rotate_left 1; (focus (intro W hW; go_simp; first | done | with_reducible rfl)); try simp only [Act.put, List.setIfInBounds_toArray, List.set_cons_zero, List.set_cons_succ]) | (refine takeW 5 rfl (by decide +kernel) (by decide +kernel) (by decide +kernel) (fun _ _ _ h => h) (Or.inr ⟨by rfl, rfl⟩) ?_; try simp only [Act.put, List.setIfInBounds_toArray, List.set_cons_zero, List.set_cons_succ]) | skip); (first | (refine takeT 6 (v := ?_) rfl (by decide +kernel) (by decide +kernel) (by decide +kernel) (fun _ _ _ h => h) (by decide +kernel) (Or.inl ⟨by rfl, ?_⟩) ?_; rotate_left 1; (focus (intro W hW; have hcW := hW.at; (try dsimp only at hcW); go_simp; first | done | with_reducible rfl)); try simp only [Act.put, List.setIfInBounds_toArray, List.set_cons_zero, List.set_cons_succ]) | (refine takeW 6 (v := ?_) rfl (by decide +kernel) (by decide +kernel) (by decide +kernel) (fun _ _ _ h => h) (Or.inl ⟨by rfl, ?_⟩) ?_; rotate_left 1; (focus (intro W hW; go_simp; first | done | with_reducible rfl)); try simp only [Act.put, List.setIfInBounds_toArray, List.set_cons_zero, List.set_cons_succ]) | (refine takeW 6 rfl (by decide +kernel) (by decide +kernel) (by decide +kernel) (fun _ _ _ h => h) (Or.inr ⟨by rfl, rfl⟩) ?_; try simp only [Act.put, List.setIfInBounds_toArray, List.set_cons_zero, List.set_cons_succ]) | skip); (first | (refine takeT 7 (v := ?_) rfl (by decide +kernel) (by decide +kernel) (by decide +kernel) (fun _ _ _ h => h) (by decide +kernel) (Or.inl ⟨by rfl, ?_⟩) ?_; rotate_left 1; (focus (intro W hW; have hcW := hW.at; (try dsimp only at hcW); go_simp; first | done | with_reducible rfl)); try simp only [Act.put, List.setIfInBounds_toArray, List.set_cons_zero, List.set_cons_succ]) | (refine takeW 7 (v := ?_) rfl (by decide +kernel) (by decide +kernel) (by decide +kernel) (fun _ _ _ h => h) (Or.inl ⟨by rfl, ?_⟩) ?_; rotate_left 1; (focus (intro W hW; go_simp; first | done | with_reducible rfl)); try simp only [Act.put, List.setIfInBounds_toArray, List.set_cons_zero, List.set_cons_succ]) | (refine takeW 7 rfl (by decide +kernel) (by decide +kernel) (by decide +kernel) (fun _ _ _ h => h) (Or.inr ⟨by rfl, rfl⟩) ?_; try simp only [Act.put, List.setIfInBounds_toArray, List.set_cons_zero, List.set_cons_succ]) | skip); (first | (refine takeT 8 (v := ?_) rfl (by decide +kernel) (by decide +kernel) (by decide +kernel) (fun _ _ _ h => h) (by decide +kernel) (Or.inl ⟨by rfl, ?_⟩) ?_; rotate_left 1; (focus (intro W hW; have hcW := hW.at; (try dsimp only at hcW); go_simp; first | done | with_reducible rfl)); try simp only [Act.put, List.setIfInBounds_toArray, List.set_cons_zero, List.set_cons_succ]) | (refine takeW 8 (v := ?_) rfl (by decide +kernel) (by decide +kernel) (by decide +kernel) (fun _ _ _ h => h) (Or.inl ⟨by rfl, ?_⟩) ?_; rotate_left 1; (focus (intro W hW; go_simp; first | done | with_reducible rfl)); try simp only [Act.put, List.setIfInBounds_toArray, List.set_cons_zero, List.set_cons_succ]) | (refine takeW 8 rfl (by decide +kernel) (by decide +kernel) (by decide +kernel) (fun _ _ _ h => h) (Or.inr ⟨by rfl, rfl⟩) ?_; try simp only [Act.put, List.setIfInBounds_toArray, List.set_cons_zero, List.set_cons_succ]) | skip); (first | (refine takeT 9 (v := ?_) rfl (by decide +kernel) (by decide +kernel) (by decide +kernel) (fun _ _ _ h => h) (by decide +kernel) (Or.inl ⟨by rfl, ?_⟩) ?_; rotate_left 1; (focus (intro W hW; have hcW := hW.at; (try dsimp only at hcW); go_simp; first | done | with_reducible rfl)); try simp only [Act.put, List.setIfInBounds_toArray, List.set_cons_zero, List.set_cons_succ]) | (refine takeW 9 (v := ?_) rfl (by decide +kernel) (by decide +kernel) (by decide +kernel) (fun _ _ _ h => h) (Or.inl ⟨by rfl, ?_⟩) ?_; rotate_left 1; (focus (intro W hW; go_simp; first | done | with_reducible rfl)); try simp only [Act.put, List.setIfInBounds_toArray, List.set_cons_zero, List.set_cons_succ]) | (refine takeW 9 rfl (by decide +kernel) (by decide +kernel) (by decide +kernel) (fun _ _ _ h => h) (Or.inr ⟨by rfl, rfl⟩) ?_; try simp only [Act.put, List.setIfInBounds_toArray, List.set_cons_zero, List.set_cons_succ]) | skip))
        clear d0 d1 d2 d3
        refine stepT 10 rfl (by decide +kernel) (by rfl) ?_
        intro K hK
        go_simp
        refine (KH.out x0 q4 q5).mono ?_
        rintro e x1 ⟨g, rfl, hn4, bb⟩
        have Q1 := Lib.hid ((bb.block _ (block_lt q1)).trans q1)
        have Q3 := Lib.hid ((bb.block _ (block_lt q3)).trans q3)
        have lt0 : w.heap.size < x0.heap.size := by omega
        refine hK _ _ (.inr (fun a ha => bb.cell (by rcases ha with h | h <;> omega))) ?_
        clear hK K lt0
        try simp only [Act.put, List.setIfInBounds_toArray, List.set_cons_zero, List.set_cons_succ]
        have Q7 := Lib.hid q7
        have M7 := Lib.hid (q6.trans (Mv.of_below F bb))
        have N4 := Lib.hid hn4
        have BB := Lib.hid bb.size
        clear q1 q2 q3 q4 q5 q6 q7 bb hn4
        ((first | (refine takeT 11 (v := ?_) rfl (by decide +kernel) (by decide +kernel) (by decide +kernel) (fun _ _ _ h => h) (by decide +kernel) (Or.inl ⟨by rfl, ?_⟩) ?_; rotate_left 1; (focus (intro W hW; have hcW := hW.at; (try dsimp only at hcW); go_simp; first | done | with_reducible rfl)); try simp only [Act.put, List.setIfInBounds_toArray, List.set_cons_zero, List.set_cons_succ]) | (refine takeW 11 (v := ?_) rfl (by decide +kernel) (by decide +kernel) (by decide +kernel) (fun _ _ _ h => h) (Or.inl ⟨by rfl, ?_⟩) ?_; rotate_left 1; (focus (intro W hW; go_simp; first | done | with_reducible rfl)); try simp only [Act.put, List.setIfInBounds_toArray, List.set_cons_zero, List.set_cons_succ]) | (refine takeW 11 rfl (by decide +kernel) (by decide +kernel) (by decide +kernel) (fun _ _ _ h => h) (Or.inr ⟨by rfl, rfl⟩) ?_; try simp only [Act.put, List.setIfInBounds_toArray, List.set_cons_zero, List.set_cons_succ]) | skip); (first | (refine takeT 12 (v := ?_) rfl (by decide +kernel) (by decide +kernel) (by decide +kernel) (fun _ _ _ h => h) (by decide +kernel) (Or.inl ⟨by rfl, ?_⟩) ?_; rotate_left 1; (focus (intro W hW; have hcW := hW.at; (try dsimp only at hcW); go_simp; first | done | with_reducible rfl)); try simp only [Act.put, List.setIfInBounds_toArray, List.set_cons_zero, List.set_cons_succ]) | (refine takeW 12 (v := ?_) rfl (by decide +kernel) (by decide +kernel) (by decide +kernel) (fun _ _ _ h => h) (Or.inl ⟨by rfl, ?_⟩) ?_; rotate_left 1; (focus (intro W hW; go_simp; first | done | with_reducible rfl)); try simp only [Act.put, List.setIfInBounds_toArray, List.set_cons_zero, List.set_cons_succ]) | (refine takeW 12 rfl (by decide +kernel) (by decide +kernel) (by decide +kernel) (fun _ _ _ h => h) (Or.inr ⟨by rfl, rfl⟩) ?_; try simp only [Act.put, List.setIfInBounds_toArray, List.set_cons_zero, List.set_cons_succ]) | skip); (first | (refine takeT 13 (v := ?_) rfl (by decide +kernel) (by decide +kernel) (by decide +kernel) (fun _ _ _ h => h) (by decide +kernel) (Or.inl ⟨by rfl, ?_⟩) ?_; rotate_left 1; (focus (intro W hW; have hcW := hW.at; (try dsimp only at hcW); go_simp; first | done | with_reducible rfl)); try simp only [Act.put, List.setIfInBounds_toArray, List.set_cons_zero, List.set_cons_succ]) | (refine takeW 13 (v := ?_) rfl (by decide +kernel) (by decide +kernel) (by decide +kernel) (fun _ _ _ h => h) (Or.inl ⟨by rfl, ?_⟩) ?_; rotate_left 1; (focus (intro W hW; go_simp; first | done | with_reducible rfl)); try simp only [Act.put, List.setIfInBounds_toArray, List.set_cons_zero, List.set_cons_succ]) | (refine takeW 13 rfl (by decide +kernel) (by decide +kernel) (by decide +kernel) (fun _ _ _ h => h) (Or.inr ⟨by rfl, rfl⟩) ?_; try simp only [Act.put, List.setIfInBounds_toArray, List.set_cons_zero, List.set_cons_succ]) | skip); (first | (refine takeT 14 (v := ?_) rfl (by decide +kernel) (by decide +kernel) (by decide +kernel) (fun _ _ _ h => h) (by decide +kernel) (Or.inl ⟨by rfl, ?_⟩) ?_; rotate_left 1; (focus (intro W hW; have hcW := hW.at; (try dsimp only at hcW); go_simp; first | done | with_reducible rfl)); try simp only [Act.put, List.setIfInBounds_toArray, List.set_cons_zero, List.set_cons_succ]) | (refine takeW 14 (v := ?_) rfl (by decide +kernel) (by decide +kernel) (by decide +kernel) (fun _ _ _ h => h) (Or.inl ⟨by rfl, ?_⟩) ?_; rotate_left 1; (focus (intro W hW; go_simp; first | done | with_reducible rfl)); try simp only [Act.put, List.setIfInBounds_toArray, List.set_cons_zero, List.set_cons_succ]) | (refine takeW 14 rfl (by decide +kernel) (by decide +kernel) (by decide +kernel) (fun _ _ _ h => h) (Or.inr ⟨by rfl, rfl⟩) ?_; try simp only [Act.put, List.setIfInBounds_toArray, List.set_cons_zero, List.set_cons_succ]) | skip); (first | (refine takeT 15 (v := ?_) rfl (by decide +kernel) (by decide +kernel) (by decide +kernel) (fun _ _ _ h => h) (by decide +kernel) (Or.inl ⟨by rfl, ?_⟩) ?_; rotate_left 1; (focus (intro W hW; have hcW := hW.at; (try dsimp only at hcW); go_simp; first | done | with_reducible rfl)); try simp only [Act.put, List.setIfInBounds_toArray, List.set_cons_zero, List.set_cons_succ]) | (refine takeW 15 (v := ?_) rfl (by decide +kernel) (by decide +kernel) (by decide +kernel) (fun _ _ _ h => h) (Or.inl ⟨by rfl, ?_⟩) ?_; rotate_left 1; (focus (intro W hW; go_simp; first | done | with_reducible rfl)); try simp only [Act.put, List.setIfInBounds_toArray, List.set_cons_zero, List.set_cons_succ]) | (refine takeW 15 rfl (by decide +kernel) (by decide +kernel) (by decide +kernel) (fun _ _ _ h => h) (Or.inr ⟨by rfl, rfl⟩) ?_; try simp only [Act.put, List.setIfInBounds_toArray, List.set_cons_zero, List.set_cons_succ]) | skip))
        have d0 := block_at Q1.out (i := 0) (v := .bool tog) rfl
        have d1 := block_at Q1.out (i := 1) (v := .slice Ag got.length cg) rfl
        have f0 := block_free Q1.out 0
        have f1 := block_free Q1.out 1
        refine stepT 16 rfl (by decide +kernel) (by rfl) ?_
        intro K hK
        go_simp
        refine hK _ _ (.inl (by decide)) ?_
        clear hK K d0 d1 f0 f1
        try simp only [Act.put, List.setIfInBounds_toArray, List.set_cons_zero, List.set_cons_succ]
        refine doneT (by kernel_rfl) ?_
        have Z1 := Lib.hid (block_set2 Q1.out (.bool tog') (.slice (some ⟨g, 0, none⟩) got'.length got'.length))
        have G2 := Lib.hid (grown_set2 x1 b (.bool tog') (.slice (some ⟨g, 0, none⟩) got'.length got'.length))
        have Zs := Lib.hid (show ((x1.setCell ⟨b, 0, none⟩ (.bool tog')).setCell ⟨b, 1, none⟩ (.slice (some ⟨g, 0, none⟩) got'.length got'.length)).heap.size = x1.heap.size from by simp [World.setCell])
        generalize ((x1.setCell ⟨b, 0, none⟩ (.bool tog')).setCell ⟨b, 1, none⟩ (.slice (some ⟨g, 0, none⟩) got'.length got'.length)) = x2 at Z1 G2 Zs ⊢
        have Q32 := Lib.hid (grown_block G2.out Q3.out (fun e => by injection e; have := (HF.out b E4.out).2; omega))
        go_wp2_with (refine wpl_storeB flatPk rfl (.tmp 4) (.tmp 48) rfl _ rfl _ rfl Q32.out rfl rfl rfl ?_; intro y2 k2 hg2 hs2')
        refine bodyPost_ret (ret_cell_tmp flatPk rfl _ (w.heap.size + 1) rfl k2 rfl) rfl ?_
        have hb1 := BB.out
        have hq := Q7.out
        have hz := Zs.out
        have hbw2 := (HF.out b E4.out)
        have hnl : RdL layB (fun k => w.heap.size + 1 + 1 ≤ k ∧ k < x1.heap.size) x1 (some ⟨g, 0, none⟩) got'.length got' := (News.rdl N4.out Hs2.out).mono fun k hk => by omega
        have h1 : (recA N b ⟨tog', got', false⟩).holds (fun k => k = b ∨ (w.heap.size + 1 + 1 ≤ k ∧ k < x1.heap.size)) x2 := ⟨⟨_, _, Z1.out, (hnl.keep (w' := x2) (fun k hk => G2.out.block k hk.2 (fun e => by injection e; omega))).mono fun k hk => ⟨.inr hk, by omega⟩⟩, .inl rfl, fun k hk => by rcases hk with rfl | hk <;> omega⟩
        refine ⟨none, 0, _, rfl, ackP_ok, RdS.nil _, Asr.grown h1 hg2 (fun hf => by omega) (by omega) (by omega), ?_⟩
        refine Mv.grown_new (w' := x2) ⟨G2.out.os.trans M7.out.os, G2.out.tape.trans M7.out.tape, G2.out.output.trans M7.out.output, by omega, fun k hk hn2 => ?_, fun k hk => by rcases hk with rfl | hk; exact .inl E4.out; exact .inr (by omega)⟩ hg2 (by omega)
        rw [G2.out.block k (by omega) (fun e => hn2 (by injection e with e; rw [e]; exact E4.out)), M7.out.keep k hk hn2]
      · obtain rfl : b11 = false := HX.out rfl
        go_wp2_with (refine wpl_storeC rfl (.tmp 31) (.const (.bool false)) rfl b 2 rfl _ rfl rfl (by kernel_rfl) E1.out (by simp) ?_; intro y1 k1 hg1 hs1)
        have hs3 : y1.heap.size = ((w.alloc (pkB p A c)).alloc pkZ).heap.size := hs1
        have hw3 := Hb.out.size
        have hwz : w.heap.size + 1 + 1 = ((w.alloc (pkB p A c)).alloc pkZ).heap.size := Hs.out.symm
        have hn := HN.out
        have B01 := grown_block hg1 B0.out (fun e => by injection e; omega)
        have B11 := grown_block hg1 B1.out (fun e => by injection e; omega)
        have E21 : RdL layB (fun k => F k ∧ k ≠ b) y1 Ag cg got := (E2.out.lt (by decide)).keep (w' := y1) (fun k hk => hg1.block k hk.2 (fun e => by injection e with e; exact hk.1.2 e)) |>.mono fun k hk => hk.1
        have R1 : RdS (fun k => ¬ F k) y1 A c p.data := Hr3.out.grown hg1 (fun k hk e => hk (by rw [e]; exact E4.out))
        have M1 : Mv F w F y1 := ⟨hg1.os.trans Hb.out.os, hg1.tape.trans Hb.out.tape, hg1.output.trans Hb.out.output, by omega, fun k hk hn2 => by rw [hg1.block k (by omega) (fun e => hn2 (by injection e with e; rw [e]; exact E4.out)), Hb.out.block k hk], fun k hk => .inl hk⟩
        refine startTP (S := fun a => a.block = b ∨ a.block = w.heap.size) (T := [16]) (fun X => X.heap[b]? = some (.cells #[.bool tog, .slice Ag got.length cg, .bool false] 89 (0, 0)) ∧ X.heap[w.heap.size]? = some (pkB p A c) ∧ X.heap[w.heap.size + 1]? = some pkZ ∧ RdL layB (fun k => F k ∧ k ≠ b) X Ag cg got ∧ RdS (fun k => ¬ F k) X A c p.data ∧ Mv F w F X ∧ X.heap.size = w.heap.size + 1 + 1) 17 (by kernel_rfl) rfl (l := #[false, false, false, false, false, false, false, false, false, false, false, false, false, false, false, false, false]) rfl ⟨k1, B01, B11, E21.keep fun _ _ => rfl, R1.drew, M1.drew, by show y1.heap.size = _; omega⟩ ?_
        clear k1 B01 B11 E21 R1 M1 hg1 hs1 hs3 hw3 hwz c0 c1 c2 f2 p0 p9
        rintro x0 ⟨q1, q2, q3, q4, q5, q6, q7⟩
        have d0 := block_at q1 (i := 0) (v := .bool tog) rfl
        have d1 := block_at q1 (i := 1) (v := .slice Ag got.length cg) rfl
        have d2 := block_at q2 (i := 0) (v := .int .u8 (p.pid : Int)) rfl
        have d3 := block_at q2 (i := 9) (v := .slice A p.data.length c) rfl
        ((first | (refine takeT 0 (v := ?_) rfl (by decide +kernel) (by decide +kernel) (by decide +kernel) (fun _ _ _ h => h) (by decide +kernel) (Or.inl ⟨by rfl, ?_⟩) ?_; rotate_left 1; (focus (intro W hW; have hcW := hW.at; (try dsimp only at hcW); go_simp; first | done | with_reducible rfl)); try simp only [Act.put, List.setIfInBounds_toArray, List.set_cons_zero, List.set_cons_succ]) | (refine takeW 0 (v := ?_) rfl (by decide +kernel) (by decide +kernel) (by decide +kernel) (fun _ _ _ h => h) (Or.inl ⟨by rfl, ?_⟩) ?_; rotate_left 1; (focus (intro W hW; go_simp; first | done | with_reducible rfl)); try simp only [Act.put, List.setIfInBounds_toArray, List.set_cons_zero, List.set_cons_succ]) | (refine takeW 0 rfl (by decide +kernel) (by decide +kernel) (by decide +kernel) (fun _ _ _ h => h) (Or.inr ⟨by rfl, rfl⟩) ?_; try simp only [Act.put, List.setIfInBounds_toArray, List.set_cons_zero, List.set_cons_succ]) | skip); (first | (refine takeT 1 (v := ?_) rfl (by decide +kernel) (by decide +kernel) (by decide +kernel) (fun _ _ _ h => h) (by decide +kernel) (Or.inl ⟨by rfl, ?_⟩) ?_; rotate_left 1; (focus (intro W hW; have hcW := hW.at; (try dsimp only at hcW); go_simp; first | done | with_reducible rfl)); try simp only [Act.put, List.setIfInBounds_toArray, List.set_cons_zero, List.set_cons_succ]) | (refine takeW 1 (v := ?_) rfl (by decide +kernel) (by decide +kernel) (by decide +kernel) (fun _ _ _ h => h) (Or.inl ⟨by rfl, ?_⟩) ?_; rotate_left 1; (focus (intro W hW; go_simp; first | done | with_reducible rfl)); try simp only [Act.put, List.setIfInBounds_toArray, List.set_cons_zero, List.set_cons_succ]) | (refine takeW 1 rfl (by decide +kernel) (by decide +kernel) (by decide +kernel) (fun _ _ _ h => h) (Or.inr ⟨by rfl, rfl⟩) ?_; try simp only [Act.put, List.setIfInBounds_toArray, List.set_cons_zero, List.set_cons_succ]) | skip); (first | (refine takeT 2 (v := ?_) rfl (by decide +kernel) (by decide +kernel) (by decide +kernel) (fun _ _ _ h => h) (by decide +kernel) (Or.inl ⟨by rfl, ?_⟩) ?_; rotate_left 1; (focus (intro W hW; have hcW := hW.at; (try dsimp only at hcW); go_simp; first | done | with_reducible rfl)); try simp only [Act.put, List.setIfInBounds_toArray, List.set_cons_zero, List.set_cons_succ]) | (refine takeW 2 (v := ?_) rfl (by decide +kernel) (by decide +kernel) (by decide +kernel) (fun _ _ _ h => h) (Or.inl ⟨by rfl, ?_⟩) ?_; rotate_left 1; (focus (intro W hW; go_simp; first | done | with_reducible rfl)); try simp only [Act.put, List.setIfInBounds_toArray, List.set_cons_zero, List.set_cons_succ]) | (refine takeW 2 rfl (by decide +kernel) (by decide +kernel) (by decide +kernel) (fun _ _ _ h => h) (Or.inr ⟨by rfl, rfl⟩) ?_; try simp only [Act.put, List.setIfInBounds_toArray, List.set_cons_zero, List.set_cons_succ]) | skip); (first | (refine takeT 3 (v := ?_) rfl (by decide +kernel) (by decide +kernel) (by decide +kernel) (fun _ _ _ h => h) (by decide +kernel) (Or.inl ⟨by rfl, ?_⟩) ?_; rotate_left 1; (focus (intro W hW; have hcW := hW.at; (try dsimp only at hcW); go_simp; first | done | with_reducible rfl)); try simp only [Act.put, List.setIfInBounds_toArray, List.set_cons_zero, List.set_cons_succ]) | (refine takeW 3 (v := ?_) rfl (by decide +kernel) (by decide +kernel) (by decide +kernel) (fun _ _ _ h => h) (Or.inl ⟨by rfl, ?_⟩) ?_; rotate_left 1; (focus (intro W hW; go_simp; first | done | with_reducible rfl)); try simp only [Act.put, List.setIfInBounds_toArray, List.set_cons_zero, List.set_cons_succ]) | (refine takeW 3 rfl (by decide +kernel) (by decide +kernel) (by decide +kernel) (fun _ _ _ h => h) (Or.inr ⟨by rfl, rfl⟩) ?_; try simp only [Act.put, List.setIfInBounds_toArray, List.set_cons_zero, List.set_cons_succ]) | skip))
        refine takeT 4 (v := .agg #[.bool tog, .slice Ag got.length cg]) rfl (by decide +kernel) (by decide +kernel) (by decide +kernel) (fun _ _ _ h => h) (by decide +kernel) (yieldsIf_load_mid (by rfl) _ (.tmp 36) rfl b 0 rfl [.bool tog, .slice Ag got.length cg] _ (fun W hW => by
          intro j v hj
          rw [Nat.zero_add]
          match j, hj with
          | 0, hj => obtain rfl : _ = v := by simpa using hj
                     exact (hW ⟨b, 0, none⟩ (.inl rfl)).trans d0
          | 1, hj => obtain rfl : _ = v := by simpa using hj
                     exact (hW ⟨b, 1, none⟩ (.inl rfl)).trans d1
          | j + 2, hj => simp at hj) Tryd.underlying87 rfl (by kernel_rfl)) ?_
        try simp only [Act.put, List.setIfInBounds_toArray, List.set_cons_zero, List.set_cons_succ]
        ((first | (refine takeT 5 (v := ?_) rfl (by decide +kernel) (by decide +kernel) (by decide +kernel) (fun _ _ _ h => h) (by decide +kernel) (Or.inl ⟨by rfl, ?_⟩) ?_; rotate_left 1; (focus (intro W hW; have hcW := hW.at; (try dsimp only at hcW); go_simp; first | done | with_reducible rfl)); try simp only [Act.put, List.setIfInBounds_toArray, List.set_cons_zero, List.set_cons_succ]) | (refine takeW 5 (v := ?_) rfl (by decide +kernel) (by decide +kernel) (by decide +kernel) (fun _ _ _ h => h) (Or.inl ⟨by rfl, ?_⟩) ?_; rotate_left 1; (focus (intro W hW; go_simp; first | done | with_reducible rfl)); try simp only [Act.put, List.setIfInBounds_toArray, List.set_cons_zero, List.set_cons_succ]) | (refine takeW 5 rfl (by decide +kernel) (by decide +kernel) (by decide +kernel) (fun _ _ _ h => h) (Or.inr ⟨by rfl, rfl⟩) ?_; try simp only [Act.put, List.setIfInBounds_toArray, List.set_cons_zero, List.set_cons_succ]) | skip); (first | (refine takeT 6 (v := ?_) rfl (by decide +kernel) (by decide +kernel) (by decide +kernel) (fun _ _ _ h => h) (by decide +kernel) (Or.inl ⟨by rfl, ?_⟩) ?_; rotate_left 1; (focus (intro W hW; have hcW := hW.at; (try dsimp only at hcW); go_simp; first | done | with_reducible rfl)); try simp only [Act.put, List.setIfInBounds_toArray, List.set_cons_zero, List.set_cons_succ]) | (refine takeW 6 (v := ?_) rfl (by decide +kernel) (by decide +kernel) (by decide +kernel) (fun _ _ _ h => h) (Or.inl ⟨by rfl, ?_⟩) ?_; rotate_left 1; (focus (intro W hW; go_simp; first | done | with_reducible rfl)); try simp only [Act.put, List.setIfInBounds_toArray, List.set_cons_zero, List.set_cons_succ]) | (refine takeW 6 rfl (by decide +kernel) (by decide +kernel) (by decide +kernel) (fun _ _ _ h => h) (Or.inr ⟨by rfl, rfl⟩) ?_; try simp only [Act.put, List.setIfInBounds_toArray, List.set_cons_zero, List.set_cons_succ]) | skip); (first | (refine takeT 7 (v := ?_) rfl (by decide +kernel) (by decide +kernel) (by decide +kernel) (fun _ _ _ h => h) (by decide +kernel) (Or.inl ⟨by rfl, ?_⟩) ?_; rotate_left 1; (focus (intro W hW; have hcW := hW.at; (try dsimp only at hcW); go_simp; first | done | with_reducible rfl)); try simp only [Act.put, List.setIfInBounds_toArray, List.set_cons_zero, List.set_cons_succ]) | (refine takeW 7 (v := ?_) rfl (by decide +kernel) (by decide +kernel) (by decide +kernel) (fun _ _ _ h => h) (Or.inl ⟨by rfl, ?_⟩) ?_; rotate_left 1; (focus (intro W hW; go_simp; first | done | with_reducible rfl)); try simp only [Act.put, List.setIfInBounds_toArray, List.set_cons_zero, List.set_cons_succ]) | (refine takeW 7 rfl (by decide +kernel) (by decide +kernel) (by decide +kernel) (fun _ _ _ h => h) (Or.inr ⟨by rfl, rfl⟩) ?_; try simp only [Act.put, List.setIfInBounds_toArray, List.set_cons_zero, List.set_cons_succ]) | skip); (first | (refine takeT 8 (v := ?_) rfl (by decide +kernel) (by decide +kernel) (by decide +kernel) (fun _ _ _ h => h) (by decide +kernel) (Or.inl ⟨by rfl, ?_⟩) ?_; rotate_left 1; (focus (intro W hW; have hcW := hW.at; (try dsimp only at hcW); go_simp; first | done | with_reducible rfl)); try simp only [Act.put, List.setIfInBounds_toArray, List.set_cons_zero, List.set_cons_succ]) | (refine takeW 8 (v := ?_) rfl (by decide +kernel) (by decide +kernel) (by decide +kernel) (fun _ _ _ h => h) (Or.inl ⟨by rfl, ?_⟩) ?_; rotate_left 1; (focus (intro W hW; go_simp; first | done | with_reducible rfl)); try simp only [Act.put, List.setIfInBounds_toArray, List.set_cons_zero, List.set_cons_succ]) | (refine takeW 8 rfl (by decide +kernel) (by decide +kernel) (by decide +kernel) (fun _ _ _ h => h) (Or.inr ⟨by rfl, rfl⟩) ?_; try simp only [Act.put, List.setIfInBounds_toArray, List.set_cons_zero, List.set_cons_succ]) | skip); (first | (refine takeT 9 (v := ?_) rfl (by decide +kernel) (by decide +kernel) (by decide +kernel) (fun _ _ _ h => h) (by decide +kernel) (Or.inl ⟨by rfl, ?_⟩) ?_; rotate_left 1; (focus (intro W hW; have hcW := hW.at; (try dsimp only at hcW); go_simp; first | done | with_reducible rfl)); try simp only [Act.put, List.setIfInBounds_toArray, List.set_cons_zero, List.set_cons_succ]) | (refine takeW 9 (v := ?_) rfl (by decide +kernel) (by decide +kernel) (by decide +kernel) (fun _ _ _ h => h) (Or.inl ⟨by rfl, ?_⟩) ?_; rotate_left 1; (focus (intro W hW; go_simp; first | done | with_reducible rfl)); try simp only [Act.put, List.setIfInBounds_toArray, List.set_cons_zero, List.set_cons_succ]) | (refine takeW 9 rfl (by decide +kernel) (by decide +kernel) (by decide +kernel) (fun _ _ _ h => h) (Or.inr ⟨by rfl, rfl⟩) ?_; try simp only [Act.put, List.setIfInBounds_toArray, List.set_cons_zero, List.set_cons_succ]) | skip))
        clear d0 d1 d2 d3
        refine stepT 10 rfl (by decide +kernel) (by rfl) ?_
        intro K hK
        go_simp
        refine (KH.out x0 q4 q5).mono ?_
        rintro e x1 ⟨g, rfl, hn4, bb⟩
        have Q1 := Lib.hid ((bb.block _ (block_lt q1)).trans q1)
        have Q3 := Lib.hid ((bb.block _ (block_lt q3)).trans q3)
        have lt0 : w.heap.size < x0.heap.size := by omega
        refine hK _ _ (.inr (fun a ha => bb.cell (by rcases ha with h | h <;> omega))) ?_
        clear hK K lt0
        try simp only [Act.put, List.setIfInBounds_toArray, List.set_cons_zero, List.set_cons_succ]
        have Q7 := Lib.hid q7
        have M7 := Lib.hid (q6.trans (Mv.of_below F bb))
        have N4 := Lib.hid hn4
        have BB := Lib.hid bb.size
        clear q1 q2 q3 q4 q5 q6 q7 bb hn4
        ((first | (refine takeT 11 (v := ?_) rfl (by decide +kernel) (by decide +kernel) (by decide +kernel) (fun _ _ _ h => h) (by decide +kernel) (Or.inl ⟨by rfl, ?_⟩) ?_; rotate_left 1; (focus (intro W hW; have hcW := hW.at; (try dsimp only at hcW); go_simp; first | done | with_reducible rfl)); try simp only [Act.put, List.setIfInBounds_toArray, List.set_cons_zero, List.set_cons_succ]) | (refine takeW 11 (v := ?_) rfl (by decide +kernel) (by decide +kernel) (by decide +kernel) (fun _ _ _ h => h) (Or.inl ⟨by rfl, ?_⟩) ?_; rotate_left 1; (focus (intro W hW; go_simp; first | done | with_reducible rfl)); try simp only [Act.put, List.setIfInBounds_toArray, List.set_cons_zero, List.set_cons_succ]) | (refine takeW 11 rfl (by decide +kernel) (by decide +kernel) (by decide +kernel) (fun _ _ _ h => h) (Or.inr ⟨by rfl, rfl⟩) ?_; try simp only [Act.put, List.setIfInBounds_toArray, List.set_cons_zero, List.set_cons_succ]) | skip); (first | (refine takeT 12 (v := ?_) rfl (by decide +kernel) (by decide +kernel) (by decide +kernel) (fun _ _ _ h => h) (by decide +kernel) (Or.inl ⟨by rfl, ?_⟩) ?_; rotate_left 1; (focus (intro W hW; have hcW := hW.at; (try dsimp only at hcW); go_simp; first | done | with_reducible rfl)); try simp only [Act.put, List.setIfInBounds_toArray, List.set_cons_zero, List.set_cons_succ]) | (refine takeW 12 (v := ?_) rfl (by decide +kernel) (by decide +kernel) (by decide +kernel) (fun _ _ _ h => h) (Or.inl ⟨by rfl, ?_⟩) ?_; rotate_left 1; (focus (intro W hW; go_simp; first | done | with_reducible rfl)); try simp only [Act.put, List.setIfInBounds_toArray, List.set_cons_zero, List.set_cons_succ]) | (refine takeW 12 rfl (by decide +kernel) (by decide +kernel) (by decide +kernel) (fun _ _ _ h => h) (Or.inr ⟨by rfl, rfl⟩) ?_; try simp only [Act.put, List.setIfInBounds_toArray, List.set_cons_zero, List.set_cons_succ]) | skip); (first | (refine takeT 13 (v := ?_) rfl (by decide +kernel) (by decide +kernel) (by decide +kernel) (fun _ _ _ h => h) (by decide +kernel) (Or.inl ⟨by rfl, ?_⟩) ?_; rotate_left 1; (focus (intro W hW; have hcW := hW.at; (try dsimp only at hcW); go_simp; first | done | with_reducible rfl)); try simp only [Act.put, List.setIfInBounds_toArray, List.set_cons_zero, List.set_cons_succ]) | (refine takeW 13 (v := ?_) rfl (by decide +kernel) (by decide +kernel) (by decide +kernel) (fun _ _ _ h => h) (Or.inl ⟨by rfl, ?_⟩) ?_; rotate_left 1; (focus (intro W hW; go_simp; first | done | with_reducible rfl)); try simp only [Act.put, List.setIfInBounds_toArray, List.set_cons_zero, List.set_cons_succ]) | (refine takeW 13 rfl (by decide +kernel) (by decide +kernel) (by decide +kernel) (fun _ _ _ h => h) (Or.inr ⟨by rfl, rfl⟩) ?_; try simp only [Act.put, List.setIfInBounds_toArray, List.set_cons_zero, List.set_cons_succ]) | skip); (first | (refine takeT 14 (v := ?_) rfl (by decide +kernel) (by decide +kernel) (by decide +kernel) (fun _ _ _ h => h) (by decide +kernel) (Or.inl ⟨by rfl, ?_⟩) ?_; rotate_left 1; (focus (intro W hW; have hcW := hW.at; (try dsimp only at hcW); go_simp; first | done | with_reducible rfl)); try simp only [Act.put, List.setIfInBounds_toArray, List.set_cons_zero, List.set_cons_succ]) | (refine takeW 14 (v := ?_) rfl (by decide +kernel) (by decide +kernel) (by decide +kernel) (fun _ _ _ h => h) (Or.inl ⟨by rfl, ?_⟩) ?_; rotate_left 1; (focus (intro W hW; go_simp; first | done | with_reducible rfl)); try simp only [Act.put, List.setIfInBounds_toArray, List.set_cons_zero, List.set_cons_succ]) | (refine takeW 14 rfl (by decide +kernel) (by decide +kernel) (by decide +kernel) (fun _ _ _ h => h) (Or.inr ⟨by rfl, rfl⟩) ?_; try simp only [Act.put, List.setIfInBounds_toArray, List.set_cons_zero, List.set_cons_succ]) | skip); (first | (refine takeT 15 (v := ?_) rfl (by decide +kernel) (by decide +kernel) (by decide +kernel) (fun _ _ _ h => h) (by decide +kernel) (Or.inl ⟨by rfl, ?_⟩) ?_; rotate_left 1; (focus (intro W hW; have hcW := hW.at; (try dsimp only at hcW); go_simp; first | done | with_reducible rfl)); try simp only [Act.put, List.setIfInBounds_toArray, List.set_cons_zero, List.set_cons_succ]) | (refine takeW 15 (v := ?_) rfl (by decide +kernel) (by decide +kernel) (by decide +kernel) (fun _ _ _ h => h) (Or.inl ⟨by rfl, ?_⟩) ?_; rotate_left 1; (focus (intro W hW; go_simp; first | done | with_reducible rfl)); try simp only [Act.put, List.setIfInBounds_toArray, List.set_cons_zero, List.set_cons_succ]) | (refine takeW 15 rfl (by decide +kernel) (by decide +kernel) (by decide +kernel) (fun _ _ _ h => h) (Or.inr ⟨by rfl, rfl⟩) ?_; try simp only [Act.put, List.setIfInBounds_toArray, List.set_cons_zero, List.set_cons_succ]) | skip))
        have d0 := block_at Q1.out (i := 0) (v := .bool tog) rfl
        have d1 := block_at Q1.out (i := 1) (v := .slice Ag got.length cg) rfl
        have f0 := block_free Q1.out 0
        have f1 := block_free Q1.out 1
        refine stepT 16 rfl (by decide +kernel) (by rfl) ?_
        intro K hK
        go_simp
        refine hK _ _ (.inl (by decide)) ?_
        clear hK K d0 d1 f0 f1
        try simp only [Act.put, List.setIfInBounds_toArray, List.set_cons_zero, List.set_cons_succ]
        refine doneT (by kernel_rfl) ?_
        have Z1 := Lib.hid (block_set2 Q1.out (.bool tog') (.slice (some ⟨g, 0, none⟩) got'.length got'.length))
        have G2 := Lib.hid (grown_set2 x1 b (.bool tog') (.slice (some ⟨g, 0, none⟩) got'.length got'.length))
        have Zs := Lib.hid (show ((x1.setCell ⟨b, 0, none⟩ (.bool tog')).setCell ⟨b, 1, none⟩ (.slice (some ⟨g, 0, none⟩) got'.length got'.length)).heap.size = x1.heap.size from by simp [World.setCell])
        generalize ((x1.setCell ⟨b, 0, none⟩ (.bool tog')).setCell ⟨b, 1, none⟩ (.slice (some ⟨g, 0, none⟩) got'.length got'.length)) = x2 at Z1 G2 Zs ⊢
        have Q32 := Lib.hid (grown_block G2.out Q3.out (fun e => by injection e; have := (HF.out b E4.out).2; omega))
        go_wp2_with (refine wpl_storeB flatPk rfl (.tmp 4) (.tmp 48) rfl _ rfl _ rfl Q32.out rfl rfl rfl ?_; intro y2 k2 hg2 hs2')
        refine bodyPost_ret (ret_cell_tmp flatPk rfl _ (w.heap.size + 1) rfl k2 rfl) rfl ?_
        have hb1 := BB.out
        have hq := Q7.out
        have hz := Zs.out
        have hbw2 := (HF.out b E4.out)
        have hnl : RdL layB (fun k => w.heap.size + 1 + 1 ≤ k ∧ k < x1.heap.size) x1 (some ⟨g, 0, none⟩) got'.length got' := (News.rdl N4.out Hs2.out).mono fun k hk => by omega
        have h1 : (recA N b ⟨tog', got', false⟩).holds (fun k => k = b ∨ (w.heap.size + 1 + 1 ≤ k ∧ k < x1.heap.size)) x2 := ⟨⟨_, _, Z1.out, (hnl.keep (w' := x2) (fun k hk => G2.out.block k hk.2 (fun e => by injection e; omega))).mono fun k hk => ⟨.inr hk, by omega⟩⟩, .inl rfl, fun k hk => by rcases hk with rfl | hk <;> omega⟩
        refine ⟨none, 0, _, rfl, ackP_ok, RdS.nil _, Asr.grown h1 hg2 (fun hf => by omega) (by omega) (by omega), ?_⟩
        refine Mv.grown_new (w' := x2) ⟨G2.out.os.trans M7.out.os, G2.out.tape.trans M7.out.tape, G2.out.output.trans M7.out.output, by omega, fun k hk hn2 => ?_, fun k hk => by rcases hk with rfl | hk; exact .inl E4.out; exact .inr (by omega)⟩ hg2 (by omega)
        rw [G2.out.block k (by omega) (fun e => hn2 (by injection e with e; rw [e]; exact E4.out)), M7.out.keep k hk hn2]
    · have := HR2.out
      rw [if_neg (by simp), if_neg hk] at this
      subst this
      clear HR2 KH
      go_enter Tryd.func113, Tryd.ntmps113
      have hw3 := Hb.out.size
      have fin : ∀ z : World, ((w.alloc (pkB p A c)).alloc pkZ).grownBy z (some (w.heap.size + 1)) → HearPost (recA N b ⟨tog, got, tok⟩) F w zeroP false (.returned (.tuple #[pkV zeroP none 0, .bool false])) z := fun z hg => by
        have hn := HN.out
        exact ⟨none, 0, F, rfl, zeroP_ok, RdS.nil _, Asr.grown (A := recA N b ⟨tog, got, tok⟩) ⟨⟨Ag, cg, E1.out, E2.out⟩, E4.out, E5.out⟩ hg (fun hf => by have := HF.out _ hf; omega) (by omega) (by omega), (Mv.of_below F Hb.out).grown_new hg (by omega)⟩
      have Fin := Lib.hid fin
      clear fin hw3
      cases tok
      · go_wp2_with (refine wpl_storeB flatPk rfl (.tmp 4) (.tmp 28) rfl _ rfl _ rfl B1.out rfl rfl rfl ?_; intro y2 k2 hg2 hs2')
        refine bodyPost_ret (ret_cell_tmp flatPk rfl _ (w.heap.size + 1) rfl k2 rfl) rfl ?_
        exact Fin.out _ hg2
      · have h3 : b3 = false := by cases b3 <;> simp at hk ⊢
        have h11 : b11 = false := by cases b11 <;> simp at hk ⊢
        subst h3; subst h11
        go_wp2_with (refine wpl_storeB flatPk rfl (.tmp 4) (.tmp 28) rfl _ rfl _ rfl B1.out rfl rfl rfl ?_; intro y2 k2 hg2 hs2')
        refine bodyPost_ret (ret_cell_tmp flatPk rfl _ (w.heap.size + 1) rfl k2 rfl) rfl ?_
        exact Fin.out _ hg2
  · have := HR2.out
    rw [if_pos rfl] at this
    subst this
    clear HR2 KH
    go_enter Tryd.func113, Tryd.ntmps113
    go_wp2_with (first | (refine wpl_storeC rfl (.tmp 11) (.const (.bool true)) rfl b 2 rfl _ rfl rfl (by kernel_rfl) E1.out (by simp) ?_; intro y1 k1 hg1 hs1; have B11 := Lib.hid (grown_block hg1 B1.out (fun e => by injection e; have := (HF.out b E4.out).2; omega)); have K1 := Lib.hid k1; have G1 := Lib.hid hg1; have S1 := Lib.hid hs1; clear k1 hg1 hs1) | (refine wpl_storeB flatPk rfl (.tmp 4) (.tmp 12) rfl _ rfl _ rfl B11.out rfl rfl rfl ?_; intro y2 k2 hg2 hs2'))
    refine bodyPost_ret (ret_cell_tmp flatPk rfl _ (w.heap.size + 1) rfl k2 rfl) rfl ?_
    have hbw := (HF.out b E4.out).2
    have hn := HN.out
    have hw3 := Hb.out.size
    have hs3 : y1.heap.size = ((w.alloc (pkB p A c)).alloc pkZ).heap.size := S1.out
    have h1 : (recA N b ⟨tog, got, true⟩).holds F y1 := ⟨⟨Ag, cg, K1.out, (E2.out.lt (by decide)).keep (w' := y1) (fun k hk => G1.out.block k hk.2 (fun e => by injection e with e; exact hk.1.2 e)) |>.mono fun k hk => hk.1⟩, E4.out, fun k hk => by rw [hs3]; exact E5.out k hk⟩
    refine ⟨none, 0, F, rfl, zeroP_ok, RdS.nil _, Asr.grown h1 hg2 (fun hf => by have := HF.out _ hf; omega) (by omega) (by omega), ?_⟩
    refine Mv.grown_new (w' := y1) ⟨G1.out.os.trans Hb.out.os, G1.out.tape.trans Hb.out.tape, G1.out.output.trans Hb.out.output, by omega, fun k hk hn2 => ?_, fun k hk => .inl hk⟩ hg2 (by omega)
    have G1' : ((w.alloc (pkB p A c)).alloc pkZ).grownBy y1 (some b) := G1.out
    rw [G1'.block k (by omega) (fun e => hn2 (by injection e with e; rw [e]; exact E4.out)), Hb.out.block k hk]

end Go.Proofs.YtkfkcpogcobmbaaDoor
