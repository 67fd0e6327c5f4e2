/-
  Helper text, several in one; no statement is proved here.
-/
import Derived.Test.YtgihpgdjkanodaaGreatDoorChk
import Derived.Test.YtgihpgdjkanodaaGreatDoorWire
import Derived.RegionTactic
namespace Go.Proofs.YtgihpgdjkanodaaGreatDoor
open Go Go.RowKit

def difN (b : Bool) : Int := bif b then 0 else 1

set_option maxHeartbeats 1600000 in
set_option maxRecDepth 100000 in
theorem differ_core (w : World) (a b : Rg) (A A' : Option Addr) (c c' : Nat) (xs ys : List UInt8) (hx : Rd w w.heap.size A c xs) (hy : Rd w w.heap.size A' c' ys) (ha : a.data = .slice A xs.length c) (hb : b.data = .slice A' ys.length c')
    (b1 b2 b3 b4 b5 b6 b7 b8 b9 : Bool) (h1 : ((a.pid : Int) == (b.pid : Int)) = b1) (h2 : ((a.addr : Int) == (b.addr : Int)) = b2) (h3 : ((a.endp : Int) == (b.endp : Int)) = b3) (h4 : ((a.frame : Int) == (b.frame : Int)) = b4) (h5 : ((a.hub : Int) == (b.hub : Int)) = b5) (h6 : ((a.port : Int) == (b.port : Int)) = b6) (h7 : (a.comp == b.comp) = b7) (h8 : (a.low == b.low) = b8) (h9 : ((a.kind : Int) == (b.kind : Int)) = b9) :
    Calls Tryz.prog 19 #[.agg (pcells a), .agg (pcells b)] w fun e w' => e = .returned (.int .i64 (difN (b1 && b2 && b3 && b4 && b5 && b6 && b7 && b8 && b9 && decide (xs = ys)))) ∧ Below w.heap.size w w' := by
  have t1 : ((a.pid : Int) != (b.pid : Int)) = !b1 := by rw [bne, h1]
  have t2 : ((a.addr : Int) != (b.addr : Int)) = !b2 := by rw [bne, h2]
  have t3 : ((a.endp : Int) != (b.endp : Int)) = !b3 := by rw [bne, h3]
  have t4 : ((a.frame : Int) != (b.frame : Int)) = !b4 := by rw [bne, h4]
  have t5 : ((a.hub : Int) != (b.hub : Int)) = !b5 := by rw [bne, h5]
  have t6 : ((a.port : Int) != (b.port : Int)) = !b6 := by rw [bne, h6]
  have t7 : (a.comp != b.comp) = !b7 := by rw [bne, h7]
  have t8 : (a.low != b.low) = !b8 := by rw [bne, h8]
  have t9 : ((a.kind : Int) != (b.kind : Int)) = !b9 := by rw [bne, h9]
  obtain ⟨p0, p1, p2, p3, p4, p5, p6, p7, p8, p9, p10⟩ := a
  obtain ⟨q0, q1, q2, q3, q4, q5, q6, q7, q8, q9, q10⟩ := b
  simp only at ha hb h1 t1 h2 t2 h3 t3 h4 t4 h5 t5 h6 t6 h7 t7 h8 t8 h9 t9
  subst ha; subst hb
  simp only [pcells]
  have hx2 := Lib.hid ((hx.alloc (Nat.le_refl _) (.cells #[.int .u8 (p0 : Int), .int .u8 (p1 : Int), .int .u8 (p2 : Int), .int .u16 (p3 : Int), .int .u8 (p4 : Int), .int .u8 (p5 : Int), .bool p6, .bool p7, .int .u8 (p8 : Int), .slice A xs.length c] 82)).alloc (Nat.le_trans (Nat.le_refl _) (by simp)) (.cells #[.int .u8 (q0 : Int), .int .u8 (q1 : Int), .int .u8 (q2 : Int), .int .u16 (q3 : Int), .int .u8 (q4 : Int), .int .u8 (q5 : Int), .bool q6, .bool q7, .int .u8 (q8 : Int), .slice A' ys.length c'] 82))
  have hy2 := Lib.hid ((hy.alloc (Nat.le_refl _) (.cells #[.int .u8 (p0 : Int), .int .u8 (p1 : Int), .int .u8 (p2 : Int), .int .u16 (p3 : Int), .int .u8 (p4 : Int), .int .u8 (p5 : Int), .bool p6, .bool p7, .int .u8 (p8 : Int), .slice A xs.length c] 82)).alloc (Nat.le_trans (Nat.le_refl _) (by simp)) (.cells #[.int .u8 (q0 : Int), .int .u8 (q1 : Int), .int .u8 (q2 : Int), .int .u16 (q3 : Int), .int .u8 (q4 : Int), .int .u8 (q5 : Int), .bool q6, .bool q7, .int .u8 (q8 : Int), .slice A' ys.length c'] 82))
  cases b1
  · go_enter Tryz.func19, Tryz.ntmps19
    go_wp2
    go_ret
    exact ⟨rfl, ((Below.refl _ w).alloc (Nat.le_refl _) _).alloc (by simp) _⟩
  cases b2
  · go_enter Tryz.func19, Tryz.ntmps19
    go_wp2
    go_ret
    exact ⟨rfl, ((Below.refl _ w).alloc (Nat.le_refl _) _).alloc (by simp) _⟩
  cases b3
  · go_enter Tryz.func19, Tryz.ntmps19
    go_wp2
    go_ret
    exact ⟨rfl, ((Below.refl _ w).alloc (Nat.le_refl _) _).alloc (by simp) _⟩
  cases b4
  · go_enter Tryz.func19, Tryz.ntmps19
    go_wp2
    go_ret
    exact ⟨rfl, ((Below.refl _ w).alloc (Nat.le_refl _) _).alloc (by simp) _⟩
  cases b5
  · go_enter Tryz.func19, Tryz.ntmps19
    go_wp2
    go_ret
    exact ⟨rfl, ((Below.refl _ w).alloc (Nat.le_refl _) _).alloc (by simp) _⟩
  cases b6
  · go_enter Tryz.func19, Tryz.ntmps19
    go_wp2
    go_ret
    exact ⟨rfl, ((Below.refl _ w).alloc (Nat.le_refl _) _).alloc (by simp) _⟩
  cases b7
  · go_enter Tryz.func19, Tryz.ntmps19
    go_wp2
    go_ret
    exact ⟨rfl, ((Below.refl _ w).alloc (Nat.le_refl _) _).alloc (by simp) _⟩
  cases b8
  · go_enter Tryz.func19, Tryz.ntmps19
    go_wp2
    go_ret
    exact ⟨rfl, ((Below.refl _ w).alloc (Nat.le_refl _) _).alloc (by simp) _⟩
  cases b9
  · go_enter Tryz.func19, Tryz.ntmps19
    go_wp2
    go_ret
    exact ⟨rfl, ((Below.refl _ w).alloc (Nat.le_refl _) _).alloc (by simp) _⟩
  have s1 := hx2.out.str (P := Tryz.prog) (t := 47) (e := 5) Tryz.underlying47 Tryz.underlying5 (d := 9) Tryz.underlying9
  have s2 := hy2.out.str (P := Tryz.prog) (t := 47) (e := 5) Tryz.underlying47 Tryz.underlying5 (d := 9) Tryz.underlying9
  have he := eqStr xs ys
  obtain ⟨bx, hbx⟩ : ∃ bx, decide (xs = ys) = bx := ⟨_, rfl⟩
  have hbxh := Lib.hid hbx
  rw [hbx] at he
  clear hbx
  generalize (⟨xs.toArray⟩ : ByteArray) = sx at s1 he
  generalize (⟨ys.toArray⟩ : ByteArray) = sy at s2 he
  cases bx
  · go_enter Tryz.func19, Tryz.ntmps19
    go_wp2
    go_ret
    rw [hbxh.out]
    exact ⟨rfl, ((Below.refl _ w).alloc (Nat.le_refl _) _).alloc (by simp) _⟩
  · go_enter Tryz.func19, Tryz.ntmps19
    go_wp2
    go_ret
    rw [hbxh.out]
    exact ⟨rfl, ((Below.refl _ w).alloc (Nat.le_refl _) _).alloc (by simp) _⟩
theorem differ_any (w : World) (a b : Rg) (A A' : Option Addr) (c c' : Nat) (xs ys : List UInt8) (hx : Rd w w.heap.size A c xs) (hy : Rd w w.heap.size A' c' ys) (ha : a.data = .slice A xs.length c) (hb : b.data = .slice A' ys.length c') :
    Calls Tryz.prog 19 #[.agg (pcells a), .agg (pcells b)] w fun e w' => e = .returned (.int .i64 (difN (sameB a b xs ys))) ∧ Below w.heap.size w w' :=
  differ_core w a b A A' c c' xs ys hx hy ha hb _ _ _ _ _ _ _ _ _ (castEq _ _) (castEq _ _) (castEq _ _) (castEq _ _) (castEq _ _) (castEq _ _) rfl rfl (castEq _ _)

end Go.Proofs.YtgihpgdjkanodaaGreatDoor

namespace Go.Proofs.YtgihpgdjkanodaaGreatDoor
open Go Go.RowKit

/-- The closure that is told of what is sent. -/
abbrev noteV (b : Nat) : Value := .func (.func 64) #[] #[.pointer (some ⟨b, 0, none⟩)]
/-- The host as a value. -/
abbrev hostV (dv wv : Value) (b : Nat) : Value := .agg #[dv, wv, noteV b]

section
variable {N : Nat} {τ : Type} {W : τ → Asr N} {next : τ → τ × Nat} {wv : Value} (hW : WireOK W next wv)

set_option maxHeartbeats 1600000 in
set_option maxRecDepth 100000 in
include hW in
theorem send_any (dv : Value) (w : World) (b : Nat) (t : τ) (l : List SentP) (S : Nat → Prop) (h : ((W t).sep (snA N b l)).holds S w) (p : Pkt) (ok : p.Ok) (hb : Bool) (A : Option Addr) (c : Nat) (hr : RdS (fun k => ¬ S k) w A c p.data)
    (hl : l.length ≤ 1000000) (hN : N ≤ w.heap.size) :
    Calls Tryz.prog 67 #[hostV dv wv b, pkV p A c, .bool hb] w (Post ((W (next t).1).sep (snA N b (l ++ [(p, hb, (next t).2)]))) S w (.bool ((next t).2 == 0))) := by
  obtain ⟨FW, FS, hA, hS, hd, rfl⟩ := Asr.sep_eq h
  clear h
  have hFW := fun k hk => (W t).ge hA k hk
  have hFS := fun k hk => (snA N b l).ge hS k hk
  obtain ⟨h0, h1, h2, h3⟩ := alloc2 w (.cells #[dv, wv, noteV b] 127) (pkB p A c)
  have hA2 := Lib.hid (Asr.below hA h3 hN)
  have hS2 := Asr.below hS h3 hN
  have hr2 := hr.below h3
  have KF := Lib.hid fun W0 hW0 hN0 => hW.fault dv (noteV b) W0 t FW hW0 hN0
  have hN2 := Lib.hid (Nat.le_trans hN h3.size)
  generalize hnx : next t = nx at KF
  have hlt : nx.2 < 256 := by rw [← hnx]; exact hW.lt t
  obtain ⟨t', f⟩ := nx
  simp only at KF hlt ⊢
  have hfb0 : ((f : Int) == 0) = (f == 0) := castEq f 0
  obtain ⟨fb, hfb⟩ : ∃ fb, (f == 0) = fb := ⟨_, rfl⟩
  rw [hfb] at hfb0 ⊢
  have H0 := Lib.hid h0
  have H1 := Lib.hid h1
  have H2 := Lib.hid h2
  have H3 := Lib.hid h3
  have HS2 := Lib.hid hS2
  have Hr2 := Lib.hid hr2
  have Hd := Lib.hid hd
  have Hnx := Lib.hid hnx
  have Hl := Lib.hid hl
  have Hok := Lib.hid ok
  have HFW := Lib.hid hFW
  have HFS := Lib.hid hFS
  clear h0 h1 h2 h3 hS2 hr2 hd hnx hl ok hA hS hr hN hfb hFW hFS
  go_enter Tryz.func67, Tryz.ntmps67
  go_wp2_with (refine wpl_loadB flatHost rfl (.tmp 3) rfl _ rfl H0.out rfl ?_)
  refine (KF.out _ hA2.out hN2.out).mono ?_
  rintro e w1 ⟨rfl, F1, hA3, hm1⟩
  have b0 := hm1.box ⟨H0.out, fun hf => by have := (HFW.out _ hf).2; omega⟩
  have b1 := hm1.box ⟨H1.out, fun hf => by have := (HFW.out _ hf).2; omega⟩
  have hS3 := Lib.hid (Asr.mv HS2.out hm1 (fun k hk hw => Hd.out k hw hk) (fun k hk => (HFW.out k hk).1) hN2.out)
  have hr3 := Lib.hid ((Hr2.out.lt.keep fun k hk => hm1.keep k hk.2 (fun hf => hk.1 (.inl hf))).rdT)
  have hsz1 := Lib.hid (show w.heap.size + 1 + 1 ≤ w1.heap.size by have := hm1.size; rw [H2.out] at this; exact this)
  have hN3 := Lib.hid (Nat.le_trans hN2.out hm1.size)
  have B0 := Lib.hid b0.1
  have B1 := Lib.hid b1.1
  have hm1' := Lib.hid hm1
  have hA3' := Lib.hid hA3
  clear b0 b1 hm1 hA3 HS2 Hr2 hA2
  have d2 := block_at B0.out (i := 2) (v := noteV b) rfl
  go_wp2
  refine startT (S := fun a => a.block = w.heap.size ∨ a.block = w.heap.size + 1) (T := [7]) 8 (by kernel_rfl) rfl (l := #[false, false, false, false, false, false, false, false]) rfl ?_
  ((first | (refine takeT 0 (v := ?_) rfl (by decide +kernel) (by decide +kernel) (by decide +kernel) (fun _ _ _ h => h) (by decide +kernel) (Or.inl ⟨by rfl, ?_⟩) ?_; rotate_left 1; (focus (intro W hW; have hcW := hW.at; (try dsimp only at hcW); go_simp; first | done | with_reducible rfl)); try simp only [Act.put, List.setIfInBounds_toArray, List.set_cons_zero, List.set_cons_succ]) | (refine takeW 0 (v := ?_) rfl (by decide +kernel) (by decide +kernel) (by decide +kernel) (fun _ _ _ h => h) (Or.inl ⟨by rfl, ?_⟩) ?_; rotate_left 1; (focus (intro W hW; go_simp; first | done | with_reducible rfl)); try simp only [Act.put, List.setIfInBounds_toArray, List.set_cons_zero, List.set_cons_succ]) | (refine takeW 0 rfl (by decide +kernel) (by decide +kernel) (by decide +kernel) (fun _ _ _ h => h) (Or.inr ⟨by rfl, rfl⟩) ?_; try simp only [Act.put, List.setIfInBounds_toArray, List.set_cons_zero, List.set_cons_succ]) | skip); (first | (refine takeT 1 (v := ?_) rfl (by decide +kernel) (by decide +kernel) (by decide +kernel) (fun _ _ _ h => h) (by decide +kernel) (Or.inl ⟨by rfl, ?_⟩) ?_; rotate_left 1; (focus (intro W hW; have hcW := hW.at; (try dsimp only at hcW); go_simp; first | done | with_reducible rfl)); try simp only [Act.put, List.setIfInBounds_toArray, List.set_cons_zero, List.set_cons_succ]) | (refine takeW 1 (v := ?_) rfl (by decide +kernel) (by decide +kernel) (by decide +kernel) (fun _ _ _ h => h) (Or.inl ⟨by rfl, ?_⟩) ?_; rotate_left 1; (focus (intro W hW; go_simp; first | done | with_reducible rfl)); try simp only [Act.put, List.setIfInBounds_toArray, List.set_cons_zero, List.set_cons_succ]) | (refine takeW 1 rfl (by decide +kernel) (by decide +kernel) (by decide +kernel) (fun _ _ _ h => h) (Or.inr ⟨by rfl, rfl⟩) ?_; try simp only [Act.put, List.setIfInBounds_toArray, List.set_cons_zero, List.set_cons_succ]) | skip); (first | (refine takeT 4 (v := ?_) rfl (by decide +kernel) (by decide +kernel) (by decide +kernel) (fun _ _ _ h => h) (by decide +kernel) (Or.inl ⟨by rfl, ?_⟩) ?_; rotate_left 1; (focus (intro W hW; have hcW := hW.at; (try dsimp only at hcW); go_simp; first | done | with_reducible rfl)); try simp only [Act.put, List.setIfInBounds_toArray, List.set_cons_zero, List.set_cons_succ]) | (refine takeW 4 (v := ?_) rfl (by decide +kernel) (by decide +kernel) (by decide +kernel) (fun _ _ _ h => h) (Or.inl ⟨by rfl, ?_⟩) ?_; rotate_left 1; (focus (intro W hW; go_simp; first | done | with_reducible rfl)); try simp only [Act.put, List.setIfInBounds_toArray, List.set_cons_zero, List.set_cons_succ]) | (refine takeW 4 rfl (by decide +kernel) (by decide +kernel) (by decide +kernel) (fun _ _ _ h => h) (Or.inr ⟨by rfl, rfl⟩) ?_; try simp only [Act.put, List.setIfInBounds_toArray, List.set_cons_zero, List.set_cons_succ]) | skip); (first | (refine takeT 5 (v := ?_) rfl (by decide +kernel) (by decide +kernel) (by decide +kernel) (fun _ _ _ h => h) (by decide +kernel) (Or.inl ⟨by rfl, ?_⟩) ?_; rotate_left 1; (focus (intro W hW; have hcW := hW.at; (try dsimp only at hcW); go_simp; first | done | with_reducible rfl)); try simp only [Act.put, List.setIfInBounds_toArray, List.set_cons_zero, List.set_cons_succ]) | (refine takeW 5 (v := ?_) rfl (by decide +kernel) (by decide +kernel) (by decide +kernel) (fun _ _ _ h => h) (Or.inl ⟨by rfl, ?_⟩) ?_; rotate_left 1; (focus (intro W hW; go_simp; first | done | with_reducible rfl)); try simp only [Act.put, List.setIfInBounds_toArray, List.set_cons_zero, List.set_cons_succ]) | (refine takeW 5 rfl (by decide +kernel) (by decide +kernel) (by decide +kernel) (fun _ _ _ h => h) (Or.inr ⟨by rfl, rfl⟩) ?_; try simp only [Act.put, List.setIfInBounds_toArray, List.set_cons_zero, List.set_cons_succ]) | skip))
  refine stepT 2 rfl (by decide +kernel) (by rfl) ?_
  intro K hK
  refine wp_loadB (w := w1.drew) flatPk (.tmp 4) rfl (w.heap.size + 1) rfl B1.out rfl ?_
  refine hK _ _ (.inr (Sm.refl _ _)) ?_
  clear hK K
  try simp only [Act.put, List.setIfInBounds_toArray, List.set_cons_zero, List.set_cons_succ]
  refine stepT 3 rfl (by decide +kernel) (by rfl) ?_
  intro K hK
  go_simp
  refine (own_any _ p A c hr3.out.drew Hok.out.len).mono ?_
  rintro e w2 ⟨A1, c1', rfl, hr4, hb4⟩
  replace hb4 : Below w1.heap.size w1 w2 := ⟨hb4.os, hb4.tape, hb4.output, hb4.size, hb4.block⟩
  replace hr4 : RdS (fun k => w1.heap.size ≤ k ∧ k < w2.heap.size) w2 A1 c1' p.data := hr4
  have hS4 := Lib.hid (Asr.below hS3.out hb4 hN3.out)
  have hN4 := Lib.hid (Nat.le_trans hN3.out hb4.size)
  have hr4' := Lib.hid hr4
  refine hK _ _ (.inr fun a ha => hb4.cell (by have := hsz1.out; rcases ha with h | h <;> rw [h] <;> omega)) ?_
  clear hK K d2 hr4
  have hb4' := Lib.hid hb4
  clear hb4
  try simp only [Act.put, List.setIfInBounds_toArray, List.set_cons_zero, List.set_cons_succ]
  ((first | (refine takeT 6 (v := ?_) rfl (by decide +kernel) (by decide +kernel) (by decide +kernel) (fun _ _ _ h => h) (by decide +kernel) (Or.inl ⟨by rfl, ?_⟩) ?_; rotate_left 1; (focus (intro W hW; have hcW := hW.at; (try dsimp only at hcW); go_simp; first | done | with_reducible rfl)); try simp only [Act.put, List.setIfInBounds_toArray, List.set_cons_zero, List.set_cons_succ]) | (refine takeW 6 (v := ?_) rfl (by decide +kernel) (by decide +kernel) (by decide +kernel) (fun _ _ _ h => h) (Or.inl ⟨by rfl, ?_⟩) ?_; rotate_left 1; (focus (intro W hW; go_simp; first | done | with_reducible rfl)); try simp only [Act.put, List.setIfInBounds_toArray, List.set_cons_zero, List.set_cons_succ]) | (refine takeW 6 rfl (by decide +kernel) (by decide +kernel) (by decide +kernel) (fun _ _ _ h => h) (Or.inr ⟨by rfl, rfl⟩) ?_; try simp only [Act.put, List.setIfInBounds_toArray, List.set_cons_zero, List.set_cons_succ]) | skip))
  refine stepT 7 rfl (by decide +kernel) (by rfl) ?_
  intro K hK
  go_simp
  have hG : ∀ k, (w1.heap.size ≤ k ∧ k < w2.heap.size) → ¬ FS k ∧ N ≤ k ∧ k < w2.heap.size := fun k hk => ⟨fun hf => by have := (HFS.out k hf).2; have := hsz1.out; omega, by have := hN3.out; omega, hk.2⟩
  refine (note_any w2 N b l FS _ hS4.out p hb f A1 c1' hr4'.out hG Hl.out hN4.out).mono ?_
  rintro e w3 ⟨rfl, FS', hS5, hm3⟩
  refine hK _ _ (.inl (by decide)) ?_
  clear hK K
  try simp only [Act.put, List.setIfInBounds_toArray, List.set_cons_zero, List.set_cons_succ]
  refine doneT (by kernel_rfl) ?_
  have hfin : ((W t').sep (snA N b (l ++ [(p, hb, f)]))).holds (fun k => F1 k ∨ FS' k) w3 ∧ Mv (fun k => FW k ∨ FS k) w (fun k => F1 k ∨ FS' k) w3 := by
    have hm1 := hm1'.out
    have hb4 := hb4'.out
    have hs1 := hsz1.out
    have hF1 : ∀ k, F1 k → ¬ (FS k ∨ (w1.heap.size ≤ k ∧ k < w2.heap.size)) := fun k hk hn => by
      have h1 := ((W t').ge hA3'.out k hk).2
      rcases hn with hn | hn
      · rcases hm1.new k hk with h | h
        · exact Hd.out k h hn
        · have := (HFS.out k hn).2; rw [H2.out] at h; omega
      · omega
    refine ⟨⟨F1, FS', Asr.mv (Asr.below hA3'.out hb4 hN3.out) hm3 hF1 (fun k hk => hk.elim (fun h => (HFS.out k h).1) (fun h => by have := hN3.out; omega)) hN4.out, hS5, fun k hk hs => ?_, fun _ => Iff.rfl⟩, ?_⟩
    · rcases hm3.new k hs with h | h
      · exact hF1 k hk h
      · have h1 := ((W t').ge hA3'.out k hk).2
        have := hb4.size
        omega
    · have hsz2 := hb4.size
      have hsz3 := hm3.size
      refine ⟨hm3.os.trans (hb4.os.trans (hm1.os.trans H3.out.os)), hm3.tape.trans (hb4.tape.trans (hm1.tape.trans H3.out.tape)), hm3.output.trans (hb4.output.trans (hm1.output.trans H3.out.output)), by omega, fun k hk hn => ?_, fun k hk => ?_⟩
      · rw [hm3.keep k (by omega) (fun h => h.elim (fun h => hn (.inr h)) (fun h => by omega)), hb4.block k (by omega), hm1.keep k (by rw [H2.out]; omega) (fun h => hn (.inl h)), H3.out.block k hk]
      · rcases hk with hk | hk
        · rcases hm1.new k hk with h | h
          · exact .inl (.inl h)
          · rw [H2.out] at h; exact .inr (by omega)
        · rcases hm3.new k hk with h | h
          · rcases h with h | h
            · exact .inl (.inr h)
            · exact .inr (by omega)
          · exact .inr (by omega)
  have Hfin := Lib.hid hfin
  clear hfin hG hS5 hm3
  go_wp2
  go_ret
  exact ⟨rfl, _, Hfin.out.1, Hfin.out.2⟩
end

end Go.Proofs.YtgihpgdjkanodaaGreatDoor

