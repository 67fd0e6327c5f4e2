/-
  Helper text: the reference's text of packets; no statement is proved here.
-/
import Derived.Test.YtfblpakoibadoaaDoorRefX
namespace Go.Proofs.YtfblpakoibadoaaDoor
open Go Go.RowKit

set_option maxHeartbeats 1600000 in
set_option maxRecDepth 100000 in
theorem rtext_spl_false_true (w : World) (r : Rg) (ok : r.Ok) (hk : r.kind < 4) (hc : r.comp = false) (hl : r.low = true) (A : Option Addr) (n c : Nat) (hd : r.data = .slice A n c) (hp : r.pid = 8) :
    Calls Tryd.prog 10 #[.agg (pcells r)] w (ResS w (Lib.join (pidL.getD r.pid [] :: [[115, 116, 97, 114, 116], Lib.decDigits r.hub ++ [46] ++ Lib.decDigits r.port, kindL.getD r.kind [], [108, 111, 119]]) [32])) := by
  have HJ : Lib.join (pidL.getD r.pid [] :: [[115, 116, 97, 114, 116], Lib.decDigits r.hub ++ [46] ++ Lib.decDigits r.port, kindL.getD r.kind [], [108, 111, 119]]) [32] = ((pidL.getD r.pid [] ++ [32, 115, 116, 97, 114, 116, 32]) ++ ((((Lib.decDigits r.hub ++ [46]) ++ Lib.decDigits r.port) ++ [32]) ++ kindL.getD r.kind [])) ++ [32, 108, 111, 119] := by
    rw [Lib.join_cons, tail_cons, tail_cons, tail_cons]
    simp [Lib.joinTail]
  rw [HJ]
  clear HJ
  have KN := fun W => name_any W r.pid (by omega)
  have KT := fun W => token_any W r.pid ok.pid
  rw [show (r.pid == 1 || r.pid == 9 || r.pid == 13) = false by rw [hp]; rfl] at KT
  have KA := fun W => dec_all 3 W r.hub (Nat.lt_trans ok.hub (by decide)) (Nat.lt_trans ok.hub (by decide))
  have KE := fun W => dec_all 3 W r.port (Nat.lt_trans ok.port (by decide)) (Nat.lt_trans ok.port (by decide))
  have ln := pidL_le r.pid
  have la := digits_le 3 r.hub (Nat.lt_trans ok.hub (by decide))
  have le := digits_le 3 r.port (Nat.lt_trans ok.port (by decide))
  have lk := kindL_le r.kind
  have KT2 : Hid (∀ W W' : World, Gr (W.alloc (.cells #[.string ⟨#[99, 111, 110, 116, 114, 111, 108]⟩, .string ⟨#[105, 115, 111, 99, 104, 114, 111, 110, 111, 117, 115]⟩, .string ⟨#[98, 117, 108, 107]⟩, .string ⟨#[105, 110, 116, 101, 114, 114, 117, 112, 116]⟩] 9)) W' → W'.cell? ⟨W.heap.size, r.kind, none⟩ = some (.string ⟨(kindL.getD r.kind []).toArray⟩)) := fun W W' hW => by
    have hn := heap_alloc_new W (.cells #[.string ⟨#[99, 111, 110, 116, 114, 111, 108]⟩, .string ⟨#[105, 115, 111, 99, 104, 114, 111, 110, 111, 117, 115]⟩, .string ⟨#[98, 117, 108, 107]⟩, .string ⟨#[105, 110, 116, 101, 114, 114, 117, 112, 116]⟩] 9)
    have hn2 := (hW.block _ (lt_of_block hn)).trans hn
    rw [cell_at hn2 r.kind]
    rcases (by omega : r.kind = 0 ∨ r.kind = 1 ∨ r.kind = 2 ∨ r.kind = 3) with h | h | h | h <;> rw [h] <;> rfl
  generalize pidL.getD r.pid [] = nm at KN ln ⊢
  generalize Lib.decDigits r.hub = dh at KA la ⊢
  generalize Lib.decDigits r.port = dp at KE le ⊢
  generalize kindL.getD r.kind [] = kk at KT2 lk ⊢
  obtain ⟨sn, hsn⟩ : ∃ sn, (⟨(nm).toArray⟩ : ByteArray) = sn := ⟨_, rfl⟩
  have zsn : sn.size ≤ 5 := by rw [← hsn]; show (nm).toArray.size ≤ 5; simpa using ln
  delta ResS at KN
  simp only [sv] at KN
  rw [hsn] at KN
  replace hsn := Lib.hid hsn
  obtain ⟨sh, hsh⟩ : ∃ sh, (⟨(dh).toArray⟩ : ByteArray) = sh := ⟨_, rfl⟩
  have zsh : sh.size ≤ 4 := by rw [← hsh]; show (dh).toArray.size ≤ 4; simpa using la
  delta ResS at KA
  simp only [sv] at KA
  rw [hsh] at KA
  replace hsh := Lib.hid hsh
  obtain ⟨sp, hsp⟩ : ∃ sp, (⟨(dp).toArray⟩ : ByteArray) = sp := ⟨_, rfl⟩
  have zsp : sp.size ≤ 4 := by rw [← hsp]; show (dp).toArray.size ≤ 4; simpa using le
  delta ResS at KE
  simp only [sv] at KE
  rw [hsp] at KE
  replace hsp := Lib.hid hsp
  obtain ⟨sk, hsk⟩ : ∃ sk, (⟨(kk).toArray⟩ : ByteArray) = sk := ⟨_, rfl⟩
  have zsk : sk.size ≤ 11 := by rw [← hsk]; show (kk).toArray.size ≤ 11; simpa using lk
  rw [hsk] at KT2
  replace hsk := Lib.hid hsk
  obtain ⟨L, hL⟩ : ∃ L, ((nm ++ [32, 115, 116, 97, 114, 116, 32]) ++ ((((dh ++ [46]) ++ dp) ++ [32]) ++ kk)) ++ [32, 108, 111, 119] = L := ⟨_, rfl⟩
  have HF := Lib.hid (show ((sn ++ (⟨#[32, 115, 116, 97, 114, 116, 32]⟩ : ByteArray)) ++ ((((sh ++ (⟨#[46]⟩ : ByteArray)) ++ sp) ++ (⟨#[32]⟩ : ByteArray)) ++ sk)) ++ (⟨#[32, 108, 111, 119]⟩ : ByteArray) = ⟨L.toArray⟩ by
    rw [← hL, ← hsn.out, ← hsh.out, ← hsp.out, ← hsk.out, ← app_str, ← app_str, ← app_str, ← app_str, ← app_str, ← app_str, ← app_str])
  rw [hL]
  clear hL
  have u1 : IntKind.i64.wrap (r.hub : Int) = (r.hub : Int) := IntWalk.i64_in _ (by have := ok.hub; omega)
  have u2 : IntKind.i64.wrap (r.port : Int) = (r.port : Int) := IntWalk.i64_in _ (by have := ok.port; omega)
  have u3 : (r.kind : Int) < 4 := by omega
  have b1 := ok.hub
  have b2 := ok.port
  obtain ⟨p0, p1, p2, p3, p4, p5, p6, p7, p8, p9, p10⟩ := r
  simp only at hd hp KN KT KA KE b1 b2 u1 u2 u3 hk hc hl KT2
  subst hd hp hc hl
  simp only [pcells]
  have KNh := Lib.hid KN
  have KTh := Lib.hid KT
  have KAh := Lib.hid KA
  have KEh := Lib.hid KE
  clear KN KT KA KE ln la le lk ok
  have hb0 := Lib.hid (heap_alloc_new w (.cells #[.int .u8 8, .int .u8 (p1 : Int), .int .u8 (p2 : Int), .int .u16 (p3 : Int), .int .u8 (p4 : Int), .int .u8 (p5 : Int), .bool false, .bool true, .int .u8 (p8 : Int), .slice A n c] 29))
  have hbW := Lib.hid ((Below.refl w.heap.size w).alloc (Nat.le_refl _) (.cells #[.int .u8 8, .int .u8 (p1 : Int), .int .u8 (p2 : Int), .int .u16 (p3 : Int), .int .u8 (p4 : Int), .int .u8 (p5 : Int), .bool false, .bool true, .int .u8 (p8 : Int), .slice A n c] 29))
  go_enter Tryd.func10, Tryd.ntmps10
  go_wp2_with fail
  refine (KNh.out _).mono ?_
  rintro e w1 ⟨rfl, B1⟩
  have d1 := Lib.hid ((B1.block _ (lt_of_block hb0.out)).trans hb0.out)
  have e1 := Lib.hid (hbW.out.trans (B1.mono hbW.out.size))
  have c0 : w1.cell? ⟨w.heap.size, 0, none⟩ = some (.int .u8 8) := cell_at d1.out 0
  clear B1 hb0 hbW
  go_wp2_with fail
  refine (KTh.out _).mono ?_
  rintro e w2 ⟨rfl, B2⟩
  have d2 := Lib.hid ((B2.block _ (lt_of_block d1.out)).trans d1.out)
  have e2 := Lib.hid (e1.out.trans (B2.mono e1.out.size))
  clear B2 c0 d1 e1
  have c0 : w2.cell? ⟨w.heap.size, 0, none⟩ = some (.int .u8 8) := cell_at d2.out 0
  have c6 : w2.cell? ⟨w.heap.size, 6, none⟩ = some (.bool false) := cell_at d2.out 6
  go_wp2_with fail
  refine startG 23 (l := #[false, false, false, false, false, false, false, false, false, false, false, false, false, false, false, false, false, false, false, false, false, false, false]) (by kernel_rfl) rfl rfl ?_
  have d3 : Hid ((World.drew w2).heap[w.heap.size]? = _) := d2
  have e3 : Hid (Below w.heap.size w (World.drew w2)) := Lib.hid e2.out.drew
  clear d2 e2 c0 c6
  generalize World.drew w2 = W2 at d3 e3 ⊢
  have c4 : Hid (∀ W, Gr W2 W → W.cell? ⟨w.heap.size, 4, none⟩ = some (.int .u8 (p4 : Int))) := fun W hW => cell_at ((hW.block w.heap.size (lt_of_block d3.out)).trans d3.out) 4
  have c5 : Hid (∀ W, Gr W2 W → W.cell? ⟨w.heap.size, 5, none⟩ = some (.int .u8 (p5 : Int))) := fun W hW => cell_at ((hW.block w.heap.size (lt_of_block d3.out)).trans d3.out) 5
  have c8 : Hid (∀ W, Gr W2 W → W.cell? ⟨w.heap.size, 8, none⟩ = some (.int .u8 (p8 : Int))) := fun W hW => cell_at ((hW.block w.heap.size (lt_of_block d3.out)).trans d3.out) 8
  ((first | (refine takeG 0 (v := ?_) rfl (by decide +kernel) (by decide +kernel) (by decide +kernel) (fun _ _ _ h => h) (Or.inl ⟨by rfl, ?_⟩) ?_; rotate_left 1; (focus (intro W hW; go_simp; first | done | with_reducible rfl)); try simp only [Act.put, List.setIfInBounds_toArray, List.set_cons_zero, List.set_cons_succ]) | (refine takeG 0 rfl (by decide +kernel) (by decide +kernel) (by decide +kernel) (fun _ _ _ h => h) (Or.inr ⟨by rfl, rfl⟩) ?_; try simp only [Act.put, List.setIfInBounds_toArray, List.set_cons_zero, List.set_cons_succ]) | skip); (first | (refine takeG 1 (v := ?_) rfl (by decide +kernel) (by decide +kernel) (by decide +kernel) (fun _ _ _ h => h) (Or.inl ⟨by rfl, ?_⟩) ?_; rotate_left 1; (focus (intro W hW; go_simp; first | done | with_reducible rfl)); try simp only [Act.put, List.setIfInBounds_toArray, List.set_cons_zero, List.set_cons_succ]) | (refine takeG 1 rfl (by decide +kernel) (by decide +kernel) (by decide +kernel) (fun _ _ _ h => h) (Or.inr ⟨by rfl, rfl⟩) ?_; try simp only [Act.put, List.setIfInBounds_toArray, List.set_cons_zero, List.set_cons_succ]) | skip); (first | (refine takeG 2 (v := ?_) rfl (by decide +kernel) (by decide +kernel) (by decide +kernel) (fun _ _ _ h => h) (Or.inl ⟨by rfl, ?_⟩) ?_; rotate_left 1; (focus (intro W hW; go_simp; first | done | with_reducible rfl)); try simp only [Act.put, List.setIfInBounds_toArray, List.set_cons_zero, List.set_cons_succ]) | (refine takeG 2 rfl (by decide +kernel) (by decide +kernel) (by decide +kernel) (fun _ _ _ h => h) (Or.inr ⟨by rfl, rfl⟩) ?_; try simp only [Act.put, List.setIfInBounds_toArray, List.set_cons_zero, List.set_cons_succ]) | skip))
  refine takeG 3 (v := .int .u8 (p4 : Int)) rfl (by decide +kernel) (by decide +kernel) (by decide +kernel) (fun _ _ _ h => h) (Or.inl ⟨by rfl, ?_⟩) ?_
  · intro W hW
    have q := c4.out W hW
    go_simp
    first | done | omega | with_reducible rfl
  try simp only [Act.put, List.setIfInBounds_toArray, List.set_cons_zero, List.set_cons_succ]
  ((first | (refine takeG 4 (v := ?_) rfl (by decide +kernel) (by decide +kernel) (by decide +kernel) (fun _ _ _ h => h) (Or.inl ⟨by rfl, ?_⟩) ?_; rotate_left 1; (focus (intro W hW; go_simp; first | done | with_reducible rfl)); try simp only [Act.put, List.setIfInBounds_toArray, List.set_cons_zero, List.set_cons_succ]) | (refine takeG 4 rfl (by decide +kernel) (by decide +kernel) (by decide +kernel) (fun _ _ _ h => h) (Or.inr ⟨by rfl, rfl⟩) ?_; try simp only [Act.put, List.setIfInBounds_toArray, List.set_cons_zero, List.set_cons_succ]) | skip))
  ((first | (refine takeG 7 (v := ?_) rfl (by decide +kernel) (by decide +kernel) (by decide +kernel) (fun _ _ _ h => h) (Or.inl ⟨by rfl, ?_⟩) ?_; rotate_left 1; (focus (intro W hW; go_simp; first | done | with_reducible rfl)); try simp only [Act.put, List.setIfInBounds_toArray, List.set_cons_zero, List.set_cons_succ]) | (refine takeG 7 rfl (by decide +kernel) (by decide +kernel) (by decide +kernel) (fun _ _ _ h => h) (Or.inr ⟨by rfl, rfl⟩) ?_; try simp only [Act.put, List.setIfInBounds_toArray, List.set_cons_zero, List.set_cons_succ]) | skip); (first | (refine takeG 8 (v := ?_) rfl (by decide +kernel) (by decide +kernel) (by decide +kernel) (fun _ _ _ h => h) (Or.inl ⟨by rfl, ?_⟩) ?_; rotate_left 1; (focus (intro W hW; go_simp; first | done | with_reducible rfl)); try simp only [Act.put, List.setIfInBounds_toArray, List.set_cons_zero, List.set_cons_succ]) | (refine takeG 8 rfl (by decide +kernel) (by decide +kernel) (by decide +kernel) (fun _ _ _ h => h) (Or.inr ⟨by rfl, rfl⟩) ?_; try simp only [Act.put, List.setIfInBounds_toArray, List.set_cons_zero, List.set_cons_succ]) | skip))
  refine takeG 9 (v := .int .u8 (p5 : Int)) rfl (by decide +kernel) (by decide +kernel) (by decide +kernel) (fun _ _ _ h => h) (Or.inl ⟨by rfl, ?_⟩) ?_
  · intro W hW
    have q := c5.out W hW
    go_simp
    first | done | omega | with_reducible rfl
  try simp only [Act.put, List.setIfInBounds_toArray, List.set_cons_zero, List.set_cons_succ]
  ((first | (refine takeG 10 (v := ?_) rfl (by decide +kernel) (by decide +kernel) (by decide +kernel) (fun _ _ _ h => h) (Or.inl ⟨by rfl, ?_⟩) ?_; rotate_left 1; (focus (intro W hW; go_simp; first | done | with_reducible rfl)); try simp only [Act.put, List.setIfInBounds_toArray, List.set_cons_zero, List.set_cons_succ]) | (refine takeG 10 rfl (by decide +kernel) (by decide +kernel) (by decide +kernel) (fun _ _ _ h => h) (Or.inr ⟨by rfl, rfl⟩) ?_; try simp only [Act.put, List.setIfInBounds_toArray, List.set_cons_zero, List.set_cons_succ]) | skip))
  ((first | (refine takeG 15 (v := ?_) rfl (by decide +kernel) (by decide +kernel) (by decide +kernel) (fun _ _ _ h => h) (Or.inl ⟨by rfl, ?_⟩) ?_; rotate_left 1; (focus (intro W hW; go_simp; first | done | with_reducible rfl)); try simp only [Act.put, List.setIfInBounds_toArray, List.set_cons_zero, List.set_cons_succ]) | (refine takeG 15 rfl (by decide +kernel) (by decide +kernel) (by decide +kernel) (fun _ _ _ h => h) (Or.inr ⟨by rfl, rfl⟩) ?_; try simp only [Act.put, List.setIfInBounds_toArray, List.set_cons_zero, List.set_cons_succ]) | skip); (first | (refine takeG 16 (v := ?_) rfl (by decide +kernel) (by decide +kernel) (by decide +kernel) (fun _ _ _ h => h) (Or.inl ⟨by rfl, ?_⟩) ?_; rotate_left 1; (focus (intro W hW; go_simp; first | done | with_reducible rfl)); try simp only [Act.put, List.setIfInBounds_toArray, List.set_cons_zero, List.set_cons_succ]) | (refine takeG 16 rfl (by decide +kernel) (by decide +kernel) (by decide +kernel) (fun _ _ _ h => h) (Or.inr ⟨by rfl, rfl⟩) ?_; try simp only [Act.put, List.setIfInBounds_toArray, List.set_cons_zero, List.set_cons_succ]) | skip))
  refine takeG 17 (v := .int .u8 (p8 : Int)) rfl (by decide +kernel) (by decide +kernel) (by decide +kernel) (fun _ _ _ h => h) (Or.inl ⟨by rfl, ?_⟩) ?_
  · intro W hW
    have q := c8.out W hW
    go_simp
    first | done | omega | with_reducible rfl
  try simp only [Act.put, List.setIfInBounds_toArray, List.set_cons_zero, List.set_cons_succ]
  clear c4 c5 c8
  refine stepG2 5 14 rfl rfl (by decide +kernel) (by rfl) (by rfl) ?_ ?_
  · intro K hK
    go_simp
    refine (KAh.out _).mono ?_
    rintro e w4 ⟨rfl, b4⟩
    refine hK _ _ b4 ?_
    clear hK K
    try simp only [Act.put, List.setIfInBounds_toArray, List.set_cons_zero, List.set_cons_succ]
    refine takeG 6 (v := .string (sh ++ (⟨#[46]⟩ : ByteArray))) rfl (by decide +kernel) (by decide +kernel) (by decide +kernel) (fun _ _ _ h => h) (Or.inl ⟨by rfl, ?_⟩) ?_
    · intro W hW
      go_simp
      first | done | omega | with_reducible rfl
    try simp only [Act.put, List.setIfInBounds_toArray, List.set_cons_zero, List.set_cons_succ]
    refine stepG2 11 14 rfl rfl (by decide +kernel) (by rfl) (by rfl) ?_ ?_
    · intro K hK
      go_simp
      refine (KEh.out _).mono ?_
      rintro e w5 ⟨rfl, b5⟩
      refine hK _ _ b5 ?_
      clear hK K
      try simp only [Act.put, List.setIfInBounds_toArray, List.set_cons_zero, List.set_cons_succ]
      refine takeG 12 (v := .string ((sh ++ (⟨#[46]⟩ : ByteArray)) ++ sp)) rfl (by decide +kernel) (by decide +kernel) (by decide +kernel) (fun _ _ _ h => h) (Or.inl ⟨by rfl, ?_⟩) ?_
      · intro W hW
        go_simp
        first | done | omega | with_reducible rfl
      try simp only [Act.put, List.setIfInBounds_toArray, List.set_cons_zero, List.set_cons_succ]
      refine takeG 13 (v := .string (((sh ++ (⟨#[46]⟩ : ByteArray)) ++ sp) ++ (⟨#[32]⟩ : ByteArray))) rfl (by decide +kernel) (by decide +kernel) (by decide +kernel) (fun _ _ _ h => h) (Or.inl ⟨by rfl, ?_⟩) ?_
      · intro W hW
        go_simp
        first | done | omega | with_reducible rfl
      try simp only [Act.put, List.setIfInBounds_toArray, List.set_cons_zero, List.set_cons_succ]
      refine stepG 14 rfl (by decide +kernel) (by rfl) ?_
      intro K hK
      go_simp
      refine hK _ _ (show Gr w5 (w5.alloc (.cells #[.string ⟨#[99, 111, 110, 116, 114, 111, 108]⟩, .string ⟨#[105, 115, 111, 99, 104, 114, 111, 110, 111, 117, 115]⟩, .string ⟨#[98, 117, 108, 107]⟩, .string ⟨#[105, 110, 116, 101, 114, 114, 117, 112, 116]⟩] 9)) from (Below.refl _ w5).alloc (Nat.le_refl _) _) ?_
      have b6 : Gr w5 (w5.alloc (.cells #[.string ⟨#[99, 111, 110, 116, 114, 111, 108]⟩, .string ⟨#[105, 115, 111, 99, 104, 114, 111, 110, 111, 117, 115]⟩, .string ⟨#[98, 117, 108, 107]⟩, .string ⟨#[105, 110, 116, 101, 114, 114, 117, 112, 116]⟩] 9)) := (Below.refl _ w5).alloc (Nat.le_refl _) _
      have t6 := Lib.hid (KT2.out w5)
      clear hK K
      generalize w5.alloc (.cells #[.string ⟨#[99, 111, 110, 116, 114, 111, 108]⟩, .string ⟨#[105, 115, 111, 99, 104, 114, 111, 110, 111, 117, 115]⟩, .string ⟨#[98, 117, 108, 107]⟩, .string ⟨#[105, 110, 116, 101, 114, 114, 117, 112, 116]⟩] 9) = w6 at b6 t6 ⊢
      try simp only [Act.put, List.setIfInBounds_toArray, List.set_cons_zero, List.set_cons_succ]
      ((first | (refine takeG 18 (v := ?_) rfl (by decide +kernel) (by decide +kernel) (by decide +kernel) (fun _ _ _ h => h) (Or.inl ⟨by rfl, ?_⟩) ?_; rotate_left 1; (focus (intro W hW; go_simp; first | done | with_reducible rfl)); try simp only [Act.put, List.setIfInBounds_toArray, List.set_cons_zero, List.set_cons_succ]) | (refine takeG 18 rfl (by decide +kernel) (by decide +kernel) (by decide +kernel) (fun _ _ _ h => h) (Or.inr ⟨by rfl, rfl⟩) ?_; try simp only [Act.put, List.setIfInBounds_toArray, List.set_cons_zero, List.set_cons_succ]) | skip))
      refine takeG 19 (v := .string sk) rfl (by decide +kernel) (by decide +kernel) (by decide +kernel) (fun _ _ _ h => h) (Or.inl ⟨by rfl, ?_⟩) ?_
      · intro W hW
        have q := t6.out W hW
        go_simp
        first | done | omega | with_reducible rfl
      try simp only [Act.put, List.setIfInBounds_toArray, List.set_cons_zero, List.set_cons_succ]
      refine takeG 20 (v := .string ((((sh ++ (⟨#[46]⟩ : ByteArray)) ++ sp) ++ (⟨#[32]⟩ : ByteArray)) ++ sk)) rfl (by decide +kernel) (by decide +kernel) (by decide +kernel) (fun _ _ _ h => h) (Or.inl ⟨by rfl, ?_⟩) ?_
      · intro W hW
        go_simp
        first | done | omega | with_reducible rfl
      try simp only [Act.put, List.setIfInBounds_toArray, List.set_cons_zero, List.set_cons_succ]
      refine takeG 21 (v := .string ((sn ++ (⟨#[32, 115, 116, 97, 114, 116, 32]⟩ : ByteArray)) ++ ((((sh ++ (⟨#[46]⟩ : ByteArray)) ++ sp) ++ (⟨#[32]⟩ : ByteArray)) ++ sk))) rfl (by decide +kernel) (by decide +kernel) (by decide +kernel) (fun _ _ _ h => h) (Or.inl ⟨by rfl, ?_⟩) ?_
      · intro W hW
        go_simp
        first | done | omega | with_reducible rfl
      try simp only [Act.put, List.setIfInBounds_toArray, List.set_cons_zero, List.set_cons_succ]
      ((first | (refine takeG 22 (v := ?_) rfl (by decide +kernel) (by decide +kernel) (by decide +kernel) (fun _ _ _ h => h) (Or.inl ⟨by rfl, ?_⟩) ?_; rotate_left 1; (focus (intro W hW; go_simp; first | done | with_reducible rfl)); try simp only [Act.put, List.setIfInBounds_toArray, List.set_cons_zero, List.set_cons_succ]) | (refine takeG 22 rfl (by decide +kernel) (by decide +kernel) (by decide +kernel) (fun _ _ _ h => h) (Or.inr ⟨by rfl, rfl⟩) ?_; try simp only [Act.put, List.setIfInBounds_toArray, List.set_cons_zero, List.set_cons_succ]) | skip))
      refine doneG (by kernel_rfl) ?_
      have g9 := Gr.trans (Gr.trans b4 b5) b6
      have d9 := Lib.hid ((g9.block _ (lt_of_block d3.out)).trans d3.out)
      have e9 := Lib.hid (e3.out.trans (g9.mono e3.out.size))
      clear t6 b4 b5 b6 g9 d3 e3
      have c7 := cell_at d9.out 7
      replace c7 : World.cell? _ ⟨w.heap.size, 7, none⟩ = some (.bool true) := c7
      go_wp2
      go_ret
      rw [HF.out]
      exact ⟨rfl, e9.out⟩
    · intro K hK
      go_simp
      refine hK _ _ (show Gr w4 (w4.alloc (.cells #[.string ⟨#[99, 111, 110, 116, 114, 111, 108]⟩, .string ⟨#[105, 115, 111, 99, 104, 114, 111, 110, 111, 117, 115]⟩, .string ⟨#[98, 117, 108, 107]⟩, .string ⟨#[105, 110, 116, 101, 114, 114, 117, 112, 116]⟩] 9)) from (Below.refl _ w4).alloc (Nat.le_refl _) _) ?_
      have b6 : Gr w4 (w4.alloc (.cells #[.string ⟨#[99, 111, 110, 116, 114, 111, 108]⟩, .string ⟨#[105, 115, 111, 99, 104, 114, 111, 110, 111, 117, 115]⟩, .string ⟨#[98, 117, 108, 107]⟩, .string ⟨#[105, 110, 116, 101, 114, 114, 117, 112, 116]⟩] 9)) := (Below.refl _ w4).alloc (Nat.le_refl _) _
      have t6 := Lib.hid (KT2.out w4)
      clear hK K
      generalize w4.alloc (.cells #[.string ⟨#[99, 111, 110, 116, 114, 111, 108]⟩, .string ⟨#[105, 115, 111, 99, 104, 114, 111, 110, 111, 117, 115]⟩, .string ⟨#[98, 117, 108, 107]⟩, .string ⟨#[105, 110, 116, 101, 114, 114, 117, 112, 116]⟩] 9) = w6 at b6 t6 ⊢
      try simp only [Act.put, List.setIfInBounds_toArray, List.set_cons_zero, List.set_cons_succ]
      ((first | (refine takeG 18 (v := ?_) rfl (by decide +kernel) (by decide +kernel) (by decide +kernel) (fun _ _ _ h => h) (Or.inl ⟨by rfl, ?_⟩) ?_; rotate_left 1; (focus (intro W hW; go_simp; first | done | with_reducible rfl)); try simp only [Act.put, List.setIfInBounds_toArray, List.set_cons_zero, List.set_cons_succ]) | (refine takeG 18 rfl (by decide +kernel) (by decide +kernel) (by decide +kernel) (fun _ _ _ h => h) (Or.inr ⟨by rfl, rfl⟩) ?_; try simp only [Act.put, List.setIfInBounds_toArray, List.set_cons_zero, List.set_cons_succ]) | skip))
      refine takeG 19 (v := .string sk) rfl (by decide +kernel) (by decide +kernel) (by decide +kernel) (fun _ _ _ h => h) (Or.inl ⟨by rfl, ?_⟩) ?_
      · intro W hW
        have q := t6.out W hW
        go_simp
        first | done | omega | with_reducible rfl
      try simp only [Act.put, List.setIfInBounds_toArray, List.set_cons_zero, List.set_cons_succ]
      refine stepG 11 rfl (by decide +kernel) (by rfl) ?_
      intro K hK
      go_simp
      refine (KEh.out _).mono ?_
      rintro e w5 ⟨rfl, b5⟩
      refine hK _ _ b5 ?_
      clear hK K
      try simp only [Act.put, List.setIfInBounds_toArray, List.set_cons_zero, List.set_cons_succ]
      refine takeG 12 (v := .string ((sh ++ (⟨#[46]⟩ : ByteArray)) ++ sp)) rfl (by decide +kernel) (by decide +kernel) (by decide +kernel) (fun _ _ _ h => h) (Or.inl ⟨by rfl, ?_⟩) ?_
      · intro W hW
        go_simp
        first | done | omega | with_reducible rfl
      try simp only [Act.put, List.setIfInBounds_toArray, List.set_cons_zero, List.set_cons_succ]
      refine takeG 13 (v := .string (((sh ++ (⟨#[46]⟩ : ByteArray)) ++ sp) ++ (⟨#[32]⟩ : ByteArray))) rfl (by decide +kernel) (by decide +kernel) (by decide +kernel) (fun _ _ _ h => h) (Or.inl ⟨by rfl, ?_⟩) ?_
      · intro W hW
        go_simp
        first | done | omega | with_reducible rfl
      try simp only [Act.put, List.setIfInBounds_toArray, List.set_cons_zero, List.set_cons_succ]
      refine takeG 20 (v := .string ((((sh ++ (⟨#[46]⟩ : ByteArray)) ++ sp) ++ (⟨#[32]⟩ : ByteArray)) ++ sk)) rfl (by decide +kernel) (by decide +kernel) (by decide +kernel) (fun _ _ _ h => h) (Or.inl ⟨by rfl, ?_⟩) ?_
      · intro W hW
        go_simp
        first | done | omega | with_reducible rfl
      try simp only [Act.put, List.setIfInBounds_toArray, List.set_cons_zero, List.set_cons_succ]
      refine takeG 21 (v := .string ((sn ++ (⟨#[32, 115, 116, 97, 114, 116, 32]⟩ : ByteArray)) ++ ((((sh ++ (⟨#[46]⟩ : ByteArray)) ++ sp) ++ (⟨#[32]⟩ : ByteArray)) ++ sk))) rfl (by decide +kernel) (by decide +kernel) (by decide +kernel) (fun _ _ _ h => h) (Or.inl ⟨by rfl, ?_⟩) ?_
      · intro W hW
        go_simp
        first | done | omega | with_reducible rfl
      try simp only [Act.put, List.setIfInBounds_toArray, List.set_cons_zero, List.set_cons_succ]
      ((first | (refine takeG 22 (v := ?_) rfl (by decide +kernel) (by decide +kernel) (by decide +kernel) (fun _ _ _ h => h) (Or.inl ⟨by rfl, ?_⟩) ?_; rotate_left 1; (focus (intro W hW; go_simp; first | done | with_reducible rfl)); try simp only [Act.put, List.setIfInBounds_toArray, List.set_cons_zero, List.set_cons_succ]) | (refine takeG 22 rfl (by decide +kernel) (by decide +kernel) (by decide +kernel) (fun _ _ _ h => h) (Or.inr ⟨by rfl, rfl⟩) ?_; try simp only [Act.put, List.setIfInBounds_toArray, List.set_cons_zero, List.set_cons_succ]) | skip))
      refine doneG (by kernel_rfl) ?_
      have g9 := Gr.trans (Gr.trans b4 b6) b5
      have d9 := Lib.hid ((g9.block _ (lt_of_block d3.out)).trans d3.out)
      have e9 := Lib.hid (e3.out.trans (g9.mono e3.out.size))
      clear t6 b4 b5 b6 g9 d3 e3
      have c7 := cell_at d9.out 7
      replace c7 : World.cell? _ ⟨w.heap.size, 7, none⟩ = some (.bool true) := c7
      go_wp2
      go_ret
      rw [HF.out]
      exact ⟨rfl, e9.out⟩
  · intro K hK
    go_simp
    refine hK _ _ (show Gr W2 (W2.alloc (.cells #[.string ⟨#[99, 111, 110, 116, 114, 111, 108]⟩, .string ⟨#[105, 115, 111, 99, 104, 114, 111, 110, 111, 117, 115]⟩, .string ⟨#[98, 117, 108, 107]⟩, .string ⟨#[105, 110, 116, 101, 114, 114, 117, 112, 116]⟩] 9)) from (Below.refl _ W2).alloc (Nat.le_refl _) _) ?_
    have b6 : Gr W2 (W2.alloc (.cells #[.string ⟨#[99, 111, 110, 116, 114, 111, 108]⟩, .string ⟨#[105, 115, 111, 99, 104, 114, 111, 110, 111, 117, 115]⟩, .string ⟨#[98, 117, 108, 107]⟩, .string ⟨#[105, 110, 116, 101, 114, 114, 117, 112, 116]⟩] 9)) := (Below.refl _ W2).alloc (Nat.le_refl _) _
    have t6 := Lib.hid (KT2.out W2)
    clear hK K
    generalize W2.alloc (.cells #[.string ⟨#[99, 111, 110, 116, 114, 111, 108]⟩, .string ⟨#[105, 115, 111, 99, 104, 114, 111, 110, 111, 117, 115]⟩, .string ⟨#[98, 117, 108, 107]⟩, .string ⟨#[105, 110, 116, 101, 114, 114, 117, 112, 116]⟩] 9) = w6 at b6 t6 ⊢
    try simp only [Act.put, List.setIfInBounds_toArray, List.set_cons_zero, List.set_cons_succ]
    ((first | (refine takeG 18 (v := ?_) rfl (by decide +kernel) (by decide +kernel) (by decide +kernel) (fun _ _ _ h => h) (Or.inl ⟨by rfl, ?_⟩) ?_; rotate_left 1; (focus (intro W hW; go_simp; first | done | with_reducible rfl)); try simp only [Act.put, List.setIfInBounds_toArray, List.set_cons_zero, List.set_cons_succ]) | (refine takeG 18 rfl (by decide +kernel) (by decide +kernel) (by decide +kernel) (fun _ _ _ h => h) (Or.inr ⟨by rfl, rfl⟩) ?_; try simp only [Act.put, List.setIfInBounds_toArray, List.set_cons_zero, List.set_cons_succ]) | skip))
    refine takeG 19 (v := .string sk) rfl (by decide +kernel) (by decide +kernel) (by decide +kernel) (fun _ _ _ h => h) (Or.inl ⟨by rfl, ?_⟩) ?_
    · intro W hW
      have q := t6.out W hW
      go_simp
      first | done | omega | with_reducible rfl
    try simp only [Act.put, List.setIfInBounds_toArray, List.set_cons_zero, List.set_cons_succ]
    refine stepG 5 rfl (by decide +kernel) (by rfl) ?_
    intro K hK
    go_simp
    refine (KAh.out _).mono ?_
    rintro e w4 ⟨rfl, b4⟩
    refine hK _ _ b4 ?_
    clear hK K
    try simp only [Act.put, List.setIfInBounds_toArray, List.set_cons_zero, List.set_cons_succ]
    refine takeG 6 (v := .string (sh ++ (⟨#[46]⟩ : ByteArray))) rfl (by decide +kernel) (by decide +kernel) (by decide +kernel) (fun _ _ _ h => h) (Or.inl ⟨by rfl, ?_⟩) ?_
    · intro W hW
      go_simp
      first | done | omega | with_reducible rfl
    try simp only [Act.put, List.setIfInBounds_toArray, List.set_cons_zero, List.set_cons_succ]
    refine stepG 11 rfl (by decide +kernel) (by rfl) ?_
    intro K hK
    go_simp
    refine (KEh.out _).mono ?_
    rintro e w5 ⟨rfl, b5⟩
    refine hK _ _ b5 ?_
    clear hK K
    try simp only [Act.put, List.setIfInBounds_toArray, List.set_cons_zero, List.set_cons_succ]
    refine takeG 12 (v := .string ((sh ++ (⟨#[46]⟩ : ByteArray)) ++ sp)) rfl (by decide +kernel) (by decide +kernel) (by decide +kernel) (fun _ _ _ h => h) (Or.inl ⟨by rfl, ?_⟩) ?_
    · intro W hW
      go_simp
      first | done | omega | with_reducible rfl
    try simp only [Act.put, List.setIfInBounds_toArray, List.set_cons_zero, List.set_cons_succ]
    refine takeG 13 (v := .string (((sh ++ (⟨#[46]⟩ : ByteArray)) ++ sp) ++ (⟨#[32]⟩ : ByteArray))) rfl (by decide +kernel) (by decide +kernel) (by decide +kernel) (fun _ _ _ h => h) (Or.inl ⟨by rfl, ?_⟩) ?_
    · intro W hW
      go_simp
      first | done | omega | with_reducible rfl
    try simp only [Act.put, List.setIfInBounds_toArray, List.set_cons_zero, List.set_cons_succ]
    refine takeG 20 (v := .string ((((sh ++ (⟨#[46]⟩ : ByteArray)) ++ sp) ++ (⟨#[32]⟩ : ByteArray)) ++ sk)) rfl (by decide +kernel) (by decide +kernel) (by decide +kernel) (fun _ _ _ h => h) (Or.inl ⟨by rfl, ?_⟩) ?_
    · intro W hW
      go_simp
      first | done | omega | with_reducible rfl
    try simp only [Act.put, List.setIfInBounds_toArray, List.set_cons_zero, List.set_cons_succ]
    refine takeG 21 (v := .string ((sn ++ (⟨#[32, 115, 116, 97, 114, 116, 32]⟩ : ByteArray)) ++ ((((sh ++ (⟨#[46]⟩ : ByteArray)) ++ sp) ++ (⟨#[32]⟩ : ByteArray)) ++ sk))) rfl (by decide +kernel) (by decide +kernel) (by decide +kernel) (fun _ _ _ h => h) (Or.inl ⟨by rfl, ?_⟩) ?_
    · intro W hW
      go_simp
      first | done | omega | with_reducible rfl
    try simp only [Act.put, List.setIfInBounds_toArray, List.set_cons_zero, List.set_cons_succ]
    ((first | (refine takeG 22 (v := ?_) rfl (by decide +kernel) (by decide +kernel) (by decide +kernel) (fun _ _ _ h => h) (Or.inl ⟨by rfl, ?_⟩) ?_; rotate_left 1; (focus (intro W hW; go_simp; first | done | with_reducible rfl)); try simp only [Act.put, List.setIfInBounds_toArray, List.set_cons_zero, List.set_cons_succ]) | (refine takeG 22 rfl (by decide +kernel) (by decide +kernel) (by decide +kernel) (fun _ _ _ h => h) (Or.inr ⟨by rfl, rfl⟩) ?_; try simp only [Act.put, List.setIfInBounds_toArray, List.set_cons_zero, List.set_cons_succ]) | skip))
    refine doneG (by kernel_rfl) ?_
    have g9 := Gr.trans (Gr.trans b6 b4) b5
    have d9 := Lib.hid ((g9.block _ (lt_of_block d3.out)).trans d3.out)
    have e9 := Lib.hid (e3.out.trans (g9.mono e3.out.size))
    clear t6 b4 b5 b6 g9 d3 e3
    have c7 := cell_at d9.out 7
    replace c7 : World.cell? _ ⟨w.heap.size, 7, none⟩ = some (.bool true) := c7
    go_wp2
    go_ret
    rw [HF.out]
    exact ⟨rfl, e9.out⟩
set_option maxHeartbeats 1600000 in
set_option maxRecDepth 100000 in
theorem rtext_spl_false_false (w : World) (r : Rg) (ok : r.Ok) (hk : r.kind < 4) (hc : r.comp = false) (hl : r.low = false) (A : Option Addr) (n c : Nat) (hd : r.data = .slice A n c) (hp : r.pid = 8) :
    Calls Tryd.prog 10 #[.agg (pcells r)] w (ResS w (Lib.join (pidL.getD r.pid [] :: [[115, 116, 97, 114, 116], Lib.decDigits r.hub ++ [46] ++ Lib.decDigits r.port, kindL.getD r.kind []]) [32])) := by
  have HJ : Lib.join (pidL.getD r.pid [] :: [[115, 116, 97, 114, 116], Lib.decDigits r.hub ++ [46] ++ Lib.decDigits r.port, kindL.getD r.kind []]) [32] = (pidL.getD r.pid [] ++ [32, 115, 116, 97, 114, 116, 32]) ++ ((((Lib.decDigits r.hub ++ [46]) ++ Lib.decDigits r.port) ++ [32]) ++ kindL.getD r.kind []) := by
    rw [Lib.join_cons, tail_cons, tail_cons, tail_cons]
    simp [Lib.joinTail]
  rw [HJ]
  clear HJ
  have KN := fun W => name_any W r.pid (by omega)
  have KT := fun W => token_any W r.pid ok.pid
  rw [show (r.pid == 1 || r.pid == 9 || r.pid == 13) = false by rw [hp]; rfl] at KT
  have KA := fun W => dec_all 3 W r.hub (Nat.lt_trans ok.hub (by decide)) (Nat.lt_trans ok.hub (by decide))
  have KE := fun W => dec_all 3 W r.port (Nat.lt_trans ok.port (by decide)) (Nat.lt_trans ok.port (by decide))
  have ln := pidL_le r.pid
  have la := digits_le 3 r.hub (Nat.lt_trans ok.hub (by decide))
  have le := digits_le 3 r.port (Nat.lt_trans ok.port (by decide))
  have lk := kindL_le r.kind
  have KT2 : Hid (∀ W W' : World, Gr (W.alloc (.cells #[.string ⟨#[99, 111, 110, 116, 114, 111, 108]⟩, .string ⟨#[105, 115, 111, 99, 104, 114, 111, 110, 111, 117, 115]⟩, .string ⟨#[98, 117, 108, 107]⟩, .string ⟨#[105, 110, 116, 101, 114, 114, 117, 112, 116]⟩] 9)) W' → W'.cell? ⟨W.heap.size, r.kind, none⟩ = some (.string ⟨(kindL.getD r.kind []).toArray⟩)) := fun W W' hW => by
    have hn := heap_alloc_new W (.cells #[.string ⟨#[99, 111, 110, 116, 114, 111, 108]⟩, .string ⟨#[105, 115, 111, 99, 104, 114, 111, 110, 111, 117, 115]⟩, .string ⟨#[98, 117, 108, 107]⟩, .string ⟨#[105, 110, 116, 101, 114, 114, 117, 112, 116]⟩] 9)
    have hn2 := (hW.block _ (lt_of_block hn)).trans hn
    rw [cell_at hn2 r.kind]
    rcases (by omega : r.kind = 0 ∨ r.kind = 1 ∨ r.kind = 2 ∨ r.kind = 3) with h | h | h | h <;> rw [h] <;> rfl
  generalize pidL.getD r.pid [] = nm at KN ln ⊢
  generalize Lib.decDigits r.hub = dh at KA la ⊢
  generalize Lib.decDigits r.port = dp at KE le ⊢
  generalize kindL.getD r.kind [] = kk at KT2 lk ⊢
  obtain ⟨sn, hsn⟩ : ∃ sn, (⟨(nm).toArray⟩ : ByteArray) = sn := ⟨_, rfl⟩
  have zsn : sn.size ≤ 5 := by rw [← hsn]; show (nm).toArray.size ≤ 5; simpa using ln
  delta ResS at KN
  simp only [sv] at KN
  rw [hsn] at KN
  replace hsn := Lib.hid hsn
  obtain ⟨sh, hsh⟩ : ∃ sh, (⟨(dh).toArray⟩ : ByteArray) = sh := ⟨_, rfl⟩
  have zsh : sh.size ≤ 4 := by rw [← hsh]; show (dh).toArray.size ≤ 4; simpa using la
  delta ResS at KA
  simp only [sv] at KA
  rw [hsh] at KA
  replace hsh := Lib.hid hsh
  obtain ⟨sp, hsp⟩ : ∃ sp, (⟨(dp).toArray⟩ : ByteArray) = sp := ⟨_, rfl⟩
  have zsp : sp.size ≤ 4 := by rw [← hsp]; show (dp).toArray.size ≤ 4; simpa using le
  delta ResS at KE
  simp only [sv] at KE
  rw [hsp] at KE
  replace hsp := Lib.hid hsp
  obtain ⟨sk, hsk⟩ : ∃ sk, (⟨(kk).toArray⟩ : ByteArray) = sk := ⟨_, rfl⟩
  have zsk : sk.size ≤ 11 := by rw [← hsk]; show (kk).toArray.size ≤ 11; simpa using lk
  rw [hsk] at KT2
  replace hsk := Lib.hid hsk
  obtain ⟨L, hL⟩ : ∃ L, (nm ++ [32, 115, 116, 97, 114, 116, 32]) ++ ((((dh ++ [46]) ++ dp) ++ [32]) ++ kk) = L := ⟨_, rfl⟩
  have HF := Lib.hid (show (sn ++ (⟨#[32, 115, 116, 97, 114, 116, 32]⟩ : ByteArray)) ++ ((((sh ++ (⟨#[46]⟩ : ByteArray)) ++ sp) ++ (⟨#[32]⟩ : ByteArray)) ++ sk) = ⟨L.toArray⟩ by
    rw [← hL, ← hsn.out, ← hsh.out, ← hsp.out, ← hsk.out, ← app_str, ← app_str, ← app_str, ← app_str, ← app_str, ← app_str])
  rw [hL]
  clear hL
  have u1 : IntKind.i64.wrap (r.hub : Int) = (r.hub : Int) := IntWalk.i64_in _ (by have := ok.hub; omega)
  have u2 : IntKind.i64.wrap (r.port : Int) = (r.port : Int) := IntWalk.i64_in _ (by have := ok.port; omega)
  have u3 : (r.kind : Int) < 4 := by omega
  have b1 := ok.hub
  have b2 := ok.port
  obtain ⟨p0, p1, p2, p3, p4, p5, p6, p7, p8, p9, p10⟩ := r
  simp only at hd hp KN KT KA KE b1 b2 u1 u2 u3 hk hc hl KT2
  subst hd hp hc hl
  simp only [pcells]
  have KNh := Lib.hid KN
  have KTh := Lib.hid KT
  have KAh := Lib.hid KA
  have KEh := Lib.hid KE
  clear KN KT KA KE ln la le lk ok
  have hb0 := Lib.hid (heap_alloc_new w (.cells #[.int .u8 8, .int .u8 (p1 : Int), .int .u8 (p2 : Int), .int .u16 (p3 : Int), .int .u8 (p4 : Int), .int .u8 (p5 : Int), .bool false, .bool false, .int .u8 (p8 : Int), .slice A n c] 29))
  have hbW := Lib.hid ((Below.refl w.heap.size w).alloc (Nat.le_refl _) (.cells #[.int .u8 8, .int .u8 (p1 : Int), .int .u8 (p2 : Int), .int .u16 (p3 : Int), .int .u8 (p4 : Int), .int .u8 (p5 : Int), .bool false, .bool false, .int .u8 (p8 : Int), .slice A n c] 29))
  go_enter Tryd.func10, Tryd.ntmps10
  go_wp2_with fail
  refine (KNh.out _).mono ?_
  rintro e w1 ⟨rfl, B1⟩
  have d1 := Lib.hid ((B1.block _ (lt_of_block hb0.out)).trans hb0.out)
  have e1 := Lib.hid (hbW.out.trans (B1.mono hbW.out.size))
  have c0 : w1.cell? ⟨w.heap.size, 0, none⟩ = some (.int .u8 8) := cell_at d1.out 0
  clear B1 hb0 hbW
  go_wp2_with fail
  refine (KTh.out _).mono ?_
  rintro e w2 ⟨rfl, B2⟩
  have d2 := Lib.hid ((B2.block _ (lt_of_block d1.out)).trans d1.out)
  have e2 := Lib.hid (e1.out.trans (B2.mono e1.out.size))
  clear B2 c0 d1 e1
  have c0 : w2.cell? ⟨w.heap.size, 0, none⟩ = some (.int .u8 8) := cell_at d2.out 0
  have c6 : w2.cell? ⟨w.heap.size, 6, none⟩ = some (.bool false) := cell_at d2.out 6
  go_wp2_with fail
  refine startG 23 (l := #[false, false, false, false, false, false, false, false, false, false, false, false, false, false, false, false, false, false, false, false, false, false, false]) (by kernel_rfl) rfl rfl ?_
  have d3 : Hid ((World.drew w2).heap[w.heap.size]? = _) := d2
  have e3 : Hid (Below w.heap.size w (World.drew w2)) := Lib.hid e2.out.drew
  clear d2 e2 c0 c6
  generalize World.drew w2 = W2 at d3 e3 ⊢
  have c4 : Hid (∀ W, Gr W2 W → W.cell? ⟨w.heap.size, 4, none⟩ = some (.int .u8 (p4 : Int))) := fun W hW => cell_at ((hW.block w.heap.size (lt_of_block d3.out)).trans d3.out) 4
  have c5 : Hid (∀ W, Gr W2 W → W.cell? ⟨w.heap.size, 5, none⟩ = some (.int .u8 (p5 : Int))) := fun W hW => cell_at ((hW.block w.heap.size (lt_of_block d3.out)).trans d3.out) 5
  have c8 : Hid (∀ W, Gr W2 W → W.cell? ⟨w.heap.size, 8, none⟩ = some (.int .u8 (p8 : Int))) := fun W hW => cell_at ((hW.block w.heap.size (lt_of_block d3.out)).trans d3.out) 8
  ((first | (refine takeG 0 (v := ?_) rfl (by decide +kernel) (by decide +kernel) (by decide +kernel) (fun _ _ _ h => h) (Or.inl ⟨by rfl, ?_⟩) ?_; rotate_left 1; (focus (intro W hW; go_simp; first | done | with_reducible rfl)); try simp only [Act.put, List.setIfInBounds_toArray, List.set_cons_zero, List.set_cons_succ]) | (refine takeG 0 rfl (by decide +kernel) (by decide +kernel) (by decide +kernel) (fun _ _ _ h => h) (Or.inr ⟨by rfl, rfl⟩) ?_; try simp only [Act.put, List.setIfInBounds_toArray, List.set_cons_zero, List.set_cons_succ]) | skip); (first | (refine takeG 1 (v := ?_) rfl (by decide +kernel) (by decide +kernel) (by decide +kernel) (fun _ _ _ h => h) (Or.inl ⟨by rfl, ?_⟩) ?_; rotate_left 1; (focus (intro W hW; go_simp; first | done | with_reducible rfl)); try simp only [Act.put, List.setIfInBounds_toArray, List.set_cons_zero, List.set_cons_succ]) | (refine takeG 1 rfl (by decide +kernel) (by decide +kernel) (by decide +kernel) (fun _ _ _ h => h) (Or.inr ⟨by rfl, rfl⟩) ?_; try simp only [Act.put, List.setIfInBounds_toArray, List.set_cons_zero, List.set_cons_succ]) | skip); (first | (refine takeG 2 (v := ?_) rfl (by decide +kernel) (by decide +kernel) (by decide +kernel) (fun _ _ _ h => h) (Or.inl ⟨by rfl, ?_⟩) ?_; rotate_left 1; (focus (intro W hW; go_simp; first | done | with_reducible rfl)); try simp only [Act.put, List.setIfInBounds_toArray, List.set_cons_zero, List.set_cons_succ]) | (refine takeG 2 rfl (by decide +kernel) (by decide +kernel) (by decide +kernel) (fun _ _ _ h => h) (Or.inr ⟨by rfl, rfl⟩) ?_; try simp only [Act.put, List.setIfInBounds_toArray, List.set_cons_zero, List.set_cons_succ]) | skip))
  refine takeG 3 (v := .int .u8 (p4 : Int)) rfl (by decide +kernel) (by decide +kernel) (by decide +kernel) (fun _ _ _ h => h) (Or.inl ⟨by rfl, ?_⟩) ?_
  · intro W hW
    have q := c4.out W hW
    go_simp
    first | done | omega | with_reducible rfl
  try simp only [Act.put, List.setIfInBounds_toArray, List.set_cons_zero, List.set_cons_succ]
  ((first | (refine takeG 4 (v := ?_) rfl (by decide +kernel) (by decide +kernel) (by decide +kernel) (fun _ _ _ h => h) (Or.inl ⟨by rfl, ?_⟩) ?_; rotate_left 1; (focus (intro W hW; go_simp; first | done | with_reducible rfl)); try simp only [Act.put, List.setIfInBounds_toArray, List.set_cons_zero, List.set_cons_succ]) | (refine takeG 4 rfl (by decide +kernel) (by decide +kernel) (by decide +kernel) (fun _ _ _ h => h) (Or.inr ⟨by rfl, rfl⟩) ?_; try simp only [Act.put, List.setIfInBounds_toArray, List.set_cons_zero, List.set_cons_succ]) | skip))
  ((first | (refine takeG 7 (v := ?_) rfl (by decide +kernel) (by decide +kernel) (by decide +kernel) (fun _ _ _ h => h) (Or.inl ⟨by rfl, ?_⟩) ?_; rotate_left 1; (focus (intro W hW; go_simp; first | done | with_reducible rfl)); try simp only [Act.put, List.setIfInBounds_toArray, List.set_cons_zero, List.set_cons_succ]) | (refine takeG 7 rfl (by decide +kernel) (by decide +kernel) (by decide +kernel) (fun _ _ _ h => h) (Or.inr ⟨by rfl, rfl⟩) ?_; try simp only [Act.put, List.setIfInBounds_toArray, List.set_cons_zero, List.set_cons_succ]) | skip); (first | (refine takeG 8 (v := ?_) rfl (by decide +kernel) (by decide +kernel) (by decide +kernel) (fun _ _ _ h => h) (Or.inl ⟨by rfl, ?_⟩) ?_; rotate_left 1; (focus (intro W hW; go_simp; first | done | with_reducible rfl)); try simp only [Act.put, List.setIfInBounds_toArray, List.set_cons_zero, List.set_cons_succ]) | (refine takeG 8 rfl (by decide +kernel) (by decide +kernel) (by decide +kernel) (fun _ _ _ h => h) (Or.inr ⟨by rfl, rfl⟩) ?_; try simp only [Act.put, List.setIfInBounds_toArray, List.set_cons_zero, List.set_cons_succ]) | skip))
  refine takeG 9 (v := .int .u8 (p5 : Int)) rfl (by decide +kernel) (by decide +kernel) (by decide +kernel) (fun _ _ _ h => h) (Or.inl ⟨by rfl, ?_⟩) ?_
  · intro W hW
    have q := c5.out W hW
    go_simp
    first | done | omega | with_reducible rfl
  try simp only [Act.put, List.setIfInBounds_toArray, List.set_cons_zero, List.set_cons_succ]
  ((first | (refine takeG 10 (v := ?_) rfl (by decide +kernel) (by decide +kernel) (by decide +kernel) (fun _ _ _ h => h) (Or.inl ⟨by rfl, ?_⟩) ?_; rotate_left 1; (focus (intro W hW; go_simp; first | done | with_reducible rfl)); try simp only [Act.put, List.setIfInBounds_toArray, List.set_cons_zero, List.set_cons_succ]) | (refine takeG 10 rfl (by decide +kernel) (by decide +kernel) (by decide +kernel) (fun _ _ _ h => h) (Or.inr ⟨by rfl, rfl⟩) ?_; try simp only [Act.put, List.setIfInBounds_toArray, List.set_cons_zero, List.set_cons_succ]) | skip))
  ((first | (refine takeG 15 (v := ?_) rfl (by decide +kernel) (by decide +kernel) (by decide +kernel) (fun _ _ _ h => h) (Or.inl ⟨by rfl, ?_⟩) ?_; rotate_left 1; (focus (intro W hW; go_simp; first | done | with_reducible rfl)); try simp only [Act.put, List.setIfInBounds_toArray, List.set_cons_zero, List.set_cons_succ]) | (refine takeG 15 rfl (by decide +kernel) (by decide +kernel) (by decide +kernel) (fun _ _ _ h => h) (Or.inr ⟨by rfl, rfl⟩) ?_; try simp only [Act.put, List.setIfInBounds_toArray, List.set_cons_zero, List.set_cons_succ]) | skip); (first | (refine takeG 16 (v := ?_) rfl (by decide +kernel) (by decide +kernel) (by decide +kernel) (fun _ _ _ h => h) (Or.inl ⟨by rfl, ?_⟩) ?_; rotate_left 1; (focus (intro W hW; go_simp; first | done | with_reducible rfl)); try simp only [Act.put, List.setIfInBounds_toArray, List.set_cons_zero, List.set_cons_succ]) | (refine takeG 16 rfl (by decide +kernel) (by decide +kernel) (by decide +kernel) (fun _ _ _ h => h) (Or.inr ⟨by rfl, rfl⟩) ?_; try simp only [Act.put, List.setIfInBounds_toArray, List.set_cons_zero, List.set_cons_succ]) | skip))
  refine takeG 17 (v := .int .u8 (p8 : Int)) rfl (by decide +kernel) (by decide +kernel) (by decide +kernel) (fun _ _ _ h => h) (Or.inl ⟨by rfl, ?_⟩) ?_
  · intro W hW
    have q := c8.out W hW
    go_simp
    first | done | omega | with_reducible rfl
  try simp only [Act.put, List.setIfInBounds_toArray, List.set_cons_zero, List.set_cons_succ]
  clear c4 c5 c8
  refine stepG2 5 14 rfl rfl (by decide +kernel) (by rfl) (by rfl) ?_ ?_
  · intro K hK
    go_simp
    refine (KAh.out _).mono ?_
    rintro e w4 ⟨rfl, b4⟩
    refine hK _ _ b4 ?_
    clear hK K
    try simp only [Act.put, List.setIfInBounds_toArray, List.set_cons_zero, List.set_cons_succ]
    refine takeG 6 (v := .string (sh ++ (⟨#[46]⟩ : ByteArray))) rfl (by decide +kernel) (by decide +kernel) (by decide +kernel) (fun _ _ _ h => h) (Or.inl ⟨by rfl, ?_⟩) ?_
    · intro W hW
      go_simp
      first | done | omega | with_reducible rfl
    try simp only [Act.put, List.setIfInBounds_toArray, List.set_cons_zero, List.set_cons_succ]
    refine stepG2 11 14 rfl rfl (by decide +kernel) (by rfl) (by rfl) ?_ ?_
    · intro K hK
      go_simp
      refine (KEh.out _).mono ?_
      rintro e w5 ⟨rfl, b5⟩
      refine hK _ _ b5 ?_
      clear hK K
      try simp only [Act.put, List.setIfInBounds_toArray, List.set_cons_zero, List.set_cons_succ]
      refine takeG 12 (v := .string ((sh ++ (⟨#[46]⟩ : ByteArray)) ++ sp)) rfl (by decide +kernel) (by decide +kernel) (by decide +kernel) (fun _ _ _ h => h) (Or.inl ⟨by rfl, ?_⟩) ?_
      · intro W hW
        go_simp
        first | done | omega | with_reducible rfl
      try simp only [Act.put, List.setIfInBounds_toArray, List.set_cons_zero, List.set_cons_succ]
      refine takeG 13 (v := .string (((sh ++ (⟨#[46]⟩ : ByteArray)) ++ sp) ++ (⟨#[32]⟩ : ByteArray))) rfl (by decide +kernel) (by decide +kernel) (by decide +kernel) (fun _ _ _ h => h) (Or.inl ⟨by rfl, ?_⟩) ?_
      · intro W hW
        go_simp
        first | done | omega | with_reducible rfl
      try simp only [Act.put, List.setIfInBounds_toArray, List.set_cons_zero, List.set_cons_succ]
      refine stepG 14 rfl (by decide +kernel) (by rfl) ?_
      intro K hK
      go_simp
      refine hK _ _ (show Gr w5 (w5.alloc (.cells #[.string ⟨#[99, 111, 110, 116, 114, 111, 108]⟩, .string ⟨#[105, 115, 111, 99, 104, 114, 111, 110, 111, 117, 115]⟩, .string ⟨#[98, 117, 108, 107]⟩, .string ⟨#[105, 110, 116, 101, 114, 114, 117, 112, 116]⟩] 9)) from (Below.refl _ w5).alloc (Nat.le_refl _) _) ?_
      have b6 : Gr w5 (w5.alloc (.cells #[.string ⟨#[99, 111, 110, 116, 114, 111, 108]⟩, .string ⟨#[105, 115, 111, 99, 104, 114, 111, 110, 111, 117, 115]⟩, .string ⟨#[98, 117, 108, 107]⟩, .string ⟨#[105, 110, 116, 101, 114, 114, 117, 112, 116]⟩] 9)) := (Below.refl _ w5).alloc (Nat.le_refl _) _
      have t6 := Lib.hid (KT2.out w5)
      clear hK K
      generalize w5.alloc (.cells #[.string ⟨#[99, 111, 110, 116, 114, 111, 108]⟩, .string ⟨#[105, 115, 111, 99, 104, 114, 111, 110, 111, 117, 115]⟩, .string ⟨#[98, 117, 108, 107]⟩, .string ⟨#[105, 110, 116, 101, 114, 114, 117, 112, 116]⟩] 9) = w6 at b6 t6 ⊢
      try simp only [Act.put, List.setIfInBounds_toArray, List.set_cons_zero, List.set_cons_succ]
      ((first | (refine takeG 18 (v := ?_) rfl (by decide +kernel) (by decide +kernel) (by decide +kernel) (fun _ _ _ h => h) (Or.inl ⟨by rfl, ?_⟩) ?_; rotate_left 1; (focus (intro W hW; go_simp; first | done | with_reducible rfl)); try simp only [Act.put, List.setIfInBounds_toArray, List.set_cons_zero, List.set_cons_succ]) | (refine takeG 18 rfl (by decide +kernel) (by decide +kernel) (by decide +kernel) (fun _ _ _ h => h) (Or.inr ⟨by rfl, rfl⟩) ?_; try simp only [Act.put, List.setIfInBounds_toArray, List.set_cons_zero, List.set_cons_succ]) | skip))
      refine takeG 19 (v := .string sk) rfl (by decide +kernel) (by decide +kernel) (by decide +kernel) (fun _ _ _ h => h) (Or.inl ⟨by rfl, ?_⟩) ?_
      · intro W hW
        have q := t6.out W hW
        go_simp
        first | done | omega | with_reducible rfl
      try simp only [Act.put, List.setIfInBounds_toArray, List.set_cons_zero, List.set_cons_succ]
      refine takeG 20 (v := .string ((((sh ++ (⟨#[46]⟩ : ByteArray)) ++ sp) ++ (⟨#[32]⟩ : ByteArray)) ++ sk)) rfl (by decide +kernel) (by decide +kernel) (by decide +kernel) (fun _ _ _ h => h) (Or.inl ⟨by rfl, ?_⟩) ?_
      · intro W hW
        go_simp
        first | done | omega | with_reducible rfl
      try simp only [Act.put, List.setIfInBounds_toArray, List.set_cons_zero, List.set_cons_succ]
      refine takeG 21 (v := .string ((sn ++ (⟨#[32, 115, 116, 97, 114, 116, 32]⟩ : ByteArray)) ++ ((((sh ++ (⟨#[46]⟩ : ByteArray)) ++ sp) ++ (⟨#[32]⟩ : ByteArray)) ++ sk))) rfl (by decide +kernel) (by decide +kernel) (by decide +kernel) (fun _ _ _ h => h) (Or.inl ⟨by rfl, ?_⟩) ?_
      · intro W hW
        go_simp
        first | done | omega | with_reducible rfl
      try simp only [Act.put, List.setIfInBounds_toArray, List.set_cons_zero, List.set_cons_succ]
      ((first | (refine takeG 22 (v := ?_) rfl (by decide +kernel) (by decide +kernel) (by decide +kernel) (fun _ _ _ h => h) (Or.inl ⟨by rfl, ?_⟩) ?_; rotate_left 1; (focus (intro W hW; go_simp; first | done | with_reducible rfl)); try simp only [Act.put, List.setIfInBounds_toArray, List.set_cons_zero, List.set_cons_succ]) | (refine takeG 22 rfl (by decide +kernel) (by decide +kernel) (by decide +kernel) (fun _ _ _ h => h) (Or.inr ⟨by rfl, rfl⟩) ?_; try simp only [Act.put, List.setIfInBounds_toArray, List.set_cons_zero, List.set_cons_succ]) | skip))
      refine doneG (by kernel_rfl) ?_
      have g9 := Gr.trans (Gr.trans b4 b5) b6
      have d9 := Lib.hid ((g9.block _ (lt_of_block d3.out)).trans d3.out)
      have e9 := Lib.hid (e3.out.trans (g9.mono e3.out.size))
      clear t6 b4 b5 b6 g9 d3 e3
      have c7 := cell_at d9.out 7
      replace c7 : World.cell? _ ⟨w.heap.size, 7, none⟩ = some (.bool false) := c7
      go_wp2
      go_ret
      rw [HF.out]
      exact ⟨rfl, e9.out⟩
    · intro K hK
      go_simp
      refine hK _ _ (show Gr w4 (w4.alloc (.cells #[.string ⟨#[99, 111, 110, 116, 114, 111, 108]⟩, .string ⟨#[105, 115, 111, 99, 104, 114, 111, 110, 111, 117, 115]⟩, .string ⟨#[98, 117, 108, 107]⟩, .string ⟨#[105, 110, 116, 101, 114, 114, 117, 112, 116]⟩] 9)) from (Below.refl _ w4).alloc (Nat.le_refl _) _) ?_
      have b6 : Gr w4 (w4.alloc (.cells #[.string ⟨#[99, 111, 110, 116, 114, 111, 108]⟩, .string ⟨#[105, 115, 111, 99, 104, 114, 111, 110, 111, 117, 115]⟩, .string ⟨#[98, 117, 108, 107]⟩, .string ⟨#[105, 110, 116, 101, 114, 114, 117, 112, 116]⟩] 9)) := (Below.refl _ w4).alloc (Nat.le_refl _) _
      have t6 := Lib.hid (KT2.out w4)
      clear hK K
      generalize w4.alloc (.cells #[.string ⟨#[99, 111, 110, 116, 114, 111, 108]⟩, .string ⟨#[105, 115, 111, 99, 104, 114, 111, 110, 111, 117, 115]⟩, .string ⟨#[98, 117, 108, 107]⟩, .string ⟨#[105, 110, 116, 101, 114, 114, 117, 112, 116]⟩] 9) = w6 at b6 t6 ⊢
      try simp only [Act.put, List.setIfInBounds_toArray, List.set_cons_zero, List.set_cons_succ]
      ((first | (refine takeG 18 (v := ?_) rfl (by decide +kernel) (by decide +kernel) (by decide +kernel) (fun _ _ _ h => h) (Or.inl ⟨by rfl, ?_⟩) ?_; rotate_left 1; (focus (intro W hW; go_simp; first | done | with_reducible rfl)); try simp only [Act.put, List.setIfInBounds_toArray, List.set_cons_zero, List.set_cons_succ]) | (refine takeG 18 rfl (by decide +kernel) (by decide +kernel) (by decide +kernel) (fun _ _ _ h => h) (Or.inr ⟨by rfl, rfl⟩) ?_; try simp only [Act.put, List.setIfInBounds_toArray, List.set_cons_zero, List.set_cons_succ]) | skip))
      refine takeG 19 (v := .string sk) rfl (by decide +kernel) (by decide +kernel) (by decide +kernel) (fun _ _ _ h => h) (Or.inl ⟨by rfl, ?_⟩) ?_
      · intro W hW
        have q := t6.out W hW
        go_simp
        first | done | omega | with_reducible rfl
      try simp only [Act.put, List.setIfInBounds_toArray, List.set_cons_zero, List.set_cons_succ]
      refine stepG 11 rfl (by decide +kernel) (by rfl) ?_
      intro K hK
      go_simp
      refine (KEh.out _).mono ?_
      rintro e w5 ⟨rfl, b5⟩
      refine hK _ _ b5 ?_
      clear hK K
      try simp only [Act.put, List.setIfInBounds_toArray, List.set_cons_zero, List.set_cons_succ]
      refine takeG 12 (v := .string ((sh ++ (⟨#[46]⟩ : ByteArray)) ++ sp)) rfl (by decide +kernel) (by decide +kernel) (by decide +kernel) (fun _ _ _ h => h) (Or.inl ⟨by rfl, ?_⟩) ?_
      · intro W hW
        go_simp
        first | done | omega | with_reducible rfl
      try simp only [Act.put, List.setIfInBounds_toArray, List.set_cons_zero, List.set_cons_succ]
      refine takeG 13 (v := .string (((sh ++ (⟨#[46]⟩ : ByteArray)) ++ sp) ++ (⟨#[32]⟩ : ByteArray))) rfl (by decide +kernel) (by decide +kernel) (by decide +kernel) (fun _ _ _ h => h) (Or.inl ⟨by rfl, ?_⟩) ?_
      · intro W hW
        go_simp
        first | done | omega | with_reducible rfl
      try simp only [Act.put, List.setIfInBounds_toArray, List.set_cons_zero, List.set_cons_succ]
      refine takeG 20 (v := .string ((((sh ++ (⟨#[46]⟩ : ByteArray)) ++ sp) ++ (⟨#[32]⟩ : ByteArray)) ++ sk)) rfl (by decide +kernel) (by decide +kernel) (by decide +kernel) (fun _ _ _ h => h) (Or.inl ⟨by rfl, ?_⟩) ?_
      · intro W hW
        go_simp
        first | done | omega | with_reducible rfl
      try simp only [Act.put, List.setIfInBounds_toArray, List.set_cons_zero, List.set_cons_succ]
      refine takeG 21 (v := .string ((sn ++ (⟨#[32, 115, 116, 97, 114, 116, 32]⟩ : ByteArray)) ++ ((((sh ++ (⟨#[46]⟩ : ByteArray)) ++ sp) ++ (⟨#[32]⟩ : ByteArray)) ++ sk))) rfl (by decide +kernel) (by decide +kernel) (by decide +kernel) (fun _ _ _ h => h) (Or.inl ⟨by rfl, ?_⟩) ?_
      · intro W hW
        go_simp
        first | done | omega | with_reducible rfl
      try simp only [Act.put, List.setIfInBounds_toArray, List.set_cons_zero, List.set_cons_succ]
      ((first | (refine takeG 22 (v := ?_) rfl (by decide +kernel) (by decide +kernel) (by decide +kernel) (fun _ _ _ h => h) (Or.inl ⟨by rfl, ?_⟩) ?_; rotate_left 1; (focus (intro W hW; go_simp; first | done | with_reducible rfl)); try simp only [Act.put, List.setIfInBounds_toArray, List.set_cons_zero, List.set_cons_succ]) | (refine takeG 22 rfl (by decide +kernel) (by decide +kernel) (by decide +kernel) (fun _ _ _ h => h) (Or.inr ⟨by rfl, rfl⟩) ?_; try simp only [Act.put, List.setIfInBounds_toArray, List.set_cons_zero, List.set_cons_succ]) | skip))
      refine doneG (by kernel_rfl) ?_
      have g9 := Gr.trans (Gr.trans b4 b6) b5
      have d9 := Lib.hid ((g9.block _ (lt_of_block d3.out)).trans d3.out)
      have e9 := Lib.hid (e3.out.trans (g9.mono e3.out.size))
      clear t6 b4 b5 b6 g9 d3 e3
      have c7 := cell_at d9.out 7
      replace c7 : World.cell? _ ⟨w.heap.size, 7, none⟩ = some (.bool false) := c7
      go_wp2
      go_ret
      rw [HF.out]
      exact ⟨rfl, e9.out⟩
  · intro K hK
    go_simp
    refine hK _ _ (show Gr W2 (W2.alloc (.cells #[.string ⟨#[99, 111, 110, 116, 114, 111, 108]⟩, .string ⟨#[105, 115, 111, 99, 104, 114, 111, 110, 111, 117, 115]⟩, .string ⟨#[98, 117, 108, 107]⟩, .string ⟨#[105, 110, 116, 101, 114, 114, 117, 112, 116]⟩] 9)) from (Below.refl _ W2).alloc (Nat.le_refl _) _) ?_
    have b6 : Gr W2 (W2.alloc (.cells #[.string ⟨#[99, 111, 110, 116, 114, 111, 108]⟩, .string ⟨#[105, 115, 111, 99, 104, 114, 111, 110, 111, 117, 115]⟩, .string ⟨#[98, 117, 108, 107]⟩, .string ⟨#[105, 110, 116, 101, 114, 114, 117, 112, 116]⟩] 9)) := (Below.refl _ W2).alloc (Nat.le_refl _) _
    have t6 := Lib.hid (KT2.out W2)
    clear hK K
    generalize W2.alloc (.cells #[.string ⟨#[99, 111, 110, 116, 114, 111, 108]⟩, .string ⟨#[105, 115, 111, 99, 104, 114, 111, 110, 111, 117, 115]⟩, .string ⟨#[98, 117, 108, 107]⟩, .string ⟨#[105, 110, 116, 101, 114, 114, 117, 112, 116]⟩] 9) = w6 at b6 t6 ⊢
    try simp only [Act.put, List.setIfInBounds_toArray, List.set_cons_zero, List.set_cons_succ]
    ((first | (refine takeG 18 (v := ?_) rfl (by decide +kernel) (by decide +kernel) (by decide +kernel) (fun _ _ _ h => h) (Or.inl ⟨by rfl, ?_⟩) ?_; rotate_left 1; (focus (intro W hW; go_simp; first | done | with_reducible rfl)); try simp only [Act.put, List.setIfInBounds_toArray, List.set_cons_zero, List.set_cons_succ]) | (refine takeG 18 rfl (by decide +kernel) (by decide +kernel) (by decide +kernel) (fun _ _ _ h => h) (Or.inr ⟨by rfl, rfl⟩) ?_; try simp only [Act.put, List.setIfInBounds_toArray, List.set_cons_zero, List.set_cons_succ]) | skip))
    refine takeG 19 (v := .string sk) rfl (by decide +kernel) (by decide +kernel) (by decide +kernel) (fun _ _ _ h => h) (Or.inl ⟨by rfl, ?_⟩) ?_
    · intro W hW
      have q := t6.out W hW
      go_simp
      first | done | omega | with_reducible rfl
    try simp only [Act.put, List.setIfInBounds_toArray, List.set_cons_zero, List.set_cons_succ]
    refine stepG 5 rfl (by decide +kernel) (by rfl) ?_
    intro K hK
    go_simp
    refine (KAh.out _).mono ?_
    rintro e w4 ⟨rfl, b4⟩
    refine hK _ _ b4 ?_
    clear hK K
    try simp only [Act.put, List.setIfInBounds_toArray, List.set_cons_zero, List.set_cons_succ]
    refine takeG 6 (v := .string (sh ++ (⟨#[46]⟩ : ByteArray))) rfl (by decide +kernel) (by decide +kernel) (by decide +kernel) (fun _ _ _ h => h) (Or.inl ⟨by rfl, ?_⟩) ?_
    · intro W hW
      go_simp
      first | done | omega | with_reducible rfl
    try simp only [Act.put, List.setIfInBounds_toArray, List.set_cons_zero, List.set_cons_succ]
    refine stepG 11 rfl (by decide +kernel) (by rfl) ?_
    intro K hK
    go_simp
    refine (KEh.out _).mono ?_
    rintro e w5 ⟨rfl, b5⟩
    refine hK _ _ b5 ?_
    clear hK K
    try simp only [Act.put, List.setIfInBounds_toArray, List.set_cons_zero, List.set_cons_succ]
    refine takeG 12 (v := .string ((sh ++ (⟨#[46]⟩ : ByteArray)) ++ sp)) rfl (by decide +kernel) (by decide +kernel) (by decide +kernel) (fun _ _ _ h => h) (Or.inl ⟨by rfl, ?_⟩) ?_
    · intro W hW
      go_simp
      first | done | omega | with_reducible rfl
    try simp only [Act.put, List.setIfInBounds_toArray, List.set_cons_zero, List.set_cons_succ]
    refine takeG 13 (v := .string (((sh ++ (⟨#[46]⟩ : ByteArray)) ++ sp) ++ (⟨#[32]⟩ : ByteArray))) rfl (by decide +kernel) (by decide +kernel) (by decide +kernel) (fun _ _ _ h => h) (Or.inl ⟨by rfl, ?_⟩) ?_
    · intro W hW
      go_simp
      first | done | omega | with_reducible rfl
    try simp only [Act.put, List.setIfInBounds_toArray, List.set_cons_zero, List.set_cons_succ]
    refine takeG 20 (v := .string ((((sh ++ (⟨#[46]⟩ : ByteArray)) ++ sp) ++ (⟨#[32]⟩ : ByteArray)) ++ sk)) rfl (by decide +kernel) (by decide +kernel) (by decide +kernel) (fun _ _ _ h => h) (Or.inl ⟨by rfl, ?_⟩) ?_
    · intro W hW
      go_simp
      first | done | omega | with_reducible rfl
    try simp only [Act.put, List.setIfInBounds_toArray, List.set_cons_zero, List.set_cons_succ]
    refine takeG 21 (v := .string ((sn ++ (⟨#[32, 115, 116, 97, 114, 116, 32]⟩ : ByteArray)) ++ ((((sh ++ (⟨#[46]⟩ : ByteArray)) ++ sp) ++ (⟨#[32]⟩ : ByteArray)) ++ sk))) rfl (by decide +kernel) (by decide +kernel) (by decide +kernel) (fun _ _ _ h => h) (Or.inl ⟨by rfl, ?_⟩) ?_
    · intro W hW
      go_simp
      first | done | omega | with_reducible rfl
    try simp only [Act.put, List.setIfInBounds_toArray, List.set_cons_zero, List.set_cons_succ]
    ((first | (refine takeG 22 (v := ?_) rfl (by decide +kernel) (by decide +kernel) (by decide +kernel) (fun _ _ _ h => h) (Or.inl ⟨by rfl, ?_⟩) ?_; rotate_left 1; (focus (intro W hW; go_simp; first | done | with_reducible rfl)); try simp only [Act.put, List.setIfInBounds_toArray, List.set_cons_zero, List.set_cons_succ]) | (refine takeG 22 rfl (by decide +kernel) (by decide +kernel) (by decide +kernel) (fun _ _ _ h => h) (Or.inr ⟨by rfl, rfl⟩) ?_; try simp only [Act.put, List.setIfInBounds_toArray, List.set_cons_zero, List.set_cons_succ]) | skip))
    refine doneG (by kernel_rfl) ?_
    have g9 := Gr.trans (Gr.trans b6 b4) b5
    have d9 := Lib.hid ((g9.block _ (lt_of_block d3.out)).trans d3.out)
    have e9 := Lib.hid (e3.out.trans (g9.mono e3.out.size))
    clear t6 b4 b5 b6 g9 d3 e3
    have c7 := cell_at d9.out 7
    replace c7 : World.cell? _ ⟨w.heap.size, 7, none⟩ = some (.bool false) := c7
    go_wp2
    go_ret
    rw [HF.out]
    exact ⟨rfl, e9.out⟩

end Go.Proofs.YtfblpakoibadoaaDoor
