/-
  Helper text: contracts of the reference's bits of a packet; no statement is proved here.
-/
import Derived.Test.YtfblpakoibadoaaGreatDoorReA
namespace Go.Proofs.YtfblpakoibadoaaGreatDoor
open Go Go.RowKit

set_option maxHeartbeats 1600000 in
set_option maxRecDepth 100000 in
theorem refBits_tok (w : World) (r : Rg) (hp : r.pid = 1 ∨ r.pid = 9 ∨ r.pid = 13) (h1 : r.addr < 128) (h2 : r.endp < 16) :
    Calls Tryz.prog 36 #[.agg (pcells r)] w (ResO w 5 (bitsR r)) := by
  have HB := Lib.hid (bits_tok hp h1 h2)
  generalize bitsR r = zs at HB ⊢
  obtain ⟨p0, p1, p2, p3, p4, p5, p6, p7, p8, p9, p10⟩ := r
  simp only at hp
  have Hn := Lib.hid (heap_alloc_new w (.cells #[.int .u8 (p0 : Int), .int .u8 (p1 : Int), .int .u8 (p2 : Int), .int .u16 (p3 : Int), .int .u8 (p4 : Int), .int .u8 (p5 : Int), .bool p6, .bool p7, .int .u8 (p8 : Int), p9] 29))
  have Hb := Lib.hid ((Below.refl w.heap.size w).alloc (Nat.le_refl _) (.cells #[.int .u8 (p0 : Int), .int .u8 (p1 : Int), .int .u8 (p2 : Int), .int .u16 (p3 : Int), .int .u8 (p4 : Int), .int .u8 (p5 : Int), .bool p6, .bool p7, .int .u8 (p8 : Int), p9] 29))
  simp only at h1 h2 HB
  have K0 := Lib.hid fun W => tok_ref W p0
  rw [show (p0 == 1 || p0 == 9 || p0 == 13) = true by rcases hp with h | h | h <;> simp [h]] at K0
  have hw1 : IntKind.u64.wrap (p1 : Int) = (p1 : Int) := by simp only [IntKind.wrap_u64]; omega
  have hw2 : IntKind.u64.wrap (p2 : Int) = (p2 : Int) := by simp only [IntKind.wrap_u64]; omega
  have K1 := Lib.hid fun W => Ck.low_any W p1 7 (by omega)
  have K2 := Lib.hid fun W => Ck.low_any W p2 4 (by omega)
  have hl1 := Ck.lowL_len p1 7
  have hl2 := Ck.lowL_len p2 4
  generalize Ck.lowL p1 7 = l1 at HB K1 hl1
  generalize Ck.lowL p2 4 = l2 at HB K2 hl2
  simp only [pcells]
  clear hp
  go_enter Tryz.func36, Tryz.ntmps36
  go_wp2_with fail
  refine (K0.out _).mono ?_
  rintro e w1 ⟨rfl, e1⟩
  rw [e1]
  clear e1 K0
  go_wp2_with fail
  refine startB (B := (w.alloc (.cells #[.int .u8 (p0 : Int), .int .u8 (p1 : Int), .int .u8 (p2 : Int), .int .u16 (p3 : Int), .int .u8 (p4 : Int), .int .u8 (p5 : Int), .bool p6, .bool p7, .int .u8 (p8 : Int), p9] 29)).heap.size) 10 (l := #[false, false, false, false, false, false, false, false, false, false]) (by kernel_rfl) rfl rfl ?_
  replace Hn : Hid ((w.alloc (.cells #[.int .u8 (p0 : Int), .int .u8 (p1 : Int), .int .u8 (p2 : Int), .int .u16 (p3 : Int), .int .u8 (p4 : Int), .int .u8 (p5 : Int), .bool p6, .bool p7, .int .u8 (p8 : Int), p9] 29)).drew.heap[w.heap.size]? = some (.cells #[.int .u8 (p0 : Int), .int .u8 (p1 : Int), .int .u8 (p2 : Int), .int .u16 (p3 : Int), .int .u8 (p4 : Int), .int .u8 (p5 : Int), .bool p6, .bool p7, .int .u8 (p8 : Int), p9] 29)) := Hn.out
  replace Hb : Hid (Below w.heap.size w (w.alloc (.cells #[.int .u8 (p0 : Int), .int .u8 (p1 : Int), .int .u8 (p2 : Int), .int .u16 (p3 : Int), .int .u8 (p4 : Int), .int .u8 (p5 : Int), .bool p6, .bool p7, .int .u8 (p8 : Int), p9] 29)).drew) := Hb.out.drew
  have hsz : Hid ((w.alloc (.cells #[.int .u8 (p0 : Int), .int .u8 (p1 : Int), .int .u8 (p2 : Int), .int .u16 (p3 : Int), .int .u8 (p4 : Int), .int .u8 (p5 : Int), .bool p6, .bool p7, .int .u8 (p8 : Int), p9] 29)).heap.size ≤ (w.alloc (.cells #[.int .u8 (p0 : Int), .int .u8 (p1 : Int), .int .u8 (p2 : Int), .int .u16 (p3 : Int), .int .u8 (p4 : Int), .int .u8 (p5 : Int), .bool p6, .bool p7, .int .u8 (p8 : Int), p9] 29)).drew.heap.size ∧ w.heap.size ≤ (w.alloc (.cells #[.int .u8 (p0 : Int), .int .u8 (p1 : Int), .int .u8 (p2 : Int), .int .u16 (p3 : Int), .int .u8 (p4 : Int), .int .u8 (p5 : Int), .bool p6, .bool p7, .int .u8 (p8 : Int), p9] 29)).heap.size) := ⟨Nat.le_refl _, by simp⟩
  have hlt : Hid (w.heap.size < (w.alloc (.cells #[.int .u8 (p0 : Int), .int .u8 (p1 : Int), .int .u8 (p2 : Int), .int .u16 (p3 : Int), .int .u8 (p4 : Int), .int .u8 (p5 : Int), .bool p6, .bool p7, .int .u8 (p8 : Int), p9] 29)).heap.size ∧ (w.alloc (.cells #[.int .u8 (p0 : Int), .int .u8 (p1 : Int), .int .u8 (p2 : Int), .int .u16 (p3 : Int), .int .u8 (p4 : Int), .int .u8 (p5 : Int), .bool p6, .bool p7, .int .u8 (p8 : Int), p9] 29)).drew.heap[w.heap.size]? = some (.cells #[.int .u8 (p0 : Int), .int .u8 (p1 : Int), .int .u8 (p2 : Int), .int .u16 (p3 : Int), .int .u8 (p4 : Int), .int .u8 (p5 : Int), .bool p6, .bool p7, .int .u8 (p8 : Int), p9] 29)) := ⟨lt_of_block (heap_alloc_new w _), Hn.out⟩
  generalize (w.alloc (.cells #[.int .u8 (p0 : Int), .int .u8 (p1 : Int), .int .u8 (p2 : Int), .int .u16 (p3 : Int), .int .u8 (p4 : Int), .int .u8 (p5 : Int), .bool p6, .bool p7, .int .u8 (p8 : Int), p9] 29)).drew = w2 at Hn Hb hsz hlt ⊢
  generalize (w.alloc (.cells #[.int .u8 (p0 : Int), .int .u8 (p1 : Int), .int .u8 (p2 : Int), .int .u16 (p3 : Int), .int .u8 (p4 : Int), .int .u8 (p5 : Int), .bool p6, .bool p7, .int .u8 (p8 : Int), p9] 29)).heap.size = B at hsz hlt ⊢
  (first | (refine takeB 0 (v := ?_) rfl (by decide +kernel) (by decide +kernel) (by decide +kernel) (fun _ _ _ h => h) (Or.inl ⟨by rfl, ?_⟩) ?_; rotate_left 1; (focus (intro W hW; go_simp; first | done | with_reducible rfl)); try simp only [Act.put, List.setIfInBounds_toArray, List.set_cons_zero, List.set_cons_succ]) | (refine takeB 0 rfl (by decide +kernel) (by decide +kernel) (by decide +kernel) (fun _ _ _ h => h) (Or.inr ⟨by rfl, rfl⟩) ?_; try simp only [Act.put, List.setIfInBounds_toArray, List.set_cons_zero, List.set_cons_succ]))
  refine takeB 1 (v := .int .u8 (p1 : Int)) rfl (by decide +kernel) (by decide +kernel) (by decide +kernel) (fun _ _ _ h => h) (Or.inl ⟨by rfl, ?_⟩) ?_
  · intro W hW
    have q := block_at (i := 1) ((hW.block _ hlt.out.1).trans hlt.out.2) rfl
    clear hW
    go_simp
    first | done | with_reducible rfl
  try simp only [Act.put, List.setIfInBounds_toArray, List.set_cons_zero, List.set_cons_succ]
  (first | (refine takeB 2 (v := ?_) rfl (by decide +kernel) (by decide +kernel) (by decide +kernel) (fun _ _ _ h => h) (Or.inl ⟨by rfl, ?_⟩) ?_; rotate_left 1; (focus (intro W hW; go_simp; first | done | with_reducible rfl)); try simp only [Act.put, List.setIfInBounds_toArray, List.set_cons_zero, List.set_cons_succ]) | (refine takeB 2 rfl (by decide +kernel) (by decide +kernel) (by decide +kernel) (fun _ _ _ h => h) (Or.inr ⟨by rfl, rfl⟩) ?_; try simp only [Act.put, List.setIfInBounds_toArray, List.set_cons_zero, List.set_cons_succ]))
  (first | (refine takeB 4 (v := ?_) rfl (by decide +kernel) (by decide +kernel) (by decide +kernel) (fun _ _ _ h => h) (Or.inl ⟨by rfl, ?_⟩) ?_; rotate_left 1; (focus (intro W hW; go_simp; first | done | with_reducible rfl)); try simp only [Act.put, List.setIfInBounds_toArray, List.set_cons_zero, List.set_cons_succ]) | (refine takeB 4 rfl (by decide +kernel) (by decide +kernel) (by decide +kernel) (fun _ _ _ h => h) (Or.inr ⟨by rfl, rfl⟩) ?_; try simp only [Act.put, List.setIfInBounds_toArray, List.set_cons_zero, List.set_cons_succ]))
  refine takeB 5 (v := .int .u8 (p2 : Int)) rfl (by decide +kernel) (by decide +kernel) (by decide +kernel) (fun _ _ _ h => h) (Or.inl ⟨by rfl, ?_⟩) ?_
  · intro W hW
    have q := block_at (i := 2) ((hW.block _ hlt.out.1).trans hlt.out.2) rfl
    clear hW
    go_simp
    first | done | with_reducible rfl
  try simp only [Act.put, List.setIfInBounds_toArray, List.set_cons_zero, List.set_cons_succ]
  (first | (refine takeB 6 (v := ?_) rfl (by decide +kernel) (by decide +kernel) (by decide +kernel) (fun _ _ _ h => h) (Or.inl ⟨by rfl, ?_⟩) ?_; rotate_left 1; (focus (intro W hW; go_simp; first | done | with_reducible rfl)); try simp only [Act.put, List.setIfInBounds_toArray, List.set_cons_zero, List.set_cons_succ]) | (refine takeB 6 rfl (by decide +kernel) (by decide +kernel) (by decide +kernel) (fun _ _ _ h => h) (Or.inr ⟨by rfl, rfl⟩) ?_; try simp only [Act.put, List.setIfInBounds_toArray, List.set_cons_zero, List.set_cons_succ]))
  refine stepB 3 rfl (by decide +kernel) (by rfl) ?_
  intro K hK
  go_simp
  refine (K1.out w2).mono ?_
  rintro e w3 ⟨v3, rfl, o3, b3⟩
  refine hK _ _ (b3.mono hsz.out.1) ?_
  clear hK K
  try simp only [Act.put, List.setIfInBounds_toArray, List.set_cons_zero, List.set_cons_succ]
  refine stepB 7 rfl (by decide +kernel) (by rfl) ?_
  intro K hK
  go_simp
  refine (K2.out w3).mono ?_
  rintro e w4 ⟨v4, rfl, o4, b4⟩
  obtain ⟨A4, c4, rfl, r4⟩ := Rd.of_own o4
  have hb3 := Lib.hid (Hb.out.trans (b3.mono Hb.out.size))
  have hb4 := Lib.hid (hb3.out.trans (b4.mono hb3.out.size))
  refine hK _ _ (b4.mono (Nat.le_trans hsz.out.1 b3.size)) ?_
  clear hK K
  try simp only [Act.put, List.setIfInBounds_toArray, List.set_cons_zero, List.set_cons_succ]
  have o4' := own_base (own_below o3 b4) hsz.out.1
  have hB4 : B ≤ w4.heap.size := Nat.le_trans hsz.out.1 (Nat.le_trans b3.size b4.size)
  refine stepB 8 rfl (by decide +kernel) (by rfl) ?_
  intro K hK
  refine wp_appendN Tryz.underlying27 Ck.Tryz.info5 (.tmp 10) (.tmp 14) rfl B v3 l1 rfl o4' _ c4 A4 l2 r4 rfl (by omega) hB4 ?_
  intro v5 w5 o5 b5 _ _
  refine hK _ _ b5 ?_
  clear hK K
  try simp only [Act.put, List.setIfInBounds_toArray, List.set_cons_zero, List.set_cons_succ]
  refine stepB 9 rfl (by decide +kernel) (by rfl) ?_
  intro K hK
  go_simp
  refine hK _ _ (Below.refl _ _) ?_
  clear hK K
  try simp only [Act.put, List.setIfInBounds_toArray, List.set_cons_zero, List.set_cons_succ]
  refine doneB (by kernel_rfl) ?_
  go_wp2
  go_ret
  rw [← HB.out]
  exact ⟨_, rfl, own_base o5 hsz.out.2, hb4.out.trans (b5.mono hsz.out.2)⟩

set_option maxHeartbeats 1600000 in
set_option maxRecDepth 100000 in
theorem refBits_sof (w : World) (r : Rg) (hp : r.pid = 5) (h1 : r.frame < 2048) :
    Calls Tryz.prog 36 #[.agg (pcells r)] w (ResO w 5 (bitsR r)) := by
  have HB := Lib.hid (bits_sof hp h1)
  generalize bitsR r = zs at HB ⊢
  obtain ⟨p0, p1, p2, p3, p4, p5, p6, p7, p8, p9, p10⟩ := r
  simp only at hp
  have Hn := Lib.hid (heap_alloc_new w (.cells #[.int .u8 (p0 : Int), .int .u8 (p1 : Int), .int .u8 (p2 : Int), .int .u16 (p3 : Int), .int .u8 (p4 : Int), .int .u8 (p5 : Int), .bool p6, .bool p7, .int .u8 (p8 : Int), p9] 29))
  have Hb := Lib.hid ((Below.refl w.heap.size w).alloc (Nat.le_refl _) (.cells #[.int .u8 (p0 : Int), .int .u8 (p1 : Int), .int .u8 (p2 : Int), .int .u16 (p3 : Int), .int .u8 (p4 : Int), .int .u8 (p5 : Int), .bool p6, .bool p7, .int .u8 (p8 : Int), p9] 29))
  simp only at h1 HB
  subst hp
  have K0 := Lib.hid fun W => tok_ref W 5
  rw [show ((5 : Nat) == 1 || (5 : Nat) == 9 || (5 : Nat) == 13) = false from rfl] at K0
  have K1 := Lib.hid fun W => Ck.low_any W p3 11 (by omega)
  rw [HB.out] at K1
  clear HB
  simp only [pcells]
  go_enter Tryz.func36, Tryz.ntmps36
  go_wp2_with fail
  refine (K0.out _).mono ?_
  rintro e w1 ⟨rfl, e1⟩
  rw [e1]
  clear e1 K0
  go_wp2_with fail
  refine (K1.out _).mono ?_
  rintro e w2 ⟨v2, rfl, o2, b2⟩
  go_wp2
  go_ret
  exact ⟨_, rfl, own_base o2 Hb.out.size, Hb.out.trans (b2.mono Hb.out.size)⟩

set_option maxHeartbeats 800000 in
set_option maxRecDepth 100000 in
theorem refBits_none (w : World) (r : Rg) (hp : r.pid ≠ 1 ∧ r.pid ≠ 9 ∧ r.pid ≠ 13 ∧ r.pid ≠ 5 ∧ r.pid ≠ 8) :
    Calls Tryz.prog 36 #[.agg (pcells r)] w (ResO w 5 (bitsR r)) := by
  rw [bits_none hp.1 hp.2.1 hp.2.2.1 hp.2.2.2.1 hp.2.2.2.2]
  obtain ⟨p0, p1, p2, p3, p4, p5, p6, p7, p8, p9, p10⟩ := r
  simp only at hp
  have Hn := Lib.hid (heap_alloc_new w (.cells #[.int .u8 (p0 : Int), .int .u8 (p1 : Int), .int .u8 (p2 : Int), .int .u16 (p3 : Int), .int .u8 (p4 : Int), .int .u8 (p5 : Int), .bool p6, .bool p7, .int .u8 (p8 : Int), p9] 29))
  have Hb := Lib.hid ((Below.refl w.heap.size w).alloc (Nat.le_refl _) (.cells #[.int .u8 (p0 : Int), .int .u8 (p1 : Int), .int .u8 (p2 : Int), .int .u16 (p3 : Int), .int .u8 (p4 : Int), .int .u8 (p5 : Int), .bool p6, .bool p7, .int .u8 (p8 : Int), p9] 29))
  have K0 := Lib.hid fun W => tok_ref W p0
  rw [show (p0 == 1 || p0 == 9 || p0 == 13) = false by simp [hp.1, hp.2.1, hp.2.2.1]] at K0
  have g5 : ((p0 : Int) == 5) = false := beq_eq_false_iff_ne.2 (by omega)
  have g8 : ((p0 : Int) == 8) = false := beq_eq_false_iff_ne.2 (by omega)
  simp only [pcells]
  clear hp
  go_enter Tryz.func36, Tryz.ntmps36
  go_wp2_with fail
  refine (K0.out _).mono ?_
  rintro e w1 ⟨rfl, e1⟩
  rw [e1]
  clear e1 K0
  go_wp2
  go_ret
  exact ⟨_, rfl, own_nil _ _ _, Hb.out⟩

end Go.Proofs.YtfblpakoibadoaaGreatDoor
