/-
  Helper text: contracts of the reference's bits of a packet; no statement is proved here.
-/
import Derived.Test.YtfblpakoibadoaaGreatDoorReB
namespace Go.Proofs.YtfblpakoibadoaaGreatDoor
open Go Go.RowKit

set_option maxHeartbeats 3200000 in
set_option maxRecDepth 100000 in
theorem refBits_split (w : World) (r : Rg) (hp : r.pid = 8) (h1 : r.hub < 128) (h2 : r.port < 128) (h3 : r.kind < 4) :
    Calls Tryz.prog 36 #[.agg (pcells r)] w (ResO w 5 (bitsR r)) := by
  have HB := Lib.hid (bits_split hp h1 h2 h3)
  generalize bitsR r = zs at HB ⊢
  obtain ⟨p0, p1, p2, p3, p4, p5, p6, p7, p8, p9, p10⟩ := r
  simp only at hp
  have Hn := Lib.hid (heap_alloc_new w (.cells #[.int .u8 (p0 : Int), .int .u8 (p1 : Int), .int .u8 (p2 : Int), .int .u16 (p3 : Int), .int .u8 (p4 : Int), .int .u8 (p5 : Int), .bool p6, .bool p7, .int .u8 (p8 : Int), p9] 29))
  have Hb := Lib.hid ((Below.refl w.heap.size w).alloc (Nat.le_refl _) (.cells #[.int .u8 (p0 : Int), .int .u8 (p1 : Int), .int .u8 (p2 : Int), .int .u16 (p3 : Int), .int .u8 (p4 : Int), .int .u8 (p5 : Int), .bool p6, .bool p7, .int .u8 (p8 : Int), p9] 29))
  simp only at h1 h2 h3 HB
  subst hp
  have K0 := Lib.hid fun W => tok_ref W 8
  rw [show ((8 : Nat) == 1 || (8 : Nat) == 9 || (8 : Nat) == 13) = false from rfl] at K0
  have hw1 : IntKind.u64.wrap (p4 : Int) = (p4 : Int) := by simp only [IntKind.wrap_u64]; omega
  have hw2 : IntKind.u64.wrap (p5 : Int) = (p5 : Int) := by simp only [IntKind.wrap_u64]; omega
  have hw3 : IntKind.u64.wrap (p8 : Int) = (p8 : Int) := by simp only [IntKind.wrap_u64]; omega
  have K1 := Lib.hid fun W => Ck.low_any W p4 7 (by omega)
  have K2 := Lib.hid fun W => flag_ref W p6
  have K3 := Lib.hid fun W => Ck.low_any W p5 7 (by omega)
  have K4 := Lib.hid fun W => flag_ref W p7
  have K5 := Lib.hid fun W => Ck.low_any W p8 2 (by omega)
  have hl1 := Lib.hid (Ck.lowL_len p4 7)
  have hl3 := Lib.hid (Ck.lowL_len p5 7)
  have hl5 := Lib.hid (Ck.lowL_len p8 2)
  generalize Ck.lowL p4 7 = l1 at HB K1 hl1
  generalize Ck.lowL p5 7 = l3 at HB K3 hl3
  generalize Ck.lowL p8 2 = l5 at HB K5 hl5
  generalize UInt8.ofNat p6.toNat = f1 at HB K2
  generalize UInt8.ofNat p7.toNat = f2 at HB K4
  simp only [pcells]
  go_enter Tryz.func36, Tryz.ntmps36
  go_wp2_with fail
  refine (K0.out _).mono ?_
  rintro e w1 ⟨rfl, e1⟩
  rw [e1]
  clear e1 K0
  go_wp2_with fail
  refine startB (B := (w.alloc (.cells #[.int .u8 8, .int .u8 (p1 : Int), .int .u8 (p2 : Int), .int .u16 (p3 : Int), .int .u8 (p4 : Int), .int .u8 (p5 : Int), .bool p6, .bool p7, .int .u8 (p8 : Int), p9] 29)).heap.size) 12 (l := #[false, false, false, false, false, false, false, false, false, false, false, false]) (by kernel_rfl) rfl rfl ?_
  replace Hn : Hid ((w.alloc (.cells #[.int .u8 8, .int .u8 (p1 : Int), .int .u8 (p2 : Int), .int .u16 (p3 : Int), .int .u8 (p4 : Int), .int .u8 (p5 : Int), .bool p6, .bool p7, .int .u8 (p8 : Int), p9] 29)).drew.heap[w.heap.size]? = some (.cells #[.int .u8 8, .int .u8 (p1 : Int), .int .u8 (p2 : Int), .int .u16 (p3 : Int), .int .u8 (p4 : Int), .int .u8 (p5 : Int), .bool p6, .bool p7, .int .u8 (p8 : Int), p9] 29)) := Hn.out
  replace Hb : Hid (Below w.heap.size w (w.alloc (.cells #[.int .u8 8, .int .u8 (p1 : Int), .int .u8 (p2 : Int), .int .u16 (p3 : Int), .int .u8 (p4 : Int), .int .u8 (p5 : Int), .bool p6, .bool p7, .int .u8 (p8 : Int), p9] 29)).drew) := Hb.out.drew
  have hsz : Hid ((w.alloc (.cells #[.int .u8 8, .int .u8 (p1 : Int), .int .u8 (p2 : Int), .int .u16 (p3 : Int), .int .u8 (p4 : Int), .int .u8 (p5 : Int), .bool p6, .bool p7, .int .u8 (p8 : Int), p9] 29)).heap.size ≤ (w.alloc (.cells #[.int .u8 8, .int .u8 (p1 : Int), .int .u8 (p2 : Int), .int .u16 (p3 : Int), .int .u8 (p4 : Int), .int .u8 (p5 : Int), .bool p6, .bool p7, .int .u8 (p8 : Int), p9] 29)).drew.heap.size ∧ w.heap.size ≤ (w.alloc (.cells #[.int .u8 8, .int .u8 (p1 : Int), .int .u8 (p2 : Int), .int .u16 (p3 : Int), .int .u8 (p4 : Int), .int .u8 (p5 : Int), .bool p6, .bool p7, .int .u8 (p8 : Int), p9] 29)).heap.size) := ⟨Nat.le_refl _, by simp⟩
  have hlt : Hid (w.heap.size < (w.alloc (.cells #[.int .u8 8, .int .u8 (p1 : Int), .int .u8 (p2 : Int), .int .u16 (p3 : Int), .int .u8 (p4 : Int), .int .u8 (p5 : Int), .bool p6, .bool p7, .int .u8 (p8 : Int), p9] 29)).heap.size ∧ (w.alloc (.cells #[.int .u8 8, .int .u8 (p1 : Int), .int .u8 (p2 : Int), .int .u16 (p3 : Int), .int .u8 (p4 : Int), .int .u8 (p5 : Int), .bool p6, .bool p7, .int .u8 (p8 : Int), p9] 29)).drew.heap[w.heap.size]? = some (.cells #[.int .u8 8, .int .u8 (p1 : Int), .int .u8 (p2 : Int), .int .u16 (p3 : Int), .int .u8 (p4 : Int), .int .u8 (p5 : Int), .bool p6, .bool p7, .int .u8 (p8 : Int), p9] 29)) := ⟨lt_of_block (heap_alloc_new w _), Hn.out⟩
  generalize (w.alloc (.cells #[.int .u8 8, .int .u8 (p1 : Int), .int .u8 (p2 : Int), .int .u16 (p3 : Int), .int .u8 (p4 : Int), .int .u8 (p5 : Int), .bool p6, .bool p7, .int .u8 (p8 : Int), p9] 29)).drew = w2 at Hn Hb hsz hlt ⊢
  generalize (w.alloc (.cells #[.int .u8 8, .int .u8 (p1 : Int), .int .u8 (p2 : Int), .int .u16 (p3 : Int), .int .u8 (p4 : Int), .int .u8 (p5 : Int), .bool p6, .bool p7, .int .u8 (p8 : Int), p9] 29)).heap.size = B at hsz hlt ⊢
  (first | (refine takeB 0 (v := ?_) rfl (by decide +kernel) (by decide +kernel) (by decide +kernel) (fun _ _ _ h => h) (Or.inl ⟨by rfl, ?_⟩) ?_; rotate_left 1; (focus (intro W hW; go_simp; first | done | with_reducible rfl)); try simp only [Act.put, List.setIfInBounds_toArray, List.set_cons_zero, List.set_cons_succ]) | (refine takeB 0 rfl (by decide +kernel) (by decide +kernel) (by decide +kernel) (fun _ _ _ h => h) (Or.inr ⟨by rfl, rfl⟩) ?_; try simp only [Act.put, List.setIfInBounds_toArray, List.set_cons_zero, List.set_cons_succ]))
  (first | (refine takeB 1 (v := ?_) rfl (by decide +kernel) (by decide +kernel) (by decide +kernel) (fun _ _ _ h => h) (Or.inl ⟨by rfl, ?_⟩) ?_; rotate_left 1; (focus (intro W hW; go_simp; first | done | with_reducible rfl)); try simp only [Act.put, List.setIfInBounds_toArray, List.set_cons_zero, List.set_cons_succ]) | (refine takeB 1 rfl (by decide +kernel) (by decide +kernel) (by decide +kernel) (fun _ _ _ h => h) (Or.inr ⟨by rfl, rfl⟩) ?_; try simp only [Act.put, List.setIfInBounds_toArray, List.set_cons_zero, List.set_cons_succ]))
  refine takeB 2 (v := .int .u8 (p4 : Int)) rfl (by decide +kernel) (by decide +kernel) (by decide +kernel) (fun _ _ _ h => h) (Or.inl ⟨by rfl, ?_⟩) ?_
  · intro W hW
    have q := block_at (i := 4) ((hW.block _ hlt.out.1).trans hlt.out.2) rfl
    clear hW
    go_simp
    first | done | with_reducible rfl
  try simp only [Act.put, List.setIfInBounds_toArray, List.set_cons_zero, List.set_cons_succ]
  (first | (refine takeB 3 (v := ?_) rfl (by decide +kernel) (by decide +kernel) (by decide +kernel) (fun _ _ _ h => h) (Or.inl ⟨by rfl, ?_⟩) ?_; rotate_left 1; (focus (intro W hW; go_simp; first | done | with_reducible rfl)); try simp only [Act.put, List.setIfInBounds_toArray, List.set_cons_zero, List.set_cons_succ]) | (refine takeB 3 rfl (by decide +kernel) (by decide +kernel) (by decide +kernel) (fun _ _ _ h => h) (Or.inr ⟨by rfl, rfl⟩) ?_; try simp only [Act.put, List.setIfInBounds_toArray, List.set_cons_zero, List.set_cons_succ]))
  (first | (refine takeB 5 (v := ?_) rfl (by decide +kernel) (by decide +kernel) (by decide +kernel) (fun _ _ _ h => h) (Or.inl ⟨by rfl, ?_⟩) ?_; rotate_left 1; (focus (intro W hW; go_simp; first | done | with_reducible rfl)); try simp only [Act.put, List.setIfInBounds_toArray, List.set_cons_zero, List.set_cons_succ]) | (refine takeB 5 rfl (by decide +kernel) (by decide +kernel) (by decide +kernel) (fun _ _ _ h => h) (Or.inr ⟨by rfl, rfl⟩) ?_; try simp only [Act.put, List.setIfInBounds_toArray, List.set_cons_zero, List.set_cons_succ]))
  (first | (refine takeB 6 (v := ?_) rfl (by decide +kernel) (by decide +kernel) (by decide +kernel) (fun _ _ _ h => h) (Or.inl ⟨by rfl, ?_⟩) ?_; rotate_left 1; (focus (intro W hW; go_simp; first | done | with_reducible rfl)); try simp only [Act.put, List.setIfInBounds_toArray, List.set_cons_zero, List.set_cons_succ]) | (refine takeB 6 rfl (by decide +kernel) (by decide +kernel) (by decide +kernel) (fun _ _ _ h => h) (Or.inr ⟨by rfl, rfl⟩) ?_; try simp only [Act.put, List.setIfInBounds_toArray, List.set_cons_zero, List.set_cons_succ]))
  refine takeB 7 (v := .bool p6) rfl (by decide +kernel) (by decide +kernel) (by decide +kernel) (fun _ _ _ h => h) (Or.inl ⟨by rfl, ?_⟩) ?_
  · intro W hW
    have q := block_at (i := 6) ((hW.block _ hlt.out.1).trans hlt.out.2) rfl
    clear hW
    go_simp
    first | done | with_reducible rfl
  try simp only [Act.put, List.setIfInBounds_toArray, List.set_cons_zero, List.set_cons_succ]
  refine stepB 4 rfl (by decide +kernel) (by rfl) ?_
  intro K hK
  go_simp
  refine (K1.out w2).mono ?_
  rintro e w3 ⟨v3, rfl, o3, b3⟩
  refine hK _ _ (b3.mono hsz.out.1) ?_
  clear hK K
  try simp only [Act.put, List.setIfInBounds_toArray, List.set_cons_zero, List.set_cons_succ]
  have hb3 := Lib.hid (Hb.out.trans (b3.mono Hb.out.size))
  refine stepB 8 rfl (by decide +kernel) (by rfl) ?_
  intro K hK
  go_simp
  refine (K2.out w3).mono ?_
  rintro e w4 ⟨rfl, e4⟩
  rw [e4]
  clear e4
  refine hK _ _ (Below.refl _ _) ?_
  clear hK K
  try simp only [Act.put, List.setIfInBounds_toArray, List.set_cons_zero, List.set_cons_succ]
  have hB3 : B ≤ w3.heap.size := Nat.le_trans hsz.out.1 b3.size
  have o3' := own_base o3 hsz.out.1
  have hn3 := Lib.hid ((b3.block _ (Nat.lt_of_lt_of_le hlt.out.1 hsz.out.1)).trans hlt.out.2)
  refine stepB 9 rfl (by decide +kernel) (by rfl) ?_
  intro K hK
  go_simp
  refine hK _ _ ((Below.refl B w3).alloc hB3 _) ?_
  clear hK K
  try simp only [Act.put, List.setIfInBounds_toArray, List.set_cons_zero, List.set_cons_succ]
  have hro : Rd (w3.alloc (.cells #[bv f1] 5)) (w3.heap.size + 1) (some ⟨w3.heap.size, 0, none⟩) 1 [f1] := rd_built w3 5 [f1] (by simp)
  refine stepB 10 rfl (by decide +kernel) (by rfl) ?_
  intro K hK
  refine wp_appendN Tryz.underlying27 Ck.Tryz.info5 (.tmp 30) (.tmp 35) rfl B v3 l1 rfl (o3'.alloc _) _ 1 _ [f1] hro rfl (by have a1 := hl1.out; have a3 := hl3.out; have a5 := hl5.out; simp; omega) (by have a1 := hl1.out; have a3 := hl3.out; have a5 := hl5.out; simp; omega) ?_
  intro v5 w5 o5 b5 _ _
  refine hK _ _ b5 ?_
  clear hK K hro
  try simp only [Act.put, List.setIfInBounds_toArray, List.set_cons_zero, List.set_cons_succ]
  have hb5 := Lib.hid ((hb3.out.alloc hb3.out.size _).trans (b5.mono hsz.out.2))
  have hn5 := Lib.hid ((b5.block _ hlt.out.1).trans ((Below.heap_alloc w3 _ _ (lt_of_block hn3.out)).trans hn3.out))
  have hB5 : B ≤ w5.heap.size := Nat.le_trans hB3 (Nat.le_trans (by simp) b5.size)
  clear b5 hn3
  refine stepB 11 rfl (by decide +kernel) (by rfl) ?_
  intro K hK
  go_simp
  refine hK _ _ (Below.refl _ _) ?_
  clear hK K
  try simp only [Act.put, List.setIfInBounds_toArray, List.set_cons_zero, List.set_cons_succ]
  refine doneB (by kernel_rfl) ?_
  have c5 := block_at (i := 5) hn5.out rfl
  go_wp2_with fail
  refine (K3.out _).mono ?_
  rintro e w6 ⟨v6, rfl, o6, b6⟩
  obtain ⟨A6, c6, rfl, r6⟩ := Rd.of_own o6
  have o5' := own_below o5 b6
  have hb6 := Lib.hid (hb5.out.trans (b6.mono hb5.out.size))
  have hn6 := Lib.hid ((b6.block _ (lt_of_block hn5.out)).trans hn5.out)
  have hB6 : B ≤ w6.heap.size := Nat.le_trans hB5 b6.size
  clear c5 b6 o5 hn5
  go_wp2_with (at_builtin; go_loud (refine wpl_appendN Tryz.underlying27 Ck.Tryz.info5 rfl (.tmp 37) (.tmp 42) rfl B v5 (l1 ++ [f1]) rfl o5' _ c6 A6 l3 r6 rfl (by have a1 := hl1.out; have a3 := hl3.out; have a5 := hl5.out; simp; omega) hB6 ?_; intro v7 w7 o7 b7; have hn7 := Lib.hid ((b7.block _ hlt.out.1).trans hn6.out); have hb7 := Lib.hid (hb6.out.trans (b7.mono hsz.out.2)); have hB7 : B ≤ w7.heap.size := Nat.le_trans hB6 b7.size; have c7 := block_at (i := 7) hn7.out rfl))
  refine (K4.out _).mono ?_
  rintro e w8 ⟨rfl, e8⟩
  rw [e8]
  clear e8 c7 b7
  have hro2 : Rd (w7.alloc (.cells #[bv f2, bv 0] 5)) (w7.heap.size + 1) (some ⟨w7.heap.size, 0, none⟩) 2 [f2, 0] := rd_built w7 5 [f2, 0] (by simp)
  have c8 := block_at (i := 8) ((Below.heap_alloc w7 (.cells #[bv f2, bv 0] 5) _ (lt_of_block hn7.out)).trans hn7.out) rfl
  go_wp2_with (at_builtin; go_loud (refine wpl_appendN Tryz.underlying27 Ck.Tryz.info5 rfl (.tmp 44) (.tmp 49) rfl B v7 ((l1 ++ [f1]) ++ l3) rfl (o7.alloc _) _ 2 _ [f2, 0] hro2 rfl (by have a1 := hl1.out; have a3 := hl3.out; have a5 := hl5.out; simp; omega) (by have a1 := hl1.out; have a3 := hl3.out; have a5 := hl5.out; simp; omega) ?_; intro v9 w9 o9 b9; have hn9 := Lib.hid ((b9.block _ hlt.out.1).trans ((Below.heap_alloc w7 _ _ (lt_of_block hn7.out)).trans hn7.out)); have hb9 := Lib.hid ((hb7.out.alloc hb7.out.size _).trans (b9.mono hsz.out.2)); have hB9 : B ≤ w9.heap.size := Nat.le_trans hB7 (Nat.le_trans (by simp) b9.size); clear c8 hro2; have c8 := block_at (i := 8) hn9.out rfl))
  refine (K5.out _).mono ?_
  rintro e wa ⟨va, rfl, oa, ba⟩
  obtain ⟨Aa, ca, rfl, ra⟩ := Rd.of_own oa
  have o9' := own_below o9 ba
  have hba := Lib.hid (hb9.out.trans (ba.mono hb9.out.size))
  have hBa : B ≤ wa.heap.size := Nat.le_trans hB9 ba.size
  clear c8 b9 o9
  go_wp2_with (at_builtin; go_loud (refine wpl_appendN Tryz.underlying27 Ck.Tryz.info5 rfl (.tmp 51) (.tmp 56) rfl B v9 (((l1 ++ [f1]) ++ l3) ++ [f2, 0]) rfl o9' _ ca Aa l5 ra rfl (by have a1 := hl1.out; have a3 := hl3.out; have a5 := hl5.out; simp; omega) hBa ?_; intro vb wb ob bb))
  go_ret
  rw [← HB.out]
  exact ⟨_, rfl, own_base ob hsz.out.2, hba.out.trans (bb.mono hsz.out.2)⟩

theorem refBits_any (w : World) (r : Rg) (xs : List UInt8) (h : Fit r xs) : Calls Tryz.prog 36 #[.agg (pcells r)] w (ResO w 5 (bitsR r)) := by
  cases h with
  | tok hp h1 h2 => exact refBits_tok w r hp h1 h2
  | sof hp _ _ h3 => exact refBits_sof w r hp h3
  | split hp _ _ _ h4 h5 h8 => exact refBits_split w r hp h4 h5 h8
  | data hp => exact refBits_none w r (by omega)
  | bare hp => exact refBits_none w r (by omega)

end Go.Proofs.YtfblpakoibadoaaGreatDoor
