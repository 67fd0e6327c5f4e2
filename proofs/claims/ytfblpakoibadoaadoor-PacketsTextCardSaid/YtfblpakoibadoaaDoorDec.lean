/-
  Helper text: Decode; no statement is proved here.
-/
import Derived.Test.YtfblpakoibadoaaDoorDecN
import Derived.Test.YtfblpakoibadoaaDoorStill
namespace Go.Proofs.YtfblpakoibadoaaDoor
open Go Go.RowKit

set_option maxHeartbeats 800000 in
set_option maxRecDepth 100000 in
theorem decode_empty (w : World) (A : Option Addr) (c : Nat) : Calls Tryd.prog 13 #[.slice A 0 c] w (ResPk w (bare 0) [] 4) := by
  have hb := Lib.hid ((Below.refl w.heap.size w).alloc (Nat.le_refl _) (.cells (pcells (bare 0)) 29))
  have hr := Lib.hid (heap_alloc_new w (.cells (pcells (bare 0)) 29))
  go_enter Tryd.func13, Tryd.ntmps13
  go_wp2
  refine bodyPost_ret (results_row_tmp rfl _ _ w.heap.size _ _ _ _ rfl hr.out Tryd.underlying29 rfl (by kernel_rfl)) rfl ?_
  exact resPk_none w 0 4 _ hb.out

set_option maxHeartbeats 3200000 in
set_option maxRecDepth 100000 in
theorem decode_core (w : World) (hL : Laid w) (A : Option Addr) (c : Nat) (b0 : UInt8) (rest : List UInt8) (hx : Rd w w.heap.size A c (b0 :: rest)) (p : Nat) (hp : b0.toNat % 16 = p) (kb tb isd : Bool) (hk : known p = kb) (ht : ((b0.toNat : Int) == ((p + 16 * (15 - p) : Nat) : Int)) = tb) (hi : isD p = isd) (R : Rg) (ys : List UInt8) (E : Nat)
    (hE : (kb = false ∧ E = 4 ∧ R = bare 0 ∧ ys = []) ∨ (kb = true ∧ tb = false ∧ E = 4 ∧ R = bare 0 ∧ ys = []) ∨
      (kb = true ∧ tb = true ∧ isd = true ∧ ∀ W A' c', Laid W → Rd W W.heap.size A' c' rest → Calls Tryd.prog 25 #[.int .u8 (p : Int), .slice A' rest.length c'] W (ResPk W R ys E)) ∨
      (kb = true ∧ tb = true ∧ isd = false ∧ ∀ W A' c', Laid W → Rd W W.heap.size A' c' rest → Calls Tryd.prog 26 #[.int .u8 (p : Int), .slice A' rest.length c'] W (ResPk W R ys E))) :
    Calls Tryd.prog 13 #[.slice A (rest.length + 1) c] w (ResPk w R ys E) := by
  have hp16 : p < 16 := by omega
  have KI := Lib.hid fun W hLW => isIdent_any W hLW p (by omega)
  rw [hk] at KI
  have K1 := Lib.hid fun W => first_any W p (by omega)
  have KD := Lib.hid fun W => isData_any W p
  rw [hi] at KD
  have hle := hx.le
  have hcp := hx.cap
  rw [List.length_cons] at hle
  obtain ⟨b, off, rfl, hbB, hcell⟩ := hx.cells (by simp)
  have hcell := hcell 0 (by simp)
  have hband : bits .and .u8 (b0.toNat : Int) 15 = (p : Int) := by
    have := Ck.band8 (a := b0.toNat) (b := 15) b0.toNat_lt (by decide)
    rw [show b0.toNat &&& 15 = b0.toNat % 16 from Nat.and_two_pow_sub_one_eq_mod _ 4, hp] at this
    exact this
  have hx8 : b0.toNat < 256 := b0.toNat_lt
  replace hcell : w.cell? ⟨b, off, none⟩ = some (.int .u8 (b0.toNat : Int)) := hcell
  have hdr := Lib.hid (hx.drop (k := 1) (by simp))
  rw [show (b0 :: rest).drop 1 = rest from rfl] at hdr
  generalize b0.toNat = x at hcell hband ht hx8
  generalize p + 16 * (15 - p) = q at K1 ht
  have hBW := (Below.refl w.heap.size w).alloc (Nat.le_refl _) (.cells #[.int .u8 0, .int .u8 0, .int .u8 0, .int .u16 0, .int .u8 0, .int .u8 0, .bool false, .bool false, .int .u8 0, .slice none 0 0] 29)
  have hc1 : ∀ W, Gr (w.alloc (.cells #[.int .u8 0, .int .u8 0, .int .u8 0, .int .u16 0, .int .u8 0, .int .u8 0, .bool false, .bool false, .int .u8 0, .slice none 0 0] 29)) W → W.cell? ⟨b, off, none⟩ = some (.int .u8 (x : Int)) := fun W hW => (hW.cell (p := ⟨b, off, none⟩) (by simp; omega)).trans ((hBW.cell (p := ⟨b, off, none⟩) hbB).trans hcell)
  have hb := Lib.hid hBW
  have hr := Lib.hid (heap_alloc_new w (.cells #[.int .u8 0, .int .u8 0, .int .u8 0, .int .u16 0, .int .u8 0, .int .u8 0, .bool false, .bool false, .int .u8 0, .slice none 0 0] 29))
  have hLh := Lib.hid hL
  have hEh := Lib.hid hE
  clear hk hi hx hL hE hBW hcell hp
  have hn0 : ((rest.length + 1 : Nat) : Int) ≠ 0 := by omega
  have hcA := hc1 _ (Gr.refl _)
  go_enter Tryd.func13, Tryd.ntmps13
  go_wp2
  refine startG 11 (l := #[false, false, false, false, false, false, false, false, false, false, false]) (by kernel_rfl) rfl rfl ?_
  change _root_.Go.Proofs.YtfblpakoibadoaaDoor.wpAnyG _ _ _ _ _ _ _ (World.drew (w.alloc (.cells #[.int .u8 0, .int .u8 0, .int .u8 0, .int .u16 0, .int .u8 0, .int .u8 0, .bool false, .bool false, .int .u8 0, .slice none 0 0] 29)))
  have hr1 : Hid ((World.drew (w.alloc (.cells #[.int .u8 0, .int .u8 0, .int .u8 0, .int .u16 0, .int .u8 0, .int .u8 0, .bool false, .bool false, .int .u8 0, .slice none 0 0] 29))).heap[w.heap.size]? = some (.cells #[.int .u8 0, .int .u8 0, .int .u8 0, .int .u16 0, .int .u8 0, .int .u8 0, .bool false, .bool false, .int .u8 0, .slice none 0 0] 29 (0, 0))) := hr
  have hb1 := Lib.hid (hb.out.drew)
  have hc2 : ∀ W, Gr (World.drew (w.alloc (.cells #[.int .u8 0, .int .u8 0, .int .u8 0, .int .u16 0, .int .u8 0, .int .u8 0, .bool false, .bool false, .int .u8 0, .slice none 0 0] 29))) W → W.cell? ⟨b, off, none⟩ = some (.int .u8 (x : Int)) := fun W hW => hc1 _ ((Gr.drew _).trans hW)
  generalize World.drew (w.alloc (.cells #[.int .u8 0, .int .u8 0, .int .u8 0, .int .u16 0, .int .u8 0, .int .u8 0, .bool false, .bool false, .int .u8 0, .slice none 0 0] 29)) = W1 at hr1 hb1 hc2 ⊢
  clear hcA hr hb hc1
  ((first | (refine takeG 0 (v := ?_) rfl (by decide +kernel) (by decide +kernel) (by decide +kernel) (fun _ _ _ h => h) (Or.inl ⟨by rfl, ?_⟩) ?_; rotate_left 1; (focus (intro W hW; go_simp; first | done | with_reducible rfl)); try simp only [Act.put, List.setIfInBounds_toArray, List.set_cons_zero, List.set_cons_succ]) | (refine takeG 0 rfl (by decide +kernel) (by decide +kernel) (by decide +kernel) (fun _ _ _ h => h) (Or.inr ⟨by rfl, rfl⟩) ?_; try simp only [Act.put, List.setIfInBounds_toArray, List.set_cons_zero, List.set_cons_succ]) | skip))
  refine stepG 1 rfl (by decide +kernel) (by rfl) ?_
  intro K hK
  go_simp
  refine (KI.out _ (hLh.out.below hb1.out)).mono ?_
  rintro e w4 ⟨rfl, rfl⟩
  refine hK _ _ (Gr.refl _) ?_
  clear hK K
  try simp only [Act.put, List.setIfInBounds_toArray, List.set_cons_zero, List.set_cons_succ]
  rcases hEh.out with ⟨rfl, rfl, rfl, rfl⟩ | ⟨rfl, rfl, rfl, rfl, rfl⟩ | ⟨rfl, rfl, rfl, KR⟩ | ⟨rfl, rfl, rfl, KR⟩
  · ((first | (refine takeG 2 (v := ?_) rfl (by decide +kernel) (by decide +kernel) (by decide +kernel) (fun _ _ _ h => h) (Or.inl ⟨by rfl, ?_⟩) ?_; rotate_left 1; (focus (intro W hW; go_simp; first | done | with_reducible rfl)); try simp only [Act.put, List.setIfInBounds_toArray, List.set_cons_zero, List.set_cons_succ]) | (refine takeG 2 rfl (by decide +kernel) (by decide +kernel) (by decide +kernel) (fun _ _ _ h => h) (Or.inr ⟨by rfl, rfl⟩) ?_; try simp only [Act.put, List.setIfInBounds_toArray, List.set_cons_zero, List.set_cons_succ]) | skip); (first | (refine takeG 3 (v := ?_) rfl (by decide +kernel) (by decide +kernel) (by decide +kernel) (fun _ _ _ h => h) (Or.inl ⟨by rfl, ?_⟩) ?_; rotate_left 1; (focus (intro W hW; go_simp; first | done | with_reducible rfl)); try simp only [Act.put, List.setIfInBounds_toArray, List.set_cons_zero, List.set_cons_succ]) | (refine takeG 3 rfl (by decide +kernel) (by decide +kernel) (by decide +kernel) (fun _ _ _ h => h) (Or.inr ⟨by rfl, rfl⟩) ?_; try simp only [Act.put, List.setIfInBounds_toArray, List.set_cons_zero, List.set_cons_succ]) | skip); (first | (refine takeG 4 (v := ?_) rfl (by decide +kernel) (by decide +kernel) (by decide +kernel) (fun _ _ _ h => h) (Or.inl ⟨by rfl, ?_⟩) ?_; rotate_left 1; (focus (intro W hW; go_simp; first | done | with_reducible rfl)); try simp only [Act.put, List.setIfInBounds_toArray, List.set_cons_zero, List.set_cons_succ]) | (refine takeG 4 rfl (by decide +kernel) (by decide +kernel) (by decide +kernel) (fun _ _ _ h => h) (Or.inr ⟨by rfl, rfl⟩) ?_; try simp only [Act.put, List.setIfInBounds_toArray, List.set_cons_zero, List.set_cons_succ]) | skip); (first | (refine takeG 5 (v := ?_) rfl (by decide +kernel) (by decide +kernel) (by decide +kernel) (fun _ _ _ h => h) (Or.inl ⟨by rfl, ?_⟩) ?_; rotate_left 1; (focus (intro W hW; go_simp; first | done | with_reducible rfl)); try simp only [Act.put, List.setIfInBounds_toArray, List.set_cons_zero, List.set_cons_succ]) | (refine takeG 5 rfl (by decide +kernel) (by decide +kernel) (by decide +kernel) (fun _ _ _ h => h) (Or.inr ⟨by rfl, rfl⟩) ?_; try simp only [Act.put, List.setIfInBounds_toArray, List.set_cons_zero, List.set_cons_succ]) | skip); (first | (refine takeG 6 (v := ?_) rfl (by decide +kernel) (by decide +kernel) (by decide +kernel) (fun _ _ _ h => h) (Or.inl ⟨by rfl, ?_⟩) ?_; rotate_left 1; (focus (intro W hW; go_simp; first | done | with_reducible rfl)); try simp only [Act.put, List.setIfInBounds_toArray, List.set_cons_zero, List.set_cons_succ]) | (refine takeG 6 rfl (by decide +kernel) (by decide +kernel) (by decide +kernel) (fun _ _ _ h => h) (Or.inr ⟨by rfl, rfl⟩) ?_; try simp only [Act.put, List.setIfInBounds_toArray, List.set_cons_zero, List.set_cons_succ]) | skip); (first | (refine takeG 7 (v := ?_) rfl (by decide +kernel) (by decide +kernel) (by decide +kernel) (fun _ _ _ h => h) (Or.inl ⟨by rfl, ?_⟩) ?_; rotate_left 1; (focus (intro W hW; go_simp; first | done | with_reducible rfl)); try simp only [Act.put, List.setIfInBounds_toArray, List.set_cons_zero, List.set_cons_succ]) | (refine takeG 7 rfl (by decide +kernel) (by decide +kernel) (by decide +kernel) (fun _ _ _ h => h) (Or.inr ⟨by rfl, rfl⟩) ?_; try simp only [Act.put, List.setIfInBounds_toArray, List.set_cons_zero, List.set_cons_succ]) | skip); (first | (refine takeG 8 (v := ?_) rfl (by decide +kernel) (by decide +kernel) (by decide +kernel) (fun _ _ _ h => h) (Or.inl ⟨by rfl, ?_⟩) ?_; rotate_left 1; (focus (intro W hW; go_simp; first | done | with_reducible rfl)); try simp only [Act.put, List.setIfInBounds_toArray, List.set_cons_zero, List.set_cons_succ]) | (refine takeG 8 rfl (by decide +kernel) (by decide +kernel) (by decide +kernel) (fun _ _ _ h => h) (Or.inr ⟨by rfl, rfl⟩) ?_; try simp only [Act.put, List.setIfInBounds_toArray, List.set_cons_zero, List.set_cons_succ]) | skip); (first | (refine takeG 9 (v := ?_) rfl (by decide +kernel) (by decide +kernel) (by decide +kernel) (fun _ _ _ h => h) (Or.inl ⟨by rfl, ?_⟩) ?_; rotate_left 1; (focus (intro W hW; go_simp; first | done | with_reducible rfl)); try simp only [Act.put, List.setIfInBounds_toArray, List.set_cons_zero, List.set_cons_succ]) | (refine takeG 9 rfl (by decide +kernel) (by decide +kernel) (by decide +kernel) (fun _ _ _ h => h) (Or.inr ⟨by rfl, rfl⟩) ?_; try simp only [Act.put, List.setIfInBounds_toArray, List.set_cons_zero, List.set_cons_succ]) | skip); (first | (refine takeG 10 (v := ?_) rfl (by decide +kernel) (by decide +kernel) (by decide +kernel) (fun _ _ _ h => h) (Or.inl ⟨by rfl, ?_⟩) ?_; rotate_left 1; (focus (intro W hW; go_simp; first | done | with_reducible rfl)); try simp only [Act.put, List.setIfInBounds_toArray, List.set_cons_zero, List.set_cons_succ]) | (refine takeG 10 rfl (by decide +kernel) (by decide +kernel) (by decide +kernel) (fun _ _ _ h => h) (Or.inr ⟨by rfl, rfl⟩) ?_; try simp only [Act.put, List.setIfInBounds_toArray, List.set_cons_zero, List.set_cons_succ]) | skip))
    refine doneG (by kernel_rfl) ?_
    clear hc2
    have hb10 := Lib.hid (fun v0 v1 v2 v3 v4 v5 v6 v7 v8 v9 => below10 v0 v1 v2 v3 v4 v5 v6 v7 v8 v9 hb1.out (Nat.le_refl w.heap.size))
    have r0 : w4.cell? ⟨w.heap.size, 0, none⟩ = some (.int .u8 0) := cell_at hr1.out 0
    have r1 : w4.cell? ⟨w.heap.size, 1, none⟩ = some (.int .u8 0) := cell_at hr1.out 1
    have r2 : w4.cell? ⟨w.heap.size, 2, none⟩ = some (.int .u8 0) := cell_at hr1.out 2
    have r3 : w4.cell? ⟨w.heap.size, 3, none⟩ = some (.int .u16 0) := cell_at hr1.out 3
    have r4 : w4.cell? ⟨w.heap.size, 4, none⟩ = some (.int .u8 0) := cell_at hr1.out 4
    have r5 : w4.cell? ⟨w.heap.size, 5, none⟩ = some (.int .u8 0) := cell_at hr1.out 5
    have r6 : w4.cell? ⟨w.heap.size, 6, none⟩ = some (.bool false) := cell_at hr1.out 6
    have r7 : w4.cell? ⟨w.heap.size, 7, none⟩ = some (.bool false) := cell_at hr1.out 7
    have r8 : w4.cell? ⟨w.heap.size, 8, none⟩ = some (.int .u8 0) := cell_at hr1.out 8
    have r9 : w4.cell? ⟨w.heap.size, 9, none⟩ = some (.slice none 0 0) := cell_at hr1.out 9
    have fR : ∀ i, w4.frozen? ⟨w.heap.size, i, none⟩ = false := fun i => by simp [World.frozen?, hr1.out]
    go_wp2
    refine bodyPost_ret (results_row_tmp rfl _ _ w.heap.size _ _ _ _ rfl (store10 _ _ _ _ _ _ _ _ _ _ _ _ _ _ _ _ _ _ _ _ hr1.out) Tryd.underlying29 rfl (by kernel_rfl)) rfl ?_
    exact resPk_none w 0 4 _ (hb10.out _ _ _ _ _ _ _ _ _ _)
  · have t1 : ((x : Int) != (q : Int)) = true := by rw [bne, ht]; rfl
    ((first | (refine takeG 2 (v := ?_) rfl (by decide +kernel) (by decide +kernel) (by decide +kernel) (fun _ _ _ h => h) (Or.inl ⟨by rfl, ?_⟩) ?_; rotate_left 1; (focus (intro W hW; go_simp; first | done | with_reducible rfl)); try simp only [Act.put, List.setIfInBounds_toArray, List.set_cons_zero, List.set_cons_succ]) | (refine takeG 2 rfl (by decide +kernel) (by decide +kernel) (by decide +kernel) (fun _ _ _ h => h) (Or.inr ⟨by rfl, rfl⟩) ?_; try simp only [Act.put, List.setIfInBounds_toArray, List.set_cons_zero, List.set_cons_succ]) | skip); (first | (refine takeG 3 (v := ?_) rfl (by decide +kernel) (by decide +kernel) (by decide +kernel) (fun _ _ _ h => h) (Or.inl ⟨by rfl, ?_⟩) ?_; rotate_left 1; (focus (intro W hW; go_simp; first | done | with_reducible rfl)); try simp only [Act.put, List.setIfInBounds_toArray, List.set_cons_zero, List.set_cons_succ]) | (refine takeG 3 rfl (by decide +kernel) (by decide +kernel) (by decide +kernel) (fun _ _ _ h => h) (Or.inr ⟨by rfl, rfl⟩) ?_; try simp only [Act.put, List.setIfInBounds_toArray, List.set_cons_zero, List.set_cons_succ]) | skip); (first | (refine takeG 4 (v := ?_) rfl (by decide +kernel) (by decide +kernel) (by decide +kernel) (fun _ _ _ h => h) (Or.inl ⟨by rfl, ?_⟩) ?_; rotate_left 1; (focus (intro W hW; go_simp; first | done | with_reducible rfl)); try simp only [Act.put, List.setIfInBounds_toArray, List.set_cons_zero, List.set_cons_succ]) | (refine takeG 4 rfl (by decide +kernel) (by decide +kernel) (by decide +kernel) (fun _ _ _ h => h) (Or.inr ⟨by rfl, rfl⟩) ?_; try simp only [Act.put, List.setIfInBounds_toArray, List.set_cons_zero, List.set_cons_succ]) | skip); (first | (refine takeG 5 (v := ?_) rfl (by decide +kernel) (by decide +kernel) (by decide +kernel) (fun _ _ _ h => h) (Or.inl ⟨by rfl, ?_⟩) ?_; rotate_left 1; (focus (intro W hW; go_simp; first | done | with_reducible rfl)); try simp only [Act.put, List.setIfInBounds_toArray, List.set_cons_zero, List.set_cons_succ]) | (refine takeG 5 rfl (by decide +kernel) (by decide +kernel) (by decide +kernel) (fun _ _ _ h => h) (Or.inr ⟨by rfl, rfl⟩) ?_; try simp only [Act.put, List.setIfInBounds_toArray, List.set_cons_zero, List.set_cons_succ]) | skip); (first | (refine takeG 6 (v := ?_) rfl (by decide +kernel) (by decide +kernel) (by decide +kernel) (fun _ _ _ h => h) (Or.inl ⟨by rfl, ?_⟩) ?_; rotate_left 1; (focus (intro W hW; go_simp; first | done | with_reducible rfl)); try simp only [Act.put, List.setIfInBounds_toArray, List.set_cons_zero, List.set_cons_succ]) | (refine takeG 6 rfl (by decide +kernel) (by decide +kernel) (by decide +kernel) (fun _ _ _ h => h) (Or.inr ⟨by rfl, rfl⟩) ?_; try simp only [Act.put, List.setIfInBounds_toArray, List.set_cons_zero, List.set_cons_succ]) | skip); (first | (refine takeG 7 (v := ?_) rfl (by decide +kernel) (by decide +kernel) (by decide +kernel) (fun _ _ _ h => h) (Or.inl ⟨by rfl, ?_⟩) ?_; rotate_left 1; (focus (intro W hW; go_simp; first | done | with_reducible rfl)); try simp only [Act.put, List.setIfInBounds_toArray, List.set_cons_zero, List.set_cons_succ]) | (refine takeG 7 rfl (by decide +kernel) (by decide +kernel) (by decide +kernel) (fun _ _ _ h => h) (Or.inr ⟨by rfl, rfl⟩) ?_; try simp only [Act.put, List.setIfInBounds_toArray, List.set_cons_zero, List.set_cons_succ]) | skip))
    refine stepG 8 rfl (by decide +kernel) (by rfl) ?_
    intro K hK
    go_simp
    refine (K1.out _).mono ?_
    rintro e w5 ⟨rfl, rfl⟩
    refine hK _ _ (Gr.refl _) ?_
    clear hK K
    try simp only [Act.put, List.setIfInBounds_toArray, List.set_cons_zero, List.set_cons_succ]
    ((first | (refine takeG 9 (v := ?_) rfl (by decide +kernel) (by decide +kernel) (by decide +kernel) (fun _ _ _ h => h) (Or.inl ⟨by rfl, ?_⟩) ?_; rotate_left 1; (focus (intro W hW; go_simp; first | done | with_reducible rfl)); try simp only [Act.put, List.setIfInBounds_toArray, List.set_cons_zero, List.set_cons_succ]) | (refine takeG 9 rfl (by decide +kernel) (by decide +kernel) (by decide +kernel) (fun _ _ _ h => h) (Or.inr ⟨by rfl, rfl⟩) ?_; try simp only [Act.put, List.setIfInBounds_toArray, List.set_cons_zero, List.set_cons_succ]) | skip); (first | (refine takeG 10 (v := ?_) rfl (by decide +kernel) (by decide +kernel) (by decide +kernel) (fun _ _ _ h => h) (Or.inl ⟨by rfl, ?_⟩) ?_; rotate_left 1; (focus (intro W hW; go_simp; first | done | with_reducible rfl)); try simp only [Act.put, List.setIfInBounds_toArray, List.set_cons_zero, List.set_cons_succ]) | (refine takeG 10 rfl (by decide +kernel) (by decide +kernel) (by decide +kernel) (fun _ _ _ h => h) (Or.inr ⟨by rfl, rfl⟩) ?_; try simp only [Act.put, List.setIfInBounds_toArray, List.set_cons_zero, List.set_cons_succ]) | skip))
    refine doneG (by kernel_rfl) ?_
    clear hc2
    have hb10 := Lib.hid (fun v0 v1 v2 v3 v4 v5 v6 v7 v8 v9 => below10 v0 v1 v2 v3 v4 v5 v6 v7 v8 v9 hb1.out (Nat.le_refl w.heap.size))
    have r0 : w5.cell? ⟨w.heap.size, 0, none⟩ = some (.int .u8 0) := cell_at hr1.out 0
    have r1 : w5.cell? ⟨w.heap.size, 1, none⟩ = some (.int .u8 0) := cell_at hr1.out 1
    have r2 : w5.cell? ⟨w.heap.size, 2, none⟩ = some (.int .u8 0) := cell_at hr1.out 2
    have r3 : w5.cell? ⟨w.heap.size, 3, none⟩ = some (.int .u16 0) := cell_at hr1.out 3
    have r4 : w5.cell? ⟨w.heap.size, 4, none⟩ = some (.int .u8 0) := cell_at hr1.out 4
    have r5 : w5.cell? ⟨w.heap.size, 5, none⟩ = some (.int .u8 0) := cell_at hr1.out 5
    have r6 : w5.cell? ⟨w.heap.size, 6, none⟩ = some (.bool false) := cell_at hr1.out 6
    have r7 : w5.cell? ⟨w.heap.size, 7, none⟩ = some (.bool false) := cell_at hr1.out 7
    have r8 : w5.cell? ⟨w.heap.size, 8, none⟩ = some (.int .u8 0) := cell_at hr1.out 8
    have r9 : w5.cell? ⟨w.heap.size, 9, none⟩ = some (.slice none 0 0) := cell_at hr1.out 9
    have fR : ∀ i, w5.frozen? ⟨w.heap.size, i, none⟩ = false := fun i => by simp [World.frozen?, hr1.out]
    go_wp2
    refine bodyPost_ret (results_row_tmp rfl _ _ w.heap.size _ _ _ _ rfl (store10 _ _ _ _ _ _ _ _ _ _ _ _ _ _ _ _ _ _ _ _ hr1.out) Tryd.underlying29 rfl (by kernel_rfl)) rfl ?_
    exact resPk_none w 0 4 _ (hb10.out _ _ _ _ _ _ _ _ _ _)
  · have t1 : ((x : Int) != (q : Int)) = false := by rw [bne, ht]; rfl
    ((first | (refine takeG 2 (v := ?_) rfl (by decide +kernel) (by decide +kernel) (by decide +kernel) (fun _ _ _ h => h) (Or.inl ⟨by rfl, ?_⟩) ?_; rotate_left 1; (focus (intro W hW; go_simp; first | done | with_reducible rfl)); try simp only [Act.put, List.setIfInBounds_toArray, List.set_cons_zero, List.set_cons_succ]) | (refine takeG 2 rfl (by decide +kernel) (by decide +kernel) (by decide +kernel) (fun _ _ _ h => h) (Or.inr ⟨by rfl, rfl⟩) ?_; try simp only [Act.put, List.setIfInBounds_toArray, List.set_cons_zero, List.set_cons_succ]) | skip); (first | (refine takeG 3 (v := ?_) rfl (by decide +kernel) (by decide +kernel) (by decide +kernel) (fun _ _ _ h => h) (Or.inl ⟨by rfl, ?_⟩) ?_; rotate_left 1; (focus (intro W hW; go_simp; first | done | with_reducible rfl)); try simp only [Act.put, List.setIfInBounds_toArray, List.set_cons_zero, List.set_cons_succ]) | (refine takeG 3 rfl (by decide +kernel) (by decide +kernel) (by decide +kernel) (fun _ _ _ h => h) (Or.inr ⟨by rfl, rfl⟩) ?_; try simp only [Act.put, List.setIfInBounds_toArray, List.set_cons_zero, List.set_cons_succ]) | skip); (first | (refine takeG 4 (v := ?_) rfl (by decide +kernel) (by decide +kernel) (by decide +kernel) (fun _ _ _ h => h) (Or.inl ⟨by rfl, ?_⟩) ?_; rotate_left 1; (focus (intro W hW; go_simp; first | done | with_reducible rfl)); try simp only [Act.put, List.setIfInBounds_toArray, List.set_cons_zero, List.set_cons_succ]) | (refine takeG 4 rfl (by decide +kernel) (by decide +kernel) (by decide +kernel) (fun _ _ _ h => h) (Or.inr ⟨by rfl, rfl⟩) ?_; try simp only [Act.put, List.setIfInBounds_toArray, List.set_cons_zero, List.set_cons_succ]) | skip); (first | (refine takeG 5 (v := ?_) rfl (by decide +kernel) (by decide +kernel) (by decide +kernel) (fun _ _ _ h => h) (Or.inl ⟨by rfl, ?_⟩) ?_; rotate_left 1; (focus (intro W hW; go_simp; first | done | with_reducible rfl)); try simp only [Act.put, List.setIfInBounds_toArray, List.set_cons_zero, List.set_cons_succ]) | (refine takeG 5 rfl (by decide +kernel) (by decide +kernel) (by decide +kernel) (fun _ _ _ h => h) (Or.inr ⟨by rfl, rfl⟩) ?_; try simp only [Act.put, List.setIfInBounds_toArray, List.set_cons_zero, List.set_cons_succ]) | skip); (first | (refine takeG 6 (v := ?_) rfl (by decide +kernel) (by decide +kernel) (by decide +kernel) (fun _ _ _ h => h) (Or.inl ⟨by rfl, ?_⟩) ?_; rotate_left 1; (focus (intro W hW; go_simp; first | done | with_reducible rfl)); try simp only [Act.put, List.setIfInBounds_toArray, List.set_cons_zero, List.set_cons_succ]) | (refine takeG 6 rfl (by decide +kernel) (by decide +kernel) (by decide +kernel) (fun _ _ _ h => h) (Or.inr ⟨by rfl, rfl⟩) ?_; try simp only [Act.put, List.setIfInBounds_toArray, List.set_cons_zero, List.set_cons_succ]) | skip); (first | (refine takeG 7 (v := ?_) rfl (by decide +kernel) (by decide +kernel) (by decide +kernel) (fun _ _ _ h => h) (Or.inl ⟨by rfl, ?_⟩) ?_; rotate_left 1; (focus (intro W hW; go_simp; first | done | with_reducible rfl)); try simp only [Act.put, List.setIfInBounds_toArray, List.set_cons_zero, List.set_cons_succ]) | (refine takeG 7 rfl (by decide +kernel) (by decide +kernel) (by decide +kernel) (fun _ _ _ h => h) (Or.inr ⟨by rfl, rfl⟩) ?_; try simp only [Act.put, List.setIfInBounds_toArray, List.set_cons_zero, List.set_cons_succ]) | skip))
    refine stepG 8 rfl (by decide +kernel) (by rfl) ?_
    intro K hK
    go_simp
    refine (K1.out _).mono ?_
    rintro e w5 ⟨rfl, rfl⟩
    refine hK _ _ (Gr.refl _) ?_
    clear hK K
    try simp only [Act.put, List.setIfInBounds_toArray, List.set_cons_zero, List.set_cons_succ]
    ((first | (refine takeG 9 (v := ?_) rfl (by decide +kernel) (by decide +kernel) (by decide +kernel) (fun _ _ _ h => h) (Or.inl ⟨by rfl, ?_⟩) ?_; rotate_left 1; (focus (intro W hW; go_simp; first | done | with_reducible rfl)); try simp only [Act.put, List.setIfInBounds_toArray, List.set_cons_zero, List.set_cons_succ]) | (refine takeG 9 rfl (by decide +kernel) (by decide +kernel) (by decide +kernel) (fun _ _ _ h => h) (Or.inr ⟨by rfl, rfl⟩) ?_; try simp only [Act.put, List.setIfInBounds_toArray, List.set_cons_zero, List.set_cons_succ]) | skip); (first | (refine takeG 10 (v := ?_) rfl (by decide +kernel) (by decide +kernel) (by decide +kernel) (fun _ _ _ h => h) (Or.inl ⟨by rfl, ?_⟩) ?_; rotate_left 1; (focus (intro W hW; go_simp; first | done | with_reducible rfl)); try simp only [Act.put, List.setIfInBounds_toArray, List.set_cons_zero, List.set_cons_succ]) | (refine takeG 10 rfl (by decide +kernel) (by decide +kernel) (by decide +kernel) (fun _ _ _ h => h) (Or.inr ⟨by rfl, rfl⟩) ?_; try simp only [Act.put, List.setIfInBounds_toArray, List.set_cons_zero, List.set_cons_succ]) | skip))
    refine doneG (by kernel_rfl) ?_
    clear hc2
    go_wp2_with fail
    refine (KD.out _).mono ?_
    rintro e w6 ⟨rfl, rfl⟩
    obtain ⟨A', c', hd', hsl⟩ : ∃ A' c', Rd w w.heap.size A' c' rest ∧ ∀ W : World, (Instr.slice 27 (.slice (some ⟨b, off, none⟩) (rest.length + 1) c) (some (.int .i64 1)) none none).run Tryd.prog W = .ok (.slice A' rest.length c') W :=
      ⟨_, _, hdr.out, fun W => (slice_from (some ⟨b, off, none⟩) (rest.length + 1) c 1 W (by omega) (by omega)).trans (by simp [sliced])⟩
    have hd2 := Lib.hid (hd'.belowTop hb1.out)
    clear hd'
    go_wp2_with fail
    refine (KR _ A' c' (hLh.out.below hb1.out) hd2.out).mono ?_
    rintro e w7 ⟨v, rfl, hown, hB7⟩
    obtain ⟨A7, c7, rfl, _⟩ := Rd.of_own hown
    have hr7 := Lib.hid ((hB7.block _ (lt_of_block hr1.out)).trans hr1.out)
    have hb7 := Lib.hid (hb1.out.trans (hB7.mono hb1.out.size))
    have hlt := lt_of_block hr1.out
    have hg10 := Lib.hid (fun v0 v1 v2 v3 v4 v5 v6 v7 v8 v9 => own_grown hown (grown10 w7 w.heap.size v0 v1 v2 v3 v4 v5 v6 v7 v8 v9) hlt)
    have hb10 := Lib.hid (fun v0 v1 v2 v3 v4 v5 v6 v7 v8 v9 => below10 v0 v1 v2 v3 v4 v5 v6 v7 v8 v9 hb7.out (Nat.le_refl w.heap.size))
    clear hown hB7 hsl
    have r0 : w7.cell? ⟨w.heap.size, 0, none⟩ = some (.int .u8 0) := cell_at hr7.out 0
    have r1 : w7.cell? ⟨w.heap.size, 1, none⟩ = some (.int .u8 0) := cell_at hr7.out 1
    have r2 : w7.cell? ⟨w.heap.size, 2, none⟩ = some (.int .u8 0) := cell_at hr7.out 2
    have r3 : w7.cell? ⟨w.heap.size, 3, none⟩ = some (.int .u16 0) := cell_at hr7.out 3
    have r4 : w7.cell? ⟨w.heap.size, 4, none⟩ = some (.int .u8 0) := cell_at hr7.out 4
    have r5 : w7.cell? ⟨w.heap.size, 5, none⟩ = some (.int .u8 0) := cell_at hr7.out 5
    have r6 : w7.cell? ⟨w.heap.size, 6, none⟩ = some (.bool false) := cell_at hr7.out 6
    have r7 : w7.cell? ⟨w.heap.size, 7, none⟩ = some (.bool false) := cell_at hr7.out 7
    have r8 : w7.cell? ⟨w.heap.size, 8, none⟩ = some (.int .u8 0) := cell_at hr7.out 8
    have r9 : w7.cell? ⟨w.heap.size, 9, none⟩ = some (.slice none 0 0) := cell_at hr7.out 9
    have fR : ∀ i, w7.frozen? ⟨w.heap.size, i, none⟩ = false := fun i => by simp [World.frozen?, hr7.out]
    go_wp2
    refine bodyPost_ret (results_row_tmp rfl _ _ w.heap.size _ _ _ _ rfl (store10 _ _ _ _ _ _ _ _ _ _ _ _ _ _ _ _ _ _ _ _ hr7.out) Tryd.underlying29 rfl (by kernel_rfl)) rfl ?_
    exact ⟨_, rfl, own_base (hg10.out _ _ _ _ _ _ _ _ _ _) (Nat.le_of_lt hlt), hb10.out _ _ _ _ _ _ _ _ _ _⟩
  · have t1 : ((x : Int) != (q : Int)) = false := by rw [bne, ht]; rfl
    ((first | (refine takeG 2 (v := ?_) rfl (by decide +kernel) (by decide +kernel) (by decide +kernel) (fun _ _ _ h => h) (Or.inl ⟨by rfl, ?_⟩) ?_; rotate_left 1; (focus (intro W hW; go_simp; first | done | with_reducible rfl)); try simp only [Act.put, List.setIfInBounds_toArray, List.set_cons_zero, List.set_cons_succ]) | (refine takeG 2 rfl (by decide +kernel) (by decide +kernel) (by decide +kernel) (fun _ _ _ h => h) (Or.inr ⟨by rfl, rfl⟩) ?_; try simp only [Act.put, List.setIfInBounds_toArray, List.set_cons_zero, List.set_cons_succ]) | skip); (first | (refine takeG 3 (v := ?_) rfl (by decide +kernel) (by decide +kernel) (by decide +kernel) (fun _ _ _ h => h) (Or.inl ⟨by rfl, ?_⟩) ?_; rotate_left 1; (focus (intro W hW; go_simp; first | done | with_reducible rfl)); try simp only [Act.put, List.setIfInBounds_toArray, List.set_cons_zero, List.set_cons_succ]) | (refine takeG 3 rfl (by decide +kernel) (by decide +kernel) (by decide +kernel) (fun _ _ _ h => h) (Or.inr ⟨by rfl, rfl⟩) ?_; try simp only [Act.put, List.setIfInBounds_toArray, List.set_cons_zero, List.set_cons_succ]) | skip); (first | (refine takeG 4 (v := ?_) rfl (by decide +kernel) (by decide +kernel) (by decide +kernel) (fun _ _ _ h => h) (Or.inl ⟨by rfl, ?_⟩) ?_; rotate_left 1; (focus (intro W hW; go_simp; first | done | with_reducible rfl)); try simp only [Act.put, List.setIfInBounds_toArray, List.set_cons_zero, List.set_cons_succ]) | (refine takeG 4 rfl (by decide +kernel) (by decide +kernel) (by decide +kernel) (fun _ _ _ h => h) (Or.inr ⟨by rfl, rfl⟩) ?_; try simp only [Act.put, List.setIfInBounds_toArray, List.set_cons_zero, List.set_cons_succ]) | skip); (first | (refine takeG 5 (v := ?_) rfl (by decide +kernel) (by decide +kernel) (by decide +kernel) (fun _ _ _ h => h) (Or.inl ⟨by rfl, ?_⟩) ?_; rotate_left 1; (focus (intro W hW; go_simp; first | done | with_reducible rfl)); try simp only [Act.put, List.setIfInBounds_toArray, List.set_cons_zero, List.set_cons_succ]) | (refine takeG 5 rfl (by decide +kernel) (by decide +kernel) (by decide +kernel) (fun _ _ _ h => h) (Or.inr ⟨by rfl, rfl⟩) ?_; try simp only [Act.put, List.setIfInBounds_toArray, List.set_cons_zero, List.set_cons_succ]) | skip); (first | (refine takeG 6 (v := ?_) rfl (by decide +kernel) (by decide +kernel) (by decide +kernel) (fun _ _ _ h => h) (Or.inl ⟨by rfl, ?_⟩) ?_; rotate_left 1; (focus (intro W hW; go_simp; first | done | with_reducible rfl)); try simp only [Act.put, List.setIfInBounds_toArray, List.set_cons_zero, List.set_cons_succ]) | (refine takeG 6 rfl (by decide +kernel) (by decide +kernel) (by decide +kernel) (fun _ _ _ h => h) (Or.inr ⟨by rfl, rfl⟩) ?_; try simp only [Act.put, List.setIfInBounds_toArray, List.set_cons_zero, List.set_cons_succ]) | skip); (first | (refine takeG 7 (v := ?_) rfl (by decide +kernel) (by decide +kernel) (by decide +kernel) (fun _ _ _ h => h) (Or.inl ⟨by rfl, ?_⟩) ?_; rotate_left 1; (focus (intro W hW; go_simp; first | done | with_reducible rfl)); try simp only [Act.put, List.setIfInBounds_toArray, List.set_cons_zero, List.set_cons_succ]) | (refine takeG 7 rfl (by decide +kernel) (by decide +kernel) (by decide +kernel) (fun _ _ _ h => h) (Or.inr ⟨by rfl, rfl⟩) ?_; try simp only [Act.put, List.setIfInBounds_toArray, List.set_cons_zero, List.set_cons_succ]) | skip))
    refine stepG 8 rfl (by decide +kernel) (by rfl) ?_
    intro K hK
    go_simp
    refine (K1.out _).mono ?_
    rintro e w5 ⟨rfl, rfl⟩
    refine hK _ _ (Gr.refl _) ?_
    clear hK K
    try simp only [Act.put, List.setIfInBounds_toArray, List.set_cons_zero, List.set_cons_succ]
    ((first | (refine takeG 9 (v := ?_) rfl (by decide +kernel) (by decide +kernel) (by decide +kernel) (fun _ _ _ h => h) (Or.inl ⟨by rfl, ?_⟩) ?_; rotate_left 1; (focus (intro W hW; go_simp; first | done | with_reducible rfl)); try simp only [Act.put, List.setIfInBounds_toArray, List.set_cons_zero, List.set_cons_succ]) | (refine takeG 9 rfl (by decide +kernel) (by decide +kernel) (by decide +kernel) (fun _ _ _ h => h) (Or.inr ⟨by rfl, rfl⟩) ?_; try simp only [Act.put, List.setIfInBounds_toArray, List.set_cons_zero, List.set_cons_succ]) | skip); (first | (refine takeG 10 (v := ?_) rfl (by decide +kernel) (by decide +kernel) (by decide +kernel) (fun _ _ _ h => h) (Or.inl ⟨by rfl, ?_⟩) ?_; rotate_left 1; (focus (intro W hW; go_simp; first | done | with_reducible rfl)); try simp only [Act.put, List.setIfInBounds_toArray, List.set_cons_zero, List.set_cons_succ]) | (refine takeG 10 rfl (by decide +kernel) (by decide +kernel) (by decide +kernel) (fun _ _ _ h => h) (Or.inr ⟨by rfl, rfl⟩) ?_; try simp only [Act.put, List.setIfInBounds_toArray, List.set_cons_zero, List.set_cons_succ]) | skip))
    refine doneG (by kernel_rfl) ?_
    clear hc2
    go_wp2_with fail
    refine (KD.out _).mono ?_
    rintro e w6 ⟨rfl, rfl⟩
    obtain ⟨A', c', hd', hsl⟩ : ∃ A' c', Rd w w.heap.size A' c' rest ∧ ∀ W : World, (Instr.slice 27 (.slice (some ⟨b, off, none⟩) (rest.length + 1) c) (some (.int .i64 1)) none none).run Tryd.prog W = .ok (.slice A' rest.length c') W :=
      ⟨_, _, hdr.out, fun W => (slice_from (some ⟨b, off, none⟩) (rest.length + 1) c 1 W (by omega) (by omega)).trans (by simp [sliced])⟩
    have hd2 := Lib.hid (hd'.belowTop hb1.out)
    clear hd'
    go_wp2_with fail
    refine (KR _ A' c' (hLh.out.below hb1.out) hd2.out).mono ?_
    rintro e w7 ⟨v, rfl, hown, hB7⟩
    obtain ⟨A7, c7, rfl, _⟩ := Rd.of_own hown
    have hr7 := Lib.hid ((hB7.block _ (lt_of_block hr1.out)).trans hr1.out)
    have hb7 := Lib.hid (hb1.out.trans (hB7.mono hb1.out.size))
    have hlt := lt_of_block hr1.out
    have hg10 := Lib.hid (fun v0 v1 v2 v3 v4 v5 v6 v7 v8 v9 => own_grown hown (grown10 w7 w.heap.size v0 v1 v2 v3 v4 v5 v6 v7 v8 v9) hlt)
    have hb10 := Lib.hid (fun v0 v1 v2 v3 v4 v5 v6 v7 v8 v9 => below10 v0 v1 v2 v3 v4 v5 v6 v7 v8 v9 hb7.out (Nat.le_refl w.heap.size))
    clear hown hB7 hsl
    have r0 : w7.cell? ⟨w.heap.size, 0, none⟩ = some (.int .u8 0) := cell_at hr7.out 0
    have r1 : w7.cell? ⟨w.heap.size, 1, none⟩ = some (.int .u8 0) := cell_at hr7.out 1
    have r2 : w7.cell? ⟨w.heap.size, 2, none⟩ = some (.int .u8 0) := cell_at hr7.out 2
    have r3 : w7.cell? ⟨w.heap.size, 3, none⟩ = some (.int .u16 0) := cell_at hr7.out 3
    have r4 : w7.cell? ⟨w.heap.size, 4, none⟩ = some (.int .u8 0) := cell_at hr7.out 4
    have r5 : w7.cell? ⟨w.heap.size, 5, none⟩ = some (.int .u8 0) := cell_at hr7.out 5
    have r6 : w7.cell? ⟨w.heap.size, 6, none⟩ = some (.bool false) := cell_at hr7.out 6
    have r7 : w7.cell? ⟨w.heap.size, 7, none⟩ = some (.bool false) := cell_at hr7.out 7
    have r8 : w7.cell? ⟨w.heap.size, 8, none⟩ = some (.int .u8 0) := cell_at hr7.out 8
    have r9 : w7.cell? ⟨w.heap.size, 9, none⟩ = some (.slice none 0 0) := cell_at hr7.out 9
    have fR : ∀ i, w7.frozen? ⟨w.heap.size, i, none⟩ = false := fun i => by simp [World.frozen?, hr7.out]
    go_wp2
    refine bodyPost_ret (results_row_tmp rfl _ _ w.heap.size _ _ _ _ rfl (store10 _ _ _ _ _ _ _ _ _ _ _ _ _ _ _ _ _ _ _ _ hr7.out) Tryd.underlying29 rfl (by kernel_rfl)) rfl ?_
    exact ⟨_, rfl, own_base (hg10.out _ _ _ _ _ _ _ _ _ _) (Nat.le_of_lt hlt), hb10.out _ _ _ _ _ _ _ _ _ _⟩

end Go.Proofs.YtfblpakoibadoaaDoor
