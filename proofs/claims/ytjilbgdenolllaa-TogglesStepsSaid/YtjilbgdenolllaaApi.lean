/-
  Helper text: New, Offer, Acknowledge, Hear and Clear; no statement is proved here.
-/
import Derived.Test.YtjilbgdenolllaaRun
namespace Go.Proofs.Ytjilbgdenolllaa
open Go Go.RowKit

/-- A packet, its toggle and true are returned. -/
def ResO3 (w : World) (xs : List UInt8) (t : Bool) (e : Ending) (w' : World) : Prop :=
  ∃ q, e = .returned (.tuple #[.slice (some ⟨q, 0, none⟩) xs.length xs.length, .bool t, .bool true]) ∧ w.heap.size ≤ q ∧ Row w' q 5 xs ∧ Below w.heap.size w w'
/-- Nothing and false twice are returned. -/
def ResO0 (w : World) (e : Ending) (w' : World) : Prop := e = .returned (.tuple #[.slice none 0 0, .bool false, .bool false]) ∧ Below w.heap.size w w'

set_option maxHeartbeats 800000 in
set_option maxRecDepth 100000 in
theorem offer_none (w : World) (t : Bool) (A : Option Addr) (c : Nat) : Calls Try.prog 13 #[sv t (.slice A 0 c)] w (ResO0 w) := by
  have hb := Lib.hid (fun (o1 : Obj) => (Below.refl w.heap.size w).alloc (Nat.le_refl _) o1)
  go_enter Try.func13, Try.ntmps13
  go_wp2_with fail
  refine (has_no _ t A c).mono ?_
  rintro e w1 ⟨rfl, hb1⟩
  have hb2 := Lib.hid ((hb.out _).trans (hb1.mono (hb.out (.cells #[.bool t, .slice A 0 c] 28)).size))
  clear hb1
  go_wp2
  go_ret3
  exact ⟨rfl, hb2.out⟩

set_option maxHeartbeats 800000 in
set_option maxRecDepth 100000 in
theorem offer_some (w : World) (t : Bool) (A : Option Addr) (c : Nat) (ps : List (List UInt8)) (h : Rds w w.heap.size A c ps) (hn : 0 < ps.length) (hs : Sml ps) :
    Calls Try.prog 13 #[sv t (.slice A ps.length c)] w (ResO3 w (ps.getD 0 []) t) := by
  obtain ⟨b, off, A1, c1, rfl, hlt, hc1, hr1⟩ := h.at_ hn
  rw [Nat.add_zero] at hc1
  have hx := hs.at_ 0
  have hi : (0 : Int) < (ps.length : Int) := by omega
  have hlen : 0 < ps.length := hn
  generalize ps.getD 0 [] = xs at hc1 hr1 hx ⊢
  generalize ps.length = n at hi hlen ⊢
  have hb0 := Lib.hid ((Below.refl w.heap.size w).alloc (Nat.le_refl _) (.cells #[.bool t, .slice (some ⟨b, off, none⟩) n c] 28))
  have k0 := Lib.hid (heap_alloc_new w (.cells #[.bool t, .slice (some ⟨b, off, none⟩) n c] 28))
  go_enter Try.func13, Try.ntmps13
  go_wp2_with fail
  refine (has_yes _ t (some ⟨b, off, none⟩) n c hlen).mono ?_
  rintro e w1 ⟨rfl, hb1⟩
  have hb2 := Lib.hid (hb0.out.trans (hb1.mono hb0.out.size))
  have k1 := (hb1.block _ (block_lt k0.out)).trans k0.out
  have e0 := block_at k1 (i := 0) (v := .bool t) rfl
  have e1 := block_at k1 (i := 1) (v := .slice (some ⟨b, off, none⟩) n c) rfl
  have e2 := (hb2.out.cell (p := ⟨b, off, none⟩) hlt).trans hc1
  have hr2 := Lib.hid (hr1.belowTop hb2.out)
  replace k1 := Lib.hid k1
  have hbl : b < w1.heap.size := World.block_lt_of_cell? _ _ e2
  clear hb1 k0 hb0 hc1 hr1
  go_wp2
  refine startT (S := fun a => a.block = w.heap.size ∨ a.block = b) (T := []) 10 (by kernel_rfl) rfl (l := #[false, false, false, false, false, false, false, false, false, false]) rfl ?_
  ((first | (refine takeT 0 (v := ?_) rfl (by decide +kernel) (by decide +kernel) (by decide +kernel) (fun _ _ _ h => h) (by decide +kernel) (Or.inl ⟨by rfl, ?_⟩) ?_; rotate_left 1; (focus (intro W hW; have hcW := hW.at; (try dsimp only at hcW); go_simp; first | done | with_reducible rfl)); try simp only [Act.put, List.setIfInBounds_toArray, List.set_cons_zero, List.set_cons_succ]) | (refine takeW 0 (v := ?_) rfl (by decide +kernel) (by decide +kernel) (by decide +kernel) (fun _ _ _ h => h) (Or.inl ⟨by rfl, ?_⟩) ?_; rotate_left 1; (focus (intro W hW; go_simp; first | done | with_reducible rfl)); try simp only [Act.put, List.setIfInBounds_toArray, List.set_cons_zero, List.set_cons_succ]) | (refine takeW 0 rfl (by decide +kernel) (by decide +kernel) (by decide +kernel) (fun _ _ _ h => h) (Or.inr ⟨by rfl, rfl⟩) ?_; try simp only [Act.put, List.setIfInBounds_toArray, List.set_cons_zero, List.set_cons_succ]) | skip); (first | (refine takeT 1 (v := ?_) rfl (by decide +kernel) (by decide +kernel) (by decide +kernel) (fun _ _ _ h => h) (by decide +kernel) (Or.inl ⟨by rfl, ?_⟩) ?_; rotate_left 1; (focus (intro W hW; have hcW := hW.at; (try dsimp only at hcW); go_simp; first | done | with_reducible rfl)); try simp only [Act.put, List.setIfInBounds_toArray, List.set_cons_zero, List.set_cons_succ]) | (refine takeW 1 (v := ?_) rfl (by decide +kernel) (by decide +kernel) (by decide +kernel) (fun _ _ _ h => h) (Or.inl ⟨by rfl, ?_⟩) ?_; rotate_left 1; (focus (intro W hW; go_simp; first | done | with_reducible rfl)); try simp only [Act.put, List.setIfInBounds_toArray, List.set_cons_zero, List.set_cons_succ]) | (refine takeW 1 rfl (by decide +kernel) (by decide +kernel) (by decide +kernel) (fun _ _ _ h => h) (Or.inr ⟨by rfl, rfl⟩) ?_; try simp only [Act.put, List.setIfInBounds_toArray, List.set_cons_zero, List.set_cons_succ]) | skip); (first | (refine takeT 2 (v := ?_) rfl (by decide +kernel) (by decide +kernel) (by decide +kernel) (fun _ _ _ h => h) (by decide +kernel) (Or.inl ⟨by rfl, ?_⟩) ?_; rotate_left 1; (focus (intro W hW; have hcW := hW.at; (try dsimp only at hcW); go_simp; first | done | with_reducible rfl)); try simp only [Act.put, List.setIfInBounds_toArray, List.set_cons_zero, List.set_cons_succ]) | (refine takeW 2 (v := ?_) rfl (by decide +kernel) (by decide +kernel) (by decide +kernel) (fun _ _ _ h => h) (Or.inl ⟨by rfl, ?_⟩) ?_; rotate_left 1; (focus (intro W hW; go_simp; first | done | with_reducible rfl)); try simp only [Act.put, List.setIfInBounds_toArray, List.set_cons_zero, List.set_cons_succ]) | (refine takeW 2 rfl (by decide +kernel) (by decide +kernel) (by decide +kernel) (fun _ _ _ h => h) (Or.inr ⟨by rfl, rfl⟩) ?_; try simp only [Act.put, List.setIfInBounds_toArray, List.set_cons_zero, List.set_cons_succ]) | skip); (first | (refine takeT 3 (v := ?_) rfl (by decide +kernel) (by decide +kernel) (by decide +kernel) (fun _ _ _ h => h) (by decide +kernel) (Or.inl ⟨by rfl, ?_⟩) ?_; rotate_left 1; (focus (intro W hW; have hcW := hW.at; (try dsimp only at hcW); go_simp; first | done | with_reducible rfl)); try simp only [Act.put, List.setIfInBounds_toArray, List.set_cons_zero, List.set_cons_succ]) | (refine takeW 3 (v := ?_) rfl (by decide +kernel) (by decide +kernel) (by decide +kernel) (fun _ _ _ h => h) (Or.inl ⟨by rfl, ?_⟩) ?_; rotate_left 1; (focus (intro W hW; go_simp; first | done | with_reducible rfl)); try simp only [Act.put, List.setIfInBounds_toArray, List.set_cons_zero, List.set_cons_succ]) | (refine takeW 3 rfl (by decide +kernel) (by decide +kernel) (by decide +kernel) (fun _ _ _ h => h) (Or.inr ⟨by rfl, rfl⟩) ?_; try simp only [Act.put, List.setIfInBounds_toArray, List.set_cons_zero, List.set_cons_succ]) | skip); (first | (refine takeT 5 (v := ?_) rfl (by decide +kernel) (by decide +kernel) (by decide +kernel) (fun _ _ _ h => h) (by decide +kernel) (Or.inl ⟨by rfl, ?_⟩) ?_; rotate_left 1; (focus (intro W hW; have hcW := hW.at; (try dsimp only at hcW); go_simp; first | done | with_reducible rfl)); try simp only [Act.put, List.setIfInBounds_toArray, List.set_cons_zero, List.set_cons_succ]) | (refine takeW 5 (v := ?_) rfl (by decide +kernel) (by decide +kernel) (by decide +kernel) (fun _ _ _ h => h) (Or.inl ⟨by rfl, ?_⟩) ?_; rotate_left 1; (focus (intro W hW; go_simp; first | done | with_reducible rfl)); try simp only [Act.put, List.setIfInBounds_toArray, List.set_cons_zero, List.set_cons_succ]) | (refine takeW 5 rfl (by decide +kernel) (by decide +kernel) (by decide +kernel) (fun _ _ _ h => h) (Or.inr ⟨by rfl, rfl⟩) ?_; try simp only [Act.put, List.setIfInBounds_toArray, List.set_cons_zero, List.set_cons_succ]) | skip); (first | (refine takeT 6 (v := ?_) rfl (by decide +kernel) (by decide +kernel) (by decide +kernel) (fun _ _ _ h => h) (by decide +kernel) (Or.inl ⟨by rfl, ?_⟩) ?_; rotate_left 1; (focus (intro W hW; have hcW := hW.at; (try dsimp only at hcW); go_simp; first | done | with_reducible rfl)); try simp only [Act.put, List.setIfInBounds_toArray, List.set_cons_zero, List.set_cons_succ]) | (refine takeW 6 (v := ?_) rfl (by decide +kernel) (by decide +kernel) (by decide +kernel) (fun _ _ _ h => h) (Or.inl ⟨by rfl, ?_⟩) ?_; rotate_left 1; (focus (intro W hW; go_simp; first | done | with_reducible rfl)); try simp only [Act.put, List.setIfInBounds_toArray, List.set_cons_zero, List.set_cons_succ]) | (refine takeW 6 rfl (by decide +kernel) (by decide +kernel) (by decide +kernel) (fun _ _ _ h => h) (Or.inr ⟨by rfl, rfl⟩) ?_; try simp only [Act.put, List.setIfInBounds_toArray, List.set_cons_zero, List.set_cons_succ]) | skip))
  refine stepT 4 rfl (by decide +kernel) (by rfl) ?_
  intro K hK
  go_simp
  refine (copied_any _ A1 c1 xs hr2.out.drew hx).mono ?_
  rintro e w2 ⟨q, rfl, hq, hrow, hb3⟩
  replace hb3 := hb3.drewl
  refine hK _ _ (.inr fun a ha => by rcases ha with h | h <;> exact hb3.cell (by rw [h]; first | exact block_lt k1.out | exact hbl)) ?_
  clear hK K e0 e1 e2
  try simp only [List.setIfInBounds_toArray, List.set_cons_zero, List.set_cons_succ]
  ((first | (refine takeT 7 (v := ?_) rfl (by decide +kernel) (by decide +kernel) (by decide +kernel) (fun _ _ _ h => h) (by decide +kernel) (Or.inl ⟨by rfl, ?_⟩) ?_; rotate_left 1; (focus (intro W hW; have hcW := hW.at; (try dsimp only at hcW); go_simp; first | done | with_reducible rfl)); try simp only [Act.put, List.setIfInBounds_toArray, List.set_cons_zero, List.set_cons_succ]) | (refine takeW 7 (v := ?_) rfl (by decide +kernel) (by decide +kernel) (by decide +kernel) (fun _ _ _ h => h) (Or.inl ⟨by rfl, ?_⟩) ?_; rotate_left 1; (focus (intro W hW; go_simp; first | done | with_reducible rfl)); try simp only [Act.put, List.setIfInBounds_toArray, List.set_cons_zero, List.set_cons_succ]) | (refine takeW 7 rfl (by decide +kernel) (by decide +kernel) (by decide +kernel) (fun _ _ _ h => h) (Or.inr ⟨by rfl, rfl⟩) ?_; try simp only [Act.put, List.setIfInBounds_toArray, List.set_cons_zero, List.set_cons_succ]) | skip); (first | (refine takeT 8 (v := ?_) rfl (by decide +kernel) (by decide +kernel) (by decide +kernel) (fun _ _ _ h => h) (by decide +kernel) (Or.inl ⟨by rfl, ?_⟩) ?_; rotate_left 1; (focus (intro W hW; have hcW := hW.at; (try dsimp only at hcW); go_simp; first | done | with_reducible rfl)); try simp only [Act.put, List.setIfInBounds_toArray, List.set_cons_zero, List.set_cons_succ]) | (refine takeW 8 (v := ?_) rfl (by decide +kernel) (by decide +kernel) (by decide +kernel) (fun _ _ _ h => h) (Or.inl ⟨by rfl, ?_⟩) ?_; rotate_left 1; (focus (intro W hW; go_simp; first | done | with_reducible rfl)); try simp only [Act.put, List.setIfInBounds_toArray, List.set_cons_zero, List.set_cons_succ]) | (refine takeW 8 rfl (by decide +kernel) (by decide +kernel) (by decide +kernel) (fun _ _ _ h => h) (Or.inr ⟨by rfl, rfl⟩) ?_; try simp only [Act.put, List.setIfInBounds_toArray, List.set_cons_zero, List.set_cons_succ]) | skip); (first | (refine takeT 9 (v := ?_) rfl (by decide +kernel) (by decide +kernel) (by decide +kernel) (fun _ _ _ h => h) (by decide +kernel) (Or.inl ⟨by rfl, ?_⟩) ?_; rotate_left 1; (focus (intro W hW; have hcW := hW.at; (try dsimp only at hcW); go_simp; first | done | with_reducible rfl)); try simp only [Act.put, List.setIfInBounds_toArray, List.set_cons_zero, List.set_cons_succ]) | (refine takeW 9 (v := ?_) rfl (by decide +kernel) (by decide +kernel) (by decide +kernel) (fun _ _ _ h => h) (Or.inl ⟨by rfl, ?_⟩) ?_; rotate_left 1; (focus (intro W hW; go_simp; first | done | with_reducible rfl)); try simp only [Act.put, List.setIfInBounds_toArray, List.set_cons_zero, List.set_cons_succ]) | (refine takeW 9 rfl (by decide +kernel) (by decide +kernel) (by decide +kernel) (fun _ _ _ h => h) (Or.inr ⟨by rfl, rfl⟩) ?_; try simp only [Act.put, List.setIfInBounds_toArray, List.set_cons_zero, List.set_cons_succ]) | skip))
  refine doneT (by kernel_rfl) ?_
  go_wp2
  go_ret3
  exact ⟨q, rfl, Nat.le_trans hb2.out.size hq, hrow, hb2.out.trans (hb3.mono hb2.out.size)⟩

/-- Nothing and an error are returned. -/
def ResNE (w : World) (n : Int) (e : Ending) (w' : World) : Prop := e = .returned (.tuple #[sv false (.slice none 0 0), .int .i64 n]) ∧ Below w.heap.size w w'
/-- A new sender and no error are returned. -/
def ResSE (w : World) (t : Bool) (ps : List (List UInt8)) (e : Ending) (w' : World) : Prop :=
  ∃ g, e = .returned (.tuple #[sv t (.slice (some ⟨g, 0, none⟩) ps.length ps.length), .int .i64 0]) ∧ News w' w.heap.size g ps ∧ Below w.heap.size w w'

set_option maxHeartbeats 800000 in
set_option maxRecDepth 100000 in
theorem acks_none (w : World) (t : Bool) (A : Option Addr) (c : Nat) : Calls Try.prog 14 #[sv t (.slice A 0 c)] w (ResNE w 7) := by
  obtain ⟨w2, hw2⟩ : ∃ w2, w2 = (w.alloc (.cells #[.bool t, .slice A 0 c] 28)).alloc (.cells #[.bool false, .slice none 0 0] 28) := ⟨_, rfl⟩
  have hb := Lib.hid (((Below.refl w.heap.size w).alloc (Nat.le_refl _) (.cells #[.bool t, .slice A 0 c] 28)).alloc (by simp) (.cells #[.bool false, .slice none 0 0] 28))
  have kk := Lib.hid (heap_alloc2_new w (.cells #[.bool t, .slice A 0 c] 28) (.cells #[.bool false, .slice none 0 0] 28))
  clear hw2 w2
  go_enter Try.func14, Try.ntmps14
  go_wp2_with fail
  refine (has_no _ t A c).mono ?_
  rintro e w1 ⟨rfl, hb1⟩
  have hb2 := Lib.hid (hb.out.trans (hb1.mono hb.out.size))
  have k1 := (hb1.block _ (block_lt kk.out)).trans kk.out
  have d0 := block_at k1 (i := 0) (v := .bool false) rfl
  have d1 := block_at k1 (i := 1) (v := .slice none 0 0) rfl
  have f0 := block_free k1 0
  have f1 := block_free k1 1
  replace k1 := Lib.hid k1
  clear hb1
  go_wp2
  refine bodyPost_ret (results_row_tmp rfl _ _ _ _ _ _ _ rfl (set2 k1.out _ _) Try.underlying28 rfl (by kernel_rfl)) rfl ?_
  exact ⟨rfl, below2 hb2.out (by omega) _ _⟩

set_option maxHeartbeats 800000 in
set_option maxRecDepth 100000 in
theorem acks_core (w : World) (t : Bool) (A : Option Addr) (c : Nat) (ps qs : List (List UInt8)) (h : Rds w w.heap.size A c ps) (hn : 0 < ps.length) (hs1 : Sml qs) (KA : Hid (∀ W, Rds W W.heap.size A c ps → Calls Try.prog 24 #[sv t (.slice A ps.length c)] W (ResA W (!t) qs))) :
    Calls Try.prog 14 #[sv t (.slice A ps.length c)] w (ResSE w (!t) qs) := by
  have hb := Lib.hid (((Below.refl w.heap.size w).alloc (Nat.le_refl _) (.cells #[.bool t, .slice A ps.length c] 28)).alloc (by simp) (.cells #[.bool false, .slice none 0 0] 28))
  have kk := Lib.hid (heap_alloc2_new w (.cells #[.bool t, .slice A ps.length c] 28) (.cells #[.bool false, .slice none 0 0] 28))
  have k0 := Lib.hid (heap_alloc2_old w (.cells #[.bool t, .slice A ps.length c] 28) (.cells #[.bool false, .slice none 0 0] 28))
  go_enter Try.func14, Try.ntmps14
  go_wp2_with fail
  refine (has_yes _ t A ps.length c hn).mono ?_
  rintro e w1 ⟨rfl, hb1⟩
  have hb2 := Lib.hid (hb.out.trans (hb1.mono hb.out.size))
  have k1 := Lib.hid ((hb1.block _ (block_lt kk.out)).trans kk.out)
  have q1 := (hb1.block _ (block_lt k0.out)).trans k0.out
  have c0 := block_at q1 (i := 0) (v := .bool t) rfl
  have c1 := block_at q1 (i := 1) (v := .slice A ps.length c) rfl
  clear hb1 q1
  go_wp2_with fail
  refine (KA.out w1 (h.belowTop hb2.out)).mono ?_
  rintro e w2 ⟨A2, c2, rfl, hr2, hb3⟩
  replace hb2 := Lib.hid (hb2.out.trans (hb3.mono hb2.out.size))
  replace k1 := Lib.hid ((hb3.block _ (block_lt k1.out)).trans k1.out)
  clear hb3 c0 c1
  go_wp2_with fail
  refine (ownS_any w2 (!t) A2 c2 qs hr2 hs1).mono ?_
  rintro e w3 ⟨g, rfl, hn3, hb3⟩
  replace hn3 := Lib.hid (hn3.mono (base' := w.heap.size) hb2.out.size)
  replace hb2 := Lib.hid (hb2.out.trans (hb3.mono hb2.out.size))
  replace k1 := (hb3.block _ (block_lt k1.out)).trans k1.out
  have d0 := block_at k1 (i := 0) (v := .bool false) rfl
  have d1 := block_at k1 (i := 1) (v := .slice none 0 0) rfl
  have f0 := block_free k1 0
  have f1 := block_free k1 1
  replace k1 := Lib.hid k1
  clear hb3 hr2
  go_wp2
  refine bodyPost_ret (results_row_tmp rfl _ _ _ _ _ _ _ rfl (set2 k1.out _ _) Try.underlying28 rfl (by kernel_rfl)) rfl ?_
  exact ⟨g, rfl, hn3.out.stores2 k1.out (by decide) (by decide) _ _, below2 hb2.out (by omega) _ _⟩
theorem acks_some (w : World) (t : Bool) (A : Option Addr) (c : Nat) (ps : List (List UInt8)) (h : Rds w w.heap.size A c ps) (hn : 0 < ps.length) (hs : Sml ps) :
    Calls Try.prog 14 #[sv t (.slice A ps.length c)] w (ResSE w (!t) (ps.drop 1)) :=
  acks_core w t A c ps _ h hn (hs.drop 1) fun W hW => ack_any W t A c ps hW hn

/-- A new receiver, and whether it has taken a packet, are returned. -/
def ResHr (w : World) (t : Bool) (ps : List (List UInt8)) (fresh : Bool) (e : Ending) (w' : World) : Prop :=
  ∃ g, e = .returned (.tuple #[sv t (.slice (some ⟨g, 0, none⟩) ps.length ps.length), .bool fresh]) ∧ News w' w.heap.size g ps ∧ Below w.heap.size w w'

theorem Sml.snoc {ps : List (List UInt8)} {b : List UInt8} (h : Sml ps) (hl : ps.length ≤ 10000) (hb : b.length ≤ 100000) : Sml (ps ++ [b]) := by
  refine ⟨by simp; omega, fun j => ?_⟩
  rcases Nat.lt_or_ge j ps.length with hj | hj
  · rw [getD_append_lt hj]; exact h.2 j
  · rw [getD_append_ge hj]
    cases j - ps.length with
    | zero => exact hb
    | succ n => simp [List.getD]

set_option maxHeartbeats 800000 in
set_option maxRecDepth 100000 in
theorem hear_no (w : World) (rt : Bool) (A : Option Addr) (c : Nat) (ps : List (List UInt8)) (h : Rds w w.heap.size A c ps) (hs : Sml ps) (vb : Value) :
    Calls Try.prog 15 #[sv rt (.slice A ps.length c), .bool (!rt), vb] w (ResHr w rt ps false) := by
  have hb := Lib.hid (((Below.refl w.heap.size w).alloc (Nat.le_refl _) (.cells #[.bool rt, .slice A ps.length c] 39)).alloc (by simp) (.cells #[.bool false, .slice none 0 0] 39))
  have kk := Lib.hid (heap_alloc2_new w (.cells #[.bool rt, .slice A ps.length c] 39) (.cells #[.bool false, .slice none 0 0] 39))
  have hle := h.le
  have hcap := h.cap
  go_enter Try.func15, Try.ntmps15
  go_wp2_with fail
  refine (clipped_any _ rt A ps.length c hle hcap).mono ?_
  rintro e w1 ⟨rfl, hb1⟩
  have hb2 := Lib.hid (hb.out.trans (hb1.mono hb.out.size))
  have k1 := Lib.hid ((hb1.block _ (block_lt kk.out)).trans kk.out)
  clear hb1
  go_wp2_with fail
  refine (heard_no w1 rt A ps.length ps.length vb).mono ?_
  rintro e w2 ⟨rfl, hb1⟩
  replace hb2 := Lib.hid (hb2.out.trans (hb1.mono hb2.out.size))
  replace k1 := (hb1.block _ (block_lt k1.out)).trans k1.out
  have d0 := block_at k1 (i := 0) (v := .bool false) rfl
  have d1 := block_at k1 (i := 1) (v := .slice none 0 0) rfl
  have f0 := block_free k1 0
  have f1 := block_free k1 1
  replace k1 := Lib.hid k1
  clear hb1
  have hb3 := Lib.hid (below2 hb2.out (by omega : w.heap.size ≤ w.heap.size + 1) (.bool rt) (.slice A ps.length ps.length))
  have hr3 := Lib.hid (h.clip.belowTop hb3.out)
  have k3 := Lib.hid (set2 k1.out (.bool rt) (.slice A ps.length ps.length))
  go_wp2_with fail
  refine (ownR_any _ (rt) A ps.length ps hr3.out hs).mono ?_
  rintro e w4 ⟨g, rfl, hn4, hb4⟩
  clear d0 d1 f0 f1
  replace hn4 := Lib.hid (hn4.mono (base' := w.heap.size) hb3.out.size)
  replace hb3 := Lib.hid (hb3.out.trans (hb4.mono hb3.out.size))
  replace k3 := (hb4.block _ (block_lt k3.out)).trans k3.out
  have d0 := block_at k3 (i := 0) (v := .bool (rt)) rfl
  have d1 := block_at k3 (i := 1) (v := (.slice A ps.length ps.length)) rfl
  have f0 := block_free k3 0
  have f1 := block_free k3 1
  replace k3 := Lib.hid k3
  clear hb4 hr3
  go_wp2
  refine bodyPost_ret (results_row_tmp rfl _ _ _ _ _ _ _ rfl (set2 k3.out _ _) Try.underlying39 rfl (by kernel_rfl)) rfl ?_
  exact ⟨g, rfl, hn4.out.stores2 k3.out (by decide) (by decide) _ _, below2 hb3.out (by omega) _ _⟩

set_option maxHeartbeats 800000 in
set_option maxRecDepth 100000 in
theorem hear_yes (w : World) (rt : Bool) (A : Option Addr) (c : Nat) (ps : List (List UInt8)) (h : Rds w w.heap.size A c ps) (hs : Sml ps) (Ab : Option Addr) (cb : Nat) (b : List UInt8) (hbr : Rd w w.heap.size Ab cb b) (hl : ps.length ≤ 10000) (hbl : b.length ≤ 100000) :
    Calls Try.prog 15 #[sv rt (.slice A ps.length c), .bool rt, .slice Ab b.length cb] w (ResHr w (!rt) (ps ++ [b]) true) := by
  have hb := Lib.hid (((Below.refl w.heap.size w).alloc (Nat.le_refl _) (.cells #[.bool rt, .slice A ps.length c] 39)).alloc (by simp) (.cells #[.bool false, .slice none 0 0] 39))
  have kk := Lib.hid (heap_alloc2_new w (.cells #[.bool rt, .slice A ps.length c] 39) (.cells #[.bool false, .slice none 0 0] 39))
  have hle := h.le
  have hcap := h.cap
  have hsn := hs.snoc hl hbl
  go_enter Try.func15, Try.ntmps15
  go_wp2_with fail
  refine (clipped_any _ rt A ps.length c hle hcap).mono ?_
  rintro e w1 ⟨rfl, hb1⟩
  have hb2 := Lib.hid (hb.out.trans (hb1.mono hb.out.size))
  have k1 := Lib.hid ((hb1.block _ (block_lt kk.out)).trans kk.out)
  clear hb1
  go_wp2_with fail
  refine (heard_yes w w1 rt (.slice A ps.length ps.length) ps hb2.out (.inl ⟨A, rfl, h.clip⟩) Ab cb b hbr (by omega)).mono ?_
  rintro e w2 ⟨v, row, rfl, hpk, hgr, hrow⟩
  obtain ⟨Av, cv, rfl⟩ := hpk.shape
  replace k1 := block_grown k1.out hgr (fun e => by
    obtain ⟨_, cs, hcs⟩ := hrow _ e.symm (block_lt k1.out)
    exact block_ne k1.out hcs (by decide) rfl)
  replace hb2 := Lib.hid (show Below w.heap.size w w2 from ⟨hgr.os.trans hb2.out.os, hgr.tape.trans hb2.out.tape, hgr.output.trans hb2.out.output, Nat.le_trans hb2.out.size hgr.size, fun k hk => (hgr.block k (Nat.lt_of_lt_of_le hk hb2.out.size) (fun e => by
    have := (hrow k e.symm (Nat.lt_of_lt_of_le hk hb2.out.size)).1
    omega)).trans (hb2.out.block k hk)⟩)
  clear hgr hrow
  have d0 := block_at k1 (i := 0) (v := .bool false) rfl
  have d1 := block_at k1 (i := 1) (v := .slice none 0 0) rfl
  have f0 := block_free k1 0
  have f1 := block_free k1 1
  replace k1 := Lib.hid k1
  obtain ⟨qs, hq⟩ : ∃ qs, ps ++ [b] = qs := ⟨_, rfl⟩
  rw [hq] at hpk hsn ⊢
  replace hq := Lib.hid hq
  have hgs := grown_trans (grown_setCell w2 ⟨w.heap.size + 1, 0, none⟩ (.bool !rt)) (grown_setCell (w2.setCell ⟨w.heap.size + 1, 0, none⟩ (.bool !rt)) ⟨w.heap.size + 1, 1, none⟩ (.slice Av qs.length cv))
  have hpk3 := Lib.hid (hpk.apart k1.out (by decide) hgs)
  clear hgs hpk
  have hb3 := Lib.hid (below2 hb2.out (by omega : w.heap.size ≤ w.heap.size + 1) (.bool !rt) (.slice Av qs.length cv))
  have hr3 := Lib.hid (show Rds _ _ Av cv qs by
    obtain ⟨A2, c2, e, hr⟩ := hpk3.out.rds hb3.out
    injection e with e1 e2 e3
    rw [e1, e3]
    exact hr)
  have k3 := Lib.hid (set2 k1.out (.bool !rt) (.slice Av qs.length cv))
  go_wp2_with fail
  refine (ownR_any _ (!rt) Av cv qs hr3.out hsn).mono ?_
  rintro e w4 ⟨g, rfl, hn4, hb4⟩
  clear d0 d1 f0 f1
  replace hn4 := Lib.hid (hn4.mono (base' := w.heap.size) hb3.out.size)
  replace hb3 := Lib.hid (hb3.out.trans (hb4.mono hb3.out.size))
  replace k3 := (hb4.block _ (block_lt k3.out)).trans k3.out
  have d0 := block_at k3 (i := 0) (v := .bool (!rt)) rfl
  have d1 := block_at k3 (i := 1) (v := (.slice Av qs.length cv)) rfl
  have f0 := block_free k3 0
  have f1 := block_free k3 1
  replace k3 := Lib.hid k3
  clear hb4 hr3
  go_wp2
  refine bodyPost_ret (results_row_tmp rfl _ _ _ _ _ _ _ rfl (set2 k3.out _ _) Try.underlying39 rfl (by kernel_rfl)) rfl ?_
  rw [hq.out]
  exact ⟨g, rfl, hn4.out.stores2 k3.out (by decide) (by decide) _ _, below2 hb3.out (by omega) _ _⟩

end Go.Proofs.Ytjilbgdenolllaa
