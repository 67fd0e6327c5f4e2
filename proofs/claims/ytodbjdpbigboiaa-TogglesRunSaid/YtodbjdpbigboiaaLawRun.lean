/-
  The law TogglesRun is walked for any pair, any packets and any losses; no statement is proved here.
-/
import Derived.Test.YtodbjdpbigboiaaLw5
import Derived.Test.YtodbjdpbigboiaaStepA
import Derived.Test.YtodbjdpbigboiaaLives
namespace Go.Proofs.Ytodbjdpbigboiaa
open Go Go.RowKit

/-- The reference behind k exchanges. -/
def ySeq (many : Nat) (x0 : RS) (xs : List UInt8) (k : Nat) : RS := (exL (xs.take k)).foldl (stepR many) x0
theorem ySeq_zero (many : Nat) (x0 : RS) (xs : List UInt8) : ySeq many x0 xs 0 = x0 := rfl
theorem ySeq_succ (many : Nat) (x0 : RS) (xs : List UInt8) (k : Nat) (hk : k < xs.length) : ySeq many x0 xs (k + 1) = stepR many (ySeq many x0 xs k) (exN (xs.getD k 0).toNat) := by
  unfold ySeq
  rw [take_snoc xs hk]
  unfold exL
  rw [List.map_append, List.foldl_append]
  rfl
theorem ySeq_ok (many : Nat) (st rt : Bool) (xs : List UInt8) (k : Nat) (hk : k ≤ xs.length) : OkR many (ySeq many ⟨0, [], st, rt⟩ xs k) ∧ (ySeq many ⟨0, [], st, rt⟩ xs k).taken.length ≤ k := by
  induction k with
  | zero => exact ⟨⟨Nat.zero_le _, fun i hi => by cases hi⟩, Nat.le_refl _⟩
  | succ k ih =>
    obtain ⟨h1, h2⟩ := ih (by omega)
    rw [ySeq_succ _ _ _ _ (by omega)]
    obtain ⟨h3, h4⟩ := h1.step (exN (xs.getD k 0).toNat)
    exact ⟨h3, by omega⟩
/-- The state of the law's walk. -/
structure Lr (w W : World) (b3 b4 b7 : Nat) (v3 v4 : Array Value) (y : RS) (A : Option Addr) (c : Nat) : Prop where
  below : Below w.heap.size w W
  h3 : W.heap[b3]? = some (.cells v3 28 (0, 0))
  h4 : W.heap[b4]? = some (.cells v4 39 (0, 0))
  h7 : W.heap[b7]? = some (.cells #[.int .i64 (y.ack : Int), .slice A y.taken.length c, .bool y.snd, .bool y.rcv] 47 (0, 0))
  ri : RdI W W.heap.size A c (tk y.taken)
  nw : Newer (b7 + 1) A
  ge : w.heap.size ≤ b7
namespace Lr
variable {w W W' : World} {b3 b4 b7 c : Nat} {v3 v4 : Array Value} {y : RS} {A : Option Addr}
theorem to (h : Lr w W b3 b4 b7 v3 v4 y A c) (bb : Below W.heap.size W W') : Lr w W' b3 b4 b7 v3 v4 y A c :=
  ⟨h.below.trans (bb.mono h.below.size), (bb.block _ (block_lt h.h3)).trans h.h3, (bb.block _ (block_lt h.h4)).trans h.h4, (bb.block _ (block_lt h.h7)).trans h.h7, h.ri.belowTop bb, h.nw, h.ge⟩
theorem set7 (h : Lr w W b3 b4 b7 v3 v4 y A c) {y' : RS} {A' : Option Addr} {c' : Nat} (hr : RdI W W.heap.size A' c' (tk y'.taken)) (hn : Newer (b7 + 1) A') :
    Lr w ((((W.setCell ⟨b7, 0, none⟩ (.int .i64 (y'.ack : Int))).setCell ⟨b7, 1, none⟩ (.slice A' y'.taken.length c')).setCell ⟨b7, 2, none⟩ (.bool y'.snd)).setCell ⟨b7, 3, none⟩ (.bool y'.rcv)) b3 b4 b7 v3 v4 y' A' c' := by
  have n3 : b3 ≠ b7 := block_ne h.h3 h.h7 (by decide)
  have n4 : b4 ≠ b7 := block_ne h.h4 h.h7 (by decide)
  have hsz : ((((W.setCell ⟨b7, 0, none⟩ (.int .i64 (y'.ack : Int))).setCell ⟨b7, 1, none⟩ (.slice A' y'.taken.length c')).setCell ⟨b7, 2, none⟩ (.bool y'.snd)).setCell ⟨b7, 3, none⟩ (.bool y'.rcv)).heap.size = W.heap.size := by simp
  refine ⟨(((h.below.setCell (p := ⟨b7, 0, none⟩) h.ge _).setCell (p := ⟨b7, 1, none⟩) h.ge _).setCell (p := ⟨b7, 2, none⟩) h.ge _).setCell (p := ⟨b7, 3, none⟩) h.ge _,
    other (other (other (other h.h3 n3) n3) n3) n3, other (other (other (other h.h4 n4) n4) n4) n4, set1234 h.h7 _ _ _ _, ?_, hn, h.ge⟩
  rw [hsz]
  refine ⟨hr.le, hr.cap, fun hl => ?_⟩
  obtain ⟨b, off, e, hlt, hc⟩ := hr.cells hl
  have hbn : b7 + 1 ≤ b := hn _ e
  refine ⟨b, off, e, hlt, fun j hj => ?_⟩
  rw [← hc j hj]
  exact World.cell?_of_block (by
    have key : ∀ (X : World) (i : Nat) (u : Value), (X.setCell ⟨b7, i, none⟩ u).heap[b]? = X.heap[b]? := fun X i u => Below.heap_setCell _ _ _ _ (by show b ≠ b7; omega)
    rw [key, key, key, key])
end Lr

set_option maxHeartbeats 800000 in
set_option maxRecDepth 100000 in
theorem lrun_small1 (w : World) (st rt : Bool) (A A' A2 : Option Addr) (c c' c2 n' n2 : Nat) (ps : List (List UInt8)) (h : Rds w w.heap.size A c ps) (hs : ¬ SmallP ps 20) :
    Calls Try.prog 5 #[sv st (.slice A ps.length c), sv rt (.slice A' n' c'), .slice A2 n2 c2] w (ResB w true) := by
  have hb := Lib.hid (((Below.refl w.heap.size w).alloc (Nat.le_refl _) (.cells #[.bool st, .slice A ps.length c] 28)).alloc (by simp) (.cells #[.bool rt, .slice A' n' c'] 39))
  have H := h.belowTop hb.out
  go_enter Try.func5, Try.ntmps5
  go_wp2_with fail
  refine (small_no _ A c ps H 20 (by omega) hs).mono ?_
  rintro e w1 ⟨rfl, rfl⟩
  go_wp2
  go_ret
  exact ⟨rfl, hb.out⟩
set_option maxHeartbeats 800000 in
set_option maxRecDepth 100000 in
theorem lrun_small2 (w : World) (st rt : Bool) (A A' A2 : Option Addr) (c c' c2 n2 : Nat) (ps qs : List (List UInt8)) (h : Rds w w.heap.size A c ps) (h' : Rds w w.heap.size A' c' qs) (hs : SmallP ps 20) (hs' : ¬ SmallP qs 20) :
    Calls Try.prog 5 #[sv st (.slice A ps.length c), sv rt (.slice A' qs.length c'), .slice A2 n2 c2] w (ResB w true) := by
  have hb := Lib.hid (((Below.refl w.heap.size w).alloc (Nat.le_refl _) (.cells #[.bool st, .slice A ps.length c] 28)).alloc (by simp) (.cells #[.bool rt, .slice A' qs.length c'] 39))
  have H := h.belowTop hb.out
  have H' := h'.belowTop hb.out
  go_enter Try.func5, Try.ntmps5
  go_wp2_with fail
  refine (small_yes _ A c ps H 20 (by omega) hs).mono ?_
  rintro e w1 ⟨rfl, rfl⟩
  go_wp2_with fail
  refine (small_no _ A' c' qs H' 20 (by omega) hs').mono ?_
  rintro e w1 ⟨rfl, rfl⟩
  go_wp2
  go_ret
  exact ⟨rfl, hb.out⟩
set_option maxHeartbeats 800000 in
set_option maxRecDepth 100000 in
theorem lrun_many (w : World) (st rt : Bool) (A A' A2 : Option Addr) (c c' c2 n2 : Nat) (ps qs : List (List UInt8)) (h : Rds w w.heap.size A c ps) (h' : Rds w w.heap.size A' c' qs) (hs : SmallP ps 20) (hs' : SmallP qs 20) (hn : 200 < n2) :
    Calls Try.prog 5 #[sv st (.slice A ps.length c), sv rt (.slice A' qs.length c'), .slice A2 n2 c2] w (ResB w true) := by
  have hb := Lib.hid (((Below.refl w.heap.size w).alloc (Nat.le_refl _) (.cells #[.bool st, .slice A ps.length c] 28)).alloc (by simp) (.cells #[.bool rt, .slice A' qs.length c'] 39))
  have H := h.belowTop hb.out
  have H' := h'.belowTop hb.out
  have hn' : (200 : Int) < (n2 : Int) := by omega
  go_enter Try.func5, Try.ntmps5
  go_wp2_with fail
  refine (small_yes _ A c ps H 20 (by omega) hs).mono ?_
  rintro e w1 ⟨rfl, rfl⟩
  go_wp2_with fail
  refine (small_yes _ A' c' qs H' 20 (by omega) hs').mono ?_
  rintro e w1 ⟨rfl, rfl⟩
  go_wp2
  go_ret
  exact ⟨rfl, hb.out⟩

set_option maxHeartbeats 3200000 in
set_option maxRecDepth 100000 in
theorem lrun_good (w : World) (st rt : Bool) (A A' A2 : Option Addr) (c c' c2 : Nat) (ps qs : List (List UInt8)) (h : Rds w w.heap.size A c ps) (h' : Rds w w.heap.size A' c' qs) (hs : SmallP ps 20) (hs' : SmallP qs 20) (xs : List UInt8) (h2 : Rd w w.heap.size A2 c2 xs) (hn : xs.length ≤ 200) :
    Calls Try.prog 5 #[sv st (.slice A ps.length c), sv rt (.slice A' qs.length c'), .slice A2 xs.length c2] w (ResB w true) := by
  have hb := Lib.hid (((Below.refl w.heap.size w).alloc (Nat.le_refl _) (.cells #[.bool st, .slice A ps.length c] 28)).alloc (by simp) (.cells #[.bool rt, .slice A' qs.length c'] 39))
  have H := h.belowTop hb.out
  have H' := h'.belowTop hb.out
  have hn' : ¬ (200 : Int) < (xs.length : Int) := by omega
  go_enter Try.func5, Try.ntmps5
  go_wp2_with fail
  refine (small_yes _ A c ps H 20 (by omega) hs).mono ?_
  rintro e w1 ⟨rfl, rfl⟩
  go_wp2_with fail
  refine (small_yes _ A' c' qs H' 20 (by omega) hs').mono ?_
  rintro e w1 ⟨rfl, rfl⟩
  go_wp2
  have hL : Lr w (((w.alloc (.cells #[.bool st, .slice A ps.length c] 28)).alloc (.cells #[.bool rt, .slice A' qs.length c'] 39)).alloc (.cells #[.int .i64 0, .slice none 0 0, .bool st, .bool rt] 47)) w.heap.size (w.heap.size + 1) (w.heap.size + 1 + 1) #[.bool st, .slice A ps.length c] #[.bool rt, .slice A' qs.length c'] ⟨0, [], st, rt⟩ none 0 := by
    have hz : ∀ (W : World) (o : Obj), (W.alloc o).heap.size = W.heap.size + 1 := fun W o => by simp
    have e7 := heap_alloc_new ((w.alloc (.cells #[.bool st, .slice A ps.length c] 28)).alloc (.cells #[.bool rt, .slice A' qs.length c'] 39)) (.cells #[.int .i64 0, .slice none 0 0, .bool st, .bool rt] 47)
    rw [hz, hz] at e7
    have bb := (Below.refl ((w.alloc (.cells #[.bool st, .slice A ps.length c] 28)).alloc (.cells #[.bool rt, .slice A' qs.length c'] 39)).heap.size ((w.alloc (.cells #[.bool st, .slice A ps.length c] 28)).alloc (.cells #[.bool rt, .slice A' qs.length c'] 39))).alloc (Nat.le_refl _) (.cells #[.int .i64 0, .slice none 0 0, .bool st, .bool rt] 47)
    have e3 := heap_alloc2_old w (.cells #[.bool st, .slice A ps.length c] 28) (.cells #[.bool rt, .slice A' qs.length c'] 39)
    have e4 := heap_alloc2_new w (.cells #[.bool st, .slice A ps.length c] 28) (.cells #[.bool rt, .slice A' qs.length c'] 39)
    exact ⟨hb.out.alloc hb.out.size _, (bb.block _ (block_lt e3)).trans e3, (bb.block _ (block_lt e4)).trans e4, e7, ⟨Nat.le_refl _, by omega, fun h => absurd h (by simp [tk])⟩, (fun ad e => by cases e), by omega⟩
  generalize ((w.alloc (.cells #[.bool st, .slice A ps.length c] 28)).alloc (.cells #[.bool rt, .slice A' qs.length c'] 39)).alloc (.cells #[.int .i64 0, .slice none 0 0, .bool st, .bool rt] 47) = W0 at hL ⊢
  generalize hb3 : w.heap.size = b3 at hL ⊢
  generalize hb4 : b3 + 1 = b4 at hL ⊢
  generalize hb7 : b4 + 1 = b7 at hL ⊢
  clear H H' hb hb3 hb4 hb7
  go_loopg [8] xs.length (fun g i wr => ∃ (k : Nat) (A7 : Option Addr) (c7 : Nat), k + g = xs.length ∧ i = .int .i64 k ∧ Lr w wr b3 b4 b7 #[.bool st, .slice A ps.length c] #[.bool rt, .slice A' qs.length c'] (ySeq ps.length ⟨0, [], st, rt⟩ xs k) A7 c7)
  case atStart => exact ⟨0, none, 0, by omega, rfl, hL⟩
  case round =>
    obtain ⟨k, A7, c7, hkg, rfl, hL⟩ := hrel
    by_cases hk : k < xs.length
    · obtain ⟨hok, htl⟩ := ySeq_ok ps.length st rt xs k (by omega)
      have hsu := Lib.hid (ySeq_succ ps.length ⟨0, [], st, rt⟩ xs k hk)
      generalize ySeq ps.length ⟨0, [], st, rt⟩ xs k = y at hL hok htl hsu
      obtain ⟨b, off, rfl, hlt, hc1⟩ := (h2.below hL.below).at_ hk
      have hbw : b < wr.heap.size := World.block_lt_of_cell? _ _ hc1
      have hki : (k : Int) < (xs.length : Int) := by omega
      have hki0 : (0 : Int) ≤ (k : Int) := by omega
      generalize xs.getD k 0 = x at hc1 hsu
      have hb3 := block_lt hL.h3
      have hb7 := block_lt hL.h7
      have e1 := block_at hL.h3 (i := 1) (v := .slice A ps.length c) rfl
      have e70 := block_at hL.h7 (i := 0) (v := .int .i64 (y.ack : Int)) rfl
      have e71 := block_at hL.h7 (i := 1) (v := .slice A7 y.taken.length c7) rfl
      have e72 := block_at hL.h7 (i := 2) (v := .bool y.snd) rfl
      have e73 := block_at hL.h7 (i := 3) (v := .bool y.rcv) rfl
      have hps := hs.1
      replace hL := Lib.hid hL
      go_wp2
      refine startT (S := fun a => a.block = b3 ∨ a.block = b7 ∨ a.block = b) (T := [10]) 11 (by kernel_rfl) rfl (l := #[false, false, false, false, false, false, false, false, false, false, false]) rfl ?_
      ((first | (refine takeT 0 (v := ?_) rfl (by decide +kernel) (by decide +kernel) (by decide +kernel) (fun _ _ _ h => h) (by decide +kernel) (Or.inl ⟨by rfl, ?_⟩) ?_; rotate_left 1; (focus (intro W hW; have hcW := hW.at; (try dsimp only at hcW); go_simp; first | done | with_reducible rfl)); try simp only [Act.put, List.setIfInBounds_toArray, List.set_cons_zero, List.set_cons_succ]) | (refine takeW 0 (v := ?_) rfl (by decide +kernel) (by decide +kernel) (by decide +kernel) (fun _ _ _ h => h) (Or.inl ⟨by rfl, ?_⟩) ?_; rotate_left 1; (focus (intro W hW; go_simp; first | done | with_reducible rfl)); try simp only [Act.put, List.setIfInBounds_toArray, List.set_cons_zero, List.set_cons_succ]) | (refine takeW 0 rfl (by decide +kernel) (by decide +kernel) (by decide +kernel) (fun _ _ _ h => h) (Or.inr ⟨by rfl, rfl⟩) ?_; try simp only [Act.put, List.setIfInBounds_toArray, List.set_cons_zero, List.set_cons_succ]) | skip); (first | (refine takeT 1 (v := ?_) rfl (by decide +kernel) (by decide +kernel) (by decide +kernel) (fun _ _ _ h => h) (by decide +kernel) (Or.inl ⟨by rfl, ?_⟩) ?_; rotate_left 1; (focus (intro W hW; have hcW := hW.at; (try dsimp only at hcW); go_simp; first | done | with_reducible rfl)); try simp only [Act.put, List.setIfInBounds_toArray, List.set_cons_zero, List.set_cons_succ]) | (refine takeW 1 (v := ?_) rfl (by decide +kernel) (by decide +kernel) (by decide +kernel) (fun _ _ _ h => h) (Or.inl ⟨by rfl, ?_⟩) ?_; rotate_left 1; (focus (intro W hW; go_simp; first | done | with_reducible rfl)); try simp only [Act.put, List.setIfInBounds_toArray, List.set_cons_zero, List.set_cons_succ]) | (refine takeW 1 rfl (by decide +kernel) (by decide +kernel) (by decide +kernel) (fun _ _ _ h => h) (Or.inr ⟨by rfl, rfl⟩) ?_; try simp only [Act.put, List.setIfInBounds_toArray, List.set_cons_zero, List.set_cons_succ]) | skip); (first | (refine takeT 2 (v := ?_) rfl (by decide +kernel) (by decide +kernel) (by decide +kernel) (fun _ _ _ h => h) (by decide +kernel) (Or.inl ⟨by rfl, ?_⟩) ?_; rotate_left 1; (focus (intro W hW; have hcW := hW.at; (try dsimp only at hcW); go_simp; first | done | with_reducible rfl)); try simp only [Act.put, List.setIfInBounds_toArray, List.set_cons_zero, List.set_cons_succ]) | (refine takeW 2 (v := ?_) rfl (by decide +kernel) (by decide +kernel) (by decide +kernel) (fun _ _ _ h => h) (Or.inl ⟨by rfl, ?_⟩) ?_; rotate_left 1; (focus (intro W hW; go_simp; first | done | with_reducible rfl)); try simp only [Act.put, List.setIfInBounds_toArray, List.set_cons_zero, List.set_cons_succ]) | (refine takeW 2 rfl (by decide +kernel) (by decide +kernel) (by decide +kernel) (fun _ _ _ h => h) (Or.inr ⟨by rfl, rfl⟩) ?_; try simp only [Act.put, List.setIfInBounds_toArray, List.set_cons_zero, List.set_cons_succ]) | skip); (first | (refine takeT 3 (v := ?_) rfl (by decide +kernel) (by decide +kernel) (by decide +kernel) (fun _ _ _ h => h) (by decide +kernel) (Or.inl ⟨by rfl, ?_⟩) ?_; rotate_left 1; (focus (intro W hW; have hcW := hW.at; (try dsimp only at hcW); go_simp; first | done | with_reducible rfl)); try simp only [Act.put, List.setIfInBounds_toArray, List.set_cons_zero, List.set_cons_succ]) | (refine takeW 3 (v := ?_) rfl (by decide +kernel) (by decide +kernel) (by decide +kernel) (fun _ _ _ h => h) (Or.inl ⟨by rfl, ?_⟩) ?_; rotate_left 1; (focus (intro W hW; go_simp; first | done | with_reducible rfl)); try simp only [Act.put, List.setIfInBounds_toArray, List.set_cons_zero, List.set_cons_succ]) | (refine takeW 3 rfl (by decide +kernel) (by decide +kernel) (by decide +kernel) (fun _ _ _ h => h) (Or.inr ⟨by rfl, rfl⟩) ?_; try simp only [Act.put, List.setIfInBounds_toArray, List.set_cons_zero, List.set_cons_succ]) | skip); (first | (refine takeT 4 (v := ?_) rfl (by decide +kernel) (by decide +kernel) (by decide +kernel) (fun _ _ _ h => h) (by decide +kernel) (Or.inl ⟨by rfl, ?_⟩) ?_; rotate_left 1; (focus (intro W hW; have hcW := hW.at; (try dsimp only at hcW); go_simp; first | done | with_reducible rfl)); try simp only [Act.put, List.setIfInBounds_toArray, List.set_cons_zero, List.set_cons_succ]) | (refine takeW 4 (v := ?_) rfl (by decide +kernel) (by decide +kernel) (by decide +kernel) (fun _ _ _ h => h) (Or.inl ⟨by rfl, ?_⟩) ?_; rotate_left 1; (focus (intro W hW; go_simp; first | done | with_reducible rfl)); try simp only [Act.put, List.setIfInBounds_toArray, List.set_cons_zero, List.set_cons_succ]) | (refine takeW 4 rfl (by decide +kernel) (by decide +kernel) (by decide +kernel) (fun _ _ _ h => h) (Or.inr ⟨by rfl, rfl⟩) ?_; try simp only [Act.put, List.setIfInBounds_toArray, List.set_cons_zero, List.set_cons_succ]) | skip); (first | (refine takeT 5 (v := ?_) rfl (by decide +kernel) (by decide +kernel) (by decide +kernel) (fun _ _ _ h => h) (by decide +kernel) (Or.inl ⟨by rfl, ?_⟩) ?_; rotate_left 1; (focus (intro W hW; have hcW := hW.at; (try dsimp only at hcW); go_simp; first | done | with_reducible rfl)); try simp only [Act.put, List.setIfInBounds_toArray, List.set_cons_zero, List.set_cons_succ]) | (refine takeW 5 (v := ?_) rfl (by decide +kernel) (by decide +kernel) (by decide +kernel) (fun _ _ _ h => h) (Or.inl ⟨by rfl, ?_⟩) ?_; rotate_left 1; (focus (intro W hW; go_simp; first | done | with_reducible rfl)); try simp only [Act.put, List.setIfInBounds_toArray, List.set_cons_zero, List.set_cons_succ]) | (refine takeW 5 rfl (by decide +kernel) (by decide +kernel) (by decide +kernel) (fun _ _ _ h => h) (Or.inr ⟨by rfl, rfl⟩) ?_; try simp only [Act.put, List.setIfInBounds_toArray, List.set_cons_zero, List.set_cons_succ]) | skip); (first | (refine takeT 6 (v := ?_) rfl (by decide +kernel) (by decide +kernel) (by decide +kernel) (fun _ _ _ h => h) (by decide +kernel) (Or.inl ⟨by rfl, ?_⟩) ?_; rotate_left 1; (focus (intro W hW; have hcW := hW.at; (try dsimp only at hcW); go_simp; first | done | with_reducible rfl)); try simp only [Act.put, List.setIfInBounds_toArray, List.set_cons_zero, List.set_cons_succ]) | (refine takeW 6 (v := ?_) rfl (by decide +kernel) (by decide +kernel) (by decide +kernel) (fun _ _ _ h => h) (Or.inl ⟨by rfl, ?_⟩) ?_; rotate_left 1; (focus (intro W hW; go_simp; first | done | with_reducible rfl)); try simp only [Act.put, List.setIfInBounds_toArray, List.set_cons_zero, List.set_cons_succ]) | (refine takeW 6 rfl (by decide +kernel) (by decide +kernel) (by decide +kernel) (fun _ _ _ h => h) (Or.inr ⟨by rfl, rfl⟩) ?_; try simp only [Act.put, List.setIfInBounds_toArray, List.set_cons_zero, List.set_cons_succ]) | skip); (first | (refine takeT 7 (v := ?_) rfl (by decide +kernel) (by decide +kernel) (by decide +kernel) (fun _ _ _ h => h) (by decide +kernel) (Or.inl ⟨by rfl, ?_⟩) ?_; rotate_left 1; (focus (intro W hW; have hcW := hW.at; (try dsimp only at hcW); go_simp; first | done | with_reducible rfl)); try simp only [Act.put, List.setIfInBounds_toArray, List.set_cons_zero, List.set_cons_succ]) | (refine takeW 7 (v := ?_) rfl (by decide +kernel) (by decide +kernel) (by decide +kernel) (fun _ _ _ h => h) (Or.inl ⟨by rfl, ?_⟩) ?_; rotate_left 1; (focus (intro W hW; go_simp; first | done | with_reducible rfl)); try simp only [Act.put, List.setIfInBounds_toArray, List.set_cons_zero, List.set_cons_succ]) | (refine takeW 7 rfl (by decide +kernel) (by decide +kernel) (by decide +kernel) (fun _ _ _ h => h) (Or.inr ⟨by rfl, rfl⟩) ?_; try simp only [Act.put, List.setIfInBounds_toArray, List.set_cons_zero, List.set_cons_succ]) | skip))
      have hLd : Hid (Lr w wr.drew b3 b4 b7 #[.bool st, .slice A ps.length c] #[.bool rt, .slice A' qs.length c'] y A7 c7) := hL.out.to (Below.refl _ _).drew
      have hbd3 : b3 < wr.drew.heap.size := hb3
      have hbd7 : b7 < wr.drew.heap.size := hb7
      have hbdw : b < wr.drew.heap.size := hbw
      clear hL e1 e70 e71 e72 e73 hc1 hb3 hb7 hbw
      generalize wr.drew = wd at hLd hbd3 hbd7 hbdw ⊢
      refine stepT 8 rfl (by decide +kernel) (by rfl) ?_
      intro K hK
      go_simp
      refine (lost_any _ x).mono ?_
      rintro e w8 ⟨rfl, rfl⟩
      refine hK _ _ (.inr (Sm.refl _ _)) ?_
      clear hK K
      try simp only [Act.put, List.setIfInBounds_toArray, List.set_cons_zero, List.set_cons_succ]
      refine stepT 9 rfl (by decide +kernel) (by rfl) ?_
      intro K hK
      go_simp
      refine (step_any _ y A7 c7 ps.length (b7 + 1) (exN x.toNat) hLd.out.ri (by omega) (by omega) hLd.out.nw (by omega)).mono ?_
      rintro e w9 ⟨A8, c8, rfl, hr8, bb, hn8⟩
      refine hK _ _ (.inr fun a ha => by rcases ha with h | h | h <;> exact bb.cell (by rw [h]; first | exact hbd3 | exact hbd7 | exact hbdw)) ?_
      have hL9 := hLd.out.to bb
      rw [← hsu.out] at hr8 ⊢
      obtain ⟨y2, hy2⟩ : ∃ y2, ySeq ps.length ⟨0, [], st, rt⟩ xs (k + 1) = y2 := ⟨_, rfl⟩
      rw [hy2] at hr8 ⊢
      replace hy2 := Lib.hid hy2
      have f7 := block_free hL9.h7
      have hLs := Lib.hid (hL9.set7 hr8 hn8)
      have e70 := block_at hL9.h7 (i := 0) (v := .int .i64 (y.ack : Int)) rfl
      have e71 := block_at hL9.h7 (i := 1) (v := .slice A7 y.taken.length c7) rfl
      have e72 := block_at hL9.h7 (i := 2) (v := .bool y.snd) rfl
      have e73 := block_at hL9.h7 (i := 3) (v := .bool y.rcv) rfl
      clear hK K bb hL9 hr8 hn8 hLd hsu
      try simp only [Act.put, List.setIfInBounds_toArray, List.set_cons_zero, List.set_cons_succ]
      refine stepT 10 rfl (by decide +kernel) (by rfl) ?_
      intro K hK
      go_simp
      refine hK _ _ (.inl (by decide)) ?_
      clear hK K e70 e71 e72 e73 f7
      refine doneT (by kernel_rfl) ?_
      go_wp2
      go_roundg (gk - 1)
      case measure => omega
      case rel => exact ⟨k + 1, A8, c8, by omega, by go_num, by rw [hy2.out]; exact hLs.out⟩
    · obtain rfl : k = xs.length := by omega
      obtain ⟨hok, htl⟩ := ySeq_ok ps.length st rt xs xs.length (by omega)
      obtain ⟨y, hy⟩ : ∃ y, ySeq ps.length ⟨0, [], st, rt⟩ xs xs.length = y := ⟨_, rfl⟩
      rw [hy] at hL hok htl
      replace hy := Lib.hid hy
      have e41 := block_at hL.h4 (i := 1) (v := .slice A' qs.length c') rfl
      replace hL := Lib.hid hL
      go_wp2_with fail
      refine (clone_any wr A' c' qs (h'.belowTop hL.out.below) (hs'.sml (by omega))).mono ?_
      rintro e w2 ⟨v2, rfl, hpk2, bb2⟩
      obtain ⟨A9, c9, rfl⟩ := hpk2.shape
      replace hpk2 := Lib.hid hpk2
      replace bb2 := Lib.hid bb2
      clear e41
      go_wp2
      have H1 := Lib.hid (h.belowTop hL.out.below)
      go_loopg [9, 10] y.taken.length (fun g v i wq => ∃ (k : Nat), k + g = y.taken.length ∧ i = .int .i64 k ∧ Pk wq wr.heap.size 26 v (qs ++ (y.taken.take k).map fun i => ps.getD i []) ∧ Below wr.heap.size wr wq)
      case atStart => exact ⟨0, by omega, rfl, by simpa using hpk2.out, bb2.out⟩
      case round =>
        obtain ⟨k, hkg, rfl, hpk, hbq⟩ := hrel
        have hLq := hL.out.to hbq
        by_cases hk : k < y.taken.length
        · obtain ⟨bt, offt, rfl, lbt, hct⟩ := (hL.out.ri.below hbq).at_ (k := k) (by rw [tk_length]; exact hk)
          have htn : (tk y.taken).getD k 0 = ((y.taken.getD k 0 : Nat) : Int) := by simp [tk, List.getD, List.getElem?_eq_getElem hk]
          rw [htn] at hct
          have htm : y.taken.getD k 0 < ps.length := hok.2 _ (by simp [List.getD, List.getElem?_eq_getElem hk])
          have hsn := Lib.hid (show qs ++ ((y.taken.take (k + 1)).map fun i => ps.getD i []) = (qs ++ (y.taken.take k).map fun i => ps.getD i []) ++ [ps.getD (y.taken.getD k 0) []] by rw [take_snoc' y.taken 0 hk, List.map_append, List.append_assoc]; rfl)
          have hql : (qs ++ (y.taken.take k).map fun i => ps.getD i []).length ≤ 1000 := by rw [List.length_append, List.length_map, List.length_take]; have := hs'.1; omega
          clear htn
          generalize y.taken.getD k 0 = tn at hct htm hsn
          generalize (qs ++ (y.taken.take k).map fun i => ps.getD i []) = ls at hpk hsn hql
          obtain ⟨bp, offp, Ap, cp, rfl, lbp, hcp, hrp⟩ := (H1.out.below hbq).at_ htm
          generalize ps.getD tn [] = p at hcp hrp hsn
          have e31 := block_at hLq.h3 (i := 1) (v := .slice (some ⟨bp, offp, none⟩) ps.length c) rfl
          have e71 := block_at hLq.h7 (i := 1) (v := .slice (some ⟨bt, offt, none⟩) y.taken.length c7) rfl
          have hki : (k : Int) < (y.taken.length : Int) := by omega
          have hki0 : (0 : Int) ≤ (k : Int) := by omega
          have hti : (tn : Int) < (ps.length : Int) := by omega
          have hti0 : (0 : Int) ≤ (tn : Int) := by omega
          have lb3 := block_lt hL.out.h3
          have lb7 := block_lt hL.out.h7
          replace hpk := Lib.hid hpk
          replace hbq := Lib.hid hbq
          replace hrp := Lib.hid hrp
          clear hLq
          go_wp2
          refine startT (S := fun a => a.block = b3 ∨ a.block = b7 ∨ a.block = bt ∨ a.block = bp) (T := []) 13 (by kernel_rfl) rfl (l := #[false, false, false, false, false, false, false, false, false, false, false, false, false]) rfl ?_
          ((first | (refine takeT 0 (v := ?_) rfl (by decide +kernel) (by decide +kernel) (by decide +kernel) (fun _ _ _ h => h) (by decide +kernel) (Or.inl ⟨by rfl, ?_⟩) ?_; rotate_left 1; (focus (intro W hW; have hcW := hW.at; (try dsimp only at hcW); go_simp; first | done | with_reducible rfl)); try simp only [Act.put, List.setIfInBounds_toArray, List.set_cons_zero, List.set_cons_succ]) | (refine takeW 0 (v := ?_) rfl (by decide +kernel) (by decide +kernel) (by decide +kernel) (fun _ _ _ h => h) (Or.inl ⟨by rfl, ?_⟩) ?_; rotate_left 1; (focus (intro W hW; go_simp; first | done | with_reducible rfl)); try simp only [Act.put, List.setIfInBounds_toArray, List.set_cons_zero, List.set_cons_succ]) | (refine takeW 0 rfl (by decide +kernel) (by decide +kernel) (by decide +kernel) (fun _ _ _ h => h) (Or.inr ⟨by rfl, rfl⟩) ?_; try simp only [Act.put, List.setIfInBounds_toArray, List.set_cons_zero, List.set_cons_succ]) | skip); (first | (refine takeT 1 (v := ?_) rfl (by decide +kernel) (by decide +kernel) (by decide +kernel) (fun _ _ _ h => h) (by decide +kernel) (Or.inl ⟨by rfl, ?_⟩) ?_; rotate_left 1; (focus (intro W hW; have hcW := hW.at; (try dsimp only at hcW); go_simp; first | done | with_reducible rfl)); try simp only [Act.put, List.setIfInBounds_toArray, List.set_cons_zero, List.set_cons_succ]) | (refine takeW 1 (v := ?_) rfl (by decide +kernel) (by decide +kernel) (by decide +kernel) (fun _ _ _ h => h) (Or.inl ⟨by rfl, ?_⟩) ?_; rotate_left 1; (focus (intro W hW; go_simp; first | done | with_reducible rfl)); try simp only [Act.put, List.setIfInBounds_toArray, List.set_cons_zero, List.set_cons_succ]) | (refine takeW 1 rfl (by decide +kernel) (by decide +kernel) (by decide +kernel) (fun _ _ _ h => h) (Or.inr ⟨by rfl, rfl⟩) ?_; try simp only [Act.put, List.setIfInBounds_toArray, List.set_cons_zero, List.set_cons_succ]) | skip); (first | (refine takeT 2 (v := ?_) rfl (by decide +kernel) (by decide +kernel) (by decide +kernel) (fun _ _ _ h => h) (by decide +kernel) (Or.inl ⟨by rfl, ?_⟩) ?_; rotate_left 1; (focus (intro W hW; have hcW := hW.at; (try dsimp only at hcW); go_simp; first | done | with_reducible rfl)); try simp only [Act.put, List.setIfInBounds_toArray, List.set_cons_zero, List.set_cons_succ]) | (refine takeW 2 (v := ?_) rfl (by decide +kernel) (by decide +kernel) (by decide +kernel) (fun _ _ _ h => h) (Or.inl ⟨by rfl, ?_⟩) ?_; rotate_left 1; (focus (intro W hW; go_simp; first | done | with_reducible rfl)); try simp only [Act.put, List.setIfInBounds_toArray, List.set_cons_zero, List.set_cons_succ]) | (refine takeW 2 rfl (by decide +kernel) (by decide +kernel) (by decide +kernel) (fun _ _ _ h => h) (Or.inr ⟨by rfl, rfl⟩) ?_; try simp only [Act.put, List.setIfInBounds_toArray, List.set_cons_zero, List.set_cons_succ]) | skip); (first | (refine takeT 3 (v := ?_) rfl (by decide +kernel) (by decide +kernel) (by decide +kernel) (fun _ _ _ h => h) (by decide +kernel) (Or.inl ⟨by rfl, ?_⟩) ?_; rotate_left 1; (focus (intro W hW; have hcW := hW.at; (try dsimp only at hcW); go_simp; first | done | with_reducible rfl)); try simp only [Act.put, List.setIfInBounds_toArray, List.set_cons_zero, List.set_cons_succ]) | (refine takeW 3 (v := ?_) rfl (by decide +kernel) (by decide +kernel) (by decide +kernel) (fun _ _ _ h => h) (Or.inl ⟨by rfl, ?_⟩) ?_; rotate_left 1; (focus (intro W hW; go_simp; first | done | with_reducible rfl)); try simp only [Act.put, List.setIfInBounds_toArray, List.set_cons_zero, List.set_cons_succ]) | (refine takeW 3 rfl (by decide +kernel) (by decide +kernel) (by decide +kernel) (fun _ _ _ h => h) (Or.inr ⟨by rfl, rfl⟩) ?_; try simp only [Act.put, List.setIfInBounds_toArray, List.set_cons_zero, List.set_cons_succ]) | skip); (first | (refine takeT 4 (v := ?_) rfl (by decide +kernel) (by decide +kernel) (by decide +kernel) (fun _ _ _ h => h) (by decide +kernel) (Or.inl ⟨by rfl, ?_⟩) ?_; rotate_left 1; (focus (intro W hW; have hcW := hW.at; (try dsimp only at hcW); go_simp; first | done | with_reducible rfl)); try simp only [Act.put, List.setIfInBounds_toArray, List.set_cons_zero, List.set_cons_succ]) | (refine takeW 4 (v := ?_) rfl (by decide +kernel) (by decide +kernel) (by decide +kernel) (fun _ _ _ h => h) (Or.inl ⟨by rfl, ?_⟩) ?_; rotate_left 1; (focus (intro W hW; go_simp; first | done | with_reducible rfl)); try simp only [Act.put, List.setIfInBounds_toArray, List.set_cons_zero, List.set_cons_succ]) | (refine takeW 4 rfl (by decide +kernel) (by decide +kernel) (by decide +kernel) (fun _ _ _ h => h) (Or.inr ⟨by rfl, rfl⟩) ?_; try simp only [Act.put, List.setIfInBounds_toArray, List.set_cons_zero, List.set_cons_succ]) | skip); (first | (refine takeT 5 (v := ?_) rfl (by decide +kernel) (by decide +kernel) (by decide +kernel) (fun _ _ _ h => h) (by decide +kernel) (Or.inl ⟨by rfl, ?_⟩) ?_; rotate_left 1; (focus (intro W hW; have hcW := hW.at; (try dsimp only at hcW); go_simp; first | done | with_reducible rfl)); try simp only [Act.put, List.setIfInBounds_toArray, List.set_cons_zero, List.set_cons_succ]) | (refine takeW 5 (v := ?_) rfl (by decide +kernel) (by decide +kernel) (by decide +kernel) (fun _ _ _ h => h) (Or.inl ⟨by rfl, ?_⟩) ?_; rotate_left 1; (focus (intro W hW; go_simp; first | done | with_reducible rfl)); try simp only [Act.put, List.setIfInBounds_toArray, List.set_cons_zero, List.set_cons_succ]) | (refine takeW 5 rfl (by decide +kernel) (by decide +kernel) (by decide +kernel) (fun _ _ _ h => h) (Or.inr ⟨by rfl, rfl⟩) ?_; try simp only [Act.put, List.setIfInBounds_toArray, List.set_cons_zero, List.set_cons_succ]) | skip); (first | (refine takeT 6 (v := ?_) rfl (by decide +kernel) (by decide +kernel) (by decide +kernel) (fun _ _ _ h => h) (by decide +kernel) (Or.inl ⟨by rfl, ?_⟩) ?_; rotate_left 1; (focus (intro W hW; have hcW := hW.at; (try dsimp only at hcW); go_simp; first | done | with_reducible rfl)); try simp only [Act.put, List.setIfInBounds_toArray, List.set_cons_zero, List.set_cons_succ]) | (refine takeW 6 (v := ?_) rfl (by decide +kernel) (by decide +kernel) (by decide +kernel) (fun _ _ _ h => h) (Or.inl ⟨by rfl, ?_⟩) ?_; rotate_left 1; (focus (intro W hW; go_simp; first | done | with_reducible rfl)); try simp only [Act.put, List.setIfInBounds_toArray, List.set_cons_zero, List.set_cons_succ]) | (refine takeW 6 rfl (by decide +kernel) (by decide +kernel) (by decide +kernel) (fun _ _ _ h => h) (Or.inr ⟨by rfl, rfl⟩) ?_; try simp only [Act.put, List.setIfInBounds_toArray, List.set_cons_zero, List.set_cons_succ]) | skip); (first | (refine takeT 7 (v := ?_) rfl (by decide +kernel) (by decide +kernel) (by decide +kernel) (fun _ _ _ h => h) (by decide +kernel) (Or.inl ⟨by rfl, ?_⟩) ?_; rotate_left 1; (focus (intro W hW; have hcW := hW.at; (try dsimp only at hcW); go_simp; first | done | with_reducible rfl)); try simp only [Act.put, List.setIfInBounds_toArray, List.set_cons_zero, List.set_cons_succ]) | (refine takeW 7 (v := ?_) rfl (by decide +kernel) (by decide +kernel) (by decide +kernel) (fun _ _ _ h => h) (Or.inl ⟨by rfl, ?_⟩) ?_; rotate_left 1; (focus (intro W hW; go_simp; first | done | with_reducible rfl)); try simp only [Act.put, List.setIfInBounds_toArray, List.set_cons_zero, List.set_cons_succ]) | (refine takeW 7 rfl (by decide +kernel) (by decide +kernel) (by decide +kernel) (fun _ _ _ h => h) (Or.inr ⟨by rfl, rfl⟩) ?_; try simp only [Act.put, List.setIfInBounds_toArray, List.set_cons_zero, List.set_cons_succ]) | skip); (first | (refine takeT 8 (v := ?_) rfl (by decide +kernel) (by decide +kernel) (by decide +kernel) (fun _ _ _ h => h) (by decide +kernel) (Or.inl ⟨by rfl, ?_⟩) ?_; rotate_left 1; (focus (intro W hW; have hcW := hW.at; (try dsimp only at hcW); go_simp; first | done | with_reducible rfl)); try simp only [Act.put, List.setIfInBounds_toArray, List.set_cons_zero, List.set_cons_succ]) | (refine takeW 8 (v := ?_) rfl (by decide +kernel) (by decide +kernel) (by decide +kernel) (fun _ _ _ h => h) (Or.inl ⟨by rfl, ?_⟩) ?_; rotate_left 1; (focus (intro W hW; go_simp; first | done | with_reducible rfl)); try simp only [Act.put, List.setIfInBounds_toArray, List.set_cons_zero, List.set_cons_succ]) | (refine takeW 8 rfl (by decide +kernel) (by decide +kernel) (by decide +kernel) (fun _ _ _ h => h) (Or.inr ⟨by rfl, rfl⟩) ?_; try simp only [Act.put, List.setIfInBounds_toArray, List.set_cons_zero, List.set_cons_succ]) | skip); (first | (refine takeT 9 (v := ?_) rfl (by decide +kernel) (by decide +kernel) (by decide +kernel) (fun _ _ _ h => h) (by decide +kernel) (Or.inl ⟨by rfl, ?_⟩) ?_; rotate_left 1; (focus (intro W hW; have hcW := hW.at; (try dsimp only at hcW); go_simp; first | done | with_reducible rfl)); try simp only [Act.put, List.setIfInBounds_toArray, List.set_cons_zero, List.set_cons_succ]) | (refine takeW 9 (v := ?_) rfl (by decide +kernel) (by decide +kernel) (by decide +kernel) (fun _ _ _ h => h) (Or.inl ⟨by rfl, ?_⟩) ?_; rotate_left 1; (focus (intro W hW; go_simp; first | done | with_reducible rfl)); try simp only [Act.put, List.setIfInBounds_toArray, List.set_cons_zero, List.set_cons_succ]) | (refine takeW 9 rfl (by decide +kernel) (by decide +kernel) (by decide +kernel) (fun _ _ _ h => h) (Or.inr ⟨by rfl, rfl⟩) ?_; try simp only [Act.put, List.setIfInBounds_toArray, List.set_cons_zero, List.set_cons_succ]) | skip))
          have bb0 := (Below.refl wr.heap.size wr).drew
          have hpk3 : Hid (Pk wr.drew _ 26 u9 ls) := hpk.out.below bb0
          have hbd : Hid (Below _ _ wr.drew) := hbq.out.drew
          have hrd : Hid (Rd wr.drew _ Ap cp p) := hrp.out.below (hb := Below.refl _ _ |>.drew)
          clear hpk hbq hrp e31 e71 hct hcp bb0
          generalize wr.drew = wd at hpk3 hbd hrd ⊢
          refine stepT 10 rfl (by decide +kernel) (by rfl) ?_
          intro K hK
          go_simp
          have bb := (Below.refl wd.heap.size wd).alloc (Nat.le_refl _) (.cells #[.slice Ap p.length cp] 26)
          refine hK _ _ (.inr fun a ha => by rcases ha with h | h | h | h <;> exact bb.cell (by rw [h]; exact Nat.lt_of_lt_of_le (by assumption) hbd.out.size)) ?_
          clear hK K
          have hnew := block_at (heap_alloc_new wd (.cells #[.slice Ap p.length cp] 26)) (i := 0) (v := .slice Ap p.length cp) rfl
          replace hnew := Lib.hid hnew
          replace hpk3 := Lib.hid (hpk3.out.below bb)
          replace hrd := Lib.hid (hrd.out.below (bb.mono hbd.out.size))
          replace hbd := Lib.hid (hbd.out.alloc hbd.out.size (.cells #[.slice Ap p.length cp] 26))
          clear bb
          try simp only [Act.put, List.setIfInBounds_toArray, List.set_cons_zero, List.set_cons_succ]
          generalize wd.alloc (.cells #[.slice Ap p.length cp] 26) = we at hnew hpk3 hrd hbd ⊢
          generalize wd.heap.size = qn at hnew ⊢
          refine stepT 11 rfl (by decide +kernel) (by rfl) ?_
          intro K hK
          refine wp_appendPk1 Try.underlying22 Try.info26 (.tmp 59) (.tmp 69) rfl _ u9 ls rfl hpk3.out Ap cp p hrd.out qn hnew.out rfl (by omega) hbd.out.size ?_
          intro v5 w5 hpk5 bb5
          refine hK _ _ (.inr fun a ha => by rcases ha with h | h | h | h <;> exact bb5.cell (by rw [h]; assumption)) ?_
          clear hK K hnew hpk3 hrd
          have hb6 := Lib.hid (hbd.out.trans bb5)
          clear hbd bb5
          try simp only [Act.put, List.setIfInBounds_toArray, List.set_cons_zero, List.set_cons_succ]
          ((first | (refine takeT 12 (v := ?_) rfl (by decide +kernel) (by decide +kernel) (by decide +kernel) (fun _ _ _ h => h) (by decide +kernel) (Or.inl ⟨by rfl, ?_⟩) ?_; rotate_left 1; (focus (intro W hW; have hcW := hW.at; (try dsimp only at hcW); go_simp; first | done | with_reducible rfl)); try simp only [Act.put, List.setIfInBounds_toArray, List.set_cons_zero, List.set_cons_succ]) | (refine takeW 12 (v := ?_) rfl (by decide +kernel) (by decide +kernel) (by decide +kernel) (fun _ _ _ h => h) (Or.inl ⟨by rfl, ?_⟩) ?_; rotate_left 1; (focus (intro W hW; go_simp; first | done | with_reducible rfl)); try simp only [Act.put, List.setIfInBounds_toArray, List.set_cons_zero, List.set_cons_succ]) | (refine takeW 12 rfl (by decide +kernel) (by decide +kernel) (by decide +kernel) (fun _ _ _ h => h) (Or.inr ⟨by rfl, rfl⟩) ?_; try simp only [Act.put, List.setIfInBounds_toArray, List.set_cons_zero, List.set_cons_succ]) | skip))
          refine doneT (by kernel_rfl) ?_
          go_wp2
          go_roundg (gk - 1)
          case measure => omega
          case rel => exact ⟨k + 1, by omega, by go_num, by rw [hsn.out]; exact hpk5, hb6.out⟩
        · obtain rfl : k = y.taken.length := by omega
          rw [List.take_length] at hpk
          have hx0 : SmlP ⟨st, ps, rt, qs⟩ := ⟨(hs.sml (by omega)).2, (hs'.sml (by omega)).2, (hs.sml (by omega)).1⟩
          have hpr : runP ⟨st, ps, rt, qs⟩ (exL xs) = pairR ps qs y := by
            have := pair_run ps qs (exL xs) ⟨0, [], st, rt⟩
            rw [← hy.out]
            unfold ySeq
            rw [List.take_length, ← this]
            simp [pairR]
          have hsz := hx0.run (exL xs)
          rw [hpr] at hsz
          obtain ⟨gl, hgl⟩ : ∃ gl, ps.drop y.ack = gl := ⟨_, rfl⟩
          obtain ⟨gg, hgg⟩ : ∃ gg, (qs ++ y.taken.map fun i => ps.getD i []) = gg := ⟨_, rfl⟩
          have hgll : gl.length = ps.length - y.ack := by rw [← hgl, List.length_drop]
          have hggl : gg.length ≤ 1000 := by rw [← hgg, List.length_append, List.length_map]; have := hs'.1; omega
          have hps20 := hs.1
          have hack := hok.1
          have KR : Hid (∀ (W : World) (A A' A2 : Option Addr) (c c' c2 : Nat), Rds W W.heap.size A c ps → Rds W W.heap.size A' c' qs → RdX W W.heap.size A2 c2 (exL xs) → Calls Try.prog 19 #[sv st (.slice A ps.length c), sv rt (.slice A' qs.length c'), .slice A2 (exL xs).length c2] W (ResR W ⟨y.snd, gl, y.rcv, gg⟩)) := by
            intro W A A' A2 c c' c2 h h' h2
            have := run_any W ⟨st, ps, rt, qs⟩ A c A' c' A2 c2 (exL xs) h h' h2 hx0 (by unfold exL; rw [List.length_map]; show qs.length + _ ≤ _; have := hs'.1; omega)
            rw [hpr] at this
            rw [← hgl, ← hgg]
            exact this
          have KX : Hid (∀ (W : World) (A : Option Addr) (c : Nat), Rd W W.heap.size A c xs → Calls Try.prog 20 #[.slice A xs.length c] W fun e w' => ∃ A' c', e = .returned (.slice A' (exL xs).length c') ∧ RdX w' w'.heap.size A' c' (exL xs) ∧ Below W.heap.size W w') := fun W A c h => exchanges_any W A c xs h (by omega)
          have sg : Sml gl ∧ Sml gg := ⟨⟨by omega, by have := hsz.1; rw [← hgl]; exact this⟩, ⟨by omega, by have := hsz.2.1; rw [← hgg]; exact this⟩⟩
          replace hgll := Lib.hid hgll
          rw [hgg] at hpk
          have H1q := Lib.hid (h.belowTop hLq.below)
          have H2q := Lib.hid (h'.belowTop hLq.below)
          have H3q := Lib.hid (h2.belowTop hLq.below)
          obtain ⟨A9, c9, rfl, hr9⟩ := hpk.rds
          have hr9 := Lib.hid hr9
          have e71 := block_at hLq.h7 (i := 1) (v := .slice A7 y.taken.length c7) rfl
          have hLq := Lib.hid hLq
          clear hx0 hpr hsz hgg hpk H1 bb2 hpk2 hL
          go_wp2
          clear e71
          generalize wr = Wq at H1q H2q H3q hr9 hLq ⊢
          refine region_inv (fun a₀ act w' => ∃ (g8 g9 ga gb : Nat) (v72 v73 v74 v75 v76 v71 v77 v78 : Value),
              act = (((((((((a₀.put (some 72) v72).put (some 73) v73).put (some 74) v74).put (some 75) v75).put (some 76) v76).put (some 71) v71).put (some 77) v77).put (some 78) v78).put (some 11) (.pointer (some ⟨g8, 0, none⟩))).put (some 12) (.pointer (some ⟨g9, 0, none⟩)) ∧
              Below Wq.heap.size Wq w' ∧ w'.heap[g8]? = some (.cells #[.bool y.snd, .slice (some ⟨ga, 0, none⟩) gl.length gl.length] 28 (0, 0)) ∧ w'.heap[g9]? = some (.cells #[.bool y.rcv, .slice (some ⟨gb, 0, none⟩) gg.length gg.length] 39 (0, 0)) ∧
              News w' Wq.heap.size ga gl ∧ News w' Wq.heap.size gb gg ∧ Wq.heap.size ≤ g8 ∧ Wq.heap.size ≤ g9) ?_ ?_
          · have e30 := block_at hLq.out.h3 (i := 0) (v := .bool st) rfl
            have e31 := block_at hLq.out.h3 (i := 1) (v := .slice A ps.length c) rfl
            have e40 := block_at hLq.out.h4 (i := 0) (v := .bool rt) rfl
            have e41 := block_at hLq.out.h4 (i := 1) (v := .slice A' qs.length c') rfl
            have lb3 := block_lt hLq.out.h3
            have lb4 := block_lt hLq.out.h4
            have R1 := H1q
            have R2 := H2q
            have H2 := H3q
            refine startT (S := fun a => a.block < Wq.heap.size) (T := []) 12 (by kernel_rfl) rfl (l := #[false, false, false, false, false, false, false, false, false, false, false, false]) rfl ?_
            have hW : Below Wq.heap.size Wq Wq.drew := (Below.refl _ _).drew
            ((first | (refine takeT 0 (v := ?_) rfl (by decide +kernel) (by decide +kernel) (by decide +kernel) (fun _ _ _ h => h) (by decide +kernel) (Or.inl ⟨by rfl, ?_⟩) ?_; rotate_left 1; (focus (intro W hW; have hcW := hW.at; (try dsimp only at hcW); go_simp; first | done | with_reducible rfl)); try simp only [Act.put, List.setIfInBounds_toArray, List.set_cons_zero, List.set_cons_succ]) | (refine takeW 0 (v := ?_) rfl (by decide +kernel) (by decide +kernel) (by decide +kernel) (fun _ _ _ h => h) (Or.inl ⟨by rfl, ?_⟩) ?_; rotate_left 1; (focus (intro W hW; go_simp; first | done | with_reducible rfl)); try simp only [Act.put, List.setIfInBounds_toArray, List.set_cons_zero, List.set_cons_succ]) | (refine takeW 0 rfl (by decide +kernel) (by decide +kernel) (by decide +kernel) (fun _ _ _ h => h) (Or.inr ⟨by rfl, rfl⟩) ?_; try simp only [Act.put, List.setIfInBounds_toArray, List.set_cons_zero, List.set_cons_succ]) | skip); (first | (refine takeT 1 (v := ?_) rfl (by decide +kernel) (by decide +kernel) (by decide +kernel) (fun _ _ _ h => h) (by decide +kernel) (Or.inl ⟨by rfl, ?_⟩) ?_; rotate_left 1; (focus (intro W hW; have hcW := hW.at; (try dsimp only at hcW); go_simp; first | done | with_reducible rfl)); try simp only [Act.put, List.setIfInBounds_toArray, List.set_cons_zero, List.set_cons_succ]) | (refine takeW 1 (v := ?_) rfl (by decide +kernel) (by decide +kernel) (by decide +kernel) (fun _ _ _ h => h) (Or.inl ⟨by rfl, ?_⟩) ?_; rotate_left 1; (focus (intro W hW; go_simp; first | done | with_reducible rfl)); try simp only [Act.put, List.setIfInBounds_toArray, List.set_cons_zero, List.set_cons_succ]) | (refine takeW 1 rfl (by decide +kernel) (by decide +kernel) (by decide +kernel) (fun _ _ _ h => h) (Or.inr ⟨by rfl, rfl⟩) ?_; try simp only [Act.put, List.setIfInBounds_toArray, List.set_cons_zero, List.set_cons_succ]) | skip); (first | (refine takeT 2 (v := ?_) rfl (by decide +kernel) (by decide +kernel) (by decide +kernel) (fun _ _ _ h => h) (by decide +kernel) (Or.inl ⟨by rfl, ?_⟩) ?_; rotate_left 1; (focus (intro W hW; have hcW := hW.at; (try dsimp only at hcW); go_simp; first | done | with_reducible rfl)); try simp only [Act.put, List.setIfInBounds_toArray, List.set_cons_zero, List.set_cons_succ]) | (refine takeW 2 (v := ?_) rfl (by decide +kernel) (by decide +kernel) (by decide +kernel) (fun _ _ _ h => h) (Or.inl ⟨by rfl, ?_⟩) ?_; rotate_left 1; (focus (intro W hW; go_simp; first | done | with_reducible rfl)); try simp only [Act.put, List.setIfInBounds_toArray, List.set_cons_zero, List.set_cons_succ]) | (refine takeW 2 rfl (by decide +kernel) (by decide +kernel) (by decide +kernel) (fun _ _ _ h => h) (Or.inr ⟨by rfl, rfl⟩) ?_; try simp only [Act.put, List.setIfInBounds_toArray, List.set_cons_zero, List.set_cons_succ]) | skip))
            generalize Wq.drew = v0 at hW ⊢
            clear e30 e31 e40 e41
    -- tree
            refine stepTA [3, 8, 9] (by decide +kernel) (by decide) ?_
            intro i hi
            rcases (by simpa using hi : i = 3 ∨ i = 8 ∨ i = 9) with rfl | rfl | rfl
            · clear hi
              refine ⟨_, rfl, by rfl, ?_⟩
              intro K hK
              go_simp
              refine (KX.out v0 A2 c2 (H2.out.below hW |>.more hW.size)).mono ?_
              rintro e v1 ⟨A3, c3, rfl, h3, bb⟩
              replace h3 := Lib.hid h3
              refine hK _ _ (.inr (smB hW.size bb)) ?_
              replace hW := hW.trans (bb.mono hW.size)
              clear hK K bb
              try simp only [Act.put, List.setIfInBounds_toArray, List.set_cons_zero, List.set_cons_succ]
              refine stepTA [4, 8, 9] (by decide +kernel) (by decide) ?_
              intro i hi
              rcases (by simpa using hi : i = 4 ∨ i = 8 ∨ i = 9) with rfl | rfl | rfl
              · clear hi
                refine ⟨_, rfl, by rfl, ?_⟩
                intro K hK
                go_simp
                refine (KR.out v1 _ _ _ _ _ _ (R1.out.below hW |>.more hW.size) (R2.out.below hW |>.more hW.size) h3.out).mono ?_
                rintro e v2 ⟨ga, gb, rfl, na, nb, bb⟩
                replace na := Lib.hid (na.mono (base' := Wq.heap.size) hW.size)
                replace nb := Lib.hid (nb.mono (base' := Wq.heap.size) hW.size)
                refine hK _ _ (.inr (smB hW.size bb)) ?_
                replace h3 := Lib.hid ((h3.out.below bb).more bb.size)
                replace hW := hW.trans (bb.mono hW.size)
                clear hK K bb
                try simp only [Act.put, List.setIfInBounds_toArray, List.set_cons_zero, List.set_cons_succ]
                ((first | (refine takeT 5 (v := ?_) rfl (by decide +kernel) (by decide +kernel) (by decide +kernel) (fun _ _ _ h => h) (by decide +kernel) (Or.inl ⟨by rfl, ?_⟩) ?_; rotate_left 1; (focus (intro W hW; have hcW := hW.at; (try dsimp only at hcW); go_simp; first | done | with_reducible rfl)); try simp only [Act.put, List.setIfInBounds_toArray, List.set_cons_zero, List.set_cons_succ]) | (refine takeW 5 (v := ?_) rfl (by decide +kernel) (by decide +kernel) (by decide +kernel) (fun _ _ _ h => h) (Or.inl ⟨by rfl, ?_⟩) ?_; rotate_left 1; (focus (intro W hW; go_simp; first | done | with_reducible rfl)); try simp only [Act.put, List.setIfInBounds_toArray, List.set_cons_zero, List.set_cons_succ]) | (refine takeW 5 rfl (by decide +kernel) (by decide +kernel) (by decide +kernel) (fun _ _ _ h => h) (Or.inr ⟨by rfl, rfl⟩) ?_; try simp only [Act.put, List.setIfInBounds_toArray, List.set_cons_zero, List.set_cons_succ]) | skip); (first | (refine takeT 6 (v := ?_) rfl (by decide +kernel) (by decide +kernel) (by decide +kernel) (fun _ _ _ h => h) (by decide +kernel) (Or.inl ⟨by rfl, ?_⟩) ?_; rotate_left 1; (focus (intro W hW; have hcW := hW.at; (try dsimp only at hcW); go_simp; first | done | with_reducible rfl)); try simp only [Act.put, List.setIfInBounds_toArray, List.set_cons_zero, List.set_cons_succ]) | (refine takeW 6 (v := ?_) rfl (by decide +kernel) (by decide +kernel) (by decide +kernel) (fun _ _ _ h => h) (Or.inl ⟨by rfl, ?_⟩) ?_; rotate_left 1; (focus (intro W hW; go_simp; first | done | with_reducible rfl)); try simp only [Act.put, List.setIfInBounds_toArray, List.set_cons_zero, List.set_cons_succ]) | (refine takeW 6 rfl (by decide +kernel) (by decide +kernel) (by decide +kernel) (fun _ _ _ h => h) (Or.inr ⟨by rfl, rfl⟩) ?_; try simp only [Act.put, List.setIfInBounds_toArray, List.set_cons_zero, List.set_cons_succ]) | skip); (first | (refine takeT 7 (v := ?_) rfl (by decide +kernel) (by decide +kernel) (by decide +kernel) (fun _ _ _ h => h) (by decide +kernel) (Or.inl ⟨by rfl, ?_⟩) ?_; rotate_left 1; (focus (intro W hW; have hcW := hW.at; (try dsimp only at hcW); go_simp; first | done | with_reducible rfl)); try simp only [Act.put, List.setIfInBounds_toArray, List.set_cons_zero, List.set_cons_succ]) | (refine takeW 7 (v := ?_) rfl (by decide +kernel) (by decide +kernel) (by decide +kernel) (fun _ _ _ h => h) (Or.inl ⟨by rfl, ?_⟩) ?_; rotate_left 1; (focus (intro W hW; go_simp; first | done | with_reducible rfl)); try simp only [Act.put, List.setIfInBounds_toArray, List.set_cons_zero, List.set_cons_succ]) | (refine takeW 7 rfl (by decide +kernel) (by decide +kernel) (by decide +kernel) (fun _ _ _ h => h) (Or.inr ⟨by rfl, rfl⟩) ?_; try simp only [Act.put, List.setIfInBounds_toArray, List.set_cons_zero, List.set_cons_succ]) | skip))
                refine stepTA [8, 9] (by decide +kernel) (by decide) ?_
                intro i hi
                rcases (by simpa using hi : i = 8 ∨ i = 9) with rfl | rfl
                · clear hi
                  refine ⟨_, rfl, by rfl, ?_⟩
                  intro K hK
                  go_simp
                  have bb := (Below.refl v2.heap.size v2).alloc (Nat.le_refl _) (.cells #[.bool false, .slice none 0 0] 28)
                  refine hK _ _ (.inr (smB hW.size bb)) ?_
                  have h8 := Lib.hid (heap_alloc_new v2 (.cells #[.bool false, .slice none 0 0] 28))
                  have lh8 := hW.size
                  replace h3 := Lib.hid ((h3.out.below bb).more bb.size)
                  replace na := Lib.hid (na.out.below bb)
                  replace nb := Lib.hid (nb.out.below bb)
                  replace hW := hW.trans (bb.mono hW.size)
                  clear hK K bb
                  try simp only [Act.put, List.setIfInBounds_toArray, List.set_cons_zero, List.set_cons_succ]
                  generalize v2.alloc (.cells #[.bool false, .slice none 0 0] 28) = v3 at hW h3 na nb h8 ⊢
                  generalize v2.heap.size = g8 at h8 lh8 ⊢
                  refine stepTA [9] (by decide +kernel) (by decide) ?_
                  intro i hi
                  obtain rfl : i = 9 := by simpa using hi
                  clear hi
                  refine ⟨_, rfl, by rfl, ?_⟩
                  intro K hK
                  go_simp
                  have bb := (Below.refl v3.heap.size v3).alloc (Nat.le_refl _) (.cells #[.bool false, .slice none 0 0] 39)
                  refine hK _ _ (.inr (smB hW.size bb)) ?_
                  have h9 := Lib.hid (heap_alloc_new v3 (.cells #[.bool false, .slice none 0 0] 39))
                  have lh9 := hW.size
                  replace h3 := Lib.hid ((h3.out.below bb).more bb.size)
                  replace na := Lib.hid (na.out.below bb)
                  replace nb := Lib.hid (nb.out.below bb)
                  replace h8 := Lib.hid ((bb.block _ (block_lt h8.out)).trans h8.out)
                  replace hW := hW.trans (bb.mono hW.size)
                  clear hK K bb
                  try simp only [Act.put, List.setIfInBounds_toArray, List.set_cons_zero, List.set_cons_succ]
                  generalize v3.alloc (.cells #[.bool false, .slice none 0 0] 39) = v4 at hW h3 na nb h8 h9 ⊢
                  generalize v3.heap.size = g9 at h9 lh9 ⊢
                  have n89 := block_ne h8.out h9.out (by decide)
                  have d0 := block_at h8.out (i := 0) (v := .bool false) rfl
                  have d1 := block_at h8.out (i := 1) (v := .slice none 0 0) rfl
                  have f0 := block_free h8.out 0
                  have f1 := block_free h8.out 1
                  refine stepT 10 rfl (by decide +kernel) (by rfl) ?_
                  intro K hK
                  go_simp
                  have bb : Below Wq.heap.size v4 ((v4.setCell ⟨g8, 0, none⟩ (.bool y.snd)).setCell ⟨g8, 1, none⟩ (.slice (some ⟨ga, 0, none⟩) gl.length gl.length)) := below2 (Below.refl _ _) lh8 (.bool y.snd) (.slice (some ⟨ga, 0, none⟩) gl.length gl.length)
                  have hg8 := grown_trans (grown_setCell v4 ⟨g8, 0, none⟩ (.bool y.snd)) (grown_setCell (v4.setCell ⟨g8, 0, none⟩ (.bool y.snd)) ⟨g8, 1, none⟩ (.slice (some ⟨ga, 0, none⟩) gl.length gl.length))
                  refine hK _ _ (.inr (smBelow bb)) ?_
                  replace h9 := Lib.hid (block_grown h9.out hg8 (fun e => n89 (Option.some.inj e).symm))
                  replace na := Lib.hid (na.out.stores2 h8.out (by decide) (by decide) (.bool y.snd) (.slice (some ⟨ga, 0, none⟩) gl.length gl.length))
                  replace nb := Lib.hid (nb.out.stores2 h8.out (by decide) (by decide) (.bool y.snd) (.slice (some ⟨ga, 0, none⟩) gl.length gl.length))
                  replace h8 : Hid (((v4.setCell ⟨g8, 0, none⟩ (.bool y.snd)).setCell ⟨g8, 1, none⟩ (.slice (some ⟨ga, 0, none⟩) gl.length gl.length)).heap[g8]? = _) := set2 h8.out (.bool y.snd) (.slice (some ⟨ga, 0, none⟩) gl.length gl.length)
                  replace hW := hW.trans bb
                  clear hK K bb hg8 d0 d1 f0 f1
                  try simp only [Act.put, List.setIfInBounds_toArray, List.set_cons_zero, List.set_cons_succ]
                  generalize ((v4.setCell ⟨g8, 0, none⟩ (.bool y.snd)).setCell ⟨g8, 1, none⟩ (.slice (some ⟨ga, 0, none⟩) gl.length gl.length)) = wx at h8 h9 na nb hW ⊢
                  have d0 := block_at h9.out (i := 0) (v := .bool false) rfl
                  have d1 := block_at h9.out (i := 1) (v := .slice none 0 0) rfl
                  have f0 := block_free h9.out 0
                  have f1 := block_free h9.out 1
                  refine stepT 11 rfl (by decide +kernel) (by rfl) ?_
                  intro K hK
                  go_simp
                  have bb : Below Wq.heap.size wx ((wx.setCell ⟨g9, 0, none⟩ (.bool y.rcv)).setCell ⟨g9, 1, none⟩ (.slice (some ⟨gb, 0, none⟩) gg.length gg.length)) := below2 (Below.refl _ _) lh9 (.bool y.rcv) (.slice (some ⟨gb, 0, none⟩) gg.length gg.length)
                  have hg9 := grown_trans (grown_setCell wx ⟨g9, 0, none⟩ (.bool y.rcv)) (grown_setCell (wx.setCell ⟨g9, 0, none⟩ (.bool y.rcv)) ⟨g9, 1, none⟩ (.slice (some ⟨gb, 0, none⟩) gg.length gg.length))
                  refine hK _ _ (.inr (smBelow bb)) ?_
                  replace h8 := Lib.hid (block_grown h8.out hg9 (fun e => n89 (Option.some.inj e)))
                  replace na := Lib.hid (na.out.stores2 h9.out (by decide) (by decide) (.bool y.rcv) (.slice (some ⟨gb, 0, none⟩) gg.length gg.length))
                  replace nb := Lib.hid (nb.out.stores2 h9.out (by decide) (by decide) (.bool y.rcv) (.slice (some ⟨gb, 0, none⟩) gg.length gg.length))
                  replace h9 : Hid (((wx.setCell ⟨g9, 0, none⟩ (.bool y.rcv)).setCell ⟨g9, 1, none⟩ (.slice (some ⟨gb, 0, none⟩) gg.length gg.length)).heap[g9]? = _) := set2 h9.out (.bool y.rcv) (.slice (some ⟨gb, 0, none⟩) gg.length gg.length)
                  replace hW := hW.trans bb
                  clear hK K bb hg9 d0 d1 f0 f1
                  refine doneT (by kernel_rfl) ?_
                  exact ⟨g8, g9, ga, gb, _, _, _, _, _, _, _, _, rfl, hW, h8.out, h9.out, na.out, nb.out, lh8, lh9⟩
                · clear hi
                  refine ⟨_, rfl, by rfl, ?_⟩
                  intro K hK
                  go_simp
                  have bb := (Below.refl v2.heap.size v2).alloc (Nat.le_refl _) (.cells #[.bool false, .slice none 0 0] 39)
                  refine hK _ _ (.inr (smB hW.size bb)) ?_
                  have h9 := Lib.hid (heap_alloc_new v2 (.cells #[.bool false, .slice none 0 0] 39))
                  have lh9 := hW.size
                  replace h3 := Lib.hid ((h3.out.below bb).more bb.size)
                  replace na := Lib.hid (na.out.below bb)
                  replace nb := Lib.hid (nb.out.below bb)
                  replace hW := hW.trans (bb.mono hW.size)
                  clear hK K bb
                  try simp only [Act.put, List.setIfInBounds_toArray, List.set_cons_zero, List.set_cons_succ]
                  generalize v2.alloc (.cells #[.bool false, .slice none 0 0] 39) = v5 at hW h3 na nb h9 ⊢
                  generalize v2.heap.size = g9 at h9 lh9 ⊢
                  refine stepTA [8] (by decide +kernel) (by decide) ?_
                  intro i hi
                  obtain rfl : i = 8 := by simpa using hi
                  clear hi
                  refine ⟨_, rfl, by rfl, ?_⟩
                  intro K hK
                  go_simp
                  have bb := (Below.refl v5.heap.size v5).alloc (Nat.le_refl _) (.cells #[.bool false, .slice none 0 0] 28)
                  refine hK _ _ (.inr (smB hW.size bb)) ?_
                  have h8 := Lib.hid (heap_alloc_new v5 (.cells #[.bool false, .slice none 0 0] 28))
                  have lh8 := hW.size
                  replace h3 := Lib.hid ((h3.out.below bb).more bb.size)
                  replace na := Lib.hid (na.out.below bb)
                  replace nb := Lib.hid (nb.out.below bb)
                  replace h9 := Lib.hid ((bb.block _ (block_lt h9.out)).trans h9.out)
                  replace hW := hW.trans (bb.mono hW.size)
                  clear hK K bb
                  try simp only [Act.put, List.setIfInBounds_toArray, List.set_cons_zero, List.set_cons_succ]
                  generalize v5.alloc (.cells #[.bool false, .slice none 0 0] 28) = v6 at hW h3 na nb h9 h8 ⊢
                  generalize v5.heap.size = g8 at h8 lh8 ⊢
                  have n89 := block_ne h8.out h9.out (by decide)
                  have d0 := block_at h8.out (i := 0) (v := .bool false) rfl
                  have d1 := block_at h8.out (i := 1) (v := .slice none 0 0) rfl
                  have f0 := block_free h8.out 0
                  have f1 := block_free h8.out 1
                  refine stepT 10 rfl (by decide +kernel) (by rfl) ?_
                  intro K hK
                  go_simp
                  have bb : Below Wq.heap.size v6 ((v6.setCell ⟨g8, 0, none⟩ (.bool y.snd)).setCell ⟨g8, 1, none⟩ (.slice (some ⟨ga, 0, none⟩) gl.length gl.length)) := below2 (Below.refl _ _) lh8 (.bool y.snd) (.slice (some ⟨ga, 0, none⟩) gl.length gl.length)
                  have hg8 := grown_trans (grown_setCell v6 ⟨g8, 0, none⟩ (.bool y.snd)) (grown_setCell (v6.setCell ⟨g8, 0, none⟩ (.bool y.snd)) ⟨g8, 1, none⟩ (.slice (some ⟨ga, 0, none⟩) gl.length gl.length))
                  refine hK _ _ (.inr (smBelow bb)) ?_
                  replace h9 := Lib.hid (block_grown h9.out hg8 (fun e => n89 (Option.some.inj e).symm))
                  replace na := Lib.hid (na.out.stores2 h8.out (by decide) (by decide) (.bool y.snd) (.slice (some ⟨ga, 0, none⟩) gl.length gl.length))
                  replace nb := Lib.hid (nb.out.stores2 h8.out (by decide) (by decide) (.bool y.snd) (.slice (some ⟨ga, 0, none⟩) gl.length gl.length))
                  replace h8 : Hid (((v6.setCell ⟨g8, 0, none⟩ (.bool y.snd)).setCell ⟨g8, 1, none⟩ (.slice (some ⟨ga, 0, none⟩) gl.length gl.length)).heap[g8]? = _) := set2 h8.out (.bool y.snd) (.slice (some ⟨ga, 0, none⟩) gl.length gl.length)
                  replace hW := hW.trans bb
                  clear hK K bb hg8 d0 d1 f0 f1
                  try simp only [Act.put, List.setIfInBounds_toArray, List.set_cons_zero, List.set_cons_succ]
                  generalize ((v6.setCell ⟨g8, 0, none⟩ (.bool y.snd)).setCell ⟨g8, 1, none⟩ (.slice (some ⟨ga, 0, none⟩) gl.length gl.length)) = wx at h8 h9 na nb hW ⊢
                  have d0 := block_at h9.out (i := 0) (v := .bool false) rfl
                  have d1 := block_at h9.out (i := 1) (v := .slice none 0 0) rfl
                  have f0 := block_free h9.out 0
                  have f1 := block_free h9.out 1
                  refine stepT 11 rfl (by decide +kernel) (by rfl) ?_
                  intro K hK
                  go_simp
                  have bb : Below Wq.heap.size wx ((wx.setCell ⟨g9, 0, none⟩ (.bool y.rcv)).setCell ⟨g9, 1, none⟩ (.slice (some ⟨gb, 0, none⟩) gg.length gg.length)) := below2 (Below.refl _ _) lh9 (.bool y.rcv) (.slice (some ⟨gb, 0, none⟩) gg.length gg.length)
                  have hg9 := grown_trans (grown_setCell wx ⟨g9, 0, none⟩ (.bool y.rcv)) (grown_setCell (wx.setCell ⟨g9, 0, none⟩ (.bool y.rcv)) ⟨g9, 1, none⟩ (.slice (some ⟨gb, 0, none⟩) gg.length gg.length))
                  refine hK _ _ (.inr (smBelow bb)) ?_
                  replace h8 := Lib.hid (block_grown h8.out hg9 (fun e => n89 (Option.some.inj e)))
                  replace na := Lib.hid (na.out.stores2 h9.out (by decide) (by decide) (.bool y.rcv) (.slice (some ⟨gb, 0, none⟩) gg.length gg.length))
                  replace nb := Lib.hid (nb.out.stores2 h9.out (by decide) (by decide) (.bool y.rcv) (.slice (some ⟨gb, 0, none⟩) gg.length gg.length))
                  replace h9 : Hid (((wx.setCell ⟨g9, 0, none⟩ (.bool y.rcv)).setCell ⟨g9, 1, none⟩ (.slice (some ⟨gb, 0, none⟩) gg.length gg.length)).heap[g9]? = _) := set2 h9.out (.bool y.rcv) (.slice (some ⟨gb, 0, none⟩) gg.length gg.length)
                  replace hW := hW.trans bb
                  clear hK K bb hg9 d0 d1 f0 f1
                  refine doneT (by kernel_rfl) ?_
                  exact ⟨g8, g9, ga, gb, _, _, _, _, _, _, _, _, rfl, hW, h8.out, h9.out, na.out, nb.out, lh8, lh9⟩
              · clear hi
                refine ⟨_, rfl, by rfl, ?_⟩
                intro K hK
                go_simp
                have bb := (Below.refl v1.heap.size v1).alloc (Nat.le_refl _) (.cells #[.bool false, .slice none 0 0] 28)
                refine hK _ _ (.inr (smB hW.size bb)) ?_
                have h8 := Lib.hid (heap_alloc_new v1 (.cells #[.bool false, .slice none 0 0] 28))
                have lh8 := hW.size
                replace h3 := Lib.hid ((h3.out.below bb).more bb.size)
                replace hW := hW.trans (bb.mono hW.size)
                clear hK K bb
                try simp only [Act.put, List.setIfInBounds_toArray, List.set_cons_zero, List.set_cons_succ]
                generalize v1.alloc (.cells #[.bool false, .slice none 0 0] 28) = v7 at hW h3 h8 ⊢
                generalize v1.heap.size = g8 at h8 lh8 ⊢
                refine stepTA [4, 9] (by decide +kernel) (by decide) ?_
                intro i hi
                rcases (by simpa using hi : i = 4 ∨ i = 9) with rfl | rfl
                · clear hi
                  refine ⟨_, rfl, by rfl, ?_⟩
                  intro K hK
                  go_simp
                  refine (KR.out v7 _ _ _ _ _ _ (R1.out.below hW |>.more hW.size) (R2.out.below hW |>.more hW.size) h3.out).mono ?_
                  rintro e v8 ⟨ga, gb, rfl, na, nb, bb⟩
                  replace na := Lib.hid (na.mono (base' := Wq.heap.size) hW.size)
                  replace nb := Lib.hid (nb.mono (base' := Wq.heap.size) hW.size)
                  refine hK _ _ (.inr (smB hW.size bb)) ?_
                  replace h3 := Lib.hid ((h3.out.below bb).more bb.size)
                  replace h8 := Lib.hid ((bb.block _ (block_lt h8.out)).trans h8.out)
                  replace hW := hW.trans (bb.mono hW.size)
                  clear hK K bb
                  try simp only [Act.put, List.setIfInBounds_toArray, List.set_cons_zero, List.set_cons_succ]
                  ((first | (refine takeT 5 (v := ?_) rfl (by decide +kernel) (by decide +kernel) (by decide +kernel) (fun _ _ _ h => h) (by decide +kernel) (Or.inl ⟨by rfl, ?_⟩) ?_; rotate_left 1; (focus (intro W hW; have hcW := hW.at; (try dsimp only at hcW); go_simp; first | done | with_reducible rfl)); try simp only [Act.put, List.setIfInBounds_toArray, List.set_cons_zero, List.set_cons_succ]) | (refine takeW 5 (v := ?_) rfl (by decide +kernel) (by decide +kernel) (by decide +kernel) (fun _ _ _ h => h) (Or.inl ⟨by rfl, ?_⟩) ?_; rotate_left 1; (focus (intro W hW; go_simp; first | done | with_reducible rfl)); try simp only [Act.put, List.setIfInBounds_toArray, List.set_cons_zero, List.set_cons_succ]) | (refine takeW 5 rfl (by decide +kernel) (by decide +kernel) (by decide +kernel) (fun _ _ _ h => h) (Or.inr ⟨by rfl, rfl⟩) ?_; try simp only [Act.put, List.setIfInBounds_toArray, List.set_cons_zero, List.set_cons_succ]) | skip); (first | (refine takeT 6 (v := ?_) rfl (by decide +kernel) (by decide +kernel) (by decide +kernel) (fun _ _ _ h => h) (by decide +kernel) (Or.inl ⟨by rfl, ?_⟩) ?_; rotate_left 1; (focus (intro W hW; have hcW := hW.at; (try dsimp only at hcW); go_simp; first | done | with_reducible rfl)); try simp only [Act.put, List.setIfInBounds_toArray, List.set_cons_zero, List.set_cons_succ]) | (refine takeW 6 (v := ?_) rfl (by decide +kernel) (by decide +kernel) (by decide +kernel) (fun _ _ _ h => h) (Or.inl ⟨by rfl, ?_⟩) ?_; rotate_left 1; (focus (intro W hW; go_simp; first | done | with_reducible rfl)); try simp only [Act.put, List.setIfInBounds_toArray, List.set_cons_zero, List.set_cons_succ]) | (refine takeW 6 rfl (by decide +kernel) (by decide +kernel) (by decide +kernel) (fun _ _ _ h => h) (Or.inr ⟨by rfl, rfl⟩) ?_; try simp only [Act.put, List.setIfInBounds_toArray, List.set_cons_zero, List.set_cons_succ]) | skip); (first | (refine takeT 7 (v := ?_) rfl (by decide +kernel) (by decide +kernel) (by decide +kernel) (fun _ _ _ h => h) (by decide +kernel) (Or.inl ⟨by rfl, ?_⟩) ?_; rotate_left 1; (focus (intro W hW; have hcW := hW.at; (try dsimp only at hcW); go_simp; first | done | with_reducible rfl)); try simp only [Act.put, List.setIfInBounds_toArray, List.set_cons_zero, List.set_cons_succ]) | (refine takeW 7 (v := ?_) rfl (by decide +kernel) (by decide +kernel) (by decide +kernel) (fun _ _ _ h => h) (Or.inl ⟨by rfl, ?_⟩) ?_; rotate_left 1; (focus (intro W hW; go_simp; first | done | with_reducible rfl)); try simp only [Act.put, List.setIfInBounds_toArray, List.set_cons_zero, List.set_cons_succ]) | (refine takeW 7 rfl (by decide +kernel) (by decide +kernel) (by decide +kernel) (fun _ _ _ h => h) (Or.inr ⟨by rfl, rfl⟩) ?_; try simp only [Act.put, List.setIfInBounds_toArray, List.set_cons_zero, List.set_cons_succ]) | skip))
                  refine stepTA [9] (by decide +kernel) (by decide) ?_
                  intro i hi
                  obtain rfl : i = 9 := by simpa using hi
                  clear hi
                  refine ⟨_, rfl, by rfl, ?_⟩
                  intro K hK
                  go_simp
                  have bb := (Below.refl v8.heap.size v8).alloc (Nat.le_refl _) (.cells #[.bool false, .slice none 0 0] 39)
                  refine hK _ _ (.inr (smB hW.size bb)) ?_
                  have h9 := Lib.hid (heap_alloc_new v8 (.cells #[.bool false, .slice none 0 0] 39))
                  have lh9 := hW.size
                  replace h3 := Lib.hid ((h3.out.below bb).more bb.size)
                  replace h8 := Lib.hid ((bb.block _ (block_lt h8.out)).trans h8.out)
                  replace na := Lib.hid (na.out.below bb)
                  replace nb := Lib.hid (nb.out.below bb)
                  replace hW := hW.trans (bb.mono hW.size)
                  clear hK K bb
                  try simp only [Act.put, List.setIfInBounds_toArray, List.set_cons_zero, List.set_cons_succ]
                  generalize v8.alloc (.cells #[.bool false, .slice none 0 0] 39) = v9 at hW h3 h8 na nb h9 ⊢
                  generalize v8.heap.size = g9 at h9 lh9 ⊢
                  have n89 := block_ne h8.out h9.out (by decide)
                  have d0 := block_at h8.out (i := 0) (v := .bool false) rfl
                  have d1 := block_at h8.out (i := 1) (v := .slice none 0 0) rfl
                  have f0 := block_free h8.out 0
                  have f1 := block_free h8.out 1
                  refine stepT 10 rfl (by decide +kernel) (by rfl) ?_
                  intro K hK
                  go_simp
                  have bb : Below Wq.heap.size v9 ((v9.setCell ⟨g8, 0, none⟩ (.bool y.snd)).setCell ⟨g8, 1, none⟩ (.slice (some ⟨ga, 0, none⟩) gl.length gl.length)) := below2 (Below.refl _ _) lh8 (.bool y.snd) (.slice (some ⟨ga, 0, none⟩) gl.length gl.length)
                  have hg8 := grown_trans (grown_setCell v9 ⟨g8, 0, none⟩ (.bool y.snd)) (grown_setCell (v9.setCell ⟨g8, 0, none⟩ (.bool y.snd)) ⟨g8, 1, none⟩ (.slice (some ⟨ga, 0, none⟩) gl.length gl.length))
                  refine hK _ _ (.inr (smBelow bb)) ?_
                  replace h9 := Lib.hid (block_grown h9.out hg8 (fun e => n89 (Option.some.inj e).symm))
                  replace na := Lib.hid (na.out.stores2 h8.out (by decide) (by decide) (.bool y.snd) (.slice (some ⟨ga, 0, none⟩) gl.length gl.length))
                  replace nb := Lib.hid (nb.out.stores2 h8.out (by decide) (by decide) (.bool y.snd) (.slice (some ⟨ga, 0, none⟩) gl.length gl.length))
                  replace h8 : Hid (((v9.setCell ⟨g8, 0, none⟩ (.bool y.snd)).setCell ⟨g8, 1, none⟩ (.slice (some ⟨ga, 0, none⟩) gl.length gl.length)).heap[g8]? = _) := set2 h8.out (.bool y.snd) (.slice (some ⟨ga, 0, none⟩) gl.length gl.length)
                  replace hW := hW.trans bb
                  clear hK K bb hg8 d0 d1 f0 f1
                  try simp only [Act.put, List.setIfInBounds_toArray, List.set_cons_zero, List.set_cons_succ]
                  generalize ((v9.setCell ⟨g8, 0, none⟩ (.bool y.snd)).setCell ⟨g8, 1, none⟩ (.slice (some ⟨ga, 0, none⟩) gl.length gl.length)) = wx at h8 h9 na nb hW ⊢
                  have d0 := block_at h9.out (i := 0) (v := .bool false) rfl
                  have d1 := block_at h9.out (i := 1) (v := .slice none 0 0) rfl
                  have f0 := block_free h9.out 0
                  have f1 := block_free h9.out 1
                  refine stepT 11 rfl (by decide +kernel) (by rfl) ?_
                  intro K hK
                  go_simp
                  have bb : Below Wq.heap.size wx ((wx.setCell ⟨g9, 0, none⟩ (.bool y.rcv)).setCell ⟨g9, 1, none⟩ (.slice (some ⟨gb, 0, none⟩) gg.length gg.length)) := below2 (Below.refl _ _) lh9 (.bool y.rcv) (.slice (some ⟨gb, 0, none⟩) gg.length gg.length)
                  have hg9 := grown_trans (grown_setCell wx ⟨g9, 0, none⟩ (.bool y.rcv)) (grown_setCell (wx.setCell ⟨g9, 0, none⟩ (.bool y.rcv)) ⟨g9, 1, none⟩ (.slice (some ⟨gb, 0, none⟩) gg.length gg.length))
                  refine hK _ _ (.inr (smBelow bb)) ?_
                  replace h8 := Lib.hid (block_grown h8.out hg9 (fun e => n89 (Option.some.inj e)))
                  replace na := Lib.hid (na.out.stores2 h9.out (by decide) (by decide) (.bool y.rcv) (.slice (some ⟨gb, 0, none⟩) gg.length gg.length))
                  replace nb := Lib.hid (nb.out.stores2 h9.out (by decide) (by decide) (.bool y.rcv) (.slice (some ⟨gb, 0, none⟩) gg.length gg.length))
                  replace h9 : Hid (((wx.setCell ⟨g9, 0, none⟩ (.bool y.rcv)).setCell ⟨g9, 1, none⟩ (.slice (some ⟨gb, 0, none⟩) gg.length gg.length)).heap[g9]? = _) := set2 h9.out (.bool y.rcv) (.slice (some ⟨gb, 0, none⟩) gg.length gg.length)
                  replace hW := hW.trans bb
                  clear hK K bb hg9 d0 d1 f0 f1
                  refine doneT (by kernel_rfl) ?_
                  exact ⟨g8, g9, ga, gb, _, _, _, _, _, _, _, _, rfl, hW, h8.out, h9.out, na.out, nb.out, lh8, lh9⟩
                · clear hi
                  refine ⟨_, rfl, by rfl, ?_⟩
                  intro K hK
                  go_simp
                  have bb := (Below.refl v7.heap.size v7).alloc (Nat.le_refl _) (.cells #[.bool false, .slice none 0 0] 39)
                  refine hK _ _ (.inr (smB hW.size bb)) ?_
                  have h9 := Lib.hid (heap_alloc_new v7 (.cells #[.bool false, .slice none 0 0] 39))
                  have lh9 := hW.size
                  replace h3 := Lib.hid ((h3.out.below bb).more bb.size)
                  replace h8 := Lib.hid ((bb.block _ (block_lt h8.out)).trans h8.out)
                  replace hW := hW.trans (bb.mono hW.size)
                  clear hK K bb
                  try simp only [Act.put, List.setIfInBounds_toArray, List.set_cons_zero, List.set_cons_succ]
                  generalize v7.alloc (.cells #[.bool false, .slice none 0 0] 39) = v10 at hW h3 h8 h9 ⊢
                  generalize v7.heap.size = g9 at h9 lh9 ⊢
                  refine stepTA [4] (by decide +kernel) (by decide) ?_
                  intro i hi
                  obtain rfl : i = 4 := by simpa using hi
                  clear hi
                  refine ⟨_, rfl, by rfl, ?_⟩
                  intro K hK
                  go_simp
                  refine (KR.out v10 _ _ _ _ _ _ (R1.out.below hW |>.more hW.size) (R2.out.below hW |>.more hW.size) h3.out).mono ?_
                  rintro e v11 ⟨ga, gb, rfl, na, nb, bb⟩
                  replace na := Lib.hid (na.mono (base' := Wq.heap.size) hW.size)
                  replace nb := Lib.hid (nb.mono (base' := Wq.heap.size) hW.size)
                  refine hK _ _ (.inr (smB hW.size bb)) ?_
                  replace h3 := Lib.hid ((h3.out.below bb).more bb.size)
                  replace h8 := Lib.hid ((bb.block _ (block_lt h8.out)).trans h8.out)
                  replace h9 := Lib.hid ((bb.block _ (block_lt h9.out)).trans h9.out)
                  replace hW := hW.trans (bb.mono hW.size)
                  clear hK K bb
                  try simp only [Act.put, List.setIfInBounds_toArray, List.set_cons_zero, List.set_cons_succ]
                  ((first | (refine takeT 5 (v := ?_) rfl (by decide +kernel) (by decide +kernel) (by decide +kernel) (fun _ _ _ h => h) (by decide +kernel) (Or.inl ⟨by rfl, ?_⟩) ?_; rotate_left 1; (focus (intro W hW; have hcW := hW.at; (try dsimp only at hcW); go_simp; first | done | with_reducible rfl)); try simp only [Act.put, List.setIfInBounds_toArray, List.set_cons_zero, List.set_cons_succ]) | (refine takeW 5 (v := ?_) rfl (by decide +kernel) (by decide +kernel) (by decide +kernel) (fun _ _ _ h => h) (Or.inl ⟨by rfl, ?_⟩) ?_; rotate_left 1; (focus (intro W hW; go_simp; first | done | with_reducible rfl)); try simp only [Act.put, List.setIfInBounds_toArray, List.set_cons_zero, List.set_cons_succ]) | (refine takeW 5 rfl (by decide +kernel) (by decide +kernel) (by decide +kernel) (fun _ _ _ h => h) (Or.inr ⟨by rfl, rfl⟩) ?_; try simp only [Act.put, List.setIfInBounds_toArray, List.set_cons_zero, List.set_cons_succ]) | skip); (first | (refine takeT 6 (v := ?_) rfl (by decide +kernel) (by decide +kernel) (by decide +kernel) (fun _ _ _ h => h) (by decide +kernel) (Or.inl ⟨by rfl, ?_⟩) ?_; rotate_left 1; (focus (intro W hW; have hcW := hW.at; (try dsimp only at hcW); go_simp; first | done | with_reducible rfl)); try simp only [Act.put, List.setIfInBounds_toArray, List.set_cons_zero, List.set_cons_succ]) | (refine takeW 6 (v := ?_) rfl (by decide +kernel) (by decide +kernel) (by decide +kernel) (fun _ _ _ h => h) (Or.inl ⟨by rfl, ?_⟩) ?_; rotate_left 1; (focus (intro W hW; go_simp; first | done | with_reducible rfl)); try simp only [Act.put, List.setIfInBounds_toArray, List.set_cons_zero, List.set_cons_succ]) | (refine takeW 6 rfl (by decide +kernel) (by decide +kernel) (by decide +kernel) (fun _ _ _ h => h) (Or.inr ⟨by rfl, rfl⟩) ?_; try simp only [Act.put, List.setIfInBounds_toArray, List.set_cons_zero, List.set_cons_succ]) | skip); (first | (refine takeT 7 (v := ?_) rfl (by decide +kernel) (by decide +kernel) (by decide +kernel) (fun _ _ _ h => h) (by decide +kernel) (Or.inl ⟨by rfl, ?_⟩) ?_; rotate_left 1; (focus (intro W hW; have hcW := hW.at; (try dsimp only at hcW); go_simp; first | done | with_reducible rfl)); try simp only [Act.put, List.setIfInBounds_toArray, List.set_cons_zero, List.set_cons_succ]) | (refine takeW 7 (v := ?_) rfl (by decide +kernel) (by decide +kernel) (by decide +kernel) (fun _ _ _ h => h) (Or.inl ⟨by rfl, ?_⟩) ?_; rotate_left 1; (focus (intro W hW; go_simp; first | done | with_reducible rfl)); try simp only [Act.put, List.setIfInBounds_toArray, List.set_cons_zero, List.set_cons_succ]) | (refine takeW 7 rfl (by decide +kernel) (by decide +kernel) (by decide +kernel) (fun _ _ _ h => h) (Or.inr ⟨by rfl, rfl⟩) ?_; try simp only [Act.put, List.setIfInBounds_toArray, List.set_cons_zero, List.set_cons_succ]) | skip))
                  have n89 := block_ne h8.out h9.out (by decide)
                  have d0 := block_at h8.out (i := 0) (v := .bool false) rfl
                  have d1 := block_at h8.out (i := 1) (v := .slice none 0 0) rfl
                  have f0 := block_free h8.out 0
                  have f1 := block_free h8.out 1
                  refine stepT 10 rfl (by decide +kernel) (by rfl) ?_
                  intro K hK
                  go_simp
                  have bb : Below Wq.heap.size v11 ((v11.setCell ⟨g8, 0, none⟩ (.bool y.snd)).setCell ⟨g8, 1, none⟩ (.slice (some ⟨ga, 0, none⟩) gl.length gl.length)) := below2 (Below.refl _ _) lh8 (.bool y.snd) (.slice (some ⟨ga, 0, none⟩) gl.length gl.length)
                  have hg8 := grown_trans (grown_setCell v11 ⟨g8, 0, none⟩ (.bool y.snd)) (grown_setCell (v11.setCell ⟨g8, 0, none⟩ (.bool y.snd)) ⟨g8, 1, none⟩ (.slice (some ⟨ga, 0, none⟩) gl.length gl.length))
                  refine hK _ _ (.inr (smBelow bb)) ?_
                  replace h9 := Lib.hid (block_grown h9.out hg8 (fun e => n89 (Option.some.inj e).symm))
                  replace na := Lib.hid (na.out.stores2 h8.out (by decide) (by decide) (.bool y.snd) (.slice (some ⟨ga, 0, none⟩) gl.length gl.length))
                  replace nb := Lib.hid (nb.out.stores2 h8.out (by decide) (by decide) (.bool y.snd) (.slice (some ⟨ga, 0, none⟩) gl.length gl.length))
                  replace h8 : Hid (((v11.setCell ⟨g8, 0, none⟩ (.bool y.snd)).setCell ⟨g8, 1, none⟩ (.slice (some ⟨ga, 0, none⟩) gl.length gl.length)).heap[g8]? = _) := set2 h8.out (.bool y.snd) (.slice (some ⟨ga, 0, none⟩) gl.length gl.length)
                  replace hW := hW.trans bb
                  clear hK K bb hg8 d0 d1 f0 f1
                  try simp only [Act.put, List.setIfInBounds_toArray, List.set_cons_zero, List.set_cons_succ]
                  generalize ((v11.setCell ⟨g8, 0, none⟩ (.bool y.snd)).setCell ⟨g8, 1, none⟩ (.slice (some ⟨ga, 0, none⟩) gl.length gl.length)) = wx at h8 h9 na nb hW ⊢
                  have d0 := block_at h9.out (i := 0) (v := .bool false) rfl
                  have d1 := block_at h9.out (i := 1) (v := .slice none 0 0) rfl
                  have f0 := block_free h9.out 0
                  have f1 := block_free h9.out 1
                  refine stepT 11 rfl (by decide +kernel) (by rfl) ?_
                  intro K hK
                  go_simp
                  have bb : Below Wq.heap.size wx ((wx.setCell ⟨g9, 0, none⟩ (.bool y.rcv)).setCell ⟨g9, 1, none⟩ (.slice (some ⟨gb, 0, none⟩) gg.length gg.length)) := below2 (Below.refl _ _) lh9 (.bool y.rcv) (.slice (some ⟨gb, 0, none⟩) gg.length gg.length)
                  have hg9 := grown_trans (grown_setCell wx ⟨g9, 0, none⟩ (.bool y.rcv)) (grown_setCell (wx.setCell ⟨g9, 0, none⟩ (.bool y.rcv)) ⟨g9, 1, none⟩ (.slice (some ⟨gb, 0, none⟩) gg.length gg.length))
                  refine hK _ _ (.inr (smBelow bb)) ?_
                  replace h8 := Lib.hid (block_grown h8.out hg9 (fun e => n89 (Option.some.inj e)))
                  replace na := Lib.hid (na.out.stores2 h9.out (by decide) (by decide) (.bool y.rcv) (.slice (some ⟨gb, 0, none⟩) gg.length gg.length))
                  replace nb := Lib.hid (nb.out.stores2 h9.out (by decide) (by decide) (.bool y.rcv) (.slice (some ⟨gb, 0, none⟩) gg.length gg.length))
                  replace h9 : Hid (((wx.setCell ⟨g9, 0, none⟩ (.bool y.rcv)).setCell ⟨g9, 1, none⟩ (.slice (some ⟨gb, 0, none⟩) gg.length gg.length)).heap[g9]? = _) := set2 h9.out (.bool y.rcv) (.slice (some ⟨gb, 0, none⟩) gg.length gg.length)
                  replace hW := hW.trans bb
                  clear hK K bb hg9 d0 d1 f0 f1
                  refine doneT (by kernel_rfl) ?_
                  exact ⟨g8, g9, ga, gb, _, _, _, _, _, _, _, _, rfl, hW, h8.out, h9.out, na.out, nb.out, lh8, lh9⟩
              · clear hi
                refine ⟨_, rfl, by rfl, ?_⟩
                intro K hK
                go_simp
                have bb := (Below.refl v1.heap.size v1).alloc (Nat.le_refl _) (.cells #[.bool false, .slice none 0 0] 39)
                refine hK _ _ (.inr (smB hW.size bb)) ?_
                have h9 := Lib.hid (heap_alloc_new v1 (.cells #[.bool false, .slice none 0 0] 39))
                have lh9 := hW.size
                replace h3 := Lib.hid ((h3.out.below bb).more bb.size)
                replace hW := hW.trans (bb.mono hW.size)
                clear hK K bb
                try simp only [Act.put, List.setIfInBounds_toArray, List.set_cons_zero, List.set_cons_succ]
                generalize v1.alloc (.cells #[.bool false, .slice none 0 0] 39) = v12 at hW h3 h9 ⊢
                generalize v1.heap.size = g9 at h9 lh9 ⊢
                refine stepTA [4, 8] (by decide +kernel) (by decide) ?_
                intro i hi
                rcases (by simpa using hi : i = 4 ∨ i = 8) with rfl | rfl
                · clear hi
                  refine ⟨_, rfl, by rfl, ?_⟩
                  intro K hK
                  go_simp
                  refine (KR.out v12 _ _ _ _ _ _ (R1.out.below hW |>.more hW.size) (R2.out.below hW |>.more hW.size) h3.out).mono ?_
                  rintro e v13 ⟨ga, gb, rfl, na, nb, bb⟩
                  replace na := Lib.hid (na.mono (base' := Wq.heap.size) hW.size)
                  replace nb := Lib.hid (nb.mono (base' := Wq.heap.size) hW.size)
                  refine hK _ _ (.inr (smB hW.size bb)) ?_
                  replace h3 := Lib.hid ((h3.out.below bb).more bb.size)
                  replace h9 := Lib.hid ((bb.block _ (block_lt h9.out)).trans h9.out)
                  replace hW := hW.trans (bb.mono hW.size)
                  clear hK K bb
                  try simp only [Act.put, List.setIfInBounds_toArray, List.set_cons_zero, List.set_cons_succ]
                  ((first | (refine takeT 5 (v := ?_) rfl (by decide +kernel) (by decide +kernel) (by decide +kernel) (fun _ _ _ h => h) (by decide +kernel) (Or.inl ⟨by rfl, ?_⟩) ?_; rotate_left 1; (focus (intro W hW; have hcW := hW.at; (try dsimp only at hcW); go_simp; first | done | with_reducible rfl)); try simp only [Act.put, List.setIfInBounds_toArray, List.set_cons_zero, List.set_cons_succ]) | (refine takeW 5 (v := ?_) rfl (by decide +kernel) (by decide +kernel) (by decide +kernel) (fun _ _ _ h => h) (Or.inl ⟨by rfl, ?_⟩) ?_; rotate_left 1; (focus (intro W hW; go_simp; first | done | with_reducible rfl)); try simp only [Act.put, List.setIfInBounds_toArray, List.set_cons_zero, List.set_cons_succ]) | (refine takeW 5 rfl (by decide +kernel) (by decide +kernel) (by decide +kernel) (fun _ _ _ h => h) (Or.inr ⟨by rfl, rfl⟩) ?_; try simp only [Act.put, List.setIfInBounds_toArray, List.set_cons_zero, List.set_cons_succ]) | skip); (first | (refine takeT 6 (v := ?_) rfl (by decide +kernel) (by decide +kernel) (by decide +kernel) (fun _ _ _ h => h) (by decide +kernel) (Or.inl ⟨by rfl, ?_⟩) ?_; rotate_left 1; (focus (intro W hW; have hcW := hW.at; (try dsimp only at hcW); go_simp; first | done | with_reducible rfl)); try simp only [Act.put, List.setIfInBounds_toArray, List.set_cons_zero, List.set_cons_succ]) | (refine takeW 6 (v := ?_) rfl (by decide +kernel) (by decide +kernel) (by decide +kernel) (fun _ _ _ h => h) (Or.inl ⟨by rfl, ?_⟩) ?_; rotate_left 1; (focus (intro W hW; go_simp; first | done | with_reducible rfl)); try simp only [Act.put, List.setIfInBounds_toArray, List.set_cons_zero, List.set_cons_succ]) | (refine takeW 6 rfl (by decide +kernel) (by decide +kernel) (by decide +kernel) (fun _ _ _ h => h) (Or.inr ⟨by rfl, rfl⟩) ?_; try simp only [Act.put, List.setIfInBounds_toArray, List.set_cons_zero, List.set_cons_succ]) | skip); (first | (refine takeT 7 (v := ?_) rfl (by decide +kernel) (by decide +kernel) (by decide +kernel) (fun _ _ _ h => h) (by decide +kernel) (Or.inl ⟨by rfl, ?_⟩) ?_; rotate_left 1; (focus (intro W hW; have hcW := hW.at; (try dsimp only at hcW); go_simp; first | done | with_reducible rfl)); try simp only [Act.put, List.setIfInBounds_toArray, List.set_cons_zero, List.set_cons_succ]) | (refine takeW 7 (v := ?_) rfl (by decide +kernel) (by decide +kernel) (by decide +kernel) (fun _ _ _ h => h) (Or.inl ⟨by rfl, ?_⟩) ?_; rotate_left 1; (focus (intro W hW; go_simp; first | done | with_reducible rfl)); try simp only [Act.put, List.setIfInBounds_toArray, List.set_cons_zero, List.set_cons_succ]) | (refine takeW 7 rfl (by decide +kernel) (by decide +kernel) (by decide +kernel) (fun _ _ _ h => h) (Or.inr ⟨by rfl, rfl⟩) ?_; try simp only [Act.put, List.setIfInBounds_toArray, List.set_cons_zero, List.set_cons_succ]) | skip))
                  refine stepTA [8] (by decide +kernel) (by decide) ?_
                  intro i hi
                  obtain rfl : i = 8 := by simpa using hi
                  clear hi
                  refine ⟨_, rfl, by rfl, ?_⟩
                  intro K hK
                  go_simp
                  have bb := (Below.refl v13.heap.size v13).alloc (Nat.le_refl _) (.cells #[.bool false, .slice none 0 0] 28)
                  refine hK _ _ (.inr (smB hW.size bb)) ?_
                  have h8 := Lib.hid (heap_alloc_new v13 (.cells #[.bool false, .slice none 0 0] 28))
                  have lh8 := hW.size
                  replace h3 := Lib.hid ((h3.out.below bb).more bb.size)
                  replace h9 := Lib.hid ((bb.block _ (block_lt h9.out)).trans h9.out)
                  replace na := Lib.hid (na.out.below bb)
                  replace nb := Lib.hid (nb.out.below bb)
                  replace hW := hW.trans (bb.mono hW.size)
                  clear hK K bb
                  try simp only [Act.put, List.setIfInBounds_toArray, List.set_cons_zero, List.set_cons_succ]
                  generalize v13.alloc (.cells #[.bool false, .slice none 0 0] 28) = v14 at hW h3 h9 na nb h8 ⊢
                  generalize v13.heap.size = g8 at h8 lh8 ⊢
                  have n89 := block_ne h8.out h9.out (by decide)
                  have d0 := block_at h8.out (i := 0) (v := .bool false) rfl
                  have d1 := block_at h8.out (i := 1) (v := .slice none 0 0) rfl
                  have f0 := block_free h8.out 0
                  have f1 := block_free h8.out 1
                  refine stepT 10 rfl (by decide +kernel) (by rfl) ?_
                  intro K hK
                  go_simp
                  have bb : Below Wq.heap.size v14 ((v14.setCell ⟨g8, 0, none⟩ (.bool y.snd)).setCell ⟨g8, 1, none⟩ (.slice (some ⟨ga, 0, none⟩) gl.length gl.length)) := below2 (Below.refl _ _) lh8 (.bool y.snd) (.slice (some ⟨ga, 0, none⟩) gl.length gl.length)
                  have hg8 := grown_trans (grown_setCell v14 ⟨g8, 0, none⟩ (.bool y.snd)) (grown_setCell (v14.setCell ⟨g8, 0, none⟩ (.bool y.snd)) ⟨g8, 1, none⟩ (.slice (some ⟨ga, 0, none⟩) gl.length gl.length))
                  refine hK _ _ (.inr (smBelow bb)) ?_
                  replace h9 := Lib.hid (block_grown h9.out hg8 (fun e => n89 (Option.some.inj e).symm))
                  replace na := Lib.hid (na.out.stores2 h8.out (by decide) (by decide) (.bool y.snd) (.slice (some ⟨ga, 0, none⟩) gl.length gl.length))
                  replace nb := Lib.hid (nb.out.stores2 h8.out (by decide) (by decide) (.bool y.snd) (.slice (some ⟨ga, 0, none⟩) gl.length gl.length))
                  replace h8 : Hid (((v14.setCell ⟨g8, 0, none⟩ (.bool y.snd)).setCell ⟨g8, 1, none⟩ (.slice (some ⟨ga, 0, none⟩) gl.length gl.length)).heap[g8]? = _) := set2 h8.out (.bool y.snd) (.slice (some ⟨ga, 0, none⟩) gl.length gl.length)
                  replace hW := hW.trans bb
                  clear hK K bb hg8 d0 d1 f0 f1
                  try simp only [Act.put, List.setIfInBounds_toArray, List.set_cons_zero, List.set_cons_succ]
                  generalize ((v14.setCell ⟨g8, 0, none⟩ (.bool y.snd)).setCell ⟨g8, 1, none⟩ (.slice (some ⟨ga, 0, none⟩) gl.length gl.length)) = wx at h8 h9 na nb hW ⊢
                  have d0 := block_at h9.out (i := 0) (v := .bool false) rfl
                  have d1 := block_at h9.out (i := 1) (v := .slice none 0 0) rfl
                  have f0 := block_free h9.out 0
                  have f1 := block_free h9.out 1
                  refine stepT 11 rfl (by decide +kernel) (by rfl) ?_
                  intro K hK
                  go_simp
                  have bb : Below Wq.heap.size wx ((wx.setCell ⟨g9, 0, none⟩ (.bool y.rcv)).setCell ⟨g9, 1, none⟩ (.slice (some ⟨gb, 0, none⟩) gg.length gg.length)) := below2 (Below.refl _ _) lh9 (.bool y.rcv) (.slice (some ⟨gb, 0, none⟩) gg.length gg.length)
                  have hg9 := grown_trans (grown_setCell wx ⟨g9, 0, none⟩ (.bool y.rcv)) (grown_setCell (wx.setCell ⟨g9, 0, none⟩ (.bool y.rcv)) ⟨g9, 1, none⟩ (.slice (some ⟨gb, 0, none⟩) gg.length gg.length))
                  refine hK _ _ (.inr (smBelow bb)) ?_
                  replace h8 := Lib.hid (block_grown h8.out hg9 (fun e => n89 (Option.some.inj e)))
                  replace na := Lib.hid (na.out.stores2 h9.out (by decide) (by decide) (.bool y.rcv) (.slice (some ⟨gb, 0, none⟩) gg.length gg.length))
                  replace nb := Lib.hid (nb.out.stores2 h9.out (by decide) (by decide) (.bool y.rcv) (.slice (some ⟨gb, 0, none⟩) gg.length gg.length))
                  replace h9 : Hid (((wx.setCell ⟨g9, 0, none⟩ (.bool y.rcv)).setCell ⟨g9, 1, none⟩ (.slice (some ⟨gb, 0, none⟩) gg.length gg.length)).heap[g9]? = _) := set2 h9.out (.bool y.rcv) (.slice (some ⟨gb, 0, none⟩) gg.length gg.length)
                  replace hW := hW.trans bb
                  clear hK K bb hg9 d0 d1 f0 f1
                  refine doneT (by kernel_rfl) ?_
                  exact ⟨g8, g9, ga, gb, _, _, _, _, _, _, _, _, rfl, hW, h8.out, h9.out, na.out, nb.out, lh8, lh9⟩
                · clear hi
                  refine ⟨_, rfl, by rfl, ?_⟩
                  intro K hK
                  go_simp
                  have bb := (Below.refl v12.heap.size v12).alloc (Nat.le_refl _) (.cells #[.bool false, .slice none 0 0] 28)
                  refine hK _ _ (.inr (smB hW.size bb)) ?_
                  have h8 := Lib.hid (heap_alloc_new v12 (.cells #[.bool false, .slice none 0 0] 28))
                  have lh8 := hW.size
                  replace h3 := Lib.hid ((h3.out.below bb).more bb.size)
                  replace h9 := Lib.hid ((bb.block _ (block_lt h9.out)).trans h9.out)
                  replace hW := hW.trans (bb.mono hW.size)
                  clear hK K bb
                  try simp only [Act.put, List.setIfInBounds_toArray, List.set_cons_zero, List.set_cons_succ]
                  generalize v12.alloc (.cells #[.bool false, .slice none 0 0] 28) = v15 at hW h3 h9 h8 ⊢
                  generalize v12.heap.size = g8 at h8 lh8 ⊢
                  refine stepTA [4] (by decide +kernel) (by decide) ?_
                  intro i hi
                  obtain rfl : i = 4 := by simpa using hi
                  clear hi
                  refine ⟨_, rfl, by rfl, ?_⟩
                  intro K hK
                  go_simp
                  refine (KR.out v15 _ _ _ _ _ _ (R1.out.below hW |>.more hW.size) (R2.out.below hW |>.more hW.size) h3.out).mono ?_
                  rintro e v16 ⟨ga, gb, rfl, na, nb, bb⟩
                  replace na := Lib.hid (na.mono (base' := Wq.heap.size) hW.size)
                  replace nb := Lib.hid (nb.mono (base' := Wq.heap.size) hW.size)
                  refine hK _ _ (.inr (smB hW.size bb)) ?_
                  replace h3 := Lib.hid ((h3.out.below bb).more bb.size)
                  replace h9 := Lib.hid ((bb.block _ (block_lt h9.out)).trans h9.out)
                  replace h8 := Lib.hid ((bb.block _ (block_lt h8.out)).trans h8.out)
                  replace hW := hW.trans (bb.mono hW.size)
                  clear hK K bb
                  try simp only [Act.put, List.setIfInBounds_toArray, List.set_cons_zero, List.set_cons_succ]
                  ((first | (refine takeT 5 (v := ?_) rfl (by decide +kernel) (by decide +kernel) (by decide +kernel) (fun _ _ _ h => h) (by decide +kernel) (Or.inl ⟨by rfl, ?_⟩) ?_; rotate_left 1; (focus (intro W hW; have hcW := hW.at; (try dsimp only at hcW); go_simp; first | done | with_reducible rfl)); try simp only [Act.put, List.setIfInBounds_toArray, List.set_cons_zero, List.set_cons_succ]) | (refine takeW 5 (v := ?_) rfl (by decide +kernel) (by decide +kernel) (by decide +kernel) (fun _ _ _ h => h) (Or.inl ⟨by rfl, ?_⟩) ?_; rotate_left 1; (focus (intro W hW; go_simp; first | done | with_reducible rfl)); try simp only [Act.put, List.setIfInBounds_toArray, List.set_cons_zero, List.set_cons_succ]) | (refine takeW 5 rfl (by decide +kernel) (by decide +kernel) (by decide +kernel) (fun _ _ _ h => h) (Or.inr ⟨by rfl, rfl⟩) ?_; try simp only [Act.put, List.setIfInBounds_toArray, List.set_cons_zero, List.set_cons_succ]) | skip); (first | (refine takeT 6 (v := ?_) rfl (by decide +kernel) (by decide +kernel) (by decide +kernel) (fun _ _ _ h => h) (by decide +kernel) (Or.inl ⟨by rfl, ?_⟩) ?_; rotate_left 1; (focus (intro W hW; have hcW := hW.at; (try dsimp only at hcW); go_simp; first | done | with_reducible rfl)); try simp only [Act.put, List.setIfInBounds_toArray, List.set_cons_zero, List.set_cons_succ]) | (refine takeW 6 (v := ?_) rfl (by decide +kernel) (by decide +kernel) (by decide +kernel) (fun _ _ _ h => h) (Or.inl ⟨by rfl, ?_⟩) ?_; rotate_left 1; (focus (intro W hW; go_simp; first | done | with_reducible rfl)); try simp only [Act.put, List.setIfInBounds_toArray, List.set_cons_zero, List.set_cons_succ]) | (refine takeW 6 rfl (by decide +kernel) (by decide +kernel) (by decide +kernel) (fun _ _ _ h => h) (Or.inr ⟨by rfl, rfl⟩) ?_; try simp only [Act.put, List.setIfInBounds_toArray, List.set_cons_zero, List.set_cons_succ]) | skip); (first | (refine takeT 7 (v := ?_) rfl (by decide +kernel) (by decide +kernel) (by decide +kernel) (fun _ _ _ h => h) (by decide +kernel) (Or.inl ⟨by rfl, ?_⟩) ?_; rotate_left 1; (focus (intro W hW; have hcW := hW.at; (try dsimp only at hcW); go_simp; first | done | with_reducible rfl)); try simp only [Act.put, List.setIfInBounds_toArray, List.set_cons_zero, List.set_cons_succ]) | (refine takeW 7 (v := ?_) rfl (by decide +kernel) (by decide +kernel) (by decide +kernel) (fun _ _ _ h => h) (Or.inl ⟨by rfl, ?_⟩) ?_; rotate_left 1; (focus (intro W hW; go_simp; first | done | with_reducible rfl)); try simp only [Act.put, List.setIfInBounds_toArray, List.set_cons_zero, List.set_cons_succ]) | (refine takeW 7 rfl (by decide +kernel) (by decide +kernel) (by decide +kernel) (fun _ _ _ h => h) (Or.inr ⟨by rfl, rfl⟩) ?_; try simp only [Act.put, List.setIfInBounds_toArray, List.set_cons_zero, List.set_cons_succ]) | skip))
                  have n89 := block_ne h8.out h9.out (by decide)
                  have d0 := block_at h8.out (i := 0) (v := .bool false) rfl
                  have d1 := block_at h8.out (i := 1) (v := .slice none 0 0) rfl
                  have f0 := block_free h8.out 0
                  have f1 := block_free h8.out 1
                  refine stepT 10 rfl (by decide +kernel) (by rfl) ?_
                  intro K hK
                  go_simp
                  have bb : Below Wq.heap.size v16 ((v16.setCell ⟨g8, 0, none⟩ (.bool y.snd)).setCell ⟨g8, 1, none⟩ (.slice (some ⟨ga, 0, none⟩) gl.length gl.length)) := below2 (Below.refl _ _) lh8 (.bool y.snd) (.slice (some ⟨ga, 0, none⟩) gl.length gl.length)
                  have hg8 := grown_trans (grown_setCell v16 ⟨g8, 0, none⟩ (.bool y.snd)) (grown_setCell (v16.setCell ⟨g8, 0, none⟩ (.bool y.snd)) ⟨g8, 1, none⟩ (.slice (some ⟨ga, 0, none⟩) gl.length gl.length))
                  refine hK _ _ (.inr (smBelow bb)) ?_
                  replace h9 := Lib.hid (block_grown h9.out hg8 (fun e => n89 (Option.some.inj e).symm))
                  replace na := Lib.hid (na.out.stores2 h8.out (by decide) (by decide) (.bool y.snd) (.slice (some ⟨ga, 0, none⟩) gl.length gl.length))
                  replace nb := Lib.hid (nb.out.stores2 h8.out (by decide) (by decide) (.bool y.snd) (.slice (some ⟨ga, 0, none⟩) gl.length gl.length))
                  replace h8 : Hid (((v16.setCell ⟨g8, 0, none⟩ (.bool y.snd)).setCell ⟨g8, 1, none⟩ (.slice (some ⟨ga, 0, none⟩) gl.length gl.length)).heap[g8]? = _) := set2 h8.out (.bool y.snd) (.slice (some ⟨ga, 0, none⟩) gl.length gl.length)
                  replace hW := hW.trans bb
                  clear hK K bb hg8 d0 d1 f0 f1
                  try simp only [Act.put, List.setIfInBounds_toArray, List.set_cons_zero, List.set_cons_succ]
                  generalize ((v16.setCell ⟨g8, 0, none⟩ (.bool y.snd)).setCell ⟨g8, 1, none⟩ (.slice (some ⟨ga, 0, none⟩) gl.length gl.length)) = wx at h8 h9 na nb hW ⊢
                  have d0 := block_at h9.out (i := 0) (v := .bool false) rfl
                  have d1 := block_at h9.out (i := 1) (v := .slice none 0 0) rfl
                  have f0 := block_free h9.out 0
                  have f1 := block_free h9.out 1
                  refine stepT 11 rfl (by decide +kernel) (by rfl) ?_
                  intro K hK
                  go_simp
                  have bb : Below Wq.heap.size wx ((wx.setCell ⟨g9, 0, none⟩ (.bool y.rcv)).setCell ⟨g9, 1, none⟩ (.slice (some ⟨gb, 0, none⟩) gg.length gg.length)) := below2 (Below.refl _ _) lh9 (.bool y.rcv) (.slice (some ⟨gb, 0, none⟩) gg.length gg.length)
                  have hg9 := grown_trans (grown_setCell wx ⟨g9, 0, none⟩ (.bool y.rcv)) (grown_setCell (wx.setCell ⟨g9, 0, none⟩ (.bool y.rcv)) ⟨g9, 1, none⟩ (.slice (some ⟨gb, 0, none⟩) gg.length gg.length))
                  refine hK _ _ (.inr (smBelow bb)) ?_
                  replace h8 := Lib.hid (block_grown h8.out hg9 (fun e => n89 (Option.some.inj e)))
                  replace na := Lib.hid (na.out.stores2 h9.out (by decide) (by decide) (.bool y.rcv) (.slice (some ⟨gb, 0, none⟩) gg.length gg.length))
                  replace nb := Lib.hid (nb.out.stores2 h9.out (by decide) (by decide) (.bool y.rcv) (.slice (some ⟨gb, 0, none⟩) gg.length gg.length))
                  replace h9 : Hid (((wx.setCell ⟨g9, 0, none⟩ (.bool y.rcv)).setCell ⟨g9, 1, none⟩ (.slice (some ⟨gb, 0, none⟩) gg.length gg.length)).heap[g9]? = _) := set2 h9.out (.bool y.rcv) (.slice (some ⟨gb, 0, none⟩) gg.length gg.length)
                  replace hW := hW.trans bb
                  clear hK K bb hg9 d0 d1 f0 f1
                  refine doneT (by kernel_rfl) ?_
                  exact ⟨g8, g9, ga, gb, _, _, _, _, _, _, _, _, rfl, hW, h8.out, h9.out, na.out, nb.out, lh8, lh9⟩
            · clear hi
              refine ⟨_, rfl, by rfl, ?_⟩
              intro K hK
              go_simp
              have bb := (Below.refl v0.heap.size v0).alloc (Nat.le_refl _) (.cells #[.bool false, .slice none 0 0] 28)
              refine hK _ _ (.inr (smB hW.size bb)) ?_
              have h8 := Lib.hid (heap_alloc_new v0 (.cells #[.bool false, .slice none 0 0] 28))
              have lh8 := hW.size
              replace hW := hW.trans (bb.mono hW.size)
              clear hK K bb
              try simp only [Act.put, List.setIfInBounds_toArray, List.set_cons_zero, List.set_cons_succ]
              generalize v0.alloc (.cells #[.bool false, .slice none 0 0] 28) = v17 at hW h8 ⊢
              generalize v0.heap.size = g8 at h8 lh8 ⊢
              refine stepTA [3, 9] (by decide +kernel) (by decide) ?_
              intro i hi
              rcases (by simpa using hi : i = 3 ∨ i = 9) with rfl | rfl
              · clear hi
                refine ⟨_, rfl, by rfl, ?_⟩
                intro K hK
                go_simp
                refine (KX.out v17 A2 c2 (H2.out.below hW |>.more hW.size)).mono ?_
                rintro e v18 ⟨A3, c3, rfl, h3, bb⟩
                replace h3 := Lib.hid h3
                refine hK _ _ (.inr (smB hW.size bb)) ?_
                replace h8 := Lib.hid ((bb.block _ (block_lt h8.out)).trans h8.out)
                replace hW := hW.trans (bb.mono hW.size)
                clear hK K bb
                try simp only [Act.put, List.setIfInBounds_toArray, List.set_cons_zero, List.set_cons_succ]
                refine stepTA [4, 9] (by decide +kernel) (by decide) ?_
                intro i hi
                rcases (by simpa using hi : i = 4 ∨ i = 9) with rfl | rfl
                · clear hi
                  refine ⟨_, rfl, by rfl, ?_⟩
                  intro K hK
                  go_simp
                  refine (KR.out v18 _ _ _ _ _ _ (R1.out.below hW |>.more hW.size) (R2.out.below hW |>.more hW.size) h3.out).mono ?_
                  rintro e v19 ⟨ga, gb, rfl, na, nb, bb⟩
                  replace na := Lib.hid (na.mono (base' := Wq.heap.size) hW.size)
                  replace nb := Lib.hid (nb.mono (base' := Wq.heap.size) hW.size)
                  refine hK _ _ (.inr (smB hW.size bb)) ?_
                  replace h8 := Lib.hid ((bb.block _ (block_lt h8.out)).trans h8.out)
                  replace h3 := Lib.hid ((h3.out.below bb).more bb.size)
                  replace hW := hW.trans (bb.mono hW.size)
                  clear hK K bb
                  try simp only [Act.put, List.setIfInBounds_toArray, List.set_cons_zero, List.set_cons_succ]
                  ((first | (refine takeT 5 (v := ?_) rfl (by decide +kernel) (by decide +kernel) (by decide +kernel) (fun _ _ _ h => h) (by decide +kernel) (Or.inl ⟨by rfl, ?_⟩) ?_; rotate_left 1; (focus (intro W hW; have hcW := hW.at; (try dsimp only at hcW); go_simp; first | done | with_reducible rfl)); try simp only [Act.put, List.setIfInBounds_toArray, List.set_cons_zero, List.set_cons_succ]) | (refine takeW 5 (v := ?_) rfl (by decide +kernel) (by decide +kernel) (by decide +kernel) (fun _ _ _ h => h) (Or.inl ⟨by rfl, ?_⟩) ?_; rotate_left 1; (focus (intro W hW; go_simp; first | done | with_reducible rfl)); try simp only [Act.put, List.setIfInBounds_toArray, List.set_cons_zero, List.set_cons_succ]) | (refine takeW 5 rfl (by decide +kernel) (by decide +kernel) (by decide +kernel) (fun _ _ _ h => h) (Or.inr ⟨by rfl, rfl⟩) ?_; try simp only [Act.put, List.setIfInBounds_toArray, List.set_cons_zero, List.set_cons_succ]) | skip); (first | (refine takeT 6 (v := ?_) rfl (by decide +kernel) (by decide +kernel) (by decide +kernel) (fun _ _ _ h => h) (by decide +kernel) (Or.inl ⟨by rfl, ?_⟩) ?_; rotate_left 1; (focus (intro W hW; have hcW := hW.at; (try dsimp only at hcW); go_simp; first | done | with_reducible rfl)); try simp only [Act.put, List.setIfInBounds_toArray, List.set_cons_zero, List.set_cons_succ]) | (refine takeW 6 (v := ?_) rfl (by decide +kernel) (by decide +kernel) (by decide +kernel) (fun _ _ _ h => h) (Or.inl ⟨by rfl, ?_⟩) ?_; rotate_left 1; (focus (intro W hW; go_simp; first | done | with_reducible rfl)); try simp only [Act.put, List.setIfInBounds_toArray, List.set_cons_zero, List.set_cons_succ]) | (refine takeW 6 rfl (by decide +kernel) (by decide +kernel) (by decide +kernel) (fun _ _ _ h => h) (Or.inr ⟨by rfl, rfl⟩) ?_; try simp only [Act.put, List.setIfInBounds_toArray, List.set_cons_zero, List.set_cons_succ]) | skip); (first | (refine takeT 7 (v := ?_) rfl (by decide +kernel) (by decide +kernel) (by decide +kernel) (fun _ _ _ h => h) (by decide +kernel) (Or.inl ⟨by rfl, ?_⟩) ?_; rotate_left 1; (focus (intro W hW; have hcW := hW.at; (try dsimp only at hcW); go_simp; first | done | with_reducible rfl)); try simp only [Act.put, List.setIfInBounds_toArray, List.set_cons_zero, List.set_cons_succ]) | (refine takeW 7 (v := ?_) rfl (by decide +kernel) (by decide +kernel) (by decide +kernel) (fun _ _ _ h => h) (Or.inl ⟨by rfl, ?_⟩) ?_; rotate_left 1; (focus (intro W hW; go_simp; first | done | with_reducible rfl)); try simp only [Act.put, List.setIfInBounds_toArray, List.set_cons_zero, List.set_cons_succ]) | (refine takeW 7 rfl (by decide +kernel) (by decide +kernel) (by decide +kernel) (fun _ _ _ h => h) (Or.inr ⟨by rfl, rfl⟩) ?_; try simp only [Act.put, List.setIfInBounds_toArray, List.set_cons_zero, List.set_cons_succ]) | skip))
                  refine stepTA [9] (by decide +kernel) (by decide) ?_
                  intro i hi
                  obtain rfl : i = 9 := by simpa using hi
                  clear hi
                  refine ⟨_, rfl, by rfl, ?_⟩
                  intro K hK
                  go_simp
                  have bb := (Below.refl v19.heap.size v19).alloc (Nat.le_refl _) (.cells #[.bool false, .slice none 0 0] 39)
                  refine hK _ _ (.inr (smB hW.size bb)) ?_
                  have h9 := Lib.hid (heap_alloc_new v19 (.cells #[.bool false, .slice none 0 0] 39))
                  have lh9 := hW.size
                  replace h8 := Lib.hid ((bb.block _ (block_lt h8.out)).trans h8.out)
                  replace h3 := Lib.hid ((h3.out.below bb).more bb.size)
                  replace na := Lib.hid (na.out.below bb)
                  replace nb := Lib.hid (nb.out.below bb)
                  replace hW := hW.trans (bb.mono hW.size)
                  clear hK K bb
                  try simp only [Act.put, List.setIfInBounds_toArray, List.set_cons_zero, List.set_cons_succ]
                  generalize v19.alloc (.cells #[.bool false, .slice none 0 0] 39) = v20 at hW h8 h3 na nb h9 ⊢
                  generalize v19.heap.size = g9 at h9 lh9 ⊢
                  have n89 := block_ne h8.out h9.out (by decide)
                  have d0 := block_at h8.out (i := 0) (v := .bool false) rfl
                  have d1 := block_at h8.out (i := 1) (v := .slice none 0 0) rfl
                  have f0 := block_free h8.out 0
                  have f1 := block_free h8.out 1
                  refine stepT 10 rfl (by decide +kernel) (by rfl) ?_
                  intro K hK
                  go_simp
                  have bb : Below Wq.heap.size v20 ((v20.setCell ⟨g8, 0, none⟩ (.bool y.snd)).setCell ⟨g8, 1, none⟩ (.slice (some ⟨ga, 0, none⟩) gl.length gl.length)) := below2 (Below.refl _ _) lh8 (.bool y.snd) (.slice (some ⟨ga, 0, none⟩) gl.length gl.length)
                  have hg8 := grown_trans (grown_setCell v20 ⟨g8, 0, none⟩ (.bool y.snd)) (grown_setCell (v20.setCell ⟨g8, 0, none⟩ (.bool y.snd)) ⟨g8, 1, none⟩ (.slice (some ⟨ga, 0, none⟩) gl.length gl.length))
                  refine hK _ _ (.inr (smBelow bb)) ?_
                  replace h9 := Lib.hid (block_grown h9.out hg8 (fun e => n89 (Option.some.inj e).symm))
                  replace na := Lib.hid (na.out.stores2 h8.out (by decide) (by decide) (.bool y.snd) (.slice (some ⟨ga, 0, none⟩) gl.length gl.length))
                  replace nb := Lib.hid (nb.out.stores2 h8.out (by decide) (by decide) (.bool y.snd) (.slice (some ⟨ga, 0, none⟩) gl.length gl.length))
                  replace h8 : Hid (((v20.setCell ⟨g8, 0, none⟩ (.bool y.snd)).setCell ⟨g8, 1, none⟩ (.slice (some ⟨ga, 0, none⟩) gl.length gl.length)).heap[g8]? = _) := set2 h8.out (.bool y.snd) (.slice (some ⟨ga, 0, none⟩) gl.length gl.length)
                  replace hW := hW.trans bb
                  clear hK K bb hg8 d0 d1 f0 f1
                  try simp only [Act.put, List.setIfInBounds_toArray, List.set_cons_zero, List.set_cons_succ]
                  generalize ((v20.setCell ⟨g8, 0, none⟩ (.bool y.snd)).setCell ⟨g8, 1, none⟩ (.slice (some ⟨ga, 0, none⟩) gl.length gl.length)) = wx at h8 h9 na nb hW ⊢
                  have d0 := block_at h9.out (i := 0) (v := .bool false) rfl
                  have d1 := block_at h9.out (i := 1) (v := .slice none 0 0) rfl
                  have f0 := block_free h9.out 0
                  have f1 := block_free h9.out 1
                  refine stepT 11 rfl (by decide +kernel) (by rfl) ?_
                  intro K hK
                  go_simp
                  have bb : Below Wq.heap.size wx ((wx.setCell ⟨g9, 0, none⟩ (.bool y.rcv)).setCell ⟨g9, 1, none⟩ (.slice (some ⟨gb, 0, none⟩) gg.length gg.length)) := below2 (Below.refl _ _) lh9 (.bool y.rcv) (.slice (some ⟨gb, 0, none⟩) gg.length gg.length)
                  have hg9 := grown_trans (grown_setCell wx ⟨g9, 0, none⟩ (.bool y.rcv)) (grown_setCell (wx.setCell ⟨g9, 0, none⟩ (.bool y.rcv)) ⟨g9, 1, none⟩ (.slice (some ⟨gb, 0, none⟩) gg.length gg.length))
                  refine hK _ _ (.inr (smBelow bb)) ?_
                  replace h8 := Lib.hid (block_grown h8.out hg9 (fun e => n89 (Option.some.inj e)))
                  replace na := Lib.hid (na.out.stores2 h9.out (by decide) (by decide) (.bool y.rcv) (.slice (some ⟨gb, 0, none⟩) gg.length gg.length))
                  replace nb := Lib.hid (nb.out.stores2 h9.out (by decide) (by decide) (.bool y.rcv) (.slice (some ⟨gb, 0, none⟩) gg.length gg.length))
                  replace h9 : Hid (((wx.setCell ⟨g9, 0, none⟩ (.bool y.rcv)).setCell ⟨g9, 1, none⟩ (.slice (some ⟨gb, 0, none⟩) gg.length gg.length)).heap[g9]? = _) := set2 h9.out (.bool y.rcv) (.slice (some ⟨gb, 0, none⟩) gg.length gg.length)
                  replace hW := hW.trans bb
                  clear hK K bb hg9 d0 d1 f0 f1
                  refine doneT (by kernel_rfl) ?_
                  exact ⟨g8, g9, ga, gb, _, _, _, _, _, _, _, _, rfl, hW, h8.out, h9.out, na.out, nb.out, lh8, lh9⟩
                · clear hi
                  refine ⟨_, rfl, by rfl, ?_⟩
                  intro K hK
                  go_simp
                  have bb := (Below.refl v18.heap.size v18).alloc (Nat.le_refl _) (.cells #[.bool false, .slice none 0 0] 39)
                  refine hK _ _ (.inr (smB hW.size bb)) ?_
                  have h9 := Lib.hid (heap_alloc_new v18 (.cells #[.bool false, .slice none 0 0] 39))
                  have lh9 := hW.size
                  replace h8 := Lib.hid ((bb.block _ (block_lt h8.out)).trans h8.out)
                  replace h3 := Lib.hid ((h3.out.below bb).more bb.size)
                  replace hW := hW.trans (bb.mono hW.size)
                  clear hK K bb
                  try simp only [Act.put, List.setIfInBounds_toArray, List.set_cons_zero, List.set_cons_succ]
                  generalize v18.alloc (.cells #[.bool false, .slice none 0 0] 39) = v21 at hW h8 h3 h9 ⊢
                  generalize v18.heap.size = g9 at h9 lh9 ⊢
                  refine stepTA [4] (by decide +kernel) (by decide) ?_
                  intro i hi
                  obtain rfl : i = 4 := by simpa using hi
                  clear hi
                  refine ⟨_, rfl, by rfl, ?_⟩
                  intro K hK
                  go_simp
                  refine (KR.out v21 _ _ _ _ _ _ (R1.out.below hW |>.more hW.size) (R2.out.below hW |>.more hW.size) h3.out).mono ?_
                  rintro e v22 ⟨ga, gb, rfl, na, nb, bb⟩
                  replace na := Lib.hid (na.mono (base' := Wq.heap.size) hW.size)
                  replace nb := Lib.hid (nb.mono (base' := Wq.heap.size) hW.size)
                  refine hK _ _ (.inr (smB hW.size bb)) ?_
                  replace h8 := Lib.hid ((bb.block _ (block_lt h8.out)).trans h8.out)
                  replace h3 := Lib.hid ((h3.out.below bb).more bb.size)
                  replace h9 := Lib.hid ((bb.block _ (block_lt h9.out)).trans h9.out)
                  replace hW := hW.trans (bb.mono hW.size)
                  clear hK K bb
                  try simp only [Act.put, List.setIfInBounds_toArray, List.set_cons_zero, List.set_cons_succ]
                  ((first | (refine takeT 5 (v := ?_) rfl (by decide +kernel) (by decide +kernel) (by decide +kernel) (fun _ _ _ h => h) (by decide +kernel) (Or.inl ⟨by rfl, ?_⟩) ?_; rotate_left 1; (focus (intro W hW; have hcW := hW.at; (try dsimp only at hcW); go_simp; first | done | with_reducible rfl)); try simp only [Act.put, List.setIfInBounds_toArray, List.set_cons_zero, List.set_cons_succ]) | (refine takeW 5 (v := ?_) rfl (by decide +kernel) (by decide +kernel) (by decide +kernel) (fun _ _ _ h => h) (Or.inl ⟨by rfl, ?_⟩) ?_; rotate_left 1; (focus (intro W hW; go_simp; first | done | with_reducible rfl)); try simp only [Act.put, List.setIfInBounds_toArray, List.set_cons_zero, List.set_cons_succ]) | (refine takeW 5 rfl (by decide +kernel) (by decide +kernel) (by decide +kernel) (fun _ _ _ h => h) (Or.inr ⟨by rfl, rfl⟩) ?_; try simp only [Act.put, List.setIfInBounds_toArray, List.set_cons_zero, List.set_cons_succ]) | skip); (first | (refine takeT 6 (v := ?_) rfl (by decide +kernel) (by decide +kernel) (by decide +kernel) (fun _ _ _ h => h) (by decide +kernel) (Or.inl ⟨by rfl, ?_⟩) ?_; rotate_left 1; (focus (intro W hW; have hcW := hW.at; (try dsimp only at hcW); go_simp; first | done | with_reducible rfl)); try simp only [Act.put, List.setIfInBounds_toArray, List.set_cons_zero, List.set_cons_succ]) | (refine takeW 6 (v := ?_) rfl (by decide +kernel) (by decide +kernel) (by decide +kernel) (fun _ _ _ h => h) (Or.inl ⟨by rfl, ?_⟩) ?_; rotate_left 1; (focus (intro W hW; go_simp; first | done | with_reducible rfl)); try simp only [Act.put, List.setIfInBounds_toArray, List.set_cons_zero, List.set_cons_succ]) | (refine takeW 6 rfl (by decide +kernel) (by decide +kernel) (by decide +kernel) (fun _ _ _ h => h) (Or.inr ⟨by rfl, rfl⟩) ?_; try simp only [Act.put, List.setIfInBounds_toArray, List.set_cons_zero, List.set_cons_succ]) | skip); (first | (refine takeT 7 (v := ?_) rfl (by decide +kernel) (by decide +kernel) (by decide +kernel) (fun _ _ _ h => h) (by decide +kernel) (Or.inl ⟨by rfl, ?_⟩) ?_; rotate_left 1; (focus (intro W hW; have hcW := hW.at; (try dsimp only at hcW); go_simp; first | done | with_reducible rfl)); try simp only [Act.put, List.setIfInBounds_toArray, List.set_cons_zero, List.set_cons_succ]) | (refine takeW 7 (v := ?_) rfl (by decide +kernel) (by decide +kernel) (by decide +kernel) (fun _ _ _ h => h) (Or.inl ⟨by rfl, ?_⟩) ?_; rotate_left 1; (focus (intro W hW; go_simp; first | done | with_reducible rfl)); try simp only [Act.put, List.setIfInBounds_toArray, List.set_cons_zero, List.set_cons_succ]) | (refine takeW 7 rfl (by decide +kernel) (by decide +kernel) (by decide +kernel) (fun _ _ _ h => h) (Or.inr ⟨by rfl, rfl⟩) ?_; try simp only [Act.put, List.setIfInBounds_toArray, List.set_cons_zero, List.set_cons_succ]) | skip))
                  have n89 := block_ne h8.out h9.out (by decide)
                  have d0 := block_at h8.out (i := 0) (v := .bool false) rfl
                  have d1 := block_at h8.out (i := 1) (v := .slice none 0 0) rfl
                  have f0 := block_free h8.out 0
                  have f1 := block_free h8.out 1
                  refine stepT 10 rfl (by decide +kernel) (by rfl) ?_
                  intro K hK
                  go_simp
                  have bb : Below Wq.heap.size v22 ((v22.setCell ⟨g8, 0, none⟩ (.bool y.snd)).setCell ⟨g8, 1, none⟩ (.slice (some ⟨ga, 0, none⟩) gl.length gl.length)) := below2 (Below.refl _ _) lh8 (.bool y.snd) (.slice (some ⟨ga, 0, none⟩) gl.length gl.length)
                  have hg8 := grown_trans (grown_setCell v22 ⟨g8, 0, none⟩ (.bool y.snd)) (grown_setCell (v22.setCell ⟨g8, 0, none⟩ (.bool y.snd)) ⟨g8, 1, none⟩ (.slice (some ⟨ga, 0, none⟩) gl.length gl.length))
                  refine hK _ _ (.inr (smBelow bb)) ?_
                  replace h9 := Lib.hid (block_grown h9.out hg8 (fun e => n89 (Option.some.inj e).symm))
                  replace na := Lib.hid (na.out.stores2 h8.out (by decide) (by decide) (.bool y.snd) (.slice (some ⟨ga, 0, none⟩) gl.length gl.length))
                  replace nb := Lib.hid (nb.out.stores2 h8.out (by decide) (by decide) (.bool y.snd) (.slice (some ⟨ga, 0, none⟩) gl.length gl.length))
                  replace h8 : Hid (((v22.setCell ⟨g8, 0, none⟩ (.bool y.snd)).setCell ⟨g8, 1, none⟩ (.slice (some ⟨ga, 0, none⟩) gl.length gl.length)).heap[g8]? = _) := set2 h8.out (.bool y.snd) (.slice (some ⟨ga, 0, none⟩) gl.length gl.length)
                  replace hW := hW.trans bb
                  clear hK K bb hg8 d0 d1 f0 f1
                  try simp only [Act.put, List.setIfInBounds_toArray, List.set_cons_zero, List.set_cons_succ]
                  generalize ((v22.setCell ⟨g8, 0, none⟩ (.bool y.snd)).setCell ⟨g8, 1, none⟩ (.slice (some ⟨ga, 0, none⟩) gl.length gl.length)) = wx at h8 h9 na nb hW ⊢
                  have d0 := block_at h9.out (i := 0) (v := .bool false) rfl
                  have d1 := block_at h9.out (i := 1) (v := .slice none 0 0) rfl
                  have f0 := block_free h9.out 0
                  have f1 := block_free h9.out 1
                  refine stepT 11 rfl (by decide +kernel) (by rfl) ?_
                  intro K hK
                  go_simp
                  have bb : Below Wq.heap.size wx ((wx.setCell ⟨g9, 0, none⟩ (.bool y.rcv)).setCell ⟨g9, 1, none⟩ (.slice (some ⟨gb, 0, none⟩) gg.length gg.length)) := below2 (Below.refl _ _) lh9 (.bool y.rcv) (.slice (some ⟨gb, 0, none⟩) gg.length gg.length)
                  have hg9 := grown_trans (grown_setCell wx ⟨g9, 0, none⟩ (.bool y.rcv)) (grown_setCell (wx.setCell ⟨g9, 0, none⟩ (.bool y.rcv)) ⟨g9, 1, none⟩ (.slice (some ⟨gb, 0, none⟩) gg.length gg.length))
                  refine hK _ _ (.inr (smBelow bb)) ?_
                  replace h8 := Lib.hid (block_grown h8.out hg9 (fun e => n89 (Option.some.inj e)))
                  replace na := Lib.hid (na.out.stores2 h9.out (by decide) (by decide) (.bool y.rcv) (.slice (some ⟨gb, 0, none⟩) gg.length gg.length))
                  replace nb := Lib.hid (nb.out.stores2 h9.out (by decide) (by decide) (.bool y.rcv) (.slice (some ⟨gb, 0, none⟩) gg.length gg.length))
                  replace h9 : Hid (((wx.setCell ⟨g9, 0, none⟩ (.bool y.rcv)).setCell ⟨g9, 1, none⟩ (.slice (some ⟨gb, 0, none⟩) gg.length gg.length)).heap[g9]? = _) := set2 h9.out (.bool y.rcv) (.slice (some ⟨gb, 0, none⟩) gg.length gg.length)
                  replace hW := hW.trans bb
                  clear hK K bb hg9 d0 d1 f0 f1
                  refine doneT (by kernel_rfl) ?_
                  exact ⟨g8, g9, ga, gb, _, _, _, _, _, _, _, _, rfl, hW, h8.out, h9.out, na.out, nb.out, lh8, lh9⟩
              · clear hi
                refine ⟨_, rfl, by rfl, ?_⟩
                intro K hK
                go_simp
                have bb := (Below.refl v17.heap.size v17).alloc (Nat.le_refl _) (.cells #[.bool false, .slice none 0 0] 39)
                refine hK _ _ (.inr (smB hW.size bb)) ?_
                have h9 := Lib.hid (heap_alloc_new v17 (.cells #[.bool false, .slice none 0 0] 39))
                have lh9 := hW.size
                replace h8 := Lib.hid ((bb.block _ (block_lt h8.out)).trans h8.out)
                replace hW := hW.trans (bb.mono hW.size)
                clear hK K bb
                try simp only [Act.put, List.setIfInBounds_toArray, List.set_cons_zero, List.set_cons_succ]
                generalize v17.alloc (.cells #[.bool false, .slice none 0 0] 39) = v23 at hW h8 h9 ⊢
                generalize v17.heap.size = g9 at h9 lh9 ⊢
                refine stepTA [3] (by decide +kernel) (by decide) ?_
                intro i hi
                obtain rfl : i = 3 := by simpa using hi
                clear hi
                refine ⟨_, rfl, by rfl, ?_⟩
                intro K hK
                go_simp
                refine (KX.out v23 A2 c2 (H2.out.below hW |>.more hW.size)).mono ?_
                rintro e v24 ⟨A3, c3, rfl, h3, bb⟩
                replace h3 := Lib.hid h3
                refine hK _ _ (.inr (smB hW.size bb)) ?_
                replace h8 := Lib.hid ((bb.block _ (block_lt h8.out)).trans h8.out)
                replace h9 := Lib.hid ((bb.block _ (block_lt h9.out)).trans h9.out)
                replace hW := hW.trans (bb.mono hW.size)
                clear hK K bb
                try simp only [Act.put, List.setIfInBounds_toArray, List.set_cons_zero, List.set_cons_succ]
                refine stepTA [4] (by decide +kernel) (by decide) ?_
                intro i hi
                obtain rfl : i = 4 := by simpa using hi
                clear hi
                refine ⟨_, rfl, by rfl, ?_⟩
                intro K hK
                go_simp
                refine (KR.out v24 _ _ _ _ _ _ (R1.out.below hW |>.more hW.size) (R2.out.below hW |>.more hW.size) h3.out).mono ?_
                rintro e v25 ⟨ga, gb, rfl, na, nb, bb⟩
                replace na := Lib.hid (na.mono (base' := Wq.heap.size) hW.size)
                replace nb := Lib.hid (nb.mono (base' := Wq.heap.size) hW.size)
                refine hK _ _ (.inr (smB hW.size bb)) ?_
                replace h8 := Lib.hid ((bb.block _ (block_lt h8.out)).trans h8.out)
                replace h9 := Lib.hid ((bb.block _ (block_lt h9.out)).trans h9.out)
                replace h3 := Lib.hid ((h3.out.below bb).more bb.size)
                replace hW := hW.trans (bb.mono hW.size)
                clear hK K bb
                try simp only [Act.put, List.setIfInBounds_toArray, List.set_cons_zero, List.set_cons_succ]
                ((first | (refine takeT 5 (v := ?_) rfl (by decide +kernel) (by decide +kernel) (by decide +kernel) (fun _ _ _ h => h) (by decide +kernel) (Or.inl ⟨by rfl, ?_⟩) ?_; rotate_left 1; (focus (intro W hW; have hcW := hW.at; (try dsimp only at hcW); go_simp; first | done | with_reducible rfl)); try simp only [Act.put, List.setIfInBounds_toArray, List.set_cons_zero, List.set_cons_succ]) | (refine takeW 5 (v := ?_) rfl (by decide +kernel) (by decide +kernel) (by decide +kernel) (fun _ _ _ h => h) (Or.inl ⟨by rfl, ?_⟩) ?_; rotate_left 1; (focus (intro W hW; go_simp; first | done | with_reducible rfl)); try simp only [Act.put, List.setIfInBounds_toArray, List.set_cons_zero, List.set_cons_succ]) | (refine takeW 5 rfl (by decide +kernel) (by decide +kernel) (by decide +kernel) (fun _ _ _ h => h) (Or.inr ⟨by rfl, rfl⟩) ?_; try simp only [Act.put, List.setIfInBounds_toArray, List.set_cons_zero, List.set_cons_succ]) | skip); (first | (refine takeT 6 (v := ?_) rfl (by decide +kernel) (by decide +kernel) (by decide +kernel) (fun _ _ _ h => h) (by decide +kernel) (Or.inl ⟨by rfl, ?_⟩) ?_; rotate_left 1; (focus (intro W hW; have hcW := hW.at; (try dsimp only at hcW); go_simp; first | done | with_reducible rfl)); try simp only [Act.put, List.setIfInBounds_toArray, List.set_cons_zero, List.set_cons_succ]) | (refine takeW 6 (v := ?_) rfl (by decide +kernel) (by decide +kernel) (by decide +kernel) (fun _ _ _ h => h) (Or.inl ⟨by rfl, ?_⟩) ?_; rotate_left 1; (focus (intro W hW; go_simp; first | done | with_reducible rfl)); try simp only [Act.put, List.setIfInBounds_toArray, List.set_cons_zero, List.set_cons_succ]) | (refine takeW 6 rfl (by decide +kernel) (by decide +kernel) (by decide +kernel) (fun _ _ _ h => h) (Or.inr ⟨by rfl, rfl⟩) ?_; try simp only [Act.put, List.setIfInBounds_toArray, List.set_cons_zero, List.set_cons_succ]) | skip); (first | (refine takeT 7 (v := ?_) rfl (by decide +kernel) (by decide +kernel) (by decide +kernel) (fun _ _ _ h => h) (by decide +kernel) (Or.inl ⟨by rfl, ?_⟩) ?_; rotate_left 1; (focus (intro W hW; have hcW := hW.at; (try dsimp only at hcW); go_simp; first | done | with_reducible rfl)); try simp only [Act.put, List.setIfInBounds_toArray, List.set_cons_zero, List.set_cons_succ]) | (refine takeW 7 (v := ?_) rfl (by decide +kernel) (by decide +kernel) (by decide +kernel) (fun _ _ _ h => h) (Or.inl ⟨by rfl, ?_⟩) ?_; rotate_left 1; (focus (intro W hW; go_simp; first | done | with_reducible rfl)); try simp only [Act.put, List.setIfInBounds_toArray, List.set_cons_zero, List.set_cons_succ]) | (refine takeW 7 rfl (by decide +kernel) (by decide +kernel) (by decide +kernel) (fun _ _ _ h => h) (Or.inr ⟨by rfl, rfl⟩) ?_; try simp only [Act.put, List.setIfInBounds_toArray, List.set_cons_zero, List.set_cons_succ]) | skip))
                have n89 := block_ne h8.out h9.out (by decide)
                have d0 := block_at h8.out (i := 0) (v := .bool false) rfl
                have d1 := block_at h8.out (i := 1) (v := .slice none 0 0) rfl
                have f0 := block_free h8.out 0
                have f1 := block_free h8.out 1
                refine stepT 10 rfl (by decide +kernel) (by rfl) ?_
                intro K hK
                go_simp
                have bb : Below Wq.heap.size v25 ((v25.setCell ⟨g8, 0, none⟩ (.bool y.snd)).setCell ⟨g8, 1, none⟩ (.slice (some ⟨ga, 0, none⟩) gl.length gl.length)) := below2 (Below.refl _ _) lh8 (.bool y.snd) (.slice (some ⟨ga, 0, none⟩) gl.length gl.length)
                have hg8 := grown_trans (grown_setCell v25 ⟨g8, 0, none⟩ (.bool y.snd)) (grown_setCell (v25.setCell ⟨g8, 0, none⟩ (.bool y.snd)) ⟨g8, 1, none⟩ (.slice (some ⟨ga, 0, none⟩) gl.length gl.length))
                refine hK _ _ (.inr (smBelow bb)) ?_
                replace h9 := Lib.hid (block_grown h9.out hg8 (fun e => n89 (Option.some.inj e).symm))
                replace na := Lib.hid (na.out.stores2 h8.out (by decide) (by decide) (.bool y.snd) (.slice (some ⟨ga, 0, none⟩) gl.length gl.length))
                replace nb := Lib.hid (nb.out.stores2 h8.out (by decide) (by decide) (.bool y.snd) (.slice (some ⟨ga, 0, none⟩) gl.length gl.length))
                replace h8 : Hid (((v25.setCell ⟨g8, 0, none⟩ (.bool y.snd)).setCell ⟨g8, 1, none⟩ (.slice (some ⟨ga, 0, none⟩) gl.length gl.length)).heap[g8]? = _) := set2 h8.out (.bool y.snd) (.slice (some ⟨ga, 0, none⟩) gl.length gl.length)
                replace hW := hW.trans bb
                clear hK K bb hg8 d0 d1 f0 f1
                try simp only [Act.put, List.setIfInBounds_toArray, List.set_cons_zero, List.set_cons_succ]
                generalize ((v25.setCell ⟨g8, 0, none⟩ (.bool y.snd)).setCell ⟨g8, 1, none⟩ (.slice (some ⟨ga, 0, none⟩) gl.length gl.length)) = wx at h8 h9 na nb hW ⊢
                have d0 := block_at h9.out (i := 0) (v := .bool false) rfl
                have d1 := block_at h9.out (i := 1) (v := .slice none 0 0) rfl
                have f0 := block_free h9.out 0
                have f1 := block_free h9.out 1
                refine stepT 11 rfl (by decide +kernel) (by rfl) ?_
                intro K hK
                go_simp
                have bb : Below Wq.heap.size wx ((wx.setCell ⟨g9, 0, none⟩ (.bool y.rcv)).setCell ⟨g9, 1, none⟩ (.slice (some ⟨gb, 0, none⟩) gg.length gg.length)) := below2 (Below.refl _ _) lh9 (.bool y.rcv) (.slice (some ⟨gb, 0, none⟩) gg.length gg.length)
                have hg9 := grown_trans (grown_setCell wx ⟨g9, 0, none⟩ (.bool y.rcv)) (grown_setCell (wx.setCell ⟨g9, 0, none⟩ (.bool y.rcv)) ⟨g9, 1, none⟩ (.slice (some ⟨gb, 0, none⟩) gg.length gg.length))
                refine hK _ _ (.inr (smBelow bb)) ?_
                replace h8 := Lib.hid (block_grown h8.out hg9 (fun e => n89 (Option.some.inj e)))
                replace na := Lib.hid (na.out.stores2 h9.out (by decide) (by decide) (.bool y.rcv) (.slice (some ⟨gb, 0, none⟩) gg.length gg.length))
                replace nb := Lib.hid (nb.out.stores2 h9.out (by decide) (by decide) (.bool y.rcv) (.slice (some ⟨gb, 0, none⟩) gg.length gg.length))
                replace h9 : Hid (((wx.setCell ⟨g9, 0, none⟩ (.bool y.rcv)).setCell ⟨g9, 1, none⟩ (.slice (some ⟨gb, 0, none⟩) gg.length gg.length)).heap[g9]? = _) := set2 h9.out (.bool y.rcv) (.slice (some ⟨gb, 0, none⟩) gg.length gg.length)
                replace hW := hW.trans bb
                clear hK K bb hg9 d0 d1 f0 f1
                refine doneT (by kernel_rfl) ?_
                exact ⟨g8, g9, ga, gb, _, _, _, _, _, _, _, _, rfl, hW, h8.out, h9.out, na.out, nb.out, lh8, lh9⟩
            · clear hi
              refine ⟨_, rfl, by rfl, ?_⟩
              intro K hK
              go_simp
              have bb := (Below.refl v0.heap.size v0).alloc (Nat.le_refl _) (.cells #[.bool false, .slice none 0 0] 39)
              refine hK _ _ (.inr (smB hW.size bb)) ?_
              have h9 := Lib.hid (heap_alloc_new v0 (.cells #[.bool false, .slice none 0 0] 39))
              have lh9 := hW.size
              replace hW := hW.trans (bb.mono hW.size)
              clear hK K bb
              try simp only [Act.put, List.setIfInBounds_toArray, List.set_cons_zero, List.set_cons_succ]
              generalize v0.alloc (.cells #[.bool false, .slice none 0 0] 39) = v26 at hW h9 ⊢
              generalize v0.heap.size = g9 at h9 lh9 ⊢
              refine stepTA [3, 8] (by decide +kernel) (by decide) ?_
              intro i hi
              rcases (by simpa using hi : i = 3 ∨ i = 8) with rfl | rfl
              · clear hi
                refine ⟨_, rfl, by rfl, ?_⟩
                intro K hK
                go_simp
                refine (KX.out v26 A2 c2 (H2.out.below hW |>.more hW.size)).mono ?_
                rintro e v27 ⟨A3, c3, rfl, h3, bb⟩
                replace h3 := Lib.hid h3
                refine hK _ _ (.inr (smB hW.size bb)) ?_
                replace h9 := Lib.hid ((bb.block _ (block_lt h9.out)).trans h9.out)
                replace hW := hW.trans (bb.mono hW.size)
                clear hK K bb
                try simp only [Act.put, List.setIfInBounds_toArray, List.set_cons_zero, List.set_cons_succ]
                refine stepTA [4, 8] (by decide +kernel) (by decide) ?_
                intro i hi
                rcases (by simpa using hi : i = 4 ∨ i = 8) with rfl | rfl
                · clear hi
                  refine ⟨_, rfl, by rfl, ?_⟩
                  intro K hK
                  go_simp
                  refine (KR.out v27 _ _ _ _ _ _ (R1.out.below hW |>.more hW.size) (R2.out.below hW |>.more hW.size) h3.out).mono ?_
                  rintro e v28 ⟨ga, gb, rfl, na, nb, bb⟩
                  replace na := Lib.hid (na.mono (base' := Wq.heap.size) hW.size)
                  replace nb := Lib.hid (nb.mono (base' := Wq.heap.size) hW.size)
                  refine hK _ _ (.inr (smB hW.size bb)) ?_
                  replace h9 := Lib.hid ((bb.block _ (block_lt h9.out)).trans h9.out)
                  replace h3 := Lib.hid ((h3.out.below bb).more bb.size)
                  replace hW := hW.trans (bb.mono hW.size)
                  clear hK K bb
                  try simp only [Act.put, List.setIfInBounds_toArray, List.set_cons_zero, List.set_cons_succ]
                  ((first | (refine takeT 5 (v := ?_) rfl (by decide +kernel) (by decide +kernel) (by decide +kernel) (fun _ _ _ h => h) (by decide +kernel) (Or.inl ⟨by rfl, ?_⟩) ?_; rotate_left 1; (focus (intro W hW; have hcW := hW.at; (try dsimp only at hcW); go_simp; first | done | with_reducible rfl)); try simp only [Act.put, List.setIfInBounds_toArray, List.set_cons_zero, List.set_cons_succ]) | (refine takeW 5 (v := ?_) rfl (by decide +kernel) (by decide +kernel) (by decide +kernel) (fun _ _ _ h => h) (Or.inl ⟨by rfl, ?_⟩) ?_; rotate_left 1; (focus (intro W hW; go_simp; first | done | with_reducible rfl)); try simp only [Act.put, List.setIfInBounds_toArray, List.set_cons_zero, List.set_cons_succ]) | (refine takeW 5 rfl (by decide +kernel) (by decide +kernel) (by decide +kernel) (fun _ _ _ h => h) (Or.inr ⟨by rfl, rfl⟩) ?_; try simp only [Act.put, List.setIfInBounds_toArray, List.set_cons_zero, List.set_cons_succ]) | skip); (first | (refine takeT 6 (v := ?_) rfl (by decide +kernel) (by decide +kernel) (by decide +kernel) (fun _ _ _ h => h) (by decide +kernel) (Or.inl ⟨by rfl, ?_⟩) ?_; rotate_left 1; (focus (intro W hW; have hcW := hW.at; (try dsimp only at hcW); go_simp; first | done | with_reducible rfl)); try simp only [Act.put, List.setIfInBounds_toArray, List.set_cons_zero, List.set_cons_succ]) | (refine takeW 6 (v := ?_) rfl (by decide +kernel) (by decide +kernel) (by decide +kernel) (fun _ _ _ h => h) (Or.inl ⟨by rfl, ?_⟩) ?_; rotate_left 1; (focus (intro W hW; go_simp; first | done | with_reducible rfl)); try simp only [Act.put, List.setIfInBounds_toArray, List.set_cons_zero, List.set_cons_succ]) | (refine takeW 6 rfl (by decide +kernel) (by decide +kernel) (by decide +kernel) (fun _ _ _ h => h) (Or.inr ⟨by rfl, rfl⟩) ?_; try simp only [Act.put, List.setIfInBounds_toArray, List.set_cons_zero, List.set_cons_succ]) | skip); (first | (refine takeT 7 (v := ?_) rfl (by decide +kernel) (by decide +kernel) (by decide +kernel) (fun _ _ _ h => h) (by decide +kernel) (Or.inl ⟨by rfl, ?_⟩) ?_; rotate_left 1; (focus (intro W hW; have hcW := hW.at; (try dsimp only at hcW); go_simp; first | done | with_reducible rfl)); try simp only [Act.put, List.setIfInBounds_toArray, List.set_cons_zero, List.set_cons_succ]) | (refine takeW 7 (v := ?_) rfl (by decide +kernel) (by decide +kernel) (by decide +kernel) (fun _ _ _ h => h) (Or.inl ⟨by rfl, ?_⟩) ?_; rotate_left 1; (focus (intro W hW; go_simp; first | done | with_reducible rfl)); try simp only [Act.put, List.setIfInBounds_toArray, List.set_cons_zero, List.set_cons_succ]) | (refine takeW 7 rfl (by decide +kernel) (by decide +kernel) (by decide +kernel) (fun _ _ _ h => h) (Or.inr ⟨by rfl, rfl⟩) ?_; try simp only [Act.put, List.setIfInBounds_toArray, List.set_cons_zero, List.set_cons_succ]) | skip))
                  refine stepTA [8] (by decide +kernel) (by decide) ?_
                  intro i hi
                  obtain rfl : i = 8 := by simpa using hi
                  clear hi
                  refine ⟨_, rfl, by rfl, ?_⟩
                  intro K hK
                  go_simp
                  have bb := (Below.refl v28.heap.size v28).alloc (Nat.le_refl _) (.cells #[.bool false, .slice none 0 0] 28)
                  refine hK _ _ (.inr (smB hW.size bb)) ?_
                  have h8 := Lib.hid (heap_alloc_new v28 (.cells #[.bool false, .slice none 0 0] 28))
                  have lh8 := hW.size
                  replace h9 := Lib.hid ((bb.block _ (block_lt h9.out)).trans h9.out)
                  replace h3 := Lib.hid ((h3.out.below bb).more bb.size)
                  replace na := Lib.hid (na.out.below bb)
                  replace nb := Lib.hid (nb.out.below bb)
                  replace hW := hW.trans (bb.mono hW.size)
                  clear hK K bb
                  try simp only [Act.put, List.setIfInBounds_toArray, List.set_cons_zero, List.set_cons_succ]
                  generalize v28.alloc (.cells #[.bool false, .slice none 0 0] 28) = v29 at hW h9 h3 na nb h8 ⊢
                  generalize v28.heap.size = g8 at h8 lh8 ⊢
                  have n89 := block_ne h8.out h9.out (by decide)
                  have d0 := block_at h8.out (i := 0) (v := .bool false) rfl
                  have d1 := block_at h8.out (i := 1) (v := .slice none 0 0) rfl
                  have f0 := block_free h8.out 0
                  have f1 := block_free h8.out 1
                  refine stepT 10 rfl (by decide +kernel) (by rfl) ?_
                  intro K hK
                  go_simp
                  have bb : Below Wq.heap.size v29 ((v29.setCell ⟨g8, 0, none⟩ (.bool y.snd)).setCell ⟨g8, 1, none⟩ (.slice (some ⟨ga, 0, none⟩) gl.length gl.length)) := below2 (Below.refl _ _) lh8 (.bool y.snd) (.slice (some ⟨ga, 0, none⟩) gl.length gl.length)
                  have hg8 := grown_trans (grown_setCell v29 ⟨g8, 0, none⟩ (.bool y.snd)) (grown_setCell (v29.setCell ⟨g8, 0, none⟩ (.bool y.snd)) ⟨g8, 1, none⟩ (.slice (some ⟨ga, 0, none⟩) gl.length gl.length))
                  refine hK _ _ (.inr (smBelow bb)) ?_
                  replace h9 := Lib.hid (block_grown h9.out hg8 (fun e => n89 (Option.some.inj e).symm))
                  replace na := Lib.hid (na.out.stores2 h8.out (by decide) (by decide) (.bool y.snd) (.slice (some ⟨ga, 0, none⟩) gl.length gl.length))
                  replace nb := Lib.hid (nb.out.stores2 h8.out (by decide) (by decide) (.bool y.snd) (.slice (some ⟨ga, 0, none⟩) gl.length gl.length))
                  replace h8 : Hid (((v29.setCell ⟨g8, 0, none⟩ (.bool y.snd)).setCell ⟨g8, 1, none⟩ (.slice (some ⟨ga, 0, none⟩) gl.length gl.length)).heap[g8]? = _) := set2 h8.out (.bool y.snd) (.slice (some ⟨ga, 0, none⟩) gl.length gl.length)
                  replace hW := hW.trans bb
                  clear hK K bb hg8 d0 d1 f0 f1
                  try simp only [Act.put, List.setIfInBounds_toArray, List.set_cons_zero, List.set_cons_succ]
                  generalize ((v29.setCell ⟨g8, 0, none⟩ (.bool y.snd)).setCell ⟨g8, 1, none⟩ (.slice (some ⟨ga, 0, none⟩) gl.length gl.length)) = wx at h8 h9 na nb hW ⊢
                  have d0 := block_at h9.out (i := 0) (v := .bool false) rfl
                  have d1 := block_at h9.out (i := 1) (v := .slice none 0 0) rfl
                  have f0 := block_free h9.out 0
                  have f1 := block_free h9.out 1
                  refine stepT 11 rfl (by decide +kernel) (by rfl) ?_
                  intro K hK
                  go_simp
                  have bb : Below Wq.heap.size wx ((wx.setCell ⟨g9, 0, none⟩ (.bool y.rcv)).setCell ⟨g9, 1, none⟩ (.slice (some ⟨gb, 0, none⟩) gg.length gg.length)) := below2 (Below.refl _ _) lh9 (.bool y.rcv) (.slice (some ⟨gb, 0, none⟩) gg.length gg.length)
                  have hg9 := grown_trans (grown_setCell wx ⟨g9, 0, none⟩ (.bool y.rcv)) (grown_setCell (wx.setCell ⟨g9, 0, none⟩ (.bool y.rcv)) ⟨g9, 1, none⟩ (.slice (some ⟨gb, 0, none⟩) gg.length gg.length))
                  refine hK _ _ (.inr (smBelow bb)) ?_
                  replace h8 := Lib.hid (block_grown h8.out hg9 (fun e => n89 (Option.some.inj e)))
                  replace na := Lib.hid (na.out.stores2 h9.out (by decide) (by decide) (.bool y.rcv) (.slice (some ⟨gb, 0, none⟩) gg.length gg.length))
                  replace nb := Lib.hid (nb.out.stores2 h9.out (by decide) (by decide) (.bool y.rcv) (.slice (some ⟨gb, 0, none⟩) gg.length gg.length))
                  replace h9 : Hid (((wx.setCell ⟨g9, 0, none⟩ (.bool y.rcv)).setCell ⟨g9, 1, none⟩ (.slice (some ⟨gb, 0, none⟩) gg.length gg.length)).heap[g9]? = _) := set2 h9.out (.bool y.rcv) (.slice (some ⟨gb, 0, none⟩) gg.length gg.length)
                  replace hW := hW.trans bb
                  clear hK K bb hg9 d0 d1 f0 f1
                  refine doneT (by kernel_rfl) ?_
                  exact ⟨g8, g9, ga, gb, _, _, _, _, _, _, _, _, rfl, hW, h8.out, h9.out, na.out, nb.out, lh8, lh9⟩
                · clear hi
                  refine ⟨_, rfl, by rfl, ?_⟩
                  intro K hK
                  go_simp
                  have bb := (Below.refl v27.heap.size v27).alloc (Nat.le_refl _) (.cells #[.bool false, .slice none 0 0] 28)
                  refine hK _ _ (.inr (smB hW.size bb)) ?_
                  have h8 := Lib.hid (heap_alloc_new v27 (.cells #[.bool false, .slice none 0 0] 28))
                  have lh8 := hW.size
                  replace h9 := Lib.hid ((bb.block _ (block_lt h9.out)).trans h9.out)
                  replace h3 := Lib.hid ((h3.out.below bb).more bb.size)
                  replace hW := hW.trans (bb.mono hW.size)
                  clear hK K bb
                  try simp only [Act.put, List.setIfInBounds_toArray, List.set_cons_zero, List.set_cons_succ]
                  generalize v27.alloc (.cells #[.bool false, .slice none 0 0] 28) = v30 at hW h9 h3 h8 ⊢
                  generalize v27.heap.size = g8 at h8 lh8 ⊢
                  refine stepTA [4] (by decide +kernel) (by decide) ?_
                  intro i hi
                  obtain rfl : i = 4 := by simpa using hi
                  clear hi
                  refine ⟨_, rfl, by rfl, ?_⟩
                  intro K hK
                  go_simp
                  refine (KR.out v30 _ _ _ _ _ _ (R1.out.below hW |>.more hW.size) (R2.out.below hW |>.more hW.size) h3.out).mono ?_
                  rintro e v31 ⟨ga, gb, rfl, na, nb, bb⟩
                  replace na := Lib.hid (na.mono (base' := Wq.heap.size) hW.size)
                  replace nb := Lib.hid (nb.mono (base' := Wq.heap.size) hW.size)
                  refine hK _ _ (.inr (smB hW.size bb)) ?_
                  replace h9 := Lib.hid ((bb.block _ (block_lt h9.out)).trans h9.out)
                  replace h3 := Lib.hid ((h3.out.below bb).more bb.size)
                  replace h8 := Lib.hid ((bb.block _ (block_lt h8.out)).trans h8.out)
                  replace hW := hW.trans (bb.mono hW.size)
                  clear hK K bb
                  try simp only [Act.put, List.setIfInBounds_toArray, List.set_cons_zero, List.set_cons_succ]
                  ((first | (refine takeT 5 (v := ?_) rfl (by decide +kernel) (by decide +kernel) (by decide +kernel) (fun _ _ _ h => h) (by decide +kernel) (Or.inl ⟨by rfl, ?_⟩) ?_; rotate_left 1; (focus (intro W hW; have hcW := hW.at; (try dsimp only at hcW); go_simp; first | done | with_reducible rfl)); try simp only [Act.put, List.setIfInBounds_toArray, List.set_cons_zero, List.set_cons_succ]) | (refine takeW 5 (v := ?_) rfl (by decide +kernel) (by decide +kernel) (by decide +kernel) (fun _ _ _ h => h) (Or.inl ⟨by rfl, ?_⟩) ?_; rotate_left 1; (focus (intro W hW; go_simp; first | done | with_reducible rfl)); try simp only [Act.put, List.setIfInBounds_toArray, List.set_cons_zero, List.set_cons_succ]) | (refine takeW 5 rfl (by decide +kernel) (by decide +kernel) (by decide +kernel) (fun _ _ _ h => h) (Or.inr ⟨by rfl, rfl⟩) ?_; try simp only [Act.put, List.setIfInBounds_toArray, List.set_cons_zero, List.set_cons_succ]) | skip); (first | (refine takeT 6 (v := ?_) rfl (by decide +kernel) (by decide +kernel) (by decide +kernel) (fun _ _ _ h => h) (by decide +kernel) (Or.inl ⟨by rfl, ?_⟩) ?_; rotate_left 1; (focus (intro W hW; have hcW := hW.at; (try dsimp only at hcW); go_simp; first | done | with_reducible rfl)); try simp only [Act.put, List.setIfInBounds_toArray, List.set_cons_zero, List.set_cons_succ]) | (refine takeW 6 (v := ?_) rfl (by decide +kernel) (by decide +kernel) (by decide +kernel) (fun _ _ _ h => h) (Or.inl ⟨by rfl, ?_⟩) ?_; rotate_left 1; (focus (intro W hW; go_simp; first | done | with_reducible rfl)); try simp only [Act.put, List.setIfInBounds_toArray, List.set_cons_zero, List.set_cons_succ]) | (refine takeW 6 rfl (by decide +kernel) (by decide +kernel) (by decide +kernel) (fun _ _ _ h => h) (Or.inr ⟨by rfl, rfl⟩) ?_; try simp only [Act.put, List.setIfInBounds_toArray, List.set_cons_zero, List.set_cons_succ]) | skip); (first | (refine takeT 7 (v := ?_) rfl (by decide +kernel) (by decide +kernel) (by decide +kernel) (fun _ _ _ h => h) (by decide +kernel) (Or.inl ⟨by rfl, ?_⟩) ?_; rotate_left 1; (focus (intro W hW; have hcW := hW.at; (try dsimp only at hcW); go_simp; first | done | with_reducible rfl)); try simp only [Act.put, List.setIfInBounds_toArray, List.set_cons_zero, List.set_cons_succ]) | (refine takeW 7 (v := ?_) rfl (by decide +kernel) (by decide +kernel) (by decide +kernel) (fun _ _ _ h => h) (Or.inl ⟨by rfl, ?_⟩) ?_; rotate_left 1; (focus (intro W hW; go_simp; first | done | with_reducible rfl)); try simp only [Act.put, List.setIfInBounds_toArray, List.set_cons_zero, List.set_cons_succ]) | (refine takeW 7 rfl (by decide +kernel) (by decide +kernel) (by decide +kernel) (fun _ _ _ h => h) (Or.inr ⟨by rfl, rfl⟩) ?_; try simp only [Act.put, List.setIfInBounds_toArray, List.set_cons_zero, List.set_cons_succ]) | skip))
                  have n89 := block_ne h8.out h9.out (by decide)
                  have d0 := block_at h8.out (i := 0) (v := .bool false) rfl
                  have d1 := block_at h8.out (i := 1) (v := .slice none 0 0) rfl
                  have f0 := block_free h8.out 0
                  have f1 := block_free h8.out 1
                  refine stepT 10 rfl (by decide +kernel) (by rfl) ?_
                  intro K hK
                  go_simp
                  have bb : Below Wq.heap.size v31 ((v31.setCell ⟨g8, 0, none⟩ (.bool y.snd)).setCell ⟨g8, 1, none⟩ (.slice (some ⟨ga, 0, none⟩) gl.length gl.length)) := below2 (Below.refl _ _) lh8 (.bool y.snd) (.slice (some ⟨ga, 0, none⟩) gl.length gl.length)
                  have hg8 := grown_trans (grown_setCell v31 ⟨g8, 0, none⟩ (.bool y.snd)) (grown_setCell (v31.setCell ⟨g8, 0, none⟩ (.bool y.snd)) ⟨g8, 1, none⟩ (.slice (some ⟨ga, 0, none⟩) gl.length gl.length))
                  refine hK _ _ (.inr (smBelow bb)) ?_
                  replace h9 := Lib.hid (block_grown h9.out hg8 (fun e => n89 (Option.some.inj e).symm))
                  replace na := Lib.hid (na.out.stores2 h8.out (by decide) (by decide) (.bool y.snd) (.slice (some ⟨ga, 0, none⟩) gl.length gl.length))
                  replace nb := Lib.hid (nb.out.stores2 h8.out (by decide) (by decide) (.bool y.snd) (.slice (some ⟨ga, 0, none⟩) gl.length gl.length))
                  replace h8 : Hid (((v31.setCell ⟨g8, 0, none⟩ (.bool y.snd)).setCell ⟨g8, 1, none⟩ (.slice (some ⟨ga, 0, none⟩) gl.length gl.length)).heap[g8]? = _) := set2 h8.out (.bool y.snd) (.slice (some ⟨ga, 0, none⟩) gl.length gl.length)
                  replace hW := hW.trans bb
                  clear hK K bb hg8 d0 d1 f0 f1
                  try simp only [Act.put, List.setIfInBounds_toArray, List.set_cons_zero, List.set_cons_succ]
                  generalize ((v31.setCell ⟨g8, 0, none⟩ (.bool y.snd)).setCell ⟨g8, 1, none⟩ (.slice (some ⟨ga, 0, none⟩) gl.length gl.length)) = wx at h8 h9 na nb hW ⊢
                  have d0 := block_at h9.out (i := 0) (v := .bool false) rfl
                  have d1 := block_at h9.out (i := 1) (v := .slice none 0 0) rfl
                  have f0 := block_free h9.out 0
                  have f1 := block_free h9.out 1
                  refine stepT 11 rfl (by decide +kernel) (by rfl) ?_
                  intro K hK
                  go_simp
                  have bb : Below Wq.heap.size wx ((wx.setCell ⟨g9, 0, none⟩ (.bool y.rcv)).setCell ⟨g9, 1, none⟩ (.slice (some ⟨gb, 0, none⟩) gg.length gg.length)) := below2 (Below.refl _ _) lh9 (.bool y.rcv) (.slice (some ⟨gb, 0, none⟩) gg.length gg.length)
                  have hg9 := grown_trans (grown_setCell wx ⟨g9, 0, none⟩ (.bool y.rcv)) (grown_setCell (wx.setCell ⟨g9, 0, none⟩ (.bool y.rcv)) ⟨g9, 1, none⟩ (.slice (some ⟨gb, 0, none⟩) gg.length gg.length))
                  refine hK _ _ (.inr (smBelow bb)) ?_
                  replace h8 := Lib.hid (block_grown h8.out hg9 (fun e => n89 (Option.some.inj e)))
                  replace na := Lib.hid (na.out.stores2 h9.out (by decide) (by decide) (.bool y.rcv) (.slice (some ⟨gb, 0, none⟩) gg.length gg.length))
                  replace nb := Lib.hid (nb.out.stores2 h9.out (by decide) (by decide) (.bool y.rcv) (.slice (some ⟨gb, 0, none⟩) gg.length gg.length))
                  replace h9 : Hid (((wx.setCell ⟨g9, 0, none⟩ (.bool y.rcv)).setCell ⟨g9, 1, none⟩ (.slice (some ⟨gb, 0, none⟩) gg.length gg.length)).heap[g9]? = _) := set2 h9.out (.bool y.rcv) (.slice (some ⟨gb, 0, none⟩) gg.length gg.length)
                  replace hW := hW.trans bb
                  clear hK K bb hg9 d0 d1 f0 f1
                  refine doneT (by kernel_rfl) ?_
                  exact ⟨g8, g9, ga, gb, _, _, _, _, _, _, _, _, rfl, hW, h8.out, h9.out, na.out, nb.out, lh8, lh9⟩
              · clear hi
                refine ⟨_, rfl, by rfl, ?_⟩
                intro K hK
                go_simp
                have bb := (Below.refl v26.heap.size v26).alloc (Nat.le_refl _) (.cells #[.bool false, .slice none 0 0] 28)
                refine hK _ _ (.inr (smB hW.size bb)) ?_
                have h8 := Lib.hid (heap_alloc_new v26 (.cells #[.bool false, .slice none 0 0] 28))
                have lh8 := hW.size
                replace h9 := Lib.hid ((bb.block _ (block_lt h9.out)).trans h9.out)
                replace hW := hW.trans (bb.mono hW.size)
                clear hK K bb
                try simp only [Act.put, List.setIfInBounds_toArray, List.set_cons_zero, List.set_cons_succ]
                generalize v26.alloc (.cells #[.bool false, .slice none 0 0] 28) = v32 at hW h9 h8 ⊢
                generalize v26.heap.size = g8 at h8 lh8 ⊢
                refine stepTA [3] (by decide +kernel) (by decide) ?_
                intro i hi
                obtain rfl : i = 3 := by simpa using hi
                clear hi
                refine ⟨_, rfl, by rfl, ?_⟩
                intro K hK
                go_simp
                refine (KX.out v32 A2 c2 (H2.out.below hW |>.more hW.size)).mono ?_
                rintro e v33 ⟨A3, c3, rfl, h3, bb⟩
                replace h3 := Lib.hid h3
                refine hK _ _ (.inr (smB hW.size bb)) ?_
                replace h9 := Lib.hid ((bb.block _ (block_lt h9.out)).trans h9.out)
                replace h8 := Lib.hid ((bb.block _ (block_lt h8.out)).trans h8.out)
                replace hW := hW.trans (bb.mono hW.size)
                clear hK K bb
                try simp only [Act.put, List.setIfInBounds_toArray, List.set_cons_zero, List.set_cons_succ]
                refine stepTA [4] (by decide +kernel) (by decide) ?_
                intro i hi
                obtain rfl : i = 4 := by simpa using hi
                clear hi
                refine ⟨_, rfl, by rfl, ?_⟩
                intro K hK
                go_simp
                refine (KR.out v33 _ _ _ _ _ _ (R1.out.below hW |>.more hW.size) (R2.out.below hW |>.more hW.size) h3.out).mono ?_
                rintro e v34 ⟨ga, gb, rfl, na, nb, bb⟩
                replace na := Lib.hid (na.mono (base' := Wq.heap.size) hW.size)
                replace nb := Lib.hid (nb.mono (base' := Wq.heap.size) hW.size)
                refine hK _ _ (.inr (smB hW.size bb)) ?_
                replace h9 := Lib.hid ((bb.block _ (block_lt h9.out)).trans h9.out)
                replace h8 := Lib.hid ((bb.block _ (block_lt h8.out)).trans h8.out)
                replace h3 := Lib.hid ((h3.out.below bb).more bb.size)
                replace hW := hW.trans (bb.mono hW.size)
                clear hK K bb
                try simp only [Act.put, List.setIfInBounds_toArray, List.set_cons_zero, List.set_cons_succ]
                ((first | (refine takeT 5 (v := ?_) rfl (by decide +kernel) (by decide +kernel) (by decide +kernel) (fun _ _ _ h => h) (by decide +kernel) (Or.inl ⟨by rfl, ?_⟩) ?_; rotate_left 1; (focus (intro W hW; have hcW := hW.at; (try dsimp only at hcW); go_simp; first | done | with_reducible rfl)); try simp only [Act.put, List.setIfInBounds_toArray, List.set_cons_zero, List.set_cons_succ]) | (refine takeW 5 (v := ?_) rfl (by decide +kernel) (by decide +kernel) (by decide +kernel) (fun _ _ _ h => h) (Or.inl ⟨by rfl, ?_⟩) ?_; rotate_left 1; (focus (intro W hW; go_simp; first | done | with_reducible rfl)); try simp only [Act.put, List.setIfInBounds_toArray, List.set_cons_zero, List.set_cons_succ]) | (refine takeW 5 rfl (by decide +kernel) (by decide +kernel) (by decide +kernel) (fun _ _ _ h => h) (Or.inr ⟨by rfl, rfl⟩) ?_; try simp only [Act.put, List.setIfInBounds_toArray, List.set_cons_zero, List.set_cons_succ]) | skip); (first | (refine takeT 6 (v := ?_) rfl (by decide +kernel) (by decide +kernel) (by decide +kernel) (fun _ _ _ h => h) (by decide +kernel) (Or.inl ⟨by rfl, ?_⟩) ?_; rotate_left 1; (focus (intro W hW; have hcW := hW.at; (try dsimp only at hcW); go_simp; first | done | with_reducible rfl)); try simp only [Act.put, List.setIfInBounds_toArray, List.set_cons_zero, List.set_cons_succ]) | (refine takeW 6 (v := ?_) rfl (by decide +kernel) (by decide +kernel) (by decide +kernel) (fun _ _ _ h => h) (Or.inl ⟨by rfl, ?_⟩) ?_; rotate_left 1; (focus (intro W hW; go_simp; first | done | with_reducible rfl)); try simp only [Act.put, List.setIfInBounds_toArray, List.set_cons_zero, List.set_cons_succ]) | (refine takeW 6 rfl (by decide +kernel) (by decide +kernel) (by decide +kernel) (fun _ _ _ h => h) (Or.inr ⟨by rfl, rfl⟩) ?_; try simp only [Act.put, List.setIfInBounds_toArray, List.set_cons_zero, List.set_cons_succ]) | skip); (first | (refine takeT 7 (v := ?_) rfl (by decide +kernel) (by decide +kernel) (by decide +kernel) (fun _ _ _ h => h) (by decide +kernel) (Or.inl ⟨by rfl, ?_⟩) ?_; rotate_left 1; (focus (intro W hW; have hcW := hW.at; (try dsimp only at hcW); go_simp; first | done | with_reducible rfl)); try simp only [Act.put, List.setIfInBounds_toArray, List.set_cons_zero, List.set_cons_succ]) | (refine takeW 7 (v := ?_) rfl (by decide +kernel) (by decide +kernel) (by decide +kernel) (fun _ _ _ h => h) (Or.inl ⟨by rfl, ?_⟩) ?_; rotate_left 1; (focus (intro W hW; go_simp; first | done | with_reducible rfl)); try simp only [Act.put, List.setIfInBounds_toArray, List.set_cons_zero, List.set_cons_succ]) | (refine takeW 7 rfl (by decide +kernel) (by decide +kernel) (by decide +kernel) (fun _ _ _ h => h) (Or.inr ⟨by rfl, rfl⟩) ?_; try simp only [Act.put, List.setIfInBounds_toArray, List.set_cons_zero, List.set_cons_succ]) | skip))
                have n89 := block_ne h8.out h9.out (by decide)
                have d0 := block_at h8.out (i := 0) (v := .bool false) rfl
                have d1 := block_at h8.out (i := 1) (v := .slice none 0 0) rfl
                have f0 := block_free h8.out 0
                have f1 := block_free h8.out 1
                refine stepT 10 rfl (by decide +kernel) (by rfl) ?_
                intro K hK
                go_simp
                have bb : Below Wq.heap.size v34 ((v34.setCell ⟨g8, 0, none⟩ (.bool y.snd)).setCell ⟨g8, 1, none⟩ (.slice (some ⟨ga, 0, none⟩) gl.length gl.length)) := below2 (Below.refl _ _) lh8 (.bool y.snd) (.slice (some ⟨ga, 0, none⟩) gl.length gl.length)
                have hg8 := grown_trans (grown_setCell v34 ⟨g8, 0, none⟩ (.bool y.snd)) (grown_setCell (v34.setCell ⟨g8, 0, none⟩ (.bool y.snd)) ⟨g8, 1, none⟩ (.slice (some ⟨ga, 0, none⟩) gl.length gl.length))
                refine hK _ _ (.inr (smBelow bb)) ?_
                replace h9 := Lib.hid (block_grown h9.out hg8 (fun e => n89 (Option.some.inj e).symm))
                replace na := Lib.hid (na.out.stores2 h8.out (by decide) (by decide) (.bool y.snd) (.slice (some ⟨ga, 0, none⟩) gl.length gl.length))
                replace nb := Lib.hid (nb.out.stores2 h8.out (by decide) (by decide) (.bool y.snd) (.slice (some ⟨ga, 0, none⟩) gl.length gl.length))
                replace h8 : Hid (((v34.setCell ⟨g8, 0, none⟩ (.bool y.snd)).setCell ⟨g8, 1, none⟩ (.slice (some ⟨ga, 0, none⟩) gl.length gl.length)).heap[g8]? = _) := set2 h8.out (.bool y.snd) (.slice (some ⟨ga, 0, none⟩) gl.length gl.length)
                replace hW := hW.trans bb
                clear hK K bb hg8 d0 d1 f0 f1
                try simp only [Act.put, List.setIfInBounds_toArray, List.set_cons_zero, List.set_cons_succ]
                generalize ((v34.setCell ⟨g8, 0, none⟩ (.bool y.snd)).setCell ⟨g8, 1, none⟩ (.slice (some ⟨ga, 0, none⟩) gl.length gl.length)) = wx at h8 h9 na nb hW ⊢
                have d0 := block_at h9.out (i := 0) (v := .bool false) rfl
                have d1 := block_at h9.out (i := 1) (v := .slice none 0 0) rfl
                have f0 := block_free h9.out 0
                have f1 := block_free h9.out 1
                refine stepT 11 rfl (by decide +kernel) (by rfl) ?_
                intro K hK
                go_simp
                have bb : Below Wq.heap.size wx ((wx.setCell ⟨g9, 0, none⟩ (.bool y.rcv)).setCell ⟨g9, 1, none⟩ (.slice (some ⟨gb, 0, none⟩) gg.length gg.length)) := below2 (Below.refl _ _) lh9 (.bool y.rcv) (.slice (some ⟨gb, 0, none⟩) gg.length gg.length)
                have hg9 := grown_trans (grown_setCell wx ⟨g9, 0, none⟩ (.bool y.rcv)) (grown_setCell (wx.setCell ⟨g9, 0, none⟩ (.bool y.rcv)) ⟨g9, 1, none⟩ (.slice (some ⟨gb, 0, none⟩) gg.length gg.length))
                refine hK _ _ (.inr (smBelow bb)) ?_
                replace h8 := Lib.hid (block_grown h8.out hg9 (fun e => n89 (Option.some.inj e)))
                replace na := Lib.hid (na.out.stores2 h9.out (by decide) (by decide) (.bool y.rcv) (.slice (some ⟨gb, 0, none⟩) gg.length gg.length))
                replace nb := Lib.hid (nb.out.stores2 h9.out (by decide) (by decide) (.bool y.rcv) (.slice (some ⟨gb, 0, none⟩) gg.length gg.length))
                replace h9 : Hid (((wx.setCell ⟨g9, 0, none⟩ (.bool y.rcv)).setCell ⟨g9, 1, none⟩ (.slice (some ⟨gb, 0, none⟩) gg.length gg.length)).heap[g9]? = _) := set2 h9.out (.bool y.rcv) (.slice (some ⟨gb, 0, none⟩) gg.length gg.length)
                replace hW := hW.trans bb
                clear hK K bb hg9 d0 d1 f0 f1
                refine doneT (by kernel_rfl) ?_
                exact ⟨g8, g9, ga, gb, _, _, _, _, _, _, _, _, rfl, hW, h8.out, h9.out, na.out, nb.out, lh8, lh9⟩
    -- end of tree
          · rintro act w2 ⟨g8, g9, ga, gb, v72, v73, v74, v75, v76, v71, v77, v78, rfl, hW, h8, h9, na, nb, hge8, hge9⟩
            have hL2 := hLq.out.to hW
            have e70 := block_at hL2.h7 (i := 0) (v := .int .i64 (y.ack : Int)) rfl
            have e72 := block_at hL2.h7 (i := 2) (v := .bool y.snd) rfl
            have e73 := block_at hL2.h7 (i := 3) (v := .bool y.rcv) rfl
            have e31 := block_at hL2.h3 (i := 1) (v := .slice A ps.length c) rfl
            have e80 := block_at h8 (i := 0) (v := .bool y.snd) rfl
            have e81 := block_at h8 (i := 1) (v := .slice (some ⟨ga, 0, none⟩) gl.length gl.length) rfl
            have e90 := block_at h9 (i := 0) (v := .bool y.rcv) rfl
            have e91 := block_at h9 (i := 1) (v := .slice (some ⟨gb, 0, none⟩) gg.length gg.length) rfl
            have lb3 := block_lt hL2.h3
            have lb7 := block_lt hL2.h7
            have lb8 := block_lt h8
            have lb9 := block_lt h9
            have t1 : (y.snd == y.snd) = true := by simp
            have t2 : (y.rcv == y.rcv) = true := by simp
            obtain ⟨Ad, cd, hcut, hrd⟩ := (H1q.out.belowTop hW).from_ (k := y.ack) (by omega)
            rw [hgl] at hrd
            have hsl : ∀ W : World, (Instr.slice 22 (.slice A ps.length c) (some (.int .i64 (y.ack : Int))) none none).run Try.prog W = .ok (.slice Ad gl.length cd) W := fun W => by
              rw [sliceP_from A ps.length c (y.ack : Int) W (by omega) (by omega), Int.toNat_natCast, hcut, hgll.out]
            have n1 : Hid (Rds w2 w2.heap.size (some ⟨ga, 0, none⟩) gl.length gl) := na.rds sg.1
            have n2 : Hid (Rds w2 w2.heap.size (some ⟨gb, 0, none⟩) gg.length gg) := nb.rds sg.2
            have n3 : Hid (Rds w2 w2.heap.size A9 c9 gg) := hr9.out.belowTop hW
            replace hrd := Lib.hid hrd
            have hZ := Lib.hid hL2.below
            clear KR KX H1q H2q H3q hr9 hLq hL2 h8 h9 na nb hW hcut
            go_wp2
            refine startT (S := fun a => a.block = b3 ∨ a.block = b7 ∨ a.block = g8 ∨ a.block = g9) (T := []) 34 (by kernel_rfl) rfl (l := #[false, false, false, false, false, false, false, false, false, false, false, false, false, false, false, false, false, false, false, false, false, false, false, false, false, false, false, false, false, false, false, false, false, false]) rfl ?_
            ((first | (refine takeT 0 (v := ?_) rfl (by decide +kernel) (by decide +kernel) (by decide +kernel) (fun _ _ _ h => h) (by decide +kernel) (Or.inl ⟨by rfl, ?_⟩) ?_; rotate_left 1; (focus (intro W hW; have hcW := hW.at; (try dsimp only at hcW); go_simp; first | done | with_reducible rfl)); try simp only [Act.put, List.setIfInBounds_toArray, List.set_cons_zero, List.set_cons_succ]) | (refine takeW 0 (v := ?_) rfl (by decide +kernel) (by decide +kernel) (by decide +kernel) (fun _ _ _ h => h) (Or.inl ⟨by rfl, ?_⟩) ?_; rotate_left 1; (focus (intro W hW; go_simp; first | done | with_reducible rfl)); try simp only [Act.put, List.setIfInBounds_toArray, List.set_cons_zero, List.set_cons_succ]) | (refine takeW 0 rfl (by decide +kernel) (by decide +kernel) (by decide +kernel) (fun _ _ _ h => h) (Or.inr ⟨by rfl, rfl⟩) ?_; try simp only [Act.put, List.setIfInBounds_toArray, List.set_cons_zero, List.set_cons_succ]) | skip); (first | (refine takeT 1 (v := ?_) rfl (by decide +kernel) (by decide +kernel) (by decide +kernel) (fun _ _ _ h => h) (by decide +kernel) (Or.inl ⟨by rfl, ?_⟩) ?_; rotate_left 1; (focus (intro W hW; have hcW := hW.at; (try dsimp only at hcW); go_simp; first | done | with_reducible rfl)); try simp only [Act.put, List.setIfInBounds_toArray, List.set_cons_zero, List.set_cons_succ]) | (refine takeW 1 (v := ?_) rfl (by decide +kernel) (by decide +kernel) (by decide +kernel) (fun _ _ _ h => h) (Or.inl ⟨by rfl, ?_⟩) ?_; rotate_left 1; (focus (intro W hW; go_simp; first | done | with_reducible rfl)); try simp only [Act.put, List.setIfInBounds_toArray, List.set_cons_zero, List.set_cons_succ]) | (refine takeW 1 rfl (by decide +kernel) (by decide +kernel) (by decide +kernel) (fun _ _ _ h => h) (Or.inr ⟨by rfl, rfl⟩) ?_; try simp only [Act.put, List.setIfInBounds_toArray, List.set_cons_zero, List.set_cons_succ]) | skip); (first | (refine takeT 2 (v := ?_) rfl (by decide +kernel) (by decide +kernel) (by decide +kernel) (fun _ _ _ h => h) (by decide +kernel) (Or.inl ⟨by rfl, ?_⟩) ?_; rotate_left 1; (focus (intro W hW; have hcW := hW.at; (try dsimp only at hcW); go_simp; first | done | with_reducible rfl)); try simp only [Act.put, List.setIfInBounds_toArray, List.set_cons_zero, List.set_cons_succ]) | (refine takeW 2 (v := ?_) rfl (by decide +kernel) (by decide +kernel) (by decide +kernel) (fun _ _ _ h => h) (Or.inl ⟨by rfl, ?_⟩) ?_; rotate_left 1; (focus (intro W hW; go_simp; first | done | with_reducible rfl)); try simp only [Act.put, List.setIfInBounds_toArray, List.set_cons_zero, List.set_cons_succ]) | (refine takeW 2 rfl (by decide +kernel) (by decide +kernel) (by decide +kernel) (fun _ _ _ h => h) (Or.inr ⟨by rfl, rfl⟩) ?_; try simp only [Act.put, List.setIfInBounds_toArray, List.set_cons_zero, List.set_cons_succ]) | skip); (first | (refine takeT 3 (v := ?_) rfl (by decide +kernel) (by decide +kernel) (by decide +kernel) (fun _ _ _ h => h) (by decide +kernel) (Or.inl ⟨by rfl, ?_⟩) ?_; rotate_left 1; (focus (intro W hW; have hcW := hW.at; (try dsimp only at hcW); go_simp; first | done | with_reducible rfl)); try simp only [Act.put, List.setIfInBounds_toArray, List.set_cons_zero, List.set_cons_succ]) | (refine takeW 3 (v := ?_) rfl (by decide +kernel) (by decide +kernel) (by decide +kernel) (fun _ _ _ h => h) (Or.inl ⟨by rfl, ?_⟩) ?_; rotate_left 1; (focus (intro W hW; go_simp; first | done | with_reducible rfl)); try simp only [Act.put, List.setIfInBounds_toArray, List.set_cons_zero, List.set_cons_succ]) | (refine takeW 3 rfl (by decide +kernel) (by decide +kernel) (by decide +kernel) (fun _ _ _ h => h) (Or.inr ⟨by rfl, rfl⟩) ?_; try simp only [Act.put, List.setIfInBounds_toArray, List.set_cons_zero, List.set_cons_succ]) | skip); (first | (refine takeT 4 (v := ?_) rfl (by decide +kernel) (by decide +kernel) (by decide +kernel) (fun _ _ _ h => h) (by decide +kernel) (Or.inl ⟨by rfl, ?_⟩) ?_; rotate_left 1; (focus (intro W hW; have hcW := hW.at; (try dsimp only at hcW); go_simp; first | done | with_reducible rfl)); try simp only [Act.put, List.setIfInBounds_toArray, List.set_cons_zero, List.set_cons_succ]) | (refine takeW 4 (v := ?_) rfl (by decide +kernel) (by decide +kernel) (by decide +kernel) (fun _ _ _ h => h) (Or.inl ⟨by rfl, ?_⟩) ?_; rotate_left 1; (focus (intro W hW; go_simp; first | done | with_reducible rfl)); try simp only [Act.put, List.setIfInBounds_toArray, List.set_cons_zero, List.set_cons_succ]) | (refine takeW 4 rfl (by decide +kernel) (by decide +kernel) (by decide +kernel) (fun _ _ _ h => h) (Or.inr ⟨by rfl, rfl⟩) ?_; try simp only [Act.put, List.setIfInBounds_toArray, List.set_cons_zero, List.set_cons_succ]) | skip); (first | (refine takeT 5 (v := ?_) rfl (by decide +kernel) (by decide +kernel) (by decide +kernel) (fun _ _ _ h => h) (by decide +kernel) (Or.inl ⟨by rfl, ?_⟩) ?_; rotate_left 1; (focus (intro W hW; have hcW := hW.at; (try dsimp only at hcW); go_simp; first | done | with_reducible rfl)); try simp only [Act.put, List.setIfInBounds_toArray, List.set_cons_zero, List.set_cons_succ]) | (refine takeW 5 (v := ?_) rfl (by decide +kernel) (by decide +kernel) (by decide +kernel) (fun _ _ _ h => h) (Or.inl ⟨by rfl, ?_⟩) ?_; rotate_left 1; (focus (intro W hW; go_simp; first | done | with_reducible rfl)); try simp only [Act.put, List.setIfInBounds_toArray, List.set_cons_zero, List.set_cons_succ]) | (refine takeW 5 rfl (by decide +kernel) (by decide +kernel) (by decide +kernel) (fun _ _ _ h => h) (Or.inr ⟨by rfl, rfl⟩) ?_; try simp only [Act.put, List.setIfInBounds_toArray, List.set_cons_zero, List.set_cons_succ]) | skip); (first | (refine takeT 6 (v := ?_) rfl (by decide +kernel) (by decide +kernel) (by decide +kernel) (fun _ _ _ h => h) (by decide +kernel) (Or.inl ⟨by rfl, ?_⟩) ?_; rotate_left 1; (focus (intro W hW; have hcW := hW.at; (try dsimp only at hcW); go_simp; first | done | with_reducible rfl)); try simp only [Act.put, List.setIfInBounds_toArray, List.set_cons_zero, List.set_cons_succ]) | (refine takeW 6 (v := ?_) rfl (by decide +kernel) (by decide +kernel) (by decide +kernel) (fun _ _ _ h => h) (Or.inl ⟨by rfl, ?_⟩) ?_; rotate_left 1; (focus (intro W hW; go_simp; first | done | with_reducible rfl)); try simp only [Act.put, List.setIfInBounds_toArray, List.set_cons_zero, List.set_cons_succ]) | (refine takeW 6 rfl (by decide +kernel) (by decide +kernel) (by decide +kernel) (fun _ _ _ h => h) (Or.inr ⟨by rfl, rfl⟩) ?_; try simp only [Act.put, List.setIfInBounds_toArray, List.set_cons_zero, List.set_cons_succ]) | skip); (first | (refine takeT 7 (v := ?_) rfl (by decide +kernel) (by decide +kernel) (by decide +kernel) (fun _ _ _ h => h) (by decide +kernel) (Or.inl ⟨by rfl, ?_⟩) ?_; rotate_left 1; (focus (intro W hW; have hcW := hW.at; (try dsimp only at hcW); go_simp; first | done | with_reducible rfl)); try simp only [Act.put, List.setIfInBounds_toArray, List.set_cons_zero, List.set_cons_succ]) | (refine takeW 7 (v := ?_) rfl (by decide +kernel) (by decide +kernel) (by decide +kernel) (fun _ _ _ h => h) (Or.inl ⟨by rfl, ?_⟩) ?_; rotate_left 1; (focus (intro W hW; go_simp; first | done | with_reducible rfl)); try simp only [Act.put, List.setIfInBounds_toArray, List.set_cons_zero, List.set_cons_succ]) | (refine takeW 7 rfl (by decide +kernel) (by decide +kernel) (by decide +kernel) (fun _ _ _ h => h) (Or.inr ⟨by rfl, rfl⟩) ?_; try simp only [Act.put, List.setIfInBounds_toArray, List.set_cons_zero, List.set_cons_succ]) | skip); (first | (refine takeT 8 (v := ?_) rfl (by decide +kernel) (by decide +kernel) (by decide +kernel) (fun _ _ _ h => h) (by decide +kernel) (Or.inl ⟨by rfl, ?_⟩) ?_; rotate_left 1; (focus (intro W hW; have hcW := hW.at; (try dsimp only at hcW); go_simp; first | done | with_reducible rfl)); try simp only [Act.put, List.setIfInBounds_toArray, List.set_cons_zero, List.set_cons_succ]) | (refine takeW 8 (v := ?_) rfl (by decide +kernel) (by decide +kernel) (by decide +kernel) (fun _ _ _ h => h) (Or.inl ⟨by rfl, ?_⟩) ?_; rotate_left 1; (focus (intro W hW; go_simp; first | done | with_reducible rfl)); try simp only [Act.put, List.setIfInBounds_toArray, List.set_cons_zero, List.set_cons_succ]) | (refine takeW 8 rfl (by decide +kernel) (by decide +kernel) (by decide +kernel) (fun _ _ _ h => h) (Or.inr ⟨by rfl, rfl⟩) ?_; try simp only [Act.put, List.setIfInBounds_toArray, List.set_cons_zero, List.set_cons_succ]) | skip); (first | (refine takeT 9 (v := ?_) rfl (by decide +kernel) (by decide +kernel) (by decide +kernel) (fun _ _ _ h => h) (by decide +kernel) (Or.inl ⟨by rfl, ?_⟩) ?_; rotate_left 1; (focus (intro W hW; have hcW := hW.at; (try dsimp only at hcW); go_simp; first | done | with_reducible rfl)); try simp only [Act.put, List.setIfInBounds_toArray, List.set_cons_zero, List.set_cons_succ]) | (refine takeW 9 (v := ?_) rfl (by decide +kernel) (by decide +kernel) (by decide +kernel) (fun _ _ _ h => h) (Or.inl ⟨by rfl, ?_⟩) ?_; rotate_left 1; (focus (intro W hW; go_simp; first | done | with_reducible rfl)); try simp only [Act.put, List.setIfInBounds_toArray, List.set_cons_zero, List.set_cons_succ]) | (refine takeW 9 rfl (by decide +kernel) (by decide +kernel) (by decide +kernel) (fun _ _ _ h => h) (Or.inr ⟨by rfl, rfl⟩) ?_; try simp only [Act.put, List.setIfInBounds_toArray, List.set_cons_zero, List.set_cons_succ]) | skip); (first | (refine takeT 10 (v := ?_) rfl (by decide +kernel) (by decide +kernel) (by decide +kernel) (fun _ _ _ h => h) (by decide +kernel) (Or.inl ⟨by rfl, ?_⟩) ?_; rotate_left 1; (focus (intro W hW; have hcW := hW.at; (try dsimp only at hcW); go_simp; first | done | with_reducible rfl)); try simp only [Act.put, List.setIfInBounds_toArray, List.set_cons_zero, List.set_cons_succ]) | (refine takeW 10 (v := ?_) rfl (by decide +kernel) (by decide +kernel) (by decide +kernel) (fun _ _ _ h => h) (Or.inl ⟨by rfl, ?_⟩) ?_; rotate_left 1; (focus (intro W hW; go_simp; first | done | with_reducible rfl)); try simp only [Act.put, List.setIfInBounds_toArray, List.set_cons_zero, List.set_cons_succ]) | (refine takeW 10 rfl (by decide +kernel) (by decide +kernel) (by decide +kernel) (fun _ _ _ h => h) (Or.inr ⟨by rfl, rfl⟩) ?_; try simp only [Act.put, List.setIfInBounds_toArray, List.set_cons_zero, List.set_cons_succ]) | skip); (first | (refine takeT 11 (v := ?_) rfl (by decide +kernel) (by decide +kernel) (by decide +kernel) (fun _ _ _ h => h) (by decide +kernel) (Or.inl ⟨by rfl, ?_⟩) ?_; rotate_left 1; (focus (intro W hW; have hcW := hW.at; (try dsimp only at hcW); go_simp; first | done | with_reducible rfl)); try simp only [Act.put, List.setIfInBounds_toArray, List.set_cons_zero, List.set_cons_succ]) | (refine takeW 11 (v := ?_) rfl (by decide +kernel) (by decide +kernel) (by decide +kernel) (fun _ _ _ h => h) (Or.inl ⟨by rfl, ?_⟩) ?_; rotate_left 1; (focus (intro W hW; go_simp; first | done | with_reducible rfl)); try simp only [Act.put, List.setIfInBounds_toArray, List.set_cons_zero, List.set_cons_succ]) | (refine takeW 11 rfl (by decide +kernel) (by decide +kernel) (by decide +kernel) (fun _ _ _ h => h) (Or.inr ⟨by rfl, rfl⟩) ?_; try simp only [Act.put, List.setIfInBounds_toArray, List.set_cons_zero, List.set_cons_succ]) | skip); (first | (refine takeT 12 (v := ?_) rfl (by decide +kernel) (by decide +kernel) (by decide +kernel) (fun _ _ _ h => h) (by decide +kernel) (Or.inl ⟨by rfl, ?_⟩) ?_; rotate_left 1; (focus (intro W hW; have hcW := hW.at; (try dsimp only at hcW); go_simp; first | done | with_reducible rfl)); try simp only [Act.put, List.setIfInBounds_toArray, List.set_cons_zero, List.set_cons_succ]) | (refine takeW 12 (v := ?_) rfl (by decide +kernel) (by decide +kernel) (by decide +kernel) (fun _ _ _ h => h) (Or.inl ⟨by rfl, ?_⟩) ?_; rotate_left 1; (focus (intro W hW; go_simp; first | done | with_reducible rfl)); try simp only [Act.put, List.setIfInBounds_toArray, List.set_cons_zero, List.set_cons_succ]) | (refine takeW 12 rfl (by decide +kernel) (by decide +kernel) (by decide +kernel) (fun _ _ _ h => h) (Or.inr ⟨by rfl, rfl⟩) ?_; try simp only [Act.put, List.setIfInBounds_toArray, List.set_cons_zero, List.set_cons_succ]) | skip); (first | (refine takeT 13 (v := ?_) rfl (by decide +kernel) (by decide +kernel) (by decide +kernel) (fun _ _ _ h => h) (by decide +kernel) (Or.inl ⟨by rfl, ?_⟩) ?_; rotate_left 1; (focus (intro W hW; have hcW := hW.at; (try dsimp only at hcW); go_simp; first | done | with_reducible rfl)); try simp only [Act.put, List.setIfInBounds_toArray, List.set_cons_zero, List.set_cons_succ]) | (refine takeW 13 (v := ?_) rfl (by decide +kernel) (by decide +kernel) (by decide +kernel) (fun _ _ _ h => h) (Or.inl ⟨by rfl, ?_⟩) ?_; rotate_left 1; (focus (intro W hW; go_simp; first | done | with_reducible rfl)); try simp only [Act.put, List.setIfInBounds_toArray, List.set_cons_zero, List.set_cons_succ]) | (refine takeW 13 rfl (by decide +kernel) (by decide +kernel) (by decide +kernel) (fun _ _ _ h => h) (Or.inr ⟨by rfl, rfl⟩) ?_; try simp only [Act.put, List.setIfInBounds_toArray, List.set_cons_zero, List.set_cons_succ]) | skip); (first | (refine takeT 14 (v := ?_) rfl (by decide +kernel) (by decide +kernel) (by decide +kernel) (fun _ _ _ h => h) (by decide +kernel) (Or.inl ⟨by rfl, ?_⟩) ?_; rotate_left 1; (focus (intro W hW; have hcW := hW.at; (try dsimp only at hcW); go_simp; first | done | with_reducible rfl)); try simp only [Act.put, List.setIfInBounds_toArray, List.set_cons_zero, List.set_cons_succ]) | (refine takeW 14 (v := ?_) rfl (by decide +kernel) (by decide +kernel) (by decide +kernel) (fun _ _ _ h => h) (Or.inl ⟨by rfl, ?_⟩) ?_; rotate_left 1; (focus (intro W hW; go_simp; first | done | with_reducible rfl)); try simp only [Act.put, List.setIfInBounds_toArray, List.set_cons_zero, List.set_cons_succ]) | (refine takeW 14 rfl (by decide +kernel) (by decide +kernel) (by decide +kernel) (fun _ _ _ h => h) (Or.inr ⟨by rfl, rfl⟩) ?_; try simp only [Act.put, List.setIfInBounds_toArray, List.set_cons_zero, List.set_cons_succ]) | skip); (first | (refine takeT 15 (v := ?_) rfl (by decide +kernel) (by decide +kernel) (by decide +kernel) (fun _ _ _ h => h) (by decide +kernel) (Or.inl ⟨by rfl, ?_⟩) ?_; rotate_left 1; (focus (intro W hW; have hcW := hW.at; (try dsimp only at hcW); go_simp; first | done | with_reducible rfl)); try simp only [Act.put, List.setIfInBounds_toArray, List.set_cons_zero, List.set_cons_succ]) | (refine takeW 15 (v := ?_) rfl (by decide +kernel) (by decide +kernel) (by decide +kernel) (fun _ _ _ h => h) (Or.inl ⟨by rfl, ?_⟩) ?_; rotate_left 1; (focus (intro W hW; go_simp; first | done | with_reducible rfl)); try simp only [Act.put, List.setIfInBounds_toArray, List.set_cons_zero, List.set_cons_succ]) | (refine takeW 15 rfl (by decide +kernel) (by decide +kernel) (by decide +kernel) (fun _ _ _ h => h) (Or.inr ⟨by rfl, rfl⟩) ?_; try simp only [Act.put, List.setIfInBounds_toArray, List.set_cons_zero, List.set_cons_succ]) | skip); (first | (refine takeT 16 (v := ?_) rfl (by decide +kernel) (by decide +kernel) (by decide +kernel) (fun _ _ _ h => h) (by decide +kernel) (Or.inl ⟨by rfl, ?_⟩) ?_; rotate_left 1; (focus (intro W hW; have hcW := hW.at; (try dsimp only at hcW); go_simp; first | done | with_reducible rfl)); try simp only [Act.put, List.setIfInBounds_toArray, List.set_cons_zero, List.set_cons_succ]) | (refine takeW 16 (v := ?_) rfl (by decide +kernel) (by decide +kernel) (by decide +kernel) (fun _ _ _ h => h) (Or.inl ⟨by rfl, ?_⟩) ?_; rotate_left 1; (focus (intro W hW; go_simp; first | done | with_reducible rfl)); try simp only [Act.put, List.setIfInBounds_toArray, List.set_cons_zero, List.set_cons_succ]) | (refine takeW 16 rfl (by decide +kernel) (by decide +kernel) (by decide +kernel) (fun _ _ _ h => h) (Or.inr ⟨by rfl, rfl⟩) ?_; try simp only [Act.put, List.setIfInBounds_toArray, List.set_cons_zero, List.set_cons_succ]) | skip); (first | (refine takeT 17 (v := ?_) rfl (by decide +kernel) (by decide +kernel) (by decide +kernel) (fun _ _ _ h => h) (by decide +kernel) (Or.inl ⟨by rfl, ?_⟩) ?_; rotate_left 1; (focus (intro W hW; have hcW := hW.at; (try dsimp only at hcW); go_simp; first | done | with_reducible rfl)); try simp only [Act.put, List.setIfInBounds_toArray, List.set_cons_zero, List.set_cons_succ]) | (refine takeW 17 (v := ?_) rfl (by decide +kernel) (by decide +kernel) (by decide +kernel) (fun _ _ _ h => h) (Or.inl ⟨by rfl, ?_⟩) ?_; rotate_left 1; (focus (intro W hW; go_simp; first | done | with_reducible rfl)); try simp only [Act.put, List.setIfInBounds_toArray, List.set_cons_zero, List.set_cons_succ]) | (refine takeW 17 rfl (by decide +kernel) (by decide +kernel) (by decide +kernel) (fun _ _ _ h => h) (Or.inr ⟨by rfl, rfl⟩) ?_; try simp only [Act.put, List.setIfInBounds_toArray, List.set_cons_zero, List.set_cons_succ]) | skip); (first | (refine takeT 18 (v := ?_) rfl (by decide +kernel) (by decide +kernel) (by decide +kernel) (fun _ _ _ h => h) (by decide +kernel) (Or.inl ⟨by rfl, ?_⟩) ?_; rotate_left 1; (focus (intro W hW; have hcW := hW.at; (try dsimp only at hcW); go_simp; first | done | with_reducible rfl)); try simp only [Act.put, List.setIfInBounds_toArray, List.set_cons_zero, List.set_cons_succ]) | (refine takeW 18 (v := ?_) rfl (by decide +kernel) (by decide +kernel) (by decide +kernel) (fun _ _ _ h => h) (Or.inl ⟨by rfl, ?_⟩) ?_; rotate_left 1; (focus (intro W hW; go_simp; first | done | with_reducible rfl)); try simp only [Act.put, List.setIfInBounds_toArray, List.set_cons_zero, List.set_cons_succ]) | (refine takeW 18 rfl (by decide +kernel) (by decide +kernel) (by decide +kernel) (fun _ _ _ h => h) (Or.inr ⟨by rfl, rfl⟩) ?_; try simp only [Act.put, List.setIfInBounds_toArray, List.set_cons_zero, List.set_cons_succ]) | skip); (first | (refine takeT 19 (v := ?_) rfl (by decide +kernel) (by decide +kernel) (by decide +kernel) (fun _ _ _ h => h) (by decide +kernel) (Or.inl ⟨by rfl, ?_⟩) ?_; rotate_left 1; (focus (intro W hW; have hcW := hW.at; (try dsimp only at hcW); go_simp; first | done | with_reducible rfl)); try simp only [Act.put, List.setIfInBounds_toArray, List.set_cons_zero, List.set_cons_succ]) | (refine takeW 19 (v := ?_) rfl (by decide +kernel) (by decide +kernel) (by decide +kernel) (fun _ _ _ h => h) (Or.inl ⟨by rfl, ?_⟩) ?_; rotate_left 1; (focus (intro W hW; go_simp; first | done | with_reducible rfl)); try simp only [Act.put, List.setIfInBounds_toArray, List.set_cons_zero, List.set_cons_succ]) | (refine takeW 19 rfl (by decide +kernel) (by decide +kernel) (by decide +kernel) (fun _ _ _ h => h) (Or.inr ⟨by rfl, rfl⟩) ?_; try simp only [Act.put, List.setIfInBounds_toArray, List.set_cons_zero, List.set_cons_succ]) | skip))
            refine stepT 20 rfl (by decide +kernel) (by rfl) ?_
            intro K hK
            go_simp
            refine (lists_n w2.drew gl.length _ _ _ _ gl rfl (n1.out.below (Below.refl _ _).drew) (hrd.out.below (Below.refl _ _).drew) (by have := hgll.out; omega)).mono ?_
            rintro e w3 ⟨rfl, bb⟩
            have bb2 : Below w2.heap.size w2 w3 := ⟨bb.os, bb.tape, bb.output, bb.size, bb.block⟩
            refine hK _ _ (.inr fun a ha => by rcases ha with h | h | h | h <;> exact bb.cell (by rw [h]; assumption)) ?_
            have n2b := Lib.hid (n2.out.belowTop bb2)
            have n3b := Lib.hid (n3.out.belowTop bb2)
            have hZ2 := Lib.hid (hZ.out.trans (bb2.mono hZ.out.size))
            have k91 := (bb2.cell (p := ⟨g9, 1, none⟩) lb9).trans e91
            replace lb3 := Nat.lt_of_lt_of_le lb3 bb2.size
            replace lb7 := Nat.lt_of_lt_of_le lb7 bb2.size
            replace lb8 := Nat.lt_of_lt_of_le lb8 bb2.size
            replace lb9 := Nat.lt_of_lt_of_le lb9 bb2.size
            clear hK K bb bb2 n1 n2 n3 hrd hZ e70 e72 e73 e31 e80 e81 e90 e91
            try simp only [Act.put, List.setIfInBounds_toArray, List.set_cons_zero, List.set_cons_succ]
            ((first | (refine takeT 21 (v := ?_) rfl (by decide +kernel) (by decide +kernel) (by decide +kernel) (fun _ _ _ h => h) (by decide +kernel) (Or.inl ⟨by rfl, ?_⟩) ?_; rotate_left 1; (focus (intro W hW; have hcW := hW.at; (try dsimp only at hcW); go_simp; first | done | with_reducible rfl)); try simp only [Act.put, List.setIfInBounds_toArray, List.set_cons_zero, List.set_cons_succ]) | (refine takeW 21 (v := ?_) rfl (by decide +kernel) (by decide +kernel) (by decide +kernel) (fun _ _ _ h => h) (Or.inl ⟨by rfl, ?_⟩) ?_; rotate_left 1; (focus (intro W hW; go_simp; first | done | with_reducible rfl)); try simp only [Act.put, List.setIfInBounds_toArray, List.set_cons_zero, List.set_cons_succ]) | (refine takeW 21 rfl (by decide +kernel) (by decide +kernel) (by decide +kernel) (fun _ _ _ h => h) (Or.inr ⟨by rfl, rfl⟩) ?_; try simp only [Act.put, List.setIfInBounds_toArray, List.set_cons_zero, List.set_cons_succ]) | skip); (first | (refine takeT 22 (v := ?_) rfl (by decide +kernel) (by decide +kernel) (by decide +kernel) (fun _ _ _ h => h) (by decide +kernel) (Or.inl ⟨by rfl, ?_⟩) ?_; rotate_left 1; (focus (intro W hW; have hcW := hW.at; (try dsimp only at hcW); go_simp; first | done | with_reducible rfl)); try simp only [Act.put, List.setIfInBounds_toArray, List.set_cons_zero, List.set_cons_succ]) | (refine takeW 22 (v := ?_) rfl (by decide +kernel) (by decide +kernel) (by decide +kernel) (fun _ _ _ h => h) (Or.inl ⟨by rfl, ?_⟩) ?_; rotate_left 1; (focus (intro W hW; go_simp; first | done | with_reducible rfl)); try simp only [Act.put, List.setIfInBounds_toArray, List.set_cons_zero, List.set_cons_succ]) | (refine takeW 22 rfl (by decide +kernel) (by decide +kernel) (by decide +kernel) (fun _ _ _ h => h) (Or.inr ⟨by rfl, rfl⟩) ?_; try simp only [Act.put, List.setIfInBounds_toArray, List.set_cons_zero, List.set_cons_succ]) | skip); (first | (refine takeT 23 (v := ?_) rfl (by decide +kernel) (by decide +kernel) (by decide +kernel) (fun _ _ _ h => h) (by decide +kernel) (Or.inl ⟨by rfl, ?_⟩) ?_; rotate_left 1; (focus (intro W hW; have hcW := hW.at; (try dsimp only at hcW); go_simp; first | done | with_reducible rfl)); try simp only [Act.put, List.setIfInBounds_toArray, List.set_cons_zero, List.set_cons_succ]) | (refine takeW 23 (v := ?_) rfl (by decide +kernel) (by decide +kernel) (by decide +kernel) (fun _ _ _ h => h) (Or.inl ⟨by rfl, ?_⟩) ?_; rotate_left 1; (focus (intro W hW; go_simp; first | done | with_reducible rfl)); try simp only [Act.put, List.setIfInBounds_toArray, List.set_cons_zero, List.set_cons_succ]) | (refine takeW 23 rfl (by decide +kernel) (by decide +kernel) (by decide +kernel) (fun _ _ _ h => h) (Or.inr ⟨by rfl, rfl⟩) ?_; try simp only [Act.put, List.setIfInBounds_toArray, List.set_cons_zero, List.set_cons_succ]) | skip); (first | (refine takeT 24 (v := ?_) rfl (by decide +kernel) (by decide +kernel) (by decide +kernel) (fun _ _ _ h => h) (by decide +kernel) (Or.inl ⟨by rfl, ?_⟩) ?_; rotate_left 1; (focus (intro W hW; have hcW := hW.at; (try dsimp only at hcW); go_simp; first | done | with_reducible rfl)); try simp only [Act.put, List.setIfInBounds_toArray, List.set_cons_zero, List.set_cons_succ]) | (refine takeW 24 (v := ?_) rfl (by decide +kernel) (by decide +kernel) (by decide +kernel) (fun _ _ _ h => h) (Or.inl ⟨by rfl, ?_⟩) ?_; rotate_left 1; (focus (intro W hW; go_simp; first | done | with_reducible rfl)); try simp only [Act.put, List.setIfInBounds_toArray, List.set_cons_zero, List.set_cons_succ]) | (refine takeW 24 rfl (by decide +kernel) (by decide +kernel) (by decide +kernel) (fun _ _ _ h => h) (Or.inr ⟨by rfl, rfl⟩) ?_; try simp only [Act.put, List.setIfInBounds_toArray, List.set_cons_zero, List.set_cons_succ]) | skip); (first | (refine takeT 25 (v := ?_) rfl (by decide +kernel) (by decide +kernel) (by decide +kernel) (fun _ _ _ h => h) (by decide +kernel) (Or.inl ⟨by rfl, ?_⟩) ?_; rotate_left 1; (focus (intro W hW; have hcW := hW.at; (try dsimp only at hcW); go_simp; first | done | with_reducible rfl)); try simp only [Act.put, List.setIfInBounds_toArray, List.set_cons_zero, List.set_cons_succ]) | (refine takeW 25 (v := ?_) rfl (by decide +kernel) (by decide +kernel) (by decide +kernel) (fun _ _ _ h => h) (Or.inl ⟨by rfl, ?_⟩) ?_; rotate_left 1; (focus (intro W hW; go_simp; first | done | with_reducible rfl)); try simp only [Act.put, List.setIfInBounds_toArray, List.set_cons_zero, List.set_cons_succ]) | (refine takeW 25 rfl (by decide +kernel) (by decide +kernel) (by decide +kernel) (fun _ _ _ h => h) (Or.inr ⟨by rfl, rfl⟩) ?_; try simp only [Act.put, List.setIfInBounds_toArray, List.set_cons_zero, List.set_cons_succ]) | skip); (first | (refine takeT 26 (v := ?_) rfl (by decide +kernel) (by decide +kernel) (by decide +kernel) (fun _ _ _ h => h) (by decide +kernel) (Or.inl ⟨by rfl, ?_⟩) ?_; rotate_left 1; (focus (intro W hW; have hcW := hW.at; (try dsimp only at hcW); go_simp; first | done | with_reducible rfl)); try simp only [Act.put, List.setIfInBounds_toArray, List.set_cons_zero, List.set_cons_succ]) | (refine takeW 26 (v := ?_) rfl (by decide +kernel) (by decide +kernel) (by decide +kernel) (fun _ _ _ h => h) (Or.inl ⟨by rfl, ?_⟩) ?_; rotate_left 1; (focus (intro W hW; go_simp; first | done | with_reducible rfl)); try simp only [Act.put, List.setIfInBounds_toArray, List.set_cons_zero, List.set_cons_succ]) | (refine takeW 26 rfl (by decide +kernel) (by decide +kernel) (by decide +kernel) (fun _ _ _ h => h) (Or.inr ⟨by rfl, rfl⟩) ?_; try simp only [Act.put, List.setIfInBounds_toArray, List.set_cons_zero, List.set_cons_succ]) | skip))
            refine stepT 27 rfl (by decide +kernel) (by rfl) ?_
            intro K hK
            go_simp
            refine (lists_n w3 gg.length _ _ _ _ gg rfl n2b.out n3b.out (by omega)).mono ?_
            rintro e w4 ⟨rfl, bb⟩
            refine hK _ _ (.inr fun a ha => by rcases ha with h | h | h | h <;> exact bb.cell (by rw [h]; assumption)) ?_
            have hZ3 := Lib.hid (hZ2.out.trans (bb.mono hZ2.out.size))
            replace lb3 := Nat.lt_of_lt_of_le lb3 bb.size
            replace lb7 := Nat.lt_of_lt_of_le lb7 bb.size
            replace lb8 := Nat.lt_of_lt_of_le lb8 bb.size
            replace lb9 := Nat.lt_of_lt_of_le lb9 bb.size
            clear hK K bb n2b n3b hZ2 k91
            try simp only [Act.put, List.setIfInBounds_toArray, List.set_cons_zero, List.set_cons_succ]
            ((first | (refine takeT 28 (v := ?_) rfl (by decide +kernel) (by decide +kernel) (by decide +kernel) (fun _ _ _ h => h) (by decide +kernel) (Or.inl ⟨by rfl, ?_⟩) ?_; rotate_left 1; (focus (intro W hW; have hcW := hW.at; (try dsimp only at hcW); go_simp; first | done | with_reducible rfl)); try simp only [Act.put, List.setIfInBounds_toArray, List.set_cons_zero, List.set_cons_succ]) | (refine takeW 28 (v := ?_) rfl (by decide +kernel) (by decide +kernel) (by decide +kernel) (fun _ _ _ h => h) (Or.inl ⟨by rfl, ?_⟩) ?_; rotate_left 1; (focus (intro W hW; go_simp; first | done | with_reducible rfl)); try simp only [Act.put, List.setIfInBounds_toArray, List.set_cons_zero, List.set_cons_succ]) | (refine takeW 28 rfl (by decide +kernel) (by decide +kernel) (by decide +kernel) (fun _ _ _ h => h) (Or.inr ⟨by rfl, rfl⟩) ?_; try simp only [Act.put, List.setIfInBounds_toArray, List.set_cons_zero, List.set_cons_succ]) | skip); (first | (refine takeT 29 (v := ?_) rfl (by decide +kernel) (by decide +kernel) (by decide +kernel) (fun _ _ _ h => h) (by decide +kernel) (Or.inl ⟨by rfl, ?_⟩) ?_; rotate_left 1; (focus (intro W hW; have hcW := hW.at; (try dsimp only at hcW); go_simp; first | done | with_reducible rfl)); try simp only [Act.put, List.setIfInBounds_toArray, List.set_cons_zero, List.set_cons_succ]) | (refine takeW 29 (v := ?_) rfl (by decide +kernel) (by decide +kernel) (by decide +kernel) (fun _ _ _ h => h) (Or.inl ⟨by rfl, ?_⟩) ?_; rotate_left 1; (focus (intro W hW; go_simp; first | done | with_reducible rfl)); try simp only [Act.put, List.setIfInBounds_toArray, List.set_cons_zero, List.set_cons_succ]) | (refine takeW 29 rfl (by decide +kernel) (by decide +kernel) (by decide +kernel) (fun _ _ _ h => h) (Or.inr ⟨by rfl, rfl⟩) ?_; try simp only [Act.put, List.setIfInBounds_toArray, List.set_cons_zero, List.set_cons_succ]) | skip); (first | (refine takeT 30 (v := ?_) rfl (by decide +kernel) (by decide +kernel) (by decide +kernel) (fun _ _ _ h => h) (by decide +kernel) (Or.inl ⟨by rfl, ?_⟩) ?_; rotate_left 1; (focus (intro W hW; have hcW := hW.at; (try dsimp only at hcW); go_simp; first | done | with_reducible rfl)); try simp only [Act.put, List.setIfInBounds_toArray, List.set_cons_zero, List.set_cons_succ]) | (refine takeW 30 (v := ?_) rfl (by decide +kernel) (by decide +kernel) (by decide +kernel) (fun _ _ _ h => h) (Or.inl ⟨by rfl, ?_⟩) ?_; rotate_left 1; (focus (intro W hW; go_simp; first | done | with_reducible rfl)); try simp only [Act.put, List.setIfInBounds_toArray, List.set_cons_zero, List.set_cons_succ]) | (refine takeW 30 rfl (by decide +kernel) (by decide +kernel) (by decide +kernel) (fun _ _ _ h => h) (Or.inr ⟨by rfl, rfl⟩) ?_; try simp only [Act.put, List.setIfInBounds_toArray, List.set_cons_zero, List.set_cons_succ]) | skip))
            refine stepT 31 rfl (by decide +kernel) (by rfl) ?_
            intro K hK
            go_simp
            refine (lives_any w4).mono ?_
            rintro e w5 ⟨rfl, bb⟩
            refine hK _ _ (.inr fun a ha => by rcases ha with h | h | h | h <;> exact bb.cell (by rw [h]; assumption)) ?_
            have hZ4 := Lib.hid (hZ3.out.trans (bb.mono hZ3.out.size))
            clear hK K bb hZ3
            try simp only [Act.put, List.setIfInBounds_toArray, List.set_cons_zero, List.set_cons_succ]
            ((first | (refine takeT 32 (v := ?_) rfl (by decide +kernel) (by decide +kernel) (by decide +kernel) (fun _ _ _ h => h) (by decide +kernel) (Or.inl ⟨by rfl, ?_⟩) ?_; rotate_left 1; (focus (intro W hW; have hcW := hW.at; (try dsimp only at hcW); go_simp; first | done | with_reducible rfl)); try simp only [Act.put, List.setIfInBounds_toArray, List.set_cons_zero, List.set_cons_succ]) | (refine takeW 32 (v := ?_) rfl (by decide +kernel) (by decide +kernel) (by decide +kernel) (fun _ _ _ h => h) (Or.inl ⟨by rfl, ?_⟩) ?_; rotate_left 1; (focus (intro W hW; go_simp; first | done | with_reducible rfl)); try simp only [Act.put, List.setIfInBounds_toArray, List.set_cons_zero, List.set_cons_succ]) | (refine takeW 32 rfl (by decide +kernel) (by decide +kernel) (by decide +kernel) (fun _ _ _ h => h) (Or.inr ⟨by rfl, rfl⟩) ?_; try simp only [Act.put, List.setIfInBounds_toArray, List.set_cons_zero, List.set_cons_succ]) | skip); (first | (refine takeT 33 (v := ?_) rfl (by decide +kernel) (by decide +kernel) (by decide +kernel) (fun _ _ _ h => h) (by decide +kernel) (Or.inl ⟨by rfl, ?_⟩) ?_; rotate_left 1; (focus (intro W hW; have hcW := hW.at; (try dsimp only at hcW); go_simp; first | done | with_reducible rfl)); try simp only [Act.put, List.setIfInBounds_toArray, List.set_cons_zero, List.set_cons_succ]) | (refine takeW 33 (v := ?_) rfl (by decide +kernel) (by decide +kernel) (by decide +kernel) (fun _ _ _ h => h) (Or.inl ⟨by rfl, ?_⟩) ?_; rotate_left 1; (focus (intro W hW; go_simp; first | done | with_reducible rfl)); try simp only [Act.put, List.setIfInBounds_toArray, List.set_cons_zero, List.set_cons_succ]) | (refine takeW 33 rfl (by decide +kernel) (by decide +kernel) (by decide +kernel) (fun _ _ _ h => h) (Or.inr ⟨by rfl, rfl⟩) ?_; try simp only [Act.put, List.setIfInBounds_toArray, List.set_cons_zero, List.set_cons_succ]) | skip))
            refine doneT (by kernel_rfl) ?_
            go_wp2
            go_ret
            exact ⟨rfl, hZ4.out⟩

theorem lawRun_any (w : World) (st rt : Bool) (A A' A2 : Option Addr) (c c' c2 : Nat) (ps qs : List (List UInt8)) (h : Rds w w.heap.size A c ps) (h' : Rds w w.heap.size A' c' qs) (xs : List UInt8) (h2 : Rd w w.heap.size A2 c2 xs) :
    Calls Try.prog 5 #[sv st (.slice A ps.length c), sv rt (.slice A' qs.length c'), .slice A2 xs.length c2] w (ResB w true) := by
  by_cases hs : SmallP ps 20
  · by_cases hs' : SmallP qs 20
    · rcases Nat.lt_or_ge 200 xs.length with hn | hn
      · exact lrun_many w st rt A A' A2 c c' c2 xs.length ps qs h h' hs hs' hn
      · exact lrun_good w st rt A A' A2 c c' c2 ps qs h h' hs hs' xs h2 hn
    · exact lrun_small2 w st rt A A' A2 c c' c2 xs.length ps qs h h' hs hs'
  · exact lrun_small1 w st rt A A' A2 c c' c2 qs.length xs.length ps h hs

end Go.Proofs.Ytodbjdpbigboiaa
