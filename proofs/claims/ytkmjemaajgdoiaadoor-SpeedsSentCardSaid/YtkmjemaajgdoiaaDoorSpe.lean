/-
  Helper text: the packets of splits, summed; what the three functions that sum return; no statement is proved here.
-/
import Derived.Test.YtkmjemaajgdoiaaDoorSpd
namespace Go.Proofs.YtkmjemaajgdoiaaDoor
open Go Go.RowKit

theorem SumAt.to {B t t' : Nat} {w : World} (h : SumAt B t w) (e : t' = t) : SumAt B t' w := e ▸ h

set_option maxHeartbeats 1600000 in
set_option maxRecDepth 100000 in
theorem startC (w : World) (B Bi Bn Bk k n : Nat) (i : Bool) (hk : k < 256) (hn : n ≤ 1024) (h : SumAt B 0 w) (ci : w.heap[Bi]? = some (.cells #[.bool i] 4 (0, 0))) (cn : w.heap[Bn]? = some (.cells #[.int .i64 (n : Int)] 3 (0, 0)))
    (ck : w.heap[Bk]? = some (.cells #[.int .u8 (k : Int)] 36 (0, 0))) (ni : B ≠ Bi) (nn : B ≠ Bn) (nk : B ≠ Bk) :
    Calls Tryd.prog 42 #[packV B, .pointer (some ⟨Bi, 0, none⟩), .pointer (some ⟨Bn, 0, none⟩), .pointer (some ⟨Bk, 0, none⟩)] w (Adds w B (startN k i n)) := by
  have hl := worstN_le (n := n + 3) (by omega)
  have K1 := Lib.hid fun W t (h : SumAt B t W) (ht : t ≤ 1000000) => pack_any W B t 4 h (by omega) ht
  have K4 := Lib.hid fun W t (h : SumAt B t W) (ht : t ≤ 1000000) => pack_any W B t 3 h (by omega) ht
  have K2 := Lib.hid fun W t (h : SumAt B t W) (ht : t ≤ 1000000) => pack_any W B t (n + 3) h (by omega) ht
  have K3 := Lib.hid fun W t (h : SumAt B t W) (ht : t ≤ 1000000) => pack_any W B t 1 h (by omega) ht
  have Ht := Lib.hid (show startN k i n = 103 + (if i then 0 else worstN (n + 3) + 8) + (if k = 0 ∨ k = 2 then 28 else 0) from rfl)
  have e3 : ((n + 3 : Nat) : Int) = 3 + (n : Int) := by omega
  rw [e3] at K2
  generalize worstN (n + 3) = x at hl Ht K2
  generalize startN k i n = T at Ht ⊢
  go_enter Tryd.func42, Tryd.ntmps42
  go_wp2_with fail
  refine (K1.out _ _ h (by omega)).mono ?_
  rintro e w1 ⟨rfl, s1, g1⟩
  go_wp2_with fail
  refine (K4.out _ _ s1 (by simp [worstN])).mono ?_
  rintro e w2 ⟨rfl, s2, g2⟩
  have g2 := grown_trans g1 g2
  have c0 := cell_of_one (one_at (r := none) g2 ci ni)
  cases i with
  | true =>
    have c2 := cell_of_one (one_at (r := none) g2 ck nk)
    by_cases hk0 : k = 0
    · subst hk0
      go_wp2_with fail
      refine (K3.out _ _ s2 (by simp [worstN])).mono ?_
      rintro e w3 ⟨rfl, s3, g3⟩
      go_wp2
      go_end0
      exact ⟨rfl, s3.to (by rw [Ht.out]; simp [worstN] <;> omega), grown_trans g2 g3⟩
    · by_cases hk2 : k = 2
      · subst hk2
        go_wp2_with fail
        refine (K3.out _ _ s2 (by simp [worstN])).mono ?_
        rintro e w3 ⟨rfl, s3, g3⟩
        go_wp2
        go_end0
        exact ⟨rfl, s3.to (by rw [Ht.out]; simp [worstN] <;> omega), grown_trans g2 g3⟩
      · have hki : ¬ (k : Int) = 0 := by omega
        have hkb : ((k : Int) == 0) = false := by rw [beq_eq_false_iff_ne]; exact hki
        have hki2 : ¬ (k : Int) = 2 := by omega
        have hkb2 : ((k : Int) == 2) = false := by rw [beq_eq_false_iff_ne]; exact hki2
        go_wp2
        go_end0
        exact ⟨rfl, s2.to (by rw [Ht.out]; simp [worstN]  <;> omega), g2⟩
  | false =>
    have c1 := cell_of_one (one_at (r := none) g2 cn nn)
    go_wp2_with fail
    refine (K2.out _ _ s2 (by simp [worstN])).mono ?_
    rintro e w3 ⟨rfl, s3, g3⟩
    have g3 := grown_trans g2 g3
    have c2 := cell_of_one (one_at (r := none) g3 ck nk)
    by_cases hk0 : k = 0
    · subst hk0
      go_wp2_with fail
      refine (K3.out _ _ s3 (by simp [worstN]; omega)).mono ?_
      rintro e w4 ⟨rfl, s4, g4⟩
      go_wp2
      go_end0
      exact ⟨rfl, s4.to (by rw [Ht.out]; simp [worstN] <;> omega), grown_trans g3 g4⟩
    · by_cases hk2 : k = 2
      · subst hk2
        go_wp2_with fail
        refine (K3.out _ _ s3 (by simp [worstN]; omega)).mono ?_
        rintro e w4 ⟨rfl, s4, g4⟩
        go_wp2
        go_end0
        exact ⟨rfl, s4.to (by rw [Ht.out]; simp [worstN] <;> omega), grown_trans g3 g4⟩
      · have hki : ¬ (k : Int) = 0 := by omega
        have hkb : ((k : Int) == 0) = false := by rw [beq_eq_false_iff_ne]; exact hki
        have hki2 : ¬ (k : Int) = 2 := by omega
        have hkb2 : ((k : Int) == 2) = false := by rw [beq_eq_false_iff_ne]; exact hki2
        go_wp2
        go_end0
        exact ⟨rfl, s3.to (by rw [Ht.out]; simp [worstN] <;> omega), g3⟩

set_option maxHeartbeats 1600000 in
set_option maxRecDepth 100000 in
theorem complC (w : World) (B Bi Bn Bk k n : Nat) (i : Bool) (hk : k < 256) (hn : n ≤ 1024) (h : SumAt B 0 w) (ci : w.heap[Bi]? = some (.cells #[.bool i] 4 (0, 0))) (cn : w.heap[Bn]? = some (.cells #[.int .i64 (n : Int)] 3 (0, 0)))
    (ck : w.heap[Bk]? = some (.cells #[.int .u8 (k : Int)] 36 (0, 0))) (ni : B ≠ Bi) (nn : B ≠ Bn) (nk : B ≠ Bk) :
    Calls Tryd.prog 43 #[packV B, .pointer (some ⟨Bi, 0, none⟩), .pointer (some ⟨Bn, 0, none⟩), .pointer (some ⟨Bk, 0, none⟩)] w (Adds w B (complN k i n)) := by
  have hl := worstN_le (n := n + 3) (by omega)
  have K1 := Lib.hid fun W t (h : SumAt B t W) (ht : t ≤ 1000000) => pack_any W B t 4 h (by omega) ht
  have K4 := Lib.hid fun W t (h : SumAt B t W) (ht : t ≤ 1000000) => pack_any W B t 3 h (by omega) ht
  have K2 := Lib.hid fun W t (h : SumAt B t W) (ht : t ≤ 1000000) => pack_any W B t (n + 3) h (by omega) ht
  have K3 := Lib.hid fun W t (h : SumAt B t W) (ht : t ≤ 1000000) => pack_any W B t 1 h (by omega) ht
  have Ht := Lib.hid (show complN k i n = 103 + (if i then worstN (n + 3) + 8 else 0) + (if k = 1 then 0 else 28) from rfl)
  have e3 : ((n + 3 : Nat) : Int) = 3 + (n : Int) := by omega
  rw [e3] at K2
  generalize worstN (n + 3) = x at hl Ht K2
  generalize complN k i n = T at Ht ⊢
  go_enter Tryd.func43, Tryd.ntmps43
  go_wp2_with fail
  refine (K1.out _ _ h (by omega)).mono ?_
  rintro e w1 ⟨rfl, s1, g1⟩
  go_wp2_with fail
  refine (K4.out _ _ s1 (by simp [worstN])).mono ?_
  rintro e w2 ⟨rfl, s2, g2⟩
  have g2 := grown_trans g1 g2
  have c0 := cell_of_one (one_at (r := none) g2 ci ni)
  cases i with
  | false =>
    have c2 := cell_of_one (one_at (r := none) g2 ck nk)
    by_cases hk1 : k = 1
    · subst hk1
      go_wp2
      go_end0
      exact ⟨rfl, s2.to (by rw [Ht.out]; simp [worstN]  <;> omega), g2⟩
    · have hki : ¬ (k : Int) = 1 := by omega
      have hkb : ((k : Int) == 1) = false := by rw [beq_eq_false_iff_ne]; exact hki
      go_wp2_with fail
      refine (K3.out _ _ s2 (by simp [worstN])).mono ?_
      rintro e w3 ⟨rfl, s3, g3⟩
      go_wp2
      go_end0
      exact ⟨rfl, s3.to (by rw [Ht.out]; first | (simp [worstN] <;> omega) | (simp [worstN, hk1] <;> omega)), grown_trans g2 g3⟩
  | true =>
    have c1 := cell_of_one (one_at (r := none) g2 cn nn)
    go_wp2_with fail
    refine (K2.out _ _ s2 (by simp [worstN])).mono ?_
    rintro e w3 ⟨rfl, s3, g3⟩
    have g3 := grown_trans g2 g3
    have c2 := cell_of_one (one_at (r := none) g3 ck nk)
    by_cases hk1 : k = 1
    · subst hk1
      go_wp2
      go_end0
      exact ⟨rfl, s3.to (by rw [Ht.out]; first | (simp [worstN] <;> omega) | (simp [worstN, hk1] <;> omega)), g3⟩
    · have hki : ¬ (k : Int) = 1 := by omega
      have hkb : ((k : Int) == 1) = false := by rw [beq_eq_false_iff_ne]; exact hki
      go_wp2_with fail
      refine (K3.out _ _ s3 (by simp [worstN]; omega)).mono ?_
      rintro e w4 ⟨rfl, s4, g4⟩
      go_wp2
      go_end0
      exact ⟨rfl, s4.to (by rw [Ht.out]; first | (simp [worstN] <;> omega) | (simp [worstN, hk1] <;> omega)), grown_trans g3 g4⟩

/-- A number is returned; what was there is as it was. -/
def ResZ (w : World) (x : Nat) (e : Ending) (w' : World) : Prop := e = .returned (.int .i64 (x : Int)) ∧ Below w.heap.size w w'

set_option maxHeartbeats 800000 in
set_option maxRecDepth 100000 in
theorem last_transaction (w : World) (Bn Bk k n : Nat) (hk : k < 256) (hn : n ≤ 1024) (ck : w.heap[Bk]? = some (.cells #[.int .u8 (k : Int)] 36 (0, 0))) (cn : w.heap[Bn]? = some (.cells #[.int .i64 (n : Int)] 3 (0, 0))) :
    Calls Tryd.prog 40 #[.func (.func 41) #[] #[.pointer (some ⟨Bn, 0, none⟩), .pointer (some ⟨Bk, 0, none⟩)]] w (ResZ w (transN k n)) := by
  have hmf : ∀ (fn : Fn) (first cap : Array Value) (w : World), (Instr.makeFunc fn first cap).run Tryd.prog w = .ok (.func fn first cap) w := fun _ _ _ _ => rfl
  have h0 : ∀ (o' : Obj) (b : Nat), w.heap[b]? = some o' → (w.alloc (.cells #[.int .i64 0] 3)).heap[b]? = some o' := fun o' b h => (Below.heap_alloc w _ b (lt_of_block h)).trans h
  have hne : ∀ {b : Nat} {o' : Obj}, w.heap[b]? = some o' → w.heap.size ≠ b := fun h e => by have := lt_of_block h; omega
  have Hs := Lib.hid (heap_alloc_new w (.cells #[.int .i64 0] 3))
  have Hb := Lib.hid ((Below.refl w.heap.size w).alloc (Nat.le_refl _) (.cells #[.int .i64 0] 3))
  have H := Lib.hid (transC (w.alloc (.cells #[.int .i64 0] 3)) w.heap.size Bk Bn k n hk hn Hs.out (h0 _ _ ck) (h0 _ _ cn) (hne ck) (hne cn))
  clear h0 hne
  generalize transN k n = T at H ⊢
  go_enter Tryd.func40, Tryd.ntmps40
  go_wp2_with fail
  refine H.out.mono ?_
  rintro e w1 ⟨rfl, s1, g1⟩
  have c9 := cell_of_one s1
  clear H
  go_wp2
  go_ret
  exact ⟨rfl, Hb.out.grown g1 Hb.out.size fun k e => by cases e; exact Nat.le_refl _⟩

set_option maxHeartbeats 800000 in
set_option maxRecDepth 100000 in
theorem last_startSplit (w : World) (Bi Bn Bk k n : Nat) (i : Bool) (hk : k < 256) (hn : n ≤ 1024) (ci : w.heap[Bi]? = some (.cells #[.bool i] 4 (0, 0))) (cn : w.heap[Bn]? = some (.cells #[.int .i64 (n : Int)] 3 (0, 0))) (ck : w.heap[Bk]? = some (.cells #[.int .u8 (k : Int)] 36 (0, 0))) :
    Calls Tryd.prog 40 #[.func (.func 42) #[] #[.pointer (some ⟨Bi, 0, none⟩), .pointer (some ⟨Bn, 0, none⟩), .pointer (some ⟨Bk, 0, none⟩)]] w (ResZ w (startN k i n)) := by
  have hmf : ∀ (fn : Fn) (first cap : Array Value) (w : World), (Instr.makeFunc fn first cap).run Tryd.prog w = .ok (.func fn first cap) w := fun _ _ _ _ => rfl
  have h0 : ∀ (o' : Obj) (b : Nat), w.heap[b]? = some o' → (w.alloc (.cells #[.int .i64 0] 3)).heap[b]? = some o' := fun o' b h => (Below.heap_alloc w _ b (lt_of_block h)).trans h
  have hne : ∀ {b : Nat} {o' : Obj}, w.heap[b]? = some o' → w.heap.size ≠ b := fun h e => by have := lt_of_block h; omega
  have Hs := Lib.hid (heap_alloc_new w (.cells #[.int .i64 0] 3))
  have Hb := Lib.hid ((Below.refl w.heap.size w).alloc (Nat.le_refl _) (.cells #[.int .i64 0] 3))
  have H := Lib.hid (startC (w.alloc (.cells #[.int .i64 0] 3)) w.heap.size Bi Bn Bk k n i hk hn Hs.out (h0 _ _ ci) (h0 _ _ cn) (h0 _ _ ck) (hne ci) (hne cn) (hne ck))
  clear h0 hne
  generalize startN k i n = T at H ⊢
  go_enter Tryd.func40, Tryd.ntmps40
  go_wp2_with fail
  refine H.out.mono ?_
  rintro e w1 ⟨rfl, s1, g1⟩
  have c9 := cell_of_one s1
  clear H
  go_wp2
  go_ret
  exact ⟨rfl, Hb.out.grown g1 Hb.out.size fun k e => by cases e; exact Nat.le_refl _⟩

set_option maxHeartbeats 800000 in
set_option maxRecDepth 100000 in
theorem last_completeSplit (w : World) (Bi Bn Bk k n : Nat) (i : Bool) (hk : k < 256) (hn : n ≤ 1024) (ci : w.heap[Bi]? = some (.cells #[.bool i] 4 (0, 0))) (cn : w.heap[Bn]? = some (.cells #[.int .i64 (n : Int)] 3 (0, 0))) (ck : w.heap[Bk]? = some (.cells #[.int .u8 (k : Int)] 36 (0, 0))) :
    Calls Tryd.prog 40 #[.func (.func 43) #[] #[.pointer (some ⟨Bi, 0, none⟩), .pointer (some ⟨Bn, 0, none⟩), .pointer (some ⟨Bk, 0, none⟩)]] w (ResZ w (complN k i n)) := by
  have hmf : ∀ (fn : Fn) (first cap : Array Value) (w : World), (Instr.makeFunc fn first cap).run Tryd.prog w = .ok (.func fn first cap) w := fun _ _ _ _ => rfl
  have h0 : ∀ (o' : Obj) (b : Nat), w.heap[b]? = some o' → (w.alloc (.cells #[.int .i64 0] 3)).heap[b]? = some o' := fun o' b h => (Below.heap_alloc w _ b (lt_of_block h)).trans h
  have hne : ∀ {b : Nat} {o' : Obj}, w.heap[b]? = some o' → w.heap.size ≠ b := fun h e => by have := lt_of_block h; omega
  have Hs := Lib.hid (heap_alloc_new w (.cells #[.int .i64 0] 3))
  have Hb := Lib.hid ((Below.refl w.heap.size w).alloc (Nat.le_refl _) (.cells #[.int .i64 0] 3))
  have H := Lib.hid (complC (w.alloc (.cells #[.int .i64 0] 3)) w.heap.size Bi Bn Bk k n i hk hn Hs.out (h0 _ _ ci) (h0 _ _ cn) (h0 _ _ ck) (hne ci) (hne cn) (hne ck))
  clear h0 hne
  generalize complN k i n = T at H ⊢
  go_enter Tryd.func40, Tryd.ntmps40
  go_wp2_with fail
  refine H.out.mono ?_
  rintro e w1 ⟨rfl, s1, g1⟩
  have c9 := cell_of_one s1
  clear H
  go_wp2
  go_ret
  exact ⟨rfl, Hb.out.grown g1 Hb.out.size fun k e => by cases e; exact Nat.le_refl _⟩

set_option maxHeartbeats 800000 in
set_option maxRecDepth 100000 in
theorem trans_any (w : World) (k n : Nat) (hk : k < 256) (hn : n ≤ 1024) : Calls Tryd.prog 27 #[.int .u8 (k : Int), .int .i64 (n : Int)] w (ResZ w (transN k n)) := by
  have hmf : ∀ (fn : Fn) (first cap : Array Value) (w : World), (Instr.makeFunc fn first cap).run Tryd.prog w = .ok (.func fn first cap) w := fun _ _ _ _ => rfl
  have h0 : ∀ (W : World) (o o' : Obj) (k : Nat), W.heap[k]? = some o' → (W.alloc o).heap[k]? = some o' := fun W o o' k h => (Below.heap_alloc W o k (lt_of_block h)).trans h
  have Hb := Lib.hid (((Below.refl w.heap.size w).alloc (Nat.le_refl _) (.cells #[.int .u8 (k : Int)] 36)).alloc (by simp) (.cells #[.int .i64 (n : Int)] 3))
  have hz1 : (w.alloc (.cells #[.int .u8 (k : Int)] 36)).heap.size = w.heap.size + 1 := by simp
  have ck := h0 _ (.cells #[.int .i64 (n : Int)] 3) _ _ (heap_alloc_new w (.cells #[.int .u8 (k : Int)] 36))
  have cn := heap_alloc_new (w.alloc (.cells #[.int .u8 (k : Int)] 36)) (.cells #[.int .i64 (n : Int)] 3)
  rw [hz1] at cn
  have K := Lib.hid (last_transaction _ (w.heap.size + 1) w.heap.size k n hk hn ck cn)
  clear ck cn h0 hz1
  go_enter Tryd.func27, Tryd.ntmps27
  go_wp2_with fail
  refine K.out.mono ?_
  rintro e w1 ⟨rfl, b1⟩
  go_wp2
  go_ret
  exact ⟨rfl, Hb.out.trans (b1.mono Hb.out.size)⟩

set_option maxHeartbeats 800000 in
set_option maxRecDepth 100000 in
theorem start_any (w : World) (k n : Nat) (i : Bool) (hk : k < 256) (hn : n ≤ 1024) : Calls Tryd.prog 32 #[.int .u8 (k : Int), .bool i, .int .i64 (n : Int)] w (ResZ w (startN k i n)) := by
  have hmf : ∀ (fn : Fn) (first cap : Array Value) (w : World), (Instr.makeFunc fn first cap).run Tryd.prog w = .ok (.func fn first cap) w := fun _ _ _ _ => rfl
  have h0 : ∀ (W : World) (o o' : Obj) (k : Nat), W.heap[k]? = some o' → (W.alloc o).heap[k]? = some o' := fun W o o' k h => (Below.heap_alloc W o k (lt_of_block h)).trans h
  have Hb := Lib.hid ((((Below.refl w.heap.size w).alloc (Nat.le_refl _) (.cells #[.int .u8 (k : Int)] 36)).alloc (by simp) (.cells #[.bool i] 4)).alloc (by simp; omega) (.cells #[.int .i64 (n : Int)] 3))
  have hz1 : (w.alloc (.cells #[.int .u8 (k : Int)] 36)).heap.size = w.heap.size + 1 := by simp
  have hz2 : ((w.alloc (.cells #[.int .u8 (k : Int)] 36)).alloc (.cells #[.bool i] 4)).heap.size = w.heap.size + 1 + 1 := by simp
  have ck := h0 _ (.cells #[.int .i64 (n : Int)] 3) _ _ (h0 _ (.cells #[.bool i] 4) _ _ (heap_alloc_new w (.cells #[.int .u8 (k : Int)] 36)))
  have ci := h0 _ (.cells #[.int .i64 (n : Int)] 3) _ _ (heap_alloc_new (w.alloc (.cells #[.int .u8 (k : Int)] 36)) (.cells #[.bool i] 4))
  have cn := heap_alloc_new ((w.alloc (.cells #[.int .u8 (k : Int)] 36)).alloc (.cells #[.bool i] 4)) (.cells #[.int .i64 (n : Int)] 3)
  rw [hz1] at ci
  rw [hz2] at cn
  have K := Lib.hid (last_startSplit _ (w.heap.size + 1) (w.heap.size + 1 + 1) w.heap.size k n i hk hn ci cn ck)
  clear ck cn ci h0 hz1 hz2
  go_enter Tryd.func32, Tryd.ntmps32
  go_wp2_with fail
  refine K.out.mono ?_
  rintro e w1 ⟨rfl, b1⟩
  go_wp2
  go_ret
  exact ⟨rfl, Hb.out.trans (b1.mono Hb.out.size)⟩

set_option maxHeartbeats 800000 in
set_option maxRecDepth 100000 in
theorem compl_any (w : World) (k n : Nat) (i : Bool) (hk : k < 256) (hn : n ≤ 1024) : Calls Tryd.prog 33 #[.int .u8 (k : Int), .bool i, .int .i64 (n : Int)] w (ResZ w (complN k i n)) := by
  have hmf : ∀ (fn : Fn) (first cap : Array Value) (w : World), (Instr.makeFunc fn first cap).run Tryd.prog w = .ok (.func fn first cap) w := fun _ _ _ _ => rfl
  have h0 : ∀ (W : World) (o o' : Obj) (k : Nat), W.heap[k]? = some o' → (W.alloc o).heap[k]? = some o' := fun W o o' k h => (Below.heap_alloc W o k (lt_of_block h)).trans h
  have Hb := Lib.hid ((((Below.refl w.heap.size w).alloc (Nat.le_refl _) (.cells #[.int .u8 (k : Int)] 36)).alloc (by simp) (.cells #[.bool i] 4)).alloc (by simp; omega) (.cells #[.int .i64 (n : Int)] 3))
  have hz1 : (w.alloc (.cells #[.int .u8 (k : Int)] 36)).heap.size = w.heap.size + 1 := by simp
  have hz2 : ((w.alloc (.cells #[.int .u8 (k : Int)] 36)).alloc (.cells #[.bool i] 4)).heap.size = w.heap.size + 1 + 1 := by simp
  have ck := h0 _ (.cells #[.int .i64 (n : Int)] 3) _ _ (h0 _ (.cells #[.bool i] 4) _ _ (heap_alloc_new w (.cells #[.int .u8 (k : Int)] 36)))
  have ci := h0 _ (.cells #[.int .i64 (n : Int)] 3) _ _ (heap_alloc_new (w.alloc (.cells #[.int .u8 (k : Int)] 36)) (.cells #[.bool i] 4))
  have cn := heap_alloc_new ((w.alloc (.cells #[.int .u8 (k : Int)] 36)).alloc (.cells #[.bool i] 4)) (.cells #[.int .i64 (n : Int)] 3)
  rw [hz1] at ci
  rw [hz2] at cn
  have K := Lib.hid (last_completeSplit _ (w.heap.size + 1) (w.heap.size + 1 + 1) w.heap.size k n i hk hn ci cn ck)
  clear ck cn ci h0 hz1 hz2
  go_enter Tryd.func33, Tryd.ntmps33
  go_wp2_with fail
  refine K.out.mono ?_
  rintro e w1 ⟨rfl, b1⟩
  go_wp2
  go_ret
  exact ⟨rfl, Hb.out.trans (b1.mono Hb.out.size)⟩

end Go.Proofs.YtkmjemaajgdoiaaDoor
