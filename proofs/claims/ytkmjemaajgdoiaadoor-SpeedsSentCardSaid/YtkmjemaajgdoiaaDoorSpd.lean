/-
  Helper text: the packets of a transaction, summed by a closure; no statement is proved here.
-/
import Derived.Test.YtkmjemaajgdoiaaDoorWo
import Derived.Outline
import Derived.RegionTactic
import Derived.Deep.RegionWith
namespace Go.Proofs.YtkmjemaajgdoiaaDoor
open Go Go.RowKit

set_option maxHeartbeats 400000 in
set_option maxRecDepth 100000 in
theorem worst_any (w : World) (n : Nat) (h : n ≤ 2000) : Calls Tryd.prog 12 #[.int .i64 (n : Int)] w fun e w' => e = .returned (.int .i64 (worstN n : Int)) ∧ w' = w := by
  go_enter Tryd.func12, Tryd.ntmps12
  go_wp2
  go_ret
  exact ⟨congrArg (fun z => Ending.returned (.int .i64 z)) (by unfold worstN; omega), rfl⟩

/-- What a closure over a sum has captured: the sum is t. -/
def SumAt (B t : Nat) (w : World) : Prop := w.heap[B]? = some (.cells #[.int .i64 (t : Int)] 3 (0, 0))
/-- The closure that takes a packet of n bytes. -/
abbrev packV (B : Nat) : Value := .func (.func 54) #[] #[.pointer (some ⟨B, 0, none⟩)]

theorem grown_refl (w : World) (r : Option Nat) : w.grownBy w r := ⟨rfl, rfl, rfl, Nat.le_refl _, fun _ _ _ => rfl⟩
theorem grown_trans {a b c : World} {r : Option Nat} (h : a.grownBy b r) (k : b.grownBy c r) : a.grownBy c r :=
  ⟨k.os.trans h.os, k.tape.trans h.tape, k.output.trans h.output, Nat.le_trans h.size k.size, fun i hi hn => (k.block i (Nat.lt_of_lt_of_le hi h.size) hn).trans (h.block i hi hn)⟩
theorem grown_drew {a b : World} {r : Option Nat} (h : a.grownBy b r) : a.grownBy b.drew r := ⟨h.os, h.tape, h.output, h.size, h.block⟩
theorem grown_setCell (w : World) (p : Addr) (u : Value) : w.grownBy (w.setCell p u) (some p.block) :=
  ⟨rfl, rfl, rfl, by simp, fun k _ hn => Below.heap_setCell _ _ _ _ (fun e => hn (by rw [e]))⟩
theorem SumAt.store {B t : Nat} {w : World} (h : SumAt B t w) (t' : Nat) : SumAt B t' (w.setCell ⟨B, 0, none⟩ (.int .i64 (t' : Int))).drew ∧ w.grownBy (w.setCell ⟨B, 0, none⟩ (.int .i64 (t' : Int))).drew (some B) :=
  ⟨one_setCell h, grown_drew (grown_setCell _ _ _)⟩

/-- What a closure that adds to the sum does. -/
def Adds (w : World) (B t : Nat) (e : Ending) (w' : World) : Prop := e = .returned (.tuple #[]) ∧ SumAt B t w' ∧ w.grownBy w' (some B)

set_option maxHeartbeats 800000 in
set_option maxRecDepth 100000 in
theorem pack_any (w : World) (B t n : Nat) (h : SumAt B t w) (hn : n ≤ 2000) (ht : t ≤ 1000000) :
    Calls Tryd.prog 54 #[.int .i64 (n : Int), .pointer (some ⟨B, 0, none⟩)] w (Adds w B (t + (worstN n + 8))) := by
  have c1 := cell_of_one h
  have f1 := free_of_one h
  have hl := worstN_le hn
  have e1 := Lib.hid (show (t : Int) + ((worstN n : Int) + 8) = ((t + (worstN n + 8) : Nat) : Int) by omega)
  have e0 : IntKind.i64.wrap ((worstN n : Int) + 8) = (worstN n : Int) + 8 := by simp only [IntKind.wrap_i64]; omega
  have e2 : IntKind.i64.wrap ((t : Int) + ((worstN n : Int) + 8)) = (t : Int) + ((worstN n : Int) + 8) := by simp only [IntKind.wrap_i64]; omega
  have hs := h.store (t + (worstN n + 8))
  have kw := Lib.hid fun W => worst_any W n hn
  generalize worstN n = x at e0 e1 e2 hl kw hs ⊢
  go_enter Tryd.func54, Tryd.ntmps54
  go_wp2
  go_region_with (go_at_call 12; refine (kw.out _).mono ?_; rintro e w' ⟨rfl, rfl⟩)
  all_goals (rw [e1.out]; go_end0; exact ⟨rfl, hs⟩)

/-- The bit times of a transaction's packets. -/
def transN (k n : Nat) : Nat := 47 + (worstN (n + 3) + 8) + (if k = 1 then 0 else 28)
def startN (k : Nat) (i : Bool) (n : Nat) : Nat := 103 + (if i then 0 else worstN (n + 3) + 8) + (if k = 0 ∨ k = 2 then 28 else 0)
def complN (k : Nat) (i : Bool) (n : Nat) : Nat := 103 + (if i then worstN (n + 3) + 8 else 0) + (if k = 1 then 0 else 28)

theorem one_at {w w1 : World} {r : Option Nat} {B b : Nat} {cs : Array Value} {t : TypeId} (hg : w.grownBy w1 (some B)) (h : w.heap[b]? = some (.cells cs t (0, 0))) (hn : B ≠ b) : w1.heap[b]? = some (.cells cs t (0, 0)) := by
  rw [hg.block b (lt_of_block h) (fun e => hn (by injection e with e; exact e.symm))]; exact h

set_option maxHeartbeats 1600000 in
set_option maxRecDepth 100000 in
theorem transC (w : World) (B Bk Bn k n : Nat) (hk : k < 256) (hn : n ≤ 1024) (h : SumAt B 0 w) (ck : w.heap[Bk]? = some (.cells #[.int .u8 (k : Int)] 36 (0, 0))) (cn : w.heap[Bn]? = some (.cells #[.int .i64 (n : Int)] 3 (0, 0)))
    (nk : B ≠ Bk) (nn : B ≠ Bn) :
    Calls Tryd.prog 41 #[packV B, .pointer (some ⟨Bn, 0, none⟩), .pointer (some ⟨Bk, 0, none⟩)] w (Adds w B (transN k n)) := by
  have hl := worstN_le (n := n + 3) (by omega)
  have K1 := Lib.hid fun W t (h : SumAt B t W) (ht : t ≤ 1000000) => pack_any W B t 3 h (by omega) ht
  have K2 := Lib.hid fun W t (h : SumAt B t W) (ht : t ≤ 1000000) => pack_any W B t (n + 3) h (by omega) ht
  have K3 := Lib.hid fun W t (h : SumAt B t W) (ht : t ≤ 1000000) => pack_any W B t 1 h (by omega) ht
  have ht : transN k n = 47 + (worstN (n + 3) + 8) + (if k = 1 then 0 else 28) := rfl
  have e3 : ((n + 3 : Nat) : Int) = 3 + (n : Int) := by omega
  rw [e3] at K2
  generalize worstN (n + 3) = x at hl ht K2
  generalize transN k n = T at ht ⊢
  have Ht := Lib.hid ht
  clear ht
  have c1 := cell_of_one cn
  go_enter Tryd.func41, Tryd.ntmps41
  go_wp2_with fail
  refine (K1.out _ _ h (by omega)).mono ?_
  rintro e w1 ⟨rfl, s1, g1⟩
  have c1 := cell_of_one (one_at (r := none) g1 cn nn)
  go_wp2_with fail
  refine (K2.out _ _ s1 (by simp [worstN])).mono ?_
  rintro e w2 ⟨rfl, s2, g2⟩
  have g2 := grown_trans g1 g2
  have c2 := cell_of_one (one_at (r := none) g2 ck nk)
  by_cases hk1 : k = 1
  · subst hk1
    go_wp2
    go_end0
    refine ⟨rfl, ?_, g2⟩
    rw [Ht.out]
    exact s2
  · have hki : ¬ (k : Int) = 1 := by omega
    have hkb : ((k : Int) == 1) = false := by rw [beq_eq_false_iff_ne]; exact hki
    go_wp2_with fail
    refine (K3.out _ _ s2 (by simp [worstN]; omega)).mono ?_
    rintro e w3 ⟨rfl, s3, g3⟩
    go_wp2
    go_end0
    refine ⟨rfl, ?_, grown_trans g2 g3⟩
    rw [Ht.out, if_neg hk1]
    exact s3

end Go.Proofs.YtkmjemaajgdoiaaDoor
