/-
  Helper text: Differ, and the walk of the law PacketsSame; no statement is proved here.
-/
import Derived.Test.YtkfkcpogcobmbaaDoorChk
namespace Go.Proofs.YtkfkcpogcobmbaaDoor
open Go Go.RowKit

def difN (b : Bool) : Int := bif b then 0 else 1

set_option maxHeartbeats 1600000 in
set_option maxRecDepth 100000 in
theorem differ_core (w : World) (a b : Rg) (A A' : Option Addr) (c c' : Nat) (xs ys : List UInt8) (hx : Rd w w.heap.size A c xs) (hy : Rd w w.heap.size A' c' ys) (ha : a.data = .slice A xs.length c) (hb : b.data = .slice A' ys.length c')
    (b1 b2 b3 b4 b5 b6 b7 b8 b9 : Bool) (h1 : ((a.pid : Int) == (b.pid : Int)) = b1) (h2 : ((a.addr : Int) == (b.addr : Int)) = b2) (h3 : ((a.endp : Int) == (b.endp : Int)) = b3) (h4 : ((a.frame : Int) == (b.frame : Int)) = b4) (h5 : ((a.hub : Int) == (b.hub : Int)) = b5) (h6 : ((a.port : Int) == (b.port : Int)) = b6) (h7 : (a.comp == b.comp) = b7) (h8 : (a.low == b.low) = b8) (h9 : ((a.kind : Int) == (b.kind : Int)) = b9) :
    Calls Tryd.prog 22 #[.agg (pcells a), .agg (pcells b)] w fun e w' => e = .returned (.int .i64 (difN (b1 && b2 && b3 && b4 && b5 && b6 && b7 && b8 && b9 && decide (xs = ys)))) ∧ Below w.heap.size w w' := by
  have t1 : ((a.pid : Int) != (b.pid : Int)) = !b1 := by rw [bne, h1]
  have t2 : ((a.addr : Int) != (b.addr : Int)) = !b2 := by rw [bne, h2]
  have t3 : ((a.endp : Int) != (b.endp : Int)) = !b3 := by rw [bne, h3]
  have t4 : ((a.frame : Int) != (b.frame : Int)) = !b4 := by rw [bne, h4]
  have t5 : ((a.hub : Int) != (b.hub : Int)) = !b5 := by rw [bne, h5]
  have t6 : ((a.port : Int) != (b.port : Int)) = !b6 := by rw [bne, h6]
  have t7 : (a.comp != b.comp) = !b7 := by rw [bne, h7]
  have t8 : (a.low != b.low) = !b8 := by rw [bne, h8]
  have t9 : ((a.kind : Int) != (b.kind : Int)) = !b9 := by rw [bne, h9]
  obtain ⟨p0, p1, p2, p3, p4, p5, p6, p7, p8, p9, p10⟩ := a
  obtain ⟨q0, q1, q2, q3, q4, q5, q6, q7, q8, q9, q10⟩ := b
  simp only at ha hb h1 t1 h2 t2 h3 t3 h4 t4 h5 t5 h6 t6 h7 t7 h8 t8 h9 t9
  subst ha; subst hb
  simp only [pcells]
  have hx2 := Lib.hid ((hx.alloc (Nat.le_refl _) (.cells #[.int .u8 (p0 : Int), .int .u8 (p1 : Int), .int .u8 (p2 : Int), .int .u16 (p3 : Int), .int .u8 (p4 : Int), .int .u8 (p5 : Int), .bool p6, .bool p7, .int .u8 (p8 : Int), .slice A xs.length c] 40)).alloc (Nat.le_trans (Nat.le_refl _) (by simp)) (.cells #[.int .u8 (q0 : Int), .int .u8 (q1 : Int), .int .u8 (q2 : Int), .int .u16 (q3 : Int), .int .u8 (q4 : Int), .int .u8 (q5 : Int), .bool q6, .bool q7, .int .u8 (q8 : Int), .slice A' ys.length c'] 40))
  have hy2 := Lib.hid ((hy.alloc (Nat.le_refl _) (.cells #[.int .u8 (p0 : Int), .int .u8 (p1 : Int), .int .u8 (p2 : Int), .int .u16 (p3 : Int), .int .u8 (p4 : Int), .int .u8 (p5 : Int), .bool p6, .bool p7, .int .u8 (p8 : Int), .slice A xs.length c] 40)).alloc (Nat.le_trans (Nat.le_refl _) (by simp)) (.cells #[.int .u8 (q0 : Int), .int .u8 (q1 : Int), .int .u8 (q2 : Int), .int .u16 (q3 : Int), .int .u8 (q4 : Int), .int .u8 (q5 : Int), .bool q6, .bool q7, .int .u8 (q8 : Int), .slice A' ys.length c'] 40))
  cases b1
  · go_enter Tryd.func22, Tryd.ntmps22
    go_wp2
    go_ret
    exact ⟨rfl, ((Below.refl _ w).alloc (Nat.le_refl _) _).alloc (by simp) _⟩
  cases b2
  · go_enter Tryd.func22, Tryd.ntmps22
    go_wp2
    go_ret
    exact ⟨rfl, ((Below.refl _ w).alloc (Nat.le_refl _) _).alloc (by simp) _⟩
  cases b3
  · go_enter Tryd.func22, Tryd.ntmps22
    go_wp2
    go_ret
    exact ⟨rfl, ((Below.refl _ w).alloc (Nat.le_refl _) _).alloc (by simp) _⟩
  cases b4
  · go_enter Tryd.func22, Tryd.ntmps22
    go_wp2
    go_ret
    exact ⟨rfl, ((Below.refl _ w).alloc (Nat.le_refl _) _).alloc (by simp) _⟩
  cases b5
  · go_enter Tryd.func22, Tryd.ntmps22
    go_wp2
    go_ret
    exact ⟨rfl, ((Below.refl _ w).alloc (Nat.le_refl _) _).alloc (by simp) _⟩
  cases b6
  · go_enter Tryd.func22, Tryd.ntmps22
    go_wp2
    go_ret
    exact ⟨rfl, ((Below.refl _ w).alloc (Nat.le_refl _) _).alloc (by simp) _⟩
  cases b7
  · go_enter Tryd.func22, Tryd.ntmps22
    go_wp2
    go_ret
    exact ⟨rfl, ((Below.refl _ w).alloc (Nat.le_refl _) _).alloc (by simp) _⟩
  cases b8
  · go_enter Tryd.func22, Tryd.ntmps22
    go_wp2
    go_ret
    exact ⟨rfl, ((Below.refl _ w).alloc (Nat.le_refl _) _).alloc (by simp) _⟩
  cases b9
  · go_enter Tryd.func22, Tryd.ntmps22
    go_wp2
    go_ret
    exact ⟨rfl, ((Below.refl _ w).alloc (Nat.le_refl _) _).alloc (by simp) _⟩
  have s1 := hx2.out.str (P := Tryd.prog) (t := 22) (e := 5) Tryd.underlying22 Tryd.underlying5 (d := 9) Tryd.underlying9
  have s2 := hy2.out.str (P := Tryd.prog) (t := 22) (e := 5) Tryd.underlying22 Tryd.underlying5 (d := 9) Tryd.underlying9
  have he := eqStr xs ys
  obtain ⟨bx, hbx⟩ : ∃ bx, decide (xs = ys) = bx := ⟨_, rfl⟩
  have hbxh := Lib.hid hbx
  rw [hbx] at he
  clear hbx
  generalize (⟨xs.toArray⟩ : ByteArray) = sx at s1 he
  generalize (⟨ys.toArray⟩ : ByteArray) = sy at s2 he
  cases bx
  · go_enter Tryd.func22, Tryd.ntmps22
    go_wp2
    go_ret
    rw [hbxh.out]
    exact ⟨rfl, ((Below.refl _ w).alloc (Nat.le_refl _) _).alloc (by simp) _⟩
  · go_enter Tryd.func22, Tryd.ntmps22
    go_wp2
    go_ret
    rw [hbxh.out]
    exact ⟨rfl, ((Below.refl _ w).alloc (Nat.le_refl _) _).alloc (by simp) _⟩
theorem differ_any (w : World) (a b : Rg) (A A' : Option Addr) (c c' : Nat) (xs ys : List UInt8) (hx : Rd w w.heap.size A c xs) (hy : Rd w w.heap.size A' c' ys) (ha : a.data = .slice A xs.length c) (hb : b.data = .slice A' ys.length c') :
    Calls Tryd.prog 22 #[.agg (pcells a), .agg (pcells b)] w fun e w' => e = .returned (.int .i64 (difN (sameB a b xs ys))) ∧ Below w.heap.size w w' :=
  differ_core w a b A A' c c' xs ys hx hy ha hb _ _ _ _ _ _ _ _ _ (castEq _ _) (castEq _ _) (castEq _ _) (castEq _ _) (castEq _ _) (castEq _ _) rfl rfl (castEq _ _)

end Go.Proofs.YtkfkcpogcobmbaaDoor
