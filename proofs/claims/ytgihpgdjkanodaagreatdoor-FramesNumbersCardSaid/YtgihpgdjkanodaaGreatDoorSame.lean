/-
  Helper text: comparing two packets; no statement is proved here.
-/
import Derived.Test.YtgihpgdjkanodaaGreatDoorPack
namespace Go.Proofs.YtgihpgdjkanodaaGreatDoor
open Go Go.RowKit

theorem eqStr (xs ys : List UInt8) : ((⟨xs.toArray⟩ : ByteArray).toList == (⟨ys.toArray⟩ : ByteArray).toList) = decide (xs = ys) := by
  rw [ByteArray.toList_eq, ByteArray.toList_eq, Bool.eq_iff_iff, beq_iff_eq, decide_eq_true_iff]

set_option maxHeartbeats 800000 in
set_option maxRecDepth 100000 in
theorem bytesEqual_any (w : World) (A A' : Option Addr) (B B' c c' : Nat) (xs ys : List UInt8) (hx : Rd w B A c xs) (hy : Rd w B' A' c' ys) :
    Calls Tryz.prog 81 #[.slice A xs.length c, .slice A' ys.length c'] w fun e w' => e = .returned (.bool (decide (xs = ys))) ∧ w' = w := by
  have s1 := hx.str (P := Tryz.prog) (t := 47) (e := 5) Tryz.underlying47 Tryz.underlying5 (d := 9) Tryz.underlying9
  have s2 := hy.str (P := Tryz.prog) (t := 47) (e := 5) Tryz.underlying47 Tryz.underlying5 (d := 9) Tryz.underlying9
  have he := Lib.hid (eqStr xs ys)
  generalize (⟨xs.toArray⟩ : ByteArray) = p at s1 he
  generalize (⟨ys.toArray⟩ : ByteArray) = q at s2 he
  go_enter Tryz.func81, Tryz.ntmps81
  go_wp2
  go_ret
  rw [he.out]
  exact ⟨rfl, rfl⟩

set_option maxHeartbeats 1600000 in
set_option maxRecDepth 100000 in
theorem same_core (w : World) (a b : Rg) (A A' : Option Addr) (c c' : Nat) (xs ys : List UInt8) (hx : Rd w w.heap.size A c xs) (hy : Rd w w.heap.size A' c' ys) (ha : a.data = .slice A xs.length c) (hb : b.data = .slice A' ys.length c')
    (b1 b2 b3 b4 b5 b6 b7 b8 b9 : Bool) (h1 : ((a.pid : Int) == (b.pid : Int)) = b1) (h2 : ((a.addr : Int) == (b.addr : Int)) = b2) (h3 : ((a.endp : Int) == (b.endp : Int)) = b3) (h4 : ((a.frame : Int) == (b.frame : Int)) = b4) (h5 : ((a.hub : Int) == (b.hub : Int)) = b5) (h6 : ((a.port : Int) == (b.port : Int)) = b6) (h7 : (a.comp == b.comp) = b7) (h8 : (a.low == b.low) = b8) (h9 : ((a.kind : Int) == (b.kind : Int)) = b9) :
    Calls Tryz.prog 62 #[.agg (pcells a), .agg (pcells b)] w fun e w' => e = .returned (.bool (b1 && b2 && b3 && b4 && b5 && b6 && b7 && b8 && b9 && decide (xs = ys))) ∧ Below w.heap.size w w' := by
  obtain ⟨p0, p1, p2, p3, p4, p5, p6, p7, p8, p9, p10⟩ := a
  obtain ⟨q0, q1, q2, q3, q4, q5, q6, q7, q8, q9, q10⟩ := b
  simp only at ha hb h1 h2 h3 h4 h5 h6 h7 h8 h9
  subst ha; subst hb
  simp only [pcells]
  have KE := Lib.hid fun W hW1 hW2 => bytesEqual_any W A A' w.heap.size w.heap.size c c' xs ys hW1 hW2
  have hx2 := Lib.hid ((hx.alloc (Nat.le_refl _) (.cells #[.int .u8 (p0 : Int), .int .u8 (p1 : Int), .int .u8 (p2 : Int), .int .u16 (p3 : Int), .int .u8 (p4 : Int), .int .u8 (p5 : Int), .bool p6, .bool p7, .int .u8 (p8 : Int), .slice A xs.length c] 82)).alloc (Nat.le_trans (Nat.le_refl _) (by simp)) (.cells #[.int .u8 (q0 : Int), .int .u8 (q1 : Int), .int .u8 (q2 : Int), .int .u16 (q3 : Int), .int .u8 (q4 : Int), .int .u8 (q5 : Int), .bool q6, .bool q7, .int .u8 (q8 : Int), .slice A' ys.length c'] 82))
  have hy2 := Lib.hid ((hy.alloc (Nat.le_refl _) (.cells #[.int .u8 (p0 : Int), .int .u8 (p1 : Int), .int .u8 (p2 : Int), .int .u16 (p3 : Int), .int .u8 (p4 : Int), .int .u8 (p5 : Int), .bool p6, .bool p7, .int .u8 (p8 : Int), .slice A xs.length c] 82)).alloc (Nat.le_trans (Nat.le_refl _) (by simp)) (.cells #[.int .u8 (q0 : Int), .int .u8 (q1 : Int), .int .u8 (q2 : Int), .int .u16 (q3 : Int), .int .u8 (q4 : Int), .int .u8 (q5 : Int), .bool q6, .bool q7, .int .u8 (q8 : Int), .slice A' ys.length c'] 82))
  cases b1
  · go_enter Tryz.func62, Tryz.ntmps62
    go_wp2
    go_ret
    exact ⟨rfl, ((Below.refl _ w).alloc (Nat.le_refl _) _).alloc (by simp) _⟩
  cases b2
  · go_enter Tryz.func62, Tryz.ntmps62
    go_wp2
    go_ret
    exact ⟨rfl, ((Below.refl _ w).alloc (Nat.le_refl _) _).alloc (by simp) _⟩
  cases b3
  · go_enter Tryz.func62, Tryz.ntmps62
    go_wp2
    go_ret
    exact ⟨rfl, ((Below.refl _ w).alloc (Nat.le_refl _) _).alloc (by simp) _⟩
  cases b4
  · go_enter Tryz.func62, Tryz.ntmps62
    go_wp2
    go_ret
    exact ⟨rfl, ((Below.refl _ w).alloc (Nat.le_refl _) _).alloc (by simp) _⟩
  cases b5
  · go_enter Tryz.func62, Tryz.ntmps62
    go_wp2
    go_ret
    exact ⟨rfl, ((Below.refl _ w).alloc (Nat.le_refl _) _).alloc (by simp) _⟩
  cases b6
  · go_enter Tryz.func62, Tryz.ntmps62
    go_wp2
    go_ret
    exact ⟨rfl, ((Below.refl _ w).alloc (Nat.le_refl _) _).alloc (by simp) _⟩
  cases b7
  · go_enter Tryz.func62, Tryz.ntmps62
    go_wp2
    go_ret
    exact ⟨rfl, ((Below.refl _ w).alloc (Nat.le_refl _) _).alloc (by simp) _⟩
  cases b8
  · go_enter Tryz.func62, Tryz.ntmps62
    go_wp2
    go_ret
    exact ⟨rfl, ((Below.refl _ w).alloc (Nat.le_refl _) _).alloc (by simp) _⟩
  cases b9
  · go_enter Tryz.func62, Tryz.ntmps62
    go_wp2
    go_ret
    exact ⟨rfl, ((Below.refl _ w).alloc (Nat.le_refl _) _).alloc (by simp) _⟩
  go_enter Tryz.func62, Tryz.ntmps62
  go_wp2_with fail
  refine (KE.out _ hx2.out hy2.out).mono ?_
  rintro e w1 ⟨rfl, rfl⟩
  obtain ⟨b, hbv⟩ : ∃ b, decide (xs = ys) = b := ⟨_, rfl⟩
  have hbh := Lib.hid hbv
  rw [hbv]
  clear hbv
  go_wp2
  go_ret
  rw [hbh.out]
  exact ⟨rfl, ((Below.refl _ w).alloc (Nat.le_refl _) _).alloc (by simp) _⟩

/-- Whether two packets are equal in all fields. -/
def sameB (a b : Rg) (xs ys : List UInt8) : Bool :=
  a.pid == b.pid && a.addr == b.addr && a.endp == b.endp && a.frame == b.frame && a.hub == b.hub && a.port == b.port && a.comp == b.comp && a.low == b.low && a.kind == b.kind && decide (xs = ys)
theorem castEq (a b : Nat) : ((a : Int) == (b : Int)) = (a == b) := by
  rw [Bool.eq_iff_iff, beq_iff_eq, beq_iff_eq]; omega
theorem same_any (w : World) (a b : Rg) (A A' : Option Addr) (c c' : Nat) (xs ys : List UInt8) (hx : Rd w w.heap.size A c xs) (hy : Rd w w.heap.size A' c' ys) (ha : a.data = .slice A xs.length c) (hb : b.data = .slice A' ys.length c') :
    Calls Tryz.prog 62 #[.agg (pcells a), .agg (pcells b)] w fun e w' => e = .returned (.bool (sameB a b xs ys)) ∧ Below w.heap.size w w' :=
  same_core w a b A A' c c' xs ys hx hy ha hb _ _ _ _ _ _ _ _ _ (castEq _ _) (castEq _ _) (castEq _ _) (castEq _ _) (castEq _ _) (castEq _ _) rfl rfl (castEq _ _)

end Go.Proofs.YtgihpgdjkanodaaGreatDoor
