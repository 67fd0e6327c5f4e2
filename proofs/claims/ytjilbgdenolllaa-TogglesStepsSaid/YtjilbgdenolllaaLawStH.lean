/-
  The law TogglesSteps: its good ways; no statement is proved here.
-/
import Derived.Test.YtjilbgdenolllaaLawStE
namespace Go.Proofs.Ytjilbgdenolllaa
open Go Go.RowKit

theorem below_undrew {n : Nat} {W W1 : World} (h : Below n W.drew W1) : Below n W W1 := ⟨h.os, h.tape, h.output, h.size, h.block⟩
theorem pk_rds {w : World} {base e : Nat} {A : Option Addr} {n c : Nat} {ps : List (List UInt8)} (h : Pk w base e (.slice A n c) ps) : Rds w w.heap.size A c ps := by
  obtain ⟨A1, c1, e1, hr⟩ := h.rds
  injection e1 with e1 _ e3
  subst e1 e3
  exact hr
/-- What the law's code finds whenever it looks. -/
structure Cx (B g3 g4 : Nat) (st rt : Bool) (A A' A2 A5 A6 : Option Addr) (c c' c2 c5 c6 : Nat) (ps qs : List (List UInt8)) (xs : List UInt8) (V W : World) : Prop where
  b3 : W.heap[g3]? = some (.cells #[.bool st, .slice A ps.length c] 28 (0, 0))
  b4 : W.heap[g4]? = some (.cells #[.bool rt, .slice A' qs.length c'] 39 (0, 0))
  l3 : g3 < B
  l4 : g4 < B
  s : Rds W B A c ps
  g : Rds W B A' c' qs
  x : Rd W B A2 c2 xs
  l : Rds W B A5 c5 ps
  k : Rds W B A6 c6 qs
  bel : Below B V W
  le : B ≤ W.heap.size
namespace Cx
variable {B g3 g4 : Nat} {st rt : Bool} {A A' A2 A5 A6 : Option Addr} {c c' c2 c5 c6 : Nat} {ps qs : List (List UInt8)} {xs : List UInt8} {V W W' : World}
theorem step (h : Cx B g3 g4 st rt A A' A2 A5 A6 c c' c2 c5 c6 ps qs xs V W) (hb : Below B W W') : Cx B g3 g4 st rt A A' A2 A5 A6 c c' c2 c5 c6 ps qs xs V W' :=
  ⟨(hb.block _ h.l3).trans h.b3, (hb.block _ h.l4).trans h.b4, h.l3, h.l4, h.s.below hb, h.g.below hb, h.x.below hb, h.l.below hb, h.k.below hb, h.bel.trans hb, Nat.le_trans h.le hb.size⟩
theorem next (h : Cx B g3 g4 st rt A A' A2 A5 A6 c c' c2 c5 c6 ps qs xs V W) (hb : Below W.heap.size W W') : Cx B g3 g4 st rt A A' A2 A5 A6 c c' c2 c5 c6 ps qs xs V W' := h.step (hb.mono h.le)
theorem alloc (h : Cx B g3 g4 st rt A A' A2 A5 A6 c c' c2 c5 c6 ps qs xs V W) (o : Obj) : Cx B g3 g4 st rt A A' A2 A5 A6 c c' c2 c5 c6 ps qs xs V (W.alloc o) := h.step ((Below.refl B W).alloc h.le o)
end Cx

end Go.Proofs.Ytjilbgdenolllaa
