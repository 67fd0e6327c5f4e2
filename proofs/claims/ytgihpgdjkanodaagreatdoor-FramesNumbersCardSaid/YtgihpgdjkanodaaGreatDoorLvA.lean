/-
  Helper text, several in one; no statement is proved here.
-/
import Derived.Test.YtgihpgdjkanodaaGreatDoorRsA
namespace Go.Proofs.YtgihpgdjkanodaaGreatDoor
open Go Go.RowKit

/-- What the device of the examples answers. -/
def exA (p : Pkt) : Pkt × Bool := if p.pid = 9 then (⟨3, 0, 0, 0, 0, 0, false, false, 0, [7]⟩, true) else if p.pid = 3 ∨ p.pid = 11 then (⟨2, 0, 0, 0, 0, 0, false, false, 0, []⟩, true) else (zeroP, false)
theorem exA_ok (p : Pkt) : (exA p).1.Ok := by
  unfold exA
  split
  · constructor <;> simp
  · split
    · constructor <;> simp
    · exact zeroP_ok

/-- An answer in new memory is returned. -/
def AnsNew (w : World) (a : Pkt × Bool) (e : Ending) (w' : World) : Prop :=
  ∃ A c, e = .returned (.tuple #[pkV a.1 A c, .bool a.2]) ∧ RdS (fun k => w.heap.size ≤ k ∧ k < w'.heap.size) w' A c a.1.data ∧ Below w.heap.size w w'

theorem seven_rd (W : World) (t : Nat) : RdS (fun k => k = W.heap.size) (W.alloc (.cells #[.int .u8 7] t)) (some ⟨W.heap.size, 0, none⟩) 1 [7] :=
  ⟨by simp, by omega, fun _ => ⟨W.heap.size, 0, rfl, rfl, fun j hj => by
    have : j = 0 := by simpa using hj
    subst this
    exact block_at (alloc1 W _) rfl⟩⟩

/-- What its method answers. -/
def exR (p : Pkt) : Pkt × Bool := if (exA p).2 = true then exA p else (zeroP, false)

/-- .. as a device. -/
def exH (_ : Unit) (p : Pkt) : Unit × Pkt × Bool := ((), exR p)
theorem exR_ok (p : Pkt) : (exR p).1.Ok := by
  unfold exR
  split
  · exact exA_ok p
  · exact zeroP_ok
end Go.Proofs.YtgihpgdjkanodaaGreatDoor

namespace Go.Proofs.YtgihpgdjkanodaaGreatDoor
open Go Go.RowKit

theorem askR_len {σ τ : Type} (hear : σ → Pkt → σ × Pkt × Bool) (next : τ → τ × Nat) : AskLen (askR hear next) := fun s t l p => by
  unfold askR
  split
  · show (l ++ _).length ≤ _
    rw [List.length_append]; simp
  · show l.length ≤ _
    omega

/-- An outcome, and what was sent; only blocks from M on have changed. -/
def ExPost (M : Nat) (w : World) (r : Nat × List UInt8) (l : List SentP) (e : Ending) (w' : World) : Prop :=
  ∃ A1 c1 A2 c2, e = .returned (.tuple #[.agg #[.int .u8 (r.1 : Int), .slice A1 r.2.length c1], .slice A2 l.length c2]) ∧ RdS (fun k => M ≤ k) w' A1 c1 r.2 ∧ RdL laySn (fun k => M ≤ k) w' A2 c2 l ∧ Below M w w'

abbrev nextN (t : Unit) : Unit × Nat := (t, 0)
/-- The transactions, and what they come to. -/
def tr1 : Tr := ⟨0, 0, 9, false, false, 8, []⟩
def tr2 : Tr := ⟨0, 0, 9, true, false, 8, []⟩
def tr3 : Tr := ⟨0, 0, 9, false, false, 0, []⟩
def tr4 : Tr := ⟨0, 0, 1, false, false, 0, [1]⟩
def tr6 : Tr := ⟨0, 0, 13, false, false, 0, [0, 0, 0, 0, 0, 0, 0]⟩
theorem tr1_ok : tr1.Ok := by constructor <;> decide
theorem tr2_ok : tr2.Ok := by constructor <;> decide
theorem tr3_ok : tr3.Ok := by constructor <;> decide
theorem tr4_ok : tr4.Ok := by constructor <;> decide
theorem tr6_ok : tr6.Ok := by constructor <;> decide
abbrev pIn : Pkt := ⟨9, 0, 0, 0, 0, 0, false, false, 0, []⟩
abbrev pOut : Pkt := ⟨1, 0, 0, 0, 0, 0, false, false, 0, []⟩
abbrev pD7 : Pkt := ⟨3, 0, 0, 0, 0, 0, false, false, 0, [7]⟩
abbrev pD1 : Pkt := ⟨3, 0, 0, 0, 0, 0, false, false, 0, [1]⟩
theorem d1 : doR nextN (askR exH nextN) () () tr1 = (((), (), [(pIn, true, 0), (pD7, false, 0), (ackP, true, 0)]), 1, [7]) := by kernel_rfl
theorem d2 : doR nextN (askR exH nextN) () () tr2 = (((), (), [(pIn, true, 0), (pD7, false, 0), (ackP, true, 0)]), 6, []) := by kernel_rfl
theorem d3 : doR nextN (askR exH nextN) () () tr3 = (((), (), [(pIn, true, 0), (pD7, false, 0)]), 5, []) := by kernel_rfl
theorem d4 : doR lineN (askR exH lineN) () [1] tr4 = (((), [], [(pOut, true, 1), (pD1, true, 0)]), 4, []) := by kernel_rfl
theorem d5 : doR lineN (askR exH lineN) () [0, 2] tr4 = (((), [], [(pOut, true, 0), (pD1, true, 2)]), 4, []) := by kernel_rfl
theorem d6 : doR nextN (askR exH nextN) () () tr6 = (((), (), []), 0, []) := by kernel_rfl

/-- The faults of a list of two. -/
theorem two_faults {F : Nat → Prop} {w : World} {A : Option Addr} {c : Nat} {p q : SentP} (h : RdL laySn F w A c [p, q]) : ∃ b off, A = some ⟨b, off, none⟩ ∧ b < w.heap.size ∧ w.cell? ⟨b, off + 11, none⟩ = some (.int .u8 (p.2.2 : Int)) ∧ w.cell? ⟨b, off + 23, none⟩ = some (.int .u8 (q.2.2 : Int)) := by
  obtain ⟨b, off, vs, e, _, ⟨A1, c1, rest, hv, _, ⟨A2, c2, rest2, hv2, _, hv3⟩⟩, hc⟩ := h.cells (by simp)
  have hv3' : rest2 = [] := hv3
  subst hv3'
  subst hv2
  subst hv
  have h1 := hc 11 (by show (11 : Nat) < 2 * 12; omega)
  have h2 := hc 23 (by show (23 : Nat) < 2 * 12; omega)
  exact ⟨b, off, e, World.block_lt_of_cell? _ _ h1, h1, h2⟩

theorem RdL.lt {ι : Type} {L : Lay ι} {F : Nat → Prop} {w : World} {A : Option Addr} {c : Nat} {l : List ι} (h : RdL L F w A c l) (hpos : 0 < L.sz) : RdL L (fun k => F k ∧ k < w.heap.size) w A c l := ⟨h.le, h.cap, fun hn => by
  obtain ⟨b, off, vs, e, h1, h2, h3⟩ := h.cells hn
  have hlt : b < w.heap.size := by
    have hv := h2.length
    have h0 : 0 < l.length * L.sz := Nat.mul_pos hn hpos
    have := h3 0 h0
    rw [List.getElem?_eq_getElem (by omega)] at this
    exact World.block_lt_of_cell? _ _ this
  exact ⟨b, off, vs, e, ⟨h1, hlt⟩, h2.lt, h3⟩⟩
theorem RdL.below {ι : Type} {L : Lay ι} {F : Nat → Prop} {w w' : World} {A : Option Addr} {c : Nat} {l : List ι} (h : RdL L F w A c l) (hb : Below w.heap.size w w') (hpos : 0 < L.sz) : RdL L F w' A c l :=
  ((h.lt hpos).keep fun k hk => hb.block k hk.2).mono fun _ hk => hk.1
theorem RdL.grown {ι : Type} {L : Lay ι} {F : Nat → Prop} {w w' : World} {A : Option Addr} {c g : Nat} {l : List ι} (h : RdL L F w A c l) (hg : w.grownBy w' (some g)) (hF : ∀ k, F k → k ≠ g) (hpos : 0 < L.sz) : RdL L F w' A c l :=
  ((h.lt hpos).keep fun k hk => hg.block k hk.2 (fun e => by injection e with e; exact hF k hk.1 e)).mono fun _ hk => hk.1
theorem one_rd (W : World) : RdS (fun k => k = W.heap.size) (W.alloc (.cells #[.int .u8 1] 5)) (some ⟨W.heap.size, 0, none⟩) 1 [1] :=
  ⟨by simp, by omega, fun _ => ⟨W.heap.size, 0, rfl, rfl, fun j hj => by
    have : j = 0 := by simpa using hj
    subst this
    exact block_at (alloc1 W _) rfl⟩⟩
theorem two_rd (W : World) : RdS (fun k => k = W.heap.size) (W.alloc (.cells #[.int .u8 0, .int .u8 2] 5)) (some ⟨W.heap.size, 0, none⟩) 2 [0, 2] :=
  ⟨by simp, by omega, fun _ => ⟨W.heap.size, 0, rfl, rfl, fun j hj => by
    have : j = 0 ∨ j = 1 := by simp at hj; omega
    rcases this with rfl | rfl
    · exact block_at (alloc1 W _) rfl
    · exact block_at (alloc1 W _) rfl⟩⟩
theorem zeros_rd (W : World) : RdS (fun k => k = W.heap.size) (W.alloc (.cells #[.int .u8 0, .int .u8 0, .int .u8 0, .int .u8 0, .int .u8 0, .int .u8 0, .int .u8 0] 5)) (some ⟨W.heap.size, 0, none⟩) 7 [0, 0, 0, 0, 0, 0, 0] :=
  ⟨by simp, by omega, fun _ => ⟨W.heap.size, 0, rfl, rfl, fun j hj => by
    have : j = 0 ∨ j = 1 ∨ j = 2 ∨ j = 3 ∨ j = 4 ∨ j = 5 ∨ j = 6 := by simp at hj; omega
    rcases this with rfl | rfl | rfl | rfl | rfl | rfl | rfl
    all_goals exact block_at (alloc1 W _) rfl⟩⟩
theorem wire_one (X : World) (A : Option Addr) (h : Rd X X.heap.size A 1 [1]) : Calls Tryz.prog 14 #[.slice A 1 1] X (LinePost X [1]) := (show [1].map m3 = [1] by decide) ▸ wire_any X A 1 [1] h (by decide)
theorem wire_two (X : World) (A : Option Addr) (h : Rd X X.heap.size A 2 [0, 2]) : Calls Tryz.prog 14 #[.slice A 2 2] X (LinePost X [0, 2]) := (show [0, 2].map m3 = [0, 2] by decide) ▸ wire_any X A 2 [0, 2] h (by decide)
theorem make_seven (W : World) : (Instr.makeSlice 47 (.int .i64 7) (.int .i64 7)).run Tryz.prog W = .ok (.slice (some ⟨W.heap.size, 0, none⟩) 7 7) (W.alloc (.cells #[.int .u8 0, .int .u8 0, .int .u8 0, .int .u8 0, .int .u8 0, .int .u8 0, .int .u8 0] 5)) := by
  obtain ⟨i0, hi, hz0, hz1, hz2⟩ := info_parts Tryz.info5'
  have := run_make (P := Tryz.prog) W 47 5 i0 (.int .u8 0) Tryz.underlying47 hi hz0 .i64 .i64 7 7 (by omega) (by omega) (by rw [hz2]; decide) (by omega)
  rw [this, hz1, show (Value.int IntKind.u8 0).cells = #[.int .u8 0] from rfl, madeZero]
  rfl

theorem faults_at {F : Nat → Prop} {w : World} {b off c : Nat} {p q : SentP} (h : RdL laySn F w (some ⟨b, off, none⟩) c [p, q]) : w.cell? ⟨b, off + 11, none⟩ = some (.int .u8 (p.2.2 : Int)) ∧ w.cell? ⟨b, off + 12 + 11, none⟩ = some (.int .u8 (q.2.2 : Int)) := by
  obtain ⟨b', off', e, _, h1, h2⟩ := two_faults h
  injection e with e
  injection e with e1 e2
  subst e1; subst e2
  exact ⟨h1, h2⟩

end Go.Proofs.YtgihpgdjkanodaaGreatDoor

