/-
  Helper text: what may be written, and what is kept; packets as plain data; no statement is proved here.
-/
import Derived.Test.YtgihpgdjkanodaaGreatDoorChk
import Derived.Test.YtgihpgdjkanodaaGreatDoorRegB
import Derived.Test.YtgihpgdjkanodaaGreatDoorRegT
namespace Go.Proofs.YtgihpgdjkanodaaGreatDoor
open Go Go.RowKit

/-- From w to w' no old block but those of S has changed; S' holds, besides blocks of S, new ones alone. -/
structure Mv (S : Nat → Prop) (w : World) (S' : Nat → Prop) (w' : World) : Prop where
  os : w'.os = w.os
  tape : w'.tape = w.tape
  output : w'.output = w.output
  size : w.heap.size ≤ w'.heap.size
  keep : ∀ k, k < w.heap.size → ¬ S k → w'.heap[k]? = w.heap[k]?
  new : ∀ k, S' k → S k ∨ w.heap.size ≤ k
namespace Mv
variable {S S' S'' : Nat → Prop} {w w' w'' : World}
theorem refl (S : Nat → Prop) (w : World) : Mv S w S w := ⟨rfl, rfl, rfl, Nat.le_refl _, fun _ _ _ => rfl, fun _ h => .inl h⟩
theorem trans (h : Mv S w S' w') (k : Mv S' w' S'' w'') : Mv S w S'' w'' :=
  ⟨k.os.trans h.os, k.tape.trans h.tape, k.output.trans h.output, Nat.le_trans h.size k.size,
    fun i hi hn => (k.keep i (Nat.lt_of_lt_of_le hi h.size) (fun hs => (h.new i hs).elim hn (fun hle => by omega))).trans (h.keep i hi hn),
    fun i hi => (k.new i hi).elim (h.new i) (fun hle => .inr (Nat.le_trans h.size hle))⟩
theorem of_below (S : Nat → Prop) (h : Below w.heap.size w w') : Mv S w S w' := ⟨h.os, h.tape, h.output, h.size, fun k hk _ => h.block k hk, fun _ h => .inl h⟩
theorem drew (h : Mv S w S' w') : Mv S w S' w'.drew := ⟨h.os, h.tape, h.output, h.size, h.keep, h.new⟩
theorem drewl (h : Mv S w.drew S' w') : Mv S w S' w' := ⟨h.os, h.tape, h.output, h.size, h.keep, h.new⟩
theorem gone (h : Mv S w S' w') {k : Nat} (hk : k < w.heap.size) (hn : ¬ S k) : ¬ S' k := fun hs => (h.new k hs).elim hn (fun hle => by omega)
theorem belowN {N : Nat} (h : Mv S w S' w') (hS : ∀ k, S k → N ≤ k) (hw : N ≤ w.heap.size) : Below N w w' :=
  ⟨h.os, h.tape, h.output, h.size, fun k hk => h.keep k (by omega) (fun hs => by have := hS k hs; omega)⟩
/-- A block of the call's own: what it holds, and that it may not be written. -/
theorem box (h : Mv S w S' w') {k : Nat} {o : Obj} (hb : w.heap[k]? = some o ∧ ¬ S k) : w'.heap[k]? = some o ∧ ¬ S' k := by
  have hk : k < w.heap.size := (Array.getElem?_eq_some_iff.1 hb.1).1
  exact ⟨(h.keep k hk hb.2).trans hb.1, h.gone hk hb.2⟩
theorem alloc (h : Mv S w S' w') (o : Obj) : Mv S w S' (w'.alloc o) := h.trans (of_below S' ((Below.refl _ w').alloc (Nat.le_refl _) o))
theorem sub {T : Nat → Prop} (h : Mv S w S' w') (hT : ∀ k, T k → S' k) : Mv S w T w' := ⟨h.os, h.tape, h.output, h.size, h.keep, fun k hk => h.new k (hT k hk)⟩
theorem frame {G : Nat → Prop} (h : Mv S w S' w') (hG : ∀ k, G k → k < w.heap.size ∧ ¬ S k) : Mv (fun k => S k ∨ G k) w (fun k => S' k ∨ G k) w' :=
  ⟨h.os, h.tape, h.output, h.size, fun k hk hn => h.keep k hk (fun hs => hn (.inl hs)), fun k hk => hk.elim (fun hs => (h.new k hs).imp .inl id) (fun hg => .inl (.inr hg))⟩
/-- A store into a block of S. -/
theorem setCell (h : Mv S w S' w') {p : Addr} (hp : S' p.block) (u : Value) : Mv S w S' (w'.setCell p u) :=
  h.trans ⟨rfl, rfl, rfl, by simp [World.setCell], fun k _ hn => Below.heap_setCell _ _ _ _ (fun e => hn (by rw [e]; exact hp)), fun _ h => .inl h⟩
/-- A store into a new block, which is none of S'. -/
theorem setNew (h : Mv S w S' w') {p : Addr} (hp : w.heap.size ≤ p.block) (u : Value) : Mv S w S' (w'.setCell p u) :=
  ⟨h.os, h.tape, h.output, by simpa [World.setCell] using h.size, fun k hk hn => (Below.heap_setCell _ _ _ _ (by omega)).trans (h.keep k hk hn), h.new⟩
theorem grown_new (h : Mv S w S' w') {g : Nat} (hg : w'.grownBy w'' (some g)) (hge : w.heap.size ≤ g) : Mv S w S' w'' :=
  ⟨hg.os.trans h.os, hg.tape.trans h.tape, hg.output.trans h.output, Nat.le_trans h.size hg.size, fun k hk hn => (hg.block k (Nat.lt_of_lt_of_le hk h.size) (fun e => by injection e; omega)).trans (h.keep k hk hn), h.new⟩
end Mv

/-- The slice reads as the bytes; its block is one of F. -/
structure RdS (F : Nat → Prop) (w : World) (A : Option Addr) (c : Nat) (xs : List UInt8) : Prop where
  le : xs.length ≤ c
  cap : c ≤ 9223372036854775807
  cells : 0 < xs.length → ∃ b off, A = some ⟨b, off, none⟩ ∧ F b ∧ ∀ j, j < xs.length → w.cell? ⟨b, off + j, none⟩ = some (bv (xs.getD j 0))
namespace RdS
variable {F G : Nat → Prop} {w w' : World} {c : Nat} {A : Option Addr} {xs : List UInt8}
theorem mono (h : RdS F w A c xs) (hG : ∀ k, F k → G k) : RdS G w A c xs := ⟨h.le, h.cap, fun hn => by
  obtain ⟨b, off, e, hb, hc⟩ := h.cells hn
  exact ⟨b, off, e, hG b hb, hc⟩⟩
theorem keep (h : RdS F w A c xs) (hk : ∀ k, F k → w'.heap[k]? = w.heap[k]?) : RdS F w' A c xs := ⟨h.le, h.cap, fun hn => by
  obtain ⟨b, off, e, hb, hc⟩ := h.cells hn
  exact ⟨b, off, e, hb, fun j hj => (World.cell?_of_block (hk b hb)).trans (hc j hj)⟩⟩
theorem rd {B : Nat} (h : RdS F w A c xs) (hB : ∀ k, F k → k < B) : Rd w B A c xs := ⟨h.le, h.cap, fun hn => by
  obtain ⟨b, off, e, hb, hc⟩ := h.cells hn
  exact ⟨b, off, e, hB b hb, hc⟩⟩
theorem lt (h : RdS F w A c xs) : RdS (fun k => F k ∧ k < w.heap.size) w A c xs := ⟨h.le, h.cap, fun hn => by
  obtain ⟨b, off, e, hb, hc⟩ := h.cells hn
  exact ⟨b, off, e, ⟨hb, World.block_lt_of_cell? _ _ (hc 0 hn)⟩, hc⟩⟩
theorem rdT (h : RdS F w A c xs) : Rd w w.heap.size A c xs := h.lt.rd fun _ hk => hk.2
theorem nil (w : World) : RdS F w none 0 [] := ⟨Nat.le_refl _, by omega, fun h => absurd h (by simp)⟩
theorem empty (h : c ≤ 9223372036854775807) : RdS F w A c [] := ⟨Nat.zero_le _, h, fun h => absurd h (by simp)⟩
theorem drew (h : RdS F w A c xs) : RdS F w.drew A c xs := h.keep fun _ _ => rfl
/-- What may not be written stays. -/
theorem mv {S S' : Nat → Prop} (h : RdS (fun k => ¬ S k) w A c xs) (hm : Mv S w S' w') : RdS (fun k => ¬ S' k) w' A c xs :=
  (h.lt.keep fun k hk => hm.keep k hk.2 hk.1).mono fun k hk => hm.gone hk.2 hk.1
theorem below (h : RdS F w A c xs) (hb : Below w.heap.size w w') : RdS F w' A c xs := (h.lt.keep fun k hk => hb.block k hk.2).mono fun _ hk => hk.1
theorem clip (h : RdS F w A c xs) : RdS F w A xs.length xs := ⟨Nat.le_refl _, by have := h.le; have := h.cap; omega, h.cells⟩
theorem of_own {base e : Nat} {v : Value} (h : w.ownsRow base e 1 v xs.length (xs.map bv)) : ∃ A c, v = .slice A xs.length c ∧ RdS (fun k => base ≤ k ∧ k < w.heap.size) w A c xs := by
  obtain ⟨A, c, hv, hr⟩ := Rd.of_own h
  refine ⟨A, c, hv, hr.le, hr.cap, fun hn => ?_⟩
  obtain ⟨b, off, e1, hb, hc⟩ := hr.cells hn
  refine ⟨b, off, e1, ⟨?_, hb⟩, hc⟩
  subst hv; subst e1
  rcases h.2 with ⟨h1, h2⟩ | ⟨g, cap, cur, hv, hg, _⟩
  · cases h1
  · injection hv with h1
    injection h1 with h1
    injection h1 with h1
    omega
end RdS
/-- .. and its block may be written. -/
structure RdU (F : Nat → Prop) (w : World) (A : Option Addr) (c : Nat) (xs : List UInt8) : Prop where
  rds : RdS F w A c xs
  un : 0 < xs.length → ∀ b off, A = some ⟨b, off, none⟩ → ∃ cs t, w.heap[b]? = some (.cells cs t (0, 0))
namespace RdU
variable {F G : Nat → Prop} {w w' : World} {c : Nat} {A : Option Addr} {xs : List UInt8}
theorem mono (h : RdU F w A c xs) (hG : ∀ k, F k → G k) : RdU G w A c xs := ⟨h.rds.mono hG, h.un⟩
theorem keep (h : RdU F w A c xs) (hk : ∀ k, F k → w'.heap[k]? = w.heap[k]?) : RdU F w' A c xs := ⟨h.rds.keep hk, fun hn b off e => by
  obtain ⟨b', off', e', hb, _⟩ := h.rds.cells hn
  rw [e] at e'
  injection e' with e'
  injection e' with e1 e2
  subst e1
  rw [hk _ hb]
  exact h.un hn _ _ e⟩
theorem lt (h : RdU F w A c xs) : RdU (fun k => F k ∧ k < w.heap.size) w A c xs := ⟨h.rds.lt, h.un⟩
theorem rdT (h : RdU F w A c xs) : Rd w w.heap.size A c xs := h.rds.rdT
theorem nil (w : World) : RdU F w none 0 [] := ⟨RdS.nil w, fun h => absurd h (by simp)⟩
theorem drew (h : RdU F w A c xs) : RdU F w.drew A c xs := h.keep fun _ _ => rfl
theorem mv {S S' : Nat → Prop} (h : RdU (fun k => ¬ S k) w A c xs) (hm : Mv S w S' w') : RdU (fun k => ¬ S' k) w' A c xs :=
  (h.lt.keep fun k hk => hm.keep k hk.2 hk.1).mono fun k hk => hm.gone hk.2 hk.1
theorem below (h : RdU F w A c xs) (hb : Below w.heap.size w w') : RdU F w' A c xs := (h.lt.keep fun k hk => hb.block k hk.2).mono fun _ hk => hk.1
theorem clip (h : RdU F w A c xs) : RdU F w A xs.length xs := ⟨h.rds.clip, h.un⟩
theorem le (h : RdU F w A c xs) : xs.length ≤ c := h.rds.le
theorem cap (h : RdU F w A c xs) : c ≤ 9223372036854775807 := h.rds.cap
theorem grown {g : Nat} (h : RdU F w A c xs) (hg : w.grownBy w' (some g)) (hF : ∀ k, F k → k ≠ g) : RdU F w' A c xs :=
  (h.lt.keep fun k hk => hg.block k hk.2 (fun e => by injection e with e; exact hF k hk.1 e)).mono fun _ hk => hk.1
theorem of_own {base e : Nat} {v : Value} (h : w.ownsRow base e 1 v xs.length (xs.map bv)) : ∃ A c, v = .slice A xs.length c ∧ RdU (fun k => base ≤ k ∧ k < w.heap.size) w A c xs := by
  obtain ⟨A, c, hv, hr⟩ := RdS.of_own h
  refine ⟨A, c, hv, hr, fun hn b off e => ?_⟩
  rcases h.2 with ⟨h1, h2⟩ | ⟨g, cap, cur, hv2, hg, hh, _⟩
  · rw [h1] at hv; injection hv with h3 h4; omega
  · rw [hv2] at hv
    injection hv with h3
    rw [e] at h3
    injection h3 with h3
    injection h3 with h3
    subst h3
    exact ⟨_, _, hh⟩
end RdU
theorem Rd.rdS {w : World} {B c : Nat} {A : Option Addr} {xs : List UInt8} (h : Rd w B A c xs) : RdS (fun k => k < B) w A c xs := ⟨h.le, h.cap, h.cells⟩

/-- A packet as plain data. -/
structure Pkt where
  pid : Nat
  addr : Nat
  endp : Nat
  frame : Nat
  hub : Nat
  port : Nat
  comp : Bool
  low : Bool
  kind : Nat
  data : List UInt8
deriving DecidableEq
/-- .. with its data as a value. -/
abbrev Pkt.rg (p : Pkt) (v : Value) : Rg := ⟨p.pid, p.addr, p.endp, p.frame, p.hub, p.port, p.comp, p.low, p.kind, v, 0⟩
/-- .. as a value. -/
abbrev pkV (p : Pkt) (A : Option Addr) (c : Nat) : Value := .agg #[.int .u8 (p.pid : Int), .int .u8 (p.addr : Int), .int .u8 (p.endp : Int), .int .u16 (p.frame : Int), .int .u8 (p.hub : Int), .int .u8 (p.port : Int), .bool p.comp, .bool p.low, .int .u8 (p.kind : Int), .slice A p.data.length c]
/-- Its numbers are in range, its data is not too long. -/
structure Pkt.Ok (p : Pkt) : Prop where
  pid : p.pid < 256
  addr : p.addr < 256
  endp : p.endp < 256
  frame : p.frame < 65536
  hub : p.hub < 256
  port : p.port < 256
  kind : p.kind < 256
  len : p.data.length ≤ 1000000
theorem Pkt.Ok.rg {p : Pkt} (h : p.Ok) (v : Value) : (p.rg v).Ok := ⟨h.pid, h.addr, h.endp, h.frame, h.hub, h.port, h.kind, (by show (0 : Nat) < 4294967296; omega)⟩
def zeroP : Pkt := ⟨0, 0, 0, 0, 0, 0, false, false, 0, []⟩
theorem zeroP_ok : zeroP.Ok := ⟨by decide, by decide, by decide, by decide, by decide, by decide, by decide, by decide⟩
/-- The error of a packet. -/
def Pkt.err (p : Pkt) : Nat := errR (p.rg (.slice none p.data.length 0)) p.data
end Go.Proofs.YtgihpgdjkanodaaGreatDoor
