/-
  Helper text: wires; no statement is proved here.
-/
import Derived.Test.YtkfkcpogcobmbaaDoorNote
namespace Go.Proofs.YtkfkcpogcobmbaaDoor
open Go Go.RowKit

/-- Block b is a line whose faults are still fs. -/
def lineA (N b : Nat) (fs : List UInt8) : Asr N where
  holds F w := (∃ A c, w.heap[b]? = some (.cells #[.slice A fs.length c] 31 (0, 0)) ∧ RdS (fun k => F k ∧ k ≠ b) w A c fs) ∧ F b ∧ ∀ k, F k → N ≤ k ∧ k < w.heap.size
  ge := fun h => h.2.2
  loc := fun ⟨⟨A, c, h1, h2⟩, h3, h4⟩ hs hk => ⟨⟨A, c, (hk _ (.inl h3)).trans h1, h2.keep fun k hh => hk k (.inl hh.1)⟩, h3, fun k hf => ⟨(h4 k hf).1, Nat.lt_of_lt_of_le (h4 k hf).2 hs⟩⟩
/-- No wire, or one of which nothing is needed. -/
def noA (N : Nat) : Asr N where
  holds F _ := ∀ k, ¬ F k
  ge := fun h k hk => absurd hk (h k)
  loc := fun h _ _ => h
def lineN (fs : List UInt8) : List UInt8 × Nat := (fs.drop 1, (fs.getD 0 0).toNat)

theorem sliceF_from (A : Option Addr) (n c : Nat) (l : Int) (W : World) (h0 : 0 ≤ l) (h1 : l ≤ n) : (Instr.slice 24 (.slice A n c) (some (.int .i64 l)) none none).run Tryd.prog W = .ok (sliced A l.toNat n c 1) W := by
  have hs : (sizeOf (Tryd.prog.elem 24)).run Tryd.prog W = .ok 1 W := by kernel_rfl
  rw [run_slice_l W 24 A n c (by kernel_rfl) .i64 l h0 h1, hs]
  rfl
theorem RdS.from_ {F : Nat → Prop} {w : World} {c : Nat} {A : Option Addr} {xs : List UInt8} (h : RdS F w A c xs) {k : Nat} (hk : k ≤ xs.length) : ∃ A' c', sliced A k xs.length c 1 = .slice A' (xs.drop k).length c' ∧ RdS F w A' c' (xs.drop k) := by
  have hle := h.le
  have hcap := h.cap
  refine ⟨if c = k then A else A.map (·.add k), c - k, by simp [sliced], by rw [List.length_drop]; omega, by omega, fun hn => ?_⟩
  rw [List.length_drop] at hn
  obtain ⟨b, off, rfl, hb, hc⟩ := h.cells (by omega)
  rw [if_neg (by omega)]
  refine ⟨b, off + k, by simp [Go.WideShapes.add_plain], hb, fun j hj => ?_⟩
  rw [List.length_drop] at hj
  have := hc (k + j) (by omega)
  rw [Nat.add_assoc, this]
  simp [List.getD, List.getElem?_drop]

theorem left_core (w : World) (b n c : Nat) (A : Option Addr) (h : w.heap[b]? = some (.cells #[.slice A n c] 31 (0, 0))) :
    Calls Tryd.prog 10 #[.pointer (some ⟨b, 0, none⟩)] w fun e w' => e = .returned (.int .i64 (n : Int)) ∧ w = w' := by
  have c0 := block_at h (i := 0) rfl
  clear h
  go_enter Tryd.func10, Tryd.ntmps10
  go_wp2
  go_ret
  exact ⟨rfl, rfl⟩
theorem left_nil (w : World) : Calls Tryd.prog 10 #[.pointer none] w fun e w' => e = .returned (.int .i64 0) ∧ w = w' := by
  go_enter Tryd.func10, Tryd.ntmps10
  go_wp2
  go_ret
  exact ⟨rfl, rfl⟩
theorem next_nil (w : World) : Calls Tryd.prog 11 #[.pointer none] w fun e w' => e = .returned (.int .u8 0) ∧ w = w' := by
  go_enter Tryd.func11, Tryd.ntmps11
  go_wp2_with fail
  refine (left_nil w).mono ?_
  rintro e w1 ⟨rfl, rfl⟩
  go_wp2
  go_ret
  exact ⟨rfl, rfl⟩
set_option maxRecDepth 100000 in
theorem next_zero (w : World) (b c : Nat) (A : Option Addr) (h : w.heap[b]? = some (.cells #[.slice A 0 c] 31 (0, 0))) :
    Calls Tryd.prog 11 #[.pointer (some ⟨b, 0, none⟩)] w fun e w' => e = .returned (.int .u8 0) ∧ w = w' := by
  have K := Lib.hid (left_core w b 0 c A h)
  clear h
  go_enter Tryd.func11, Tryd.ntmps11
  go_wp2_with fail
  refine K.out.mono ?_
  rintro e w1 ⟨rfl, rfl⟩
  go_wp2
  go_ret
  exact ⟨rfl, rfl⟩
set_option maxRecDepth 100000 in
theorem next_more (w : World) (b n m c c' off g : Nat) (A' : Option Addr) (x : UInt8) (h : w.heap[b]? = some (.cells #[.slice (some ⟨g, off, none⟩) n c] 31 (0, 0))) (hn : 0 < n) (hx : w.cell? ⟨g, off, none⟩ = some (bv x))
    (hcut : sliced (some ⟨g, off, none⟩) 1 n c 1 = .slice A' m c') (hle : n ≤ c) (hcap : c ≤ 9223372036854775807) :
    Calls Tryd.prog 11 #[.pointer (some ⟨b, 0, none⟩)] w fun e w' => e = .returned (bv x) ∧ w' = w.setCell ⟨b, 0, none⟩ (.slice A' m c') := by
  have K := Lib.hid (left_core w b n c _ h)
  have c0 := block_at h (i := 0) rfl
  have f0 := block_free h 0
  have hsx := fun W : World => sliceF_from (some ⟨g, off, none⟩) n c 1 W (by omega) (by omega)
  rw [show (1 : Int).toNat = 1 from rfl, hcut] at hsx
  have hi : ((n : Int) == 0) = false := beq_eq_false_iff_ne.2 (by omega)
  have hi2 : (0 : Int) < (n : Int) := by omega
  clear hcut h hn
  go_enter Tryd.func11, Tryd.ntmps11
  go_wp2_with fail
  refine K.out.mono ?_
  rintro e w1 ⟨rfl, rfl⟩
  go_wp2
  go_ret
  exact ⟨rfl, rfl⟩

/-- Behind a call of a wire: the fault, and what holds of the wire. -/
theorem next_any (w : World) (N b : Nat) (fs : List UInt8) (F : Nat → Prop) (h : (lineA N b fs).holds F w) :
    Calls Tryd.prog 11 #[.pointer (some ⟨b, 0, none⟩)] w (Post (lineA N b (fs.drop 1)) F w (.int .u8 ((fs.getD 0 0).toNat : Int))) := by
  obtain ⟨⟨A, c, h1, h2⟩, h3, h4⟩ := h
  rcases Nat.eq_zero_or_pos fs.length with h0 | h0
  · have hf : fs = [] := List.eq_nil_of_length_eq_zero h0
    subst hf
    exact (next_zero w b c A h1).mono fun e w' ⟨e1, e2⟩ => ⟨e1, F, by subst e2; exact ⟨⟨A, c, h1, h2⟩, h3, h4⟩, by subst e2; exact Mv.refl _ _⟩
  · obtain ⟨g, off, rfl, hg, hc⟩ := h2.cells h0
    obtain ⟨A', c', hcut, hr⟩ := h2.from_ (k := 1) (by omega)
    have hx := hc 0 h0
    rw [Nat.add_zero] at hx
    refine (next_more w b fs.length _ c c' off g A' _ h1 h0 hx hcut h2.le h2.cap).mono ?_
    rintro e w' ⟨rfl, rfl⟩
    have hoth : ∀ k, k ≠ b → (w.setCell ⟨b, 0, none⟩ (.slice A' (fs.drop 1).length c')).heap[k]? = w.heap[k]? := fun k hk => Below.heap_setCell w ⟨b, 0, none⟩ _ k hk
    refine ⟨rfl, F, ⟨⟨A', c', ?_, hr.keep fun k hk => hoth k hk.2⟩, h3, fun k hk => by simpa [World.setCell] using h4 k hk⟩, (Mv.refl F w).setCell (p := ⟨b, 0, none⟩) h3 _⟩
    have := block_set h1 0 (.slice A' (fs.drop 1).length c')
    simpa using this

/-- A wire as the host holds it. -/
structure WireOK {N : Nat} {τ : Type} (W : τ → Asr N) (next : τ → τ × Nat) (wv : Value) : Prop where
  lt : ∀ t, (next t).2 < 256
  fault : ∀ (dv nv : Value) (w : World) (t : τ) (F : Nat → Prop), (W t).holds F w → N ≤ w.heap.size →
    Calls Tryd.prog 70 #[.agg #[dv, wv, nv]] w (Post (W (next t).1) F w (.int .u8 ((next t).2 : Int)))

theorem isNil_wire (w : World) (T : Nat) (v : Value) : (binOp .eql 105 (.iface T v) .nilIface).run Tryd.prog w = .ok (.bool false) w := by kernel_rfl
theorem isNil_dev (w : World) (T : Nat) (v : Value) : (binOp .eql 103 (.iface T v) .nilIface).run Tryd.prog w = .ok (.bool false) w := by kernel_rfl
theorem isNil_wire0 (w : World) : (binOp .eql 105 .nilIface .nilIface).run Tryd.prog w = .ok (.bool true) w := by kernel_rfl
theorem isNil_dev0 (w : World) : (binOp .eql 103 .nilIface .nilIface).run Tryd.prog w = .ok (.bool true) w := by kernel_rfl

set_option maxRecDepth 100000 in
theorem fault_nil (N : Nat) : WireOK (fun _ : Unit => noA N) (fun t => (t, 0)) .nilIface := ⟨fun _ => by show (0 : Nat) < 256; omega, fun dv nv w t F hF hN => by
  have q := isNil_wire0
  have hb := Lib.hid ((Below.refl w.heap.size w).alloc (Nat.le_refl _) (.cells #[dv, .nilIface, nv] 108))
  go_enter Tryd.func70, Tryd.ntmps70
  go_wp2
  go_ret
  exact ⟨rfl, F, hF, Mv.of_below _ hb.out⟩⟩

set_option maxRecDepth 100000 in
theorem fault_line (N b : Nat) : WireOK (lineA N b) lineN (.iface 26 (.pointer (some ⟨b, 0, none⟩))) := ⟨fun t => by show (t.getD 0 0).toNat < 256; exact UInt8.toNat_lt _, fun dv nv w t F hF hN => by
  have q := isNil_wire
  have hm : ∀ (a : Addr) (w : World), (method 265 26 (.pointer (some a)) "Next").run Tryd.prog w = .ok (11, .pointer (some a)) w := fun _ _ => by kernel_rfl
  have K := Lib.hid fun W hW => next_any W N b t F hW
  have hb := Lib.hid ((Below.refl w.heap.size w).alloc (Nat.le_refl _) (.cells #[dv, (.iface 26 (.pointer (some ⟨b, 0, none⟩))), nv] 108))
  have hF2 := Lib.hid (Asr.below hF hb.out hN)
  clear hF
  go_enter Tryd.func70, Tryd.ntmps70
  go_wp2_with fail
  refine (K.out _ hF2.out).mono ?_
  rintro e w1 ⟨rfl, F1, h1, h2⟩
  clear hm
  generalize hn : ((t.getD 0 0).toNat : Int) = n
  have Hn := Lib.hid hn
  clear hn
  go_wp2
  go_ret
  refine ⟨?_, F1, h1, (Mv.of_below _ hb.out).trans h2⟩
  show _ = Ending.returned (.int .u8 ((t.getD 0 0).toNat : Int))
  rw [Hn.out]
  rfl⟩

end Go.Proofs.YtkfkcpogcobmbaaDoor
