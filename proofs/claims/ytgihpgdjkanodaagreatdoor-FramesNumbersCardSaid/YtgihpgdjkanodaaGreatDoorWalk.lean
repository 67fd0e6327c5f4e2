/-
  Helper text: the loop over the fields, and what it is used for; no statement is proved here.
-/
import Derived.Test.YtgihpgdjkanodaaGreatDoorFd
import Derived.Test.YtgihpgdjkanodaaGreatDoorCkClo
import Derived.Laws.EntriesVeiled
namespace Go.Proofs.YtgihpgdjkanodaaGreatDoor
open Go Go.RowKit

theorem grown_alloc (w : World) (o : Obj) (ob : Option Nat) : w.grownBy (w.alloc o) ob := ⟨rfl, rfl, rfl, by simp, fun k hk _ => Below.heap_alloc w o k hk⟩

/-- The place of the lowest bit of field k. -/
def placeN (fs : List Fd) (k : Nat) : Nat := ((fs.take k).map Fd.bits).sum
theorem placeN_succ {fs : List Fd} {k : Nat} (h : k < fs.length) : placeN fs (k + 1) = placeN fs k + (fs[k]).bits := by
  unfold placeN
  rw [List.take_add_one, List.getElem?_eq_getElem h, List.map_append, List.sum_append]
  simp
theorem bits_le (f : Fd) : f.bits ≤ 11 := by cases f <;> decide
theorem placeN_le (fs : List Fd) (k : Nat) : placeN fs k ≤ 11 * k := by
  induction k with
  | zero => simp [placeN]
  | succ k ih =>
    rcases Nat.lt_or_ge k fs.length with h | h
    · rw [placeN_succ h]; have := bits_le fs[k]; omega
    · unfold placeN at *
      rw [List.take_of_length_le (by omega)] at *
      omega
/-- The fields lie at A. -/
def FRd (w : World) (A : Option Addr) (fs : List Fd) : Prop := 0 < fs.length → ∃ g, A = some ⟨g, 0, none⟩ ∧ w.heap[g]? = some (.cells (fs.flatMap Fd.cells).toArray 182 (0, 0))
theorem flat_at : ∀ (fs : List Fd) (k j : Nat) (h : k < fs.length), j < 3 → (fs.flatMap Fd.cells)[k * 3 + j]? = (fs[k]).cells[j]?
  | f :: fs, 0, j, _, hj => by
    rw [List.flatMap_cons, Nat.zero_mul, Nat.zero_add, List.getElem?_append_left (by show j < 3; exact hj)]; rfl
  | f :: fs, k + 1, j, h, hj => by
    rw [List.flatMap_cons, List.getElem?_append_right (by show 3 ≤ _; omega), show (k + 1) * 3 + j - f.cells.length = k * 3 + j from by show _ - 3 = _; omega]
    exact flat_at fs k j (by simpa using h) hj

set_option maxHeartbeats 800000 in
set_option maxRecDepth 100000 in
theorem walk_any (w : World) (cf : Nat) (caps : Array Value) (hcall : ∀ args W, (callFunc cf args).run Tryz.prog W = .ok (.enter cf args) W) (A : Option Addr) (fs : List Fd) (hF : FRd w A fs) (hn : fs.length ≤ 100) (ob : Option Nat) (hob2 : ∀ g, ob = some g → g < w.heap.size) (hob : 0 < fs.length → ∀ g, A = some ⟨g, 0, none⟩ → ob ≠ some g) (I : Nat → World → Prop) (h0 : I 0 w)
    (hI : ∀ k W, I k W → w.grownBy W ob) (hal : ∀ k W o, I k W → I k (W.alloc o))
    (hstep : ∀ (k : Nat) (hk : k < fs.length) (W : World), I k W → Calls Tryz.prog cf (#[.agg (fs[k]).cells.toArray, .int .i64 (placeN fs k : Int)] ++ caps) W fun e W' => e = .returned (.tuple #[]) ∧ I (k + 1) W' ∧ W.grownBy W' ob) :
    Calls Tryz.prog 99 #[.slice A fs.length fs.length, .func (.func cf) #[] caps] w fun e w' => e = .returned (.int .i64 (placeN fs fs.length : Int)) ∧ I fs.length w' := by
  have hst := Lib.hid hstep
  have hIh := Lib.hid hI
  have halh := Lib.hid hal
  have hFh := Lib.hid hF
  have hobh := Lib.hid hob
  have hob2h := Lib.hid hob2
  clear hstep hI hal hF hob hob2
  generalize hN : fs.length = N at hn ⊢
  have hNh := Lib.hid hN
  clear hN
  go_enter Tryz.func99, Tryz.ntmps99
  go_wp2
  go_loopw [5, 10] (fun p i wr => ∃ k : Nat, k ≤ N ∧ p = .int .i64 (placeN fs k : Int) ∧ i = .int .i64 k ∧ I k wr) (fun _ i _ => N - (intOf i).toNat)
  case atStart => exact ⟨0, Nat.zero_le _, by simp [placeN], rfl, h0⟩
  case round =>
    obtain ⟨k, hk, rfl, rfl, hi⟩ := hrel
    by_cases hlt : k < N
    · have hkl : k < fs.length := by have := hNh.out; omega
      obtain ⟨g, rfl, hrow⟩ := hFh.out (by omega)
      have hg := hIh.out k wr hi
      have hrow2 := (hg.block g (lt_of_block hrow) (fun e => hobh.out (by omega) g rfl e.symm)).trans hrow
      have c0 : wr.cell? ⟨g, k * 3, none⟩ = some (.int .i64 ((fs[k]).bits : Int)) := by
        rw [cell_at hrow2 (k * 3)]
        simpa using flat_at fs k 0 hkl (by omega)
      have c1 : wr.cell? ⟨g, k * 3 + 1, none⟩ = some (.func (.func (fs[k]).getF) #[] #[]) := by
        rw [cell_at hrow2 (k * 3 + 1)]
        simpa using flat_at fs k 1 hkl (by omega)
      have c2 : wr.cell? ⟨g, k * 3 + 2, none⟩ = some (.func (.func (fs[k]).setF) #[] #[]) := by
        rw [cell_at hrow2 (k * 3 + 2)]
        simpa using flat_at fs k 2 hkl (by omega)
      clear hrow hrow2
      go_wp2_with fail
      refine (hst.out k hkl _ (halh.out _ _ _ hi)).mono ?_
      rintro e w1 ⟨rfl, hi1, hg1⟩
      have c3 : w1.cell? ⟨wr.heap.size, 0, none⟩ = some (.int .i64 ((fs[k]).bits : Int)) := by
        have hn := heap_alloc_new wr (.cells (fs[k]).cells.toArray 182)
        have h1 := hg1.block wr.heap.size (by simp) (fun e => by have := hob2h.out _ e.symm; have := hg.size; omega)
        exact cell_at (h1.trans hn) 0
      have hps := Lib.hid (placeN_succ hkl)
      have hpl := placeN_le fs k
      have hbl := bits_le fs[k]
      generalize (fs[k]).bits = b at hps hbl c3
      go_wp2
      exact ⟨⟨k + 1, by omega, by rw [hps.out]; push_cast; rfl, by go_num, hi1⟩, by simp [intOf]; omega⟩
    · have hk9 : k = N := by omega
      subst hk9
      go_wp2
      go_ret
      exact ⟨rfl, hNh.out ▸ hi⟩

/-- The fields of an identifier. -/
def fieldsL (p : Nat) : List Fd :=
  if p = 1 ∨ p = 9 ∨ p = 13 then [.addr, .endp] else if p = 5 then [.frame] else if p = 8 then [.hub, .comp, .port, .low, .spare, .kind] else []
theorem fieldsL_tok {p : Nat} (h : p = 1 ∨ p = 9 ∨ p = 13) : fieldsL p = [.addr, .endp] := if_pos h
theorem fieldsL_sof : fieldsL 5 = [.frame] := rfl
theorem fieldsL_split : fieldsL 8 = [.hub, .comp, .port, .low, .spare, .kind] := rfl
theorem fieldsL_none {p : Nat} (h1 : p ≠ 1) (h9 : p ≠ 9) (h13 : p ≠ 13) (h5 : p ≠ 5) (h8 : p ≠ 8) : fieldsL p = [] := by
  unfold fieldsL
  rw [if_neg (by omega), if_neg h5, if_neg h8]
/-- What fieldsOf returns. -/
def ResFs (w : World) (fs : List Fd) (e : Ending) (w' : World) : Prop :=
  ∃ A, e = .returned (.slice A fs.length fs.length) ∧ FRd w' A fs ∧ Below w.heap.size w w' ∧ ∀ g, A = some ⟨g, 0, none⟩ → w.heap.size ≤ g
theorem resFs_new (w : World) (fs : List Fd) (n : Nat) (hn : n = fs.length) (cs : Array Value) (hc : (fs.flatMap Fd.cells).toArray = cs) :
    ResFs w fs (.returned (.slice (some ⟨w.heap.size, 0, none⟩) n n)) (w.alloc (.cells cs 182)) := by
  subst hn; subst hc
  exact ⟨_, rfl, fun _ => ⟨_, rfl, heap_alloc_new w _⟩, (Below.refl _ w).alloc (Nat.le_refl _) _, fun g h => by cases h; exact Nat.le_refl _⟩

set_option maxRecDepth 100000 in
theorem tokens_any (w : World) : Calls Tryz.prog 96 #[] w (ResFs w [.addr, .endp]) := by
  go_enter Tryz.func96, Tryz.ntmps96
  go_wp2
  go_ret
  exact resFs_new w [.addr, .endp] 2 rfl _ rfl
set_option maxRecDepth 100000 in
theorem frames_any (w : World) : Calls Tryz.prog 97 #[] w (ResFs w [.frame]) := by
  go_enter Tryz.func97, Tryz.ntmps97
  go_wp2
  go_ret
  exact resFs_new w [.frame] 1 rfl _ rfl
set_option maxRecDepth 100000 in
theorem splits_any (w : World) : Calls Tryz.prog 98 #[] w (ResFs w [.hub, .comp, .port, .low, .spare, .kind]) := by
  go_enter Tryz.func98, Tryz.ntmps98
  go_wp2
  go_ret
  exact resFs_new w [.hub, .comp, .port, .low, .spare, .kind] 6 rfl _ rfl

set_option maxRecDepth 100000 in
theorem fieldsOf_tok (w : World) (p : Nat) (h : p = 1 ∨ p = 9 ∨ p = 13) : Calls Tryz.prog 82 #[.int .u8 (p : Int)] w (ResFs w (fieldsL p)) := by
  rw [fieldsL_tok h]
  rcases h with rfl | rfl | rfl
  all_goals
    go_enter Tryz.func82, Tryz.ntmps82
    go_wp2_with fail
    refine (tokens_any w).mono ?_
    rintro e w1 ⟨A, rfl, h1, h2, h3⟩
    go_wp2
    go_ret
    exact ⟨A, rfl, h1, h2, h3⟩
set_option maxRecDepth 100000 in
theorem fieldsOf_any (w : World) (p : Nat) (hp : p < 256) : Calls Tryz.prog 82 #[.int .u8 (p : Int)] w (ResFs w (fieldsL p)) := by
  by_cases h1 : p = 1
  · exact fieldsOf_tok w p (.inl h1)
  by_cases h9 : p = 9
  · exact fieldsOf_tok w p (.inr (.inl h9))
  by_cases h13 : p = 13
  · exact fieldsOf_tok w p (.inr (.inr h13))
  by_cases h5 : p = 5
  · subst h5
    rw [fieldsL_sof]
    go_enter Tryz.func82, Tryz.ntmps82
    go_wp2_with fail
    refine (frames_any w).mono ?_
    rintro e w1 ⟨A, rfl, h1, h2, h3⟩
    go_wp2
    go_ret
    exact ⟨A, rfl, h1, h2, h3⟩
  by_cases h8 : p = 8
  · subst h8
    rw [fieldsL_split]
    go_enter Tryz.func82, Tryz.ntmps82
    go_wp2_with fail
    refine (splits_any w).mono ?_
    rintro e w1 ⟨A, rfl, h1, h2, h3⟩
    go_wp2
    go_ret
    exact ⟨A, rfl, h1, h2, h3⟩
  rw [fieldsL_none h1 h9 h13 h5 h8]
  have t1 : ((p : Int) == 1) = false := by rw [beq_eq_false_iff_ne]; omega
  have t9 : ((p : Int) == 9) = false := by rw [beq_eq_false_iff_ne]; omega
  have t13 : ((p : Int) == 13) = false := by rw [beq_eq_false_iff_ne]; omega
  have t5 : ((p : Int) == 5) = false := by rw [beq_eq_false_iff_ne]; omega
  have t8 : ((p : Int) == 8) = false := by rw [beq_eq_false_iff_ne]; omega
  go_enter Tryz.func82, Tryz.ntmps82
  go_wp2
  go_ret
  exact ⟨none, rfl, fun h => by simp at h, Below.refl _ _, fun g h => by cases h⟩

theorem call_enter {P : Program} {f : FuncId} {fn : Func} (hf : P.funcs[f]? = some fn) (hname : (fn.name == "runtime.NumGoroutine") = false) (hb : fn.body.isSome = true) (args : Array Value) (w : World) :
    (callFunc f args).run P w = .ok (.enter f args) w := by
  have h1 : fn.name ≠ "runtime.NumGoroutine" := by simpa using hname
  obtain ⟨c, hc⟩ := Option.isSome_iff_exists.1 hb
  simp [callFunc, hf, h1, hc]
theorem call_get (f : Fd) (args : Array Value) (W : World) : (callFunc f.getF args).run Tryz.prog W = .ok (.enter f.getF args) W := by
  cases f
  · exact call_enter Tryz.func109 (by kernel_rfl) rfl args W
  · exact call_enter Tryz.func111 (by kernel_rfl) rfl args W
  · exact call_enter Tryz.func113 (by kernel_rfl) rfl args W
  · exact call_enter Tryz.func115 (by kernel_rfl) rfl args W
  · exact call_enter Tryz.func117 (by kernel_rfl) rfl args W
  · exact call_enter Tryz.func119 (by kernel_rfl) rfl args W
  · exact call_enter Tryz.func121 (by kernel_rfl) rfl args W
  · exact call_enter Tryz.func123 (by kernel_rfl) rfl args W
  · exact call_enter Tryz.func125 (by kernel_rfl) rfl args W
theorem call_set (f : Fd) (args : Array Value) (W : World) : (callFunc f.setF args).run Tryz.prog W = .ok (.enter f.setF args) W := by
  cases f
  · exact call_enter Tryz.func110 (by kernel_rfl) rfl args W
  · exact call_enter Tryz.func112 (by kernel_rfl) rfl args W
  · exact call_enter Tryz.func114 (by kernel_rfl) rfl args W
  · exact call_enter Tryz.func116 (by kernel_rfl) rfl args W
  · exact call_enter Tryz.func118 (by kernel_rfl) rfl args W
  · exact call_enter Tryz.func120 (by kernel_rfl) rfl args W
  · exact call_enter Tryz.func122 (by kernel_rfl) rfl args W
  · exact call_enter Tryz.func124 (by kernel_rfl) rfl args W
  · exact call_enter Tryz.func126 (by kernel_rfl) rfl args W

end Go.Proofs.YtgihpgdjkanodaaGreatDoor
