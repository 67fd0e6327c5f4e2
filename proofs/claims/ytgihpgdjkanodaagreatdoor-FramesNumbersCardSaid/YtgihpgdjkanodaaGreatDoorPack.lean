/-
  Helper text: the number of the fields of a packet, and back; no statement is proved here.
-/
import Derived.Test.YtgihpgdjkanodaaGreatDoorWalk
import Derived.StillTailTactics
namespace Go.Proofs.YtgihpgdjkanodaaGreatDoor
open Go Go.RowKit

/-- The number of the first k fields. -/
def packN (fs : List Fd) (r : Rg) : Nat → Nat
  | 0 => 0
  | k + 1 => packN fs r k ||| ((fs.getD k .addr).get r * 2 ^ placeN fs k) % 4294967296
theorem packN_lt (fs : List Fd) (r : Rg) (k : Nat) : packN fs r k < 2 ^ 32 := by
  induction k with
  | zero => exact (by decide : 0 < 2 ^ 32)
  | succ k ih => exact Nat.or_lt_two_pow ih (Nat.mod_lt _ (by decide))
theorem bor32 {a b : Nat} (ha : a < 2 ^ 32) (hb : b < 2 ^ 32) : bits .or .u32 (a : Int) (b : Int) = ((a ||| b : Nat) : Int) := by
  refine (bits_nat .u32 32 (by decide) (fun n h0 h1 => ?_) a b ha hb).2
  rw [IntKind.wrap_u32]; omega
theorem band32 {a b : Nat} (ha : a < 2 ^ 32) (hb : b < 2 ^ 32) : bits .and .u32 (a : Int) (b : Int) = ((a &&& b : Nat) : Int) := by
  refine (bits_nat .u32 32 (by decide) (fun n h0 h1 => ?_) a b ha hb).1
  rw [IntKind.wrap_u32]; omega
theorem Fd.get_lt {r : Rg} (h : r.Ok) (f : Fd) : f.get r < 4294967296 := by
  have := h.addr; have := h.endp; have := h.frame; have := h.hub; have := h.port; have := h.kind; have := h.spare
  cases f
  case comp => show r.comp.toNat < _; cases r.comp <;> decide
  case low => show r.low.toNat < _; cases r.low <;> decide
  all_goals (simp only [Fd.get]; omega)

set_option maxHeartbeats 1600000 in
set_option maxRecDepth 100000 in
theorem packed1_core (w : World) (bi gf sf y : Nat) (pl V Rp B x sh X : Nat) (rc : Array Value) (hcall : ∀ args W, (callFunc gf args).run Tryz.prog W = .ok (.enter gf args) W)
    (hget : ∀ W : World, W.heap[B]? = some (.cells rc 164 (0, 0)) → Calls Tryz.prog gf #[.pointer (some ⟨B, 0, none⟩)] W (Gets W y))
    (hV : w.heap[V]? = some (.cells #[.int .u32 (x : Int)] 86 (0, 0))) (hRp : w.heap[Rp]? = some (.cells #[.pointer (some ⟨B, 0, none⟩)] 166 (0, 0)))
    (hB : w.heap[B]? = some (.cells rc 164 (0, 0))) (hpl : pl ≤ 31) (hx : x < 2 ^ 32) (hor : bits .or .u32 (x : Int) (sh : Int) = (X : Int)) (hsh : ((y : Int) * 2 ^ pl) % 4294967296 = (sh : Int)) :
    Calls Tryz.prog 101 #[.agg #[.int .i64 (bi : Int), .func (.func gf) #[] #[], .func (.func sf) #[] #[]], .int .i64 (pl : Int), .pointer (some ⟨V, 0, none⟩), .pointer (some ⟨Rp, 0, none⟩)] w
      fun e w' => e = .returned (.tuple #[]) ∧ w'.heap[V]? = some (.cells #[.int .u32 (X : Int)] 86 (0, 0)) ∧ w.grownBy w' (some V) := by
  have hgeth := Lib.hid hget
  have hB1 := Lib.hid ((Below.heap_alloc w (.cells #[.int .i64 (bi : Int), .func (.func gf) #[] #[], .func (.func sf) #[] #[]] 182) B (lt_of_block hB)).trans hB)
  have hV1 := Lib.hid ((Below.heap_alloc w (.cells #[.int .i64 (bi : Int), .func (.func gf) #[] #[], .func (.func sf) #[] #[]] 182) V (lt_of_block hV)).trans hV)
  have hR1 := Lib.hid ((Below.heap_alloc w (.cells #[.int .i64 (bi : Int), .func (.func gf) #[] #[], .func (.func sf) #[] #[]] 182) Rp (lt_of_block hRp)).trans hRp)
  have hN1 := Lib.hid (heap_alloc_new w (.cells #[.int .i64 (bi : Int), .func (.func gf) #[] #[], .func (.func sf) #[] #[]] 182))
  have hG1 : w.grownBy (w.alloc (.cells #[.int .i64 (bi : Int), .func (.func gf) #[] #[], .func (.func sf) #[] #[]] 182)).drew (some V) := Ck.grown_drew ⟨rfl, rfl, rfl, by simp, fun k hk _ => Below.heap_alloc w _ k hk⟩
  have hGh := Lib.hid hG1
  have horh := Lib.hid hor
  have hshh := Lib.hid hsh
  clear hget hB hV hRp hG1 hor hsh
  go_enter Tryz.func101, Tryz.ntmps101
  go_wp2
  refine wp_region_still_tail 8 (by kernel_rfl) (by kernel_rfl) ?_
  simp only [List.take_succ_cons, List.take_zero, List.drop_succ_cons, List.drop_zero]
  change wpStill _ _ (World.drew (w.alloc (.cells #[.int .i64 (bi : Int), .func (.func gf) #[] #[], .func (.func sf) #[] #[]] 182))) (fun a' => wpList _ _ _ _ a' (World.drew (w.alloc (.cells #[.int .i64 (bi : Int), .func (.func gf) #[] #[], .func (.func sf) #[] #[]] 182)))) _ _
  replace hB1 := Lib.hid (show (World.drew (w.alloc (.cells #[.int .i64 (bi : Int), .func (.func gf) #[] #[], .func (.func sf) #[] #[]] 182))).heap[B]? = _ from hB1.out)
  replace hV1 := Lib.hid (show (World.drew (w.alloc (.cells #[.int .i64 (bi : Int), .func (.func gf) #[] #[], .func (.func sf) #[] #[]] 182))).heap[V]? = _ from hV1.out)
  replace hR1 := Lib.hid (show (World.drew (w.alloc (.cells #[.int .i64 (bi : Int), .func (.func gf) #[] #[], .func (.func sf) #[] #[]] 182))).heap[Rp]? = _ from hR1.out)
  replace hN1 := Lib.hid (show (World.drew (w.alloc (.cells #[.int .i64 (bi : Int), .func (.func gf) #[] #[], .func (.func sf) #[] #[]] 182))).heap[w.heap.size]? = _ from hN1.out)
  generalize World.drew (w.alloc (.cells #[.int .i64 (bi : Int), .func (.func gf) #[] #[], .func (.func sf) #[] #[]] 182)) = W1 at hB1 hV1 hR1 hN1 hGh ⊢
  have c1 := cell_of_one hV1.out
  have c2 := cell_of_one hR1.out
  have c3 : W1.cell? ⟨w.heap.size, 1, none⟩ = some (.func (.func gf) #[] #[]) := cell_at hN1.out 1
  still_step
  still_step
  still_step
  still_step
  still_call (hgeth.out _ hB1.out)
  still_step
  still_step
  still_step
  refine wpStill_nil ?_
  have f1 := free_of_one hV1.out
  have hVs := Lib.hid (one_setCell (u := .int .u32 (X : Int)) hV1.out)
  have hVg := Lib.hid (Ck.grown_trans hGh.out (grown_store W1 V 0 (.int .u32 (X : Int))))
  clear hB1 hV1 hR1 hN1 hGh c3
  go_wp2
  go_end0
  rw [hshh.out, horh.out]
  exact ⟨rfl, hVs.out, hVg.out⟩
theorem packed1_any (w : World) (f : Fd) (pl V Rp B x : Nat) (r : Rg) (hV : w.heap[V]? = some (.cells #[.int .u32 (x : Int)] 86 (0, 0))) (hRp : w.heap[Rp]? = some (.cells #[.pointer (some ⟨B, 0, none⟩)] 166 (0, 0)))
    (hB : w.heap[B]? = some (.cells (rcells r) 164 (0, 0))) (ok : r.Ok) (hpl : pl ≤ 31) (hx : x < 2 ^ 32) :
    Calls Tryz.prog 101 #[.agg f.cells.toArray, .int .i64 (pl : Int), .pointer (some ⟨V, 0, none⟩), .pointer (some ⟨Rp, 0, none⟩)] w
      fun e w' => e = .returned (.tuple #[]) ∧ w'.heap[V]? = some (.cells #[.int .u32 ((x ||| (f.get r * 2 ^ pl) % 4294967296 : Nat) : Int)] 86 (0, 0)) ∧ w.grownBy w' (some V) := by
  have hpos : (f.get r * 2 ^ pl) % 4294967296 < 2 ^ 32 := Nat.mod_lt _ (by decide)
  exact packed1_core w f.bits f.getF f.setF (f.get r) pl V Rp B x ((f.get r * 2 ^ pl) % 4294967296) _ (rcells r) (call_get f) (fun W hW => get_any W B r hW ok f) hV hRp hB hpl hx (bor32 hx hpos) (by
    rw [Int.natCast_emod, Int.natCast_mul, Int.natCast_pow]; rfl)

set_option maxHeartbeats 800000 in
set_option maxRecDepth 100000 in
theorem packed_any (w : World) (B : Nat) (r : Rg) (A : Option Addr) (fs : List Fd) (hB : w.heap[B]? = some (.cells (rcells r) 164 (0, 0))) (ok : r.Ok) (hF : FRd w A fs) (hn : fs.length ≤ 100) (hp : ∀ k, k < fs.length → placeN fs k ≤ 31) :
    Calls Tryz.prog 84 #[.pointer (some ⟨B, 0, none⟩), .slice A fs.length fs.length] w
      fun e w' => e = .returned (.int .u32 (packN fs r fs.length : Int)) ∧ Below w.heap.size w w' := by
  have hmf : ∀ (fn : Fn) (first cap : Array Value) (w : World), (Instr.makeFunc fn first cap).run Tryz.prog w = .ok (.func fn first cap) w := fun _ _ _ _ => rfl
  have hFh := Lib.hid hF
  have hBh := Lib.hid hB
  have hph := Lib.hid hp
  clear hF hB hp
  have h0 : ∀ (W : World) (o o' : Obj) (k : Nat), W.heap[k]? = some o' → (W.alloc o).heap[k]? = some o' := fun W o o' k h => (Below.heap_alloc W o k (lt_of_block h)).trans h
  have h0h := Lib.hid h0
  clear h0
  go_enter Tryz.func84, Tryz.ntmps84
  go_wp2_with fail
  have hB2 := h0h.out _ (.cells #[.int .u32 0] 86) _ _ (h0h.out w (.cells #[.pointer (some ⟨B, 0, none⟩)] 166) _ _ hBh.out)
  have hR2 := h0h.out _ (.cells #[.int .u32 0] 86) _ _ (heap_alloc_new w (.cells #[.pointer (some ⟨B, 0, none⟩)] 166))
  have hV2 := heap_alloc_new (w.alloc (.cells #[.pointer (some ⟨B, 0, none⟩)] 166)) (.cells #[.int .u32 0] 86)
  rw [show (w.alloc (.cells #[.pointer (some ⟨B, 0, none⟩)] 166)).heap.size = w.heap.size + 1 by simp] at hV2
  have hF2 : FRd ((w.alloc (.cells #[.pointer (some ⟨B, 0, none⟩)] 166)).alloc (.cells #[.int .u32 0] 86)) A fs := fun hl => by
    obtain ⟨g, e, hr⟩ := hFh.out hl
    exact ⟨g, e, h0h.out _ _ _ _ (h0h.out _ _ _ _ hr)⟩
  have hb2 : Below w.heap.size w ((w.alloc (.cells #[.pointer (some ⟨B, 0, none⟩)] 166)).alloc (.cells #[.int .u32 0] 86)) := ((Below.refl _ w).alloc (Nat.le_refl _) _).alloc (by simp) _
  have hgA : ∀ g, A = some ⟨g, 0, none⟩ → 0 < fs.length → g < w.heap.size := fun g e hl => by
    obtain ⟨g', e', hr⟩ := hFh.out hl
    rw [e] at e'
    obtain rfl : g = g' := by injection e' with e'; injection e'
    exact lt_of_block hr
  have hBl := lt_of_block hBh.out
  generalize hW2 : ((w.alloc (.cells #[.pointer (some ⟨B, 0, none⟩)] 166)).alloc (.cells #[.int .u32 0] 86)) = W2 at hB2 hR2 hV2 hF2 hb2 ⊢
  clear hW2
  have hzl := lt_of_block hV2
  refine (walk_any W2 101 #[.pointer (some ⟨w.heap.size + 1, 0, none⟩), .pointer (some ⟨w.heap.size, 0, none⟩)] (call_enter Tryz.func101 (by kernel_rfl) rfl) A fs hF2 hn (some (w.heap.size + 1)) (fun g e => by cases e; exact hzl)
    (fun hl g e h => by have := hgA g e hl; injection h; omega) (fun k W => W2.grownBy W (some (w.heap.size + 1)) ∧ W.heap[w.heap.size + 1]? = some (.cells #[.int .u32 (packN fs r k : Int)] 86 (0, 0))) ⟨Ck.grown_refl _ _, hV2⟩ (fun k W h => h.1) (fun k W o h => ⟨Ck.grown_trans h.1 ⟨rfl, rfl, rfl, by simp, fun k hk _ => Below.heap_alloc W _ k hk⟩, h0h.out _ _ _ _ h.2⟩) ?_).mono ?_
  · intro k hk W hI
    have hkp := hph.out k hk
    refine (packed1_any W (fs[k]) (placeN fs k) (w.heap.size + 1) w.heap.size B (packN fs r k) r hI.2 ((hI.1.block _ (lt_of_block hR2) (by simp)).trans hR2) ((hI.1.block _ (lt_of_block hB2) (by simp; omega)).trans hB2) ok hkp (packN_lt fs r k)).mono ?_
    rintro e W' ⟨rfl, h1, h2⟩
    refine ⟨rfl, ⟨Ck.grown_trans hI.1 h2, ?_⟩, h2⟩
    have e : packN fs r (k + 1) = packN fs r k ||| ((fs[k]).get r * 2 ^ placeN fs k) % 4294967296 := by
      show packN fs r k ||| ((fs.getD k .addr).get r * 2 ^ placeN fs k) % 4294967296 = _
      rw [List.getD_eq_getElem?_getD, List.getElem?_eq_getElem hk]; rfl
    rw [e]
    exact h1
  rintro e w3 ⟨rfl, hg3, hV3⟩
  have c3 := cell_of_one hV3
  have hb3 : Below w.heap.size w w3 := hb2.grown hg3 hb2.size fun k e => by cases e; omega
  clear hV3 hg3
  go_wp2
  go_ret
  exact ⟨rfl, hb3⟩

/-- A packet of which the first k fields are set to what a number says. -/
def unpackN (fs : List Fd) (v : Nat) (r : Rg) : Nat → Rg
  | 0 => r
  | k + 1 => (fs.getD k .addr).set (unpackN fs v r k) (v / 2 ^ placeN fs k % 2 ^ (fs.getD k .addr).bits)
theorem unpackN_ok {fs : List Fd} {v : Nat} {r : Rg} (h : r.Ok) (hv : v < 4294967296) (k : Nat) : (unpackN fs v r k).Ok := by
  induction k with
  | zero => exact h
  | succ k ih => exact Fd.set_ok ih _ (Nat.lt_of_le_of_lt (Nat.le_trans (Nat.mod_le _ _) (Nat.div_le_self _ _)) hv)
theorem mask32 {v k : Nat} (hv : v < 2 ^ 32) (hk : k ≤ 31) : bits .and .u32 (v : Int) (((2 : Int) ^ k % 4294967296 - 1) % 4294967296) = ((v % 2 ^ k : Nat) : Int) := by
  have hp : 2 ^ k ≤ 2 ^ 31 := Nat.pow_le_pow_right (by omega) hk
  have h1 := Nat.two_pow_pos k
  have e : ((2 : Int) ^ k % 4294967296 - 1) % 4294967296 = ((2 ^ k - 1 : Nat) : Int) := by
    have : (2 : Int) ^ k = ((2 ^ k : Nat) : Int) := by simp only [Int.natCast_pow]; rfl
    rw [this]; omega
  rw [e, band32 hv (by omega), Nat.and_two_pow_sub_one_eq_mod]

set_option maxHeartbeats 1600000 in
set_option maxRecDepth 100000 in
theorem unpack1_core (w : World) (bi gf sf u : Nat) (pl V Rp B v : Nat) (rc rc' : Array Value) (hcall : ∀ args W, (callFunc sf args).run Tryz.prog W = .ok (.enter sf args) W)
    (hset : ∀ W : World, W.heap[B]? = some (.cells rc 164 (0, 0)) → Calls Tryz.prog sf #[.pointer (some ⟨B, 0, none⟩), .int .u32 (u : Int)] W fun e W' => e = .returned (.tuple #[]) ∧ W'.heap[B]? = some (.cells rc' 164 (0, 0)) ∧ W.grownBy W' (some B))
    (hV : w.heap[V]? = some (.cells #[.int .u32 (v : Int)] 86 (0, 0))) (hRp : w.heap[Rp]? = some (.cells #[.pointer (some ⟨B, 0, none⟩)] 166 (0, 0)))
    (hB : w.heap[B]? = some (.cells rc 164 (0, 0))) (hpl : pl ≤ 31) (hbi : bi ≤ 11) (hu : bits .and .u32 ((v : Int) / 2 ^ pl) (((2 : Int) ^ bi % 4294967296 - 1) % 4294967296) = (u : Int)) :
    Calls Tryz.prog 100 #[.agg #[.int .i64 (bi : Int), .func (.func gf) #[] #[], .func (.func sf) #[] #[]], .int .i64 (pl : Int), .pointer (some ⟨Rp, 0, none⟩), .pointer (some ⟨V, 0, none⟩)] w
      fun e w' => e = .returned (.tuple #[]) ∧ w'.heap[B]? = some (.cells rc' 164 (0, 0)) ∧ w.grownBy w' (some B) := by
  have hseth := Lib.hid hset
  have hB1 := Lib.hid ((Below.heap_alloc w (.cells #[.int .i64 (bi : Int), .func (.func gf) #[] #[], .func (.func sf) #[] #[]] 182) B (lt_of_block hB)).trans hB)
  have hV1 := Lib.hid ((Below.heap_alloc w (.cells #[.int .i64 (bi : Int), .func (.func gf) #[] #[], .func (.func sf) #[] #[]] 182) V (lt_of_block hV)).trans hV)
  have hR1 := Lib.hid ((Below.heap_alloc w (.cells #[.int .i64 (bi : Int), .func (.func gf) #[] #[], .func (.func sf) #[] #[]] 182) Rp (lt_of_block hRp)).trans hRp)
  have hN1 := Lib.hid (heap_alloc_new w (.cells #[.int .i64 (bi : Int), .func (.func gf) #[] #[], .func (.func sf) #[] #[]] 182))
  have hG1 : w.grownBy (w.alloc (.cells #[.int .i64 (bi : Int), .func (.func gf) #[] #[], .func (.func sf) #[] #[]] 182)).drew (some B) := Ck.grown_drew ⟨rfl, rfl, rfl, by simp, fun k hk _ => Below.heap_alloc w _ k hk⟩
  have hGh := Lib.hid hG1
  have huh := Lib.hid hu
  clear hset hB hV hRp hG1 hu
  go_enter Tryz.func100, Tryz.ntmps100
  go_wp2
  refine wp_region_still_tail 11 (by kernel_rfl) (by kernel_rfl) ?_
  simp only [List.take_succ_cons, List.take_zero, List.drop_succ_cons, List.drop_zero]
  change wpStill _ _ (World.drew (w.alloc (.cells #[.int .i64 (bi : Int), .func (.func gf) #[] #[], .func (.func sf) #[] #[]] 182))) (fun a' => wpList _ _ _ _ a' (World.drew (w.alloc (.cells #[.int .i64 (bi : Int), .func (.func gf) #[] #[], .func (.func sf) #[] #[]] 182)))) _ _
  replace hB1 := Lib.hid (show (World.drew (w.alloc (.cells #[.int .i64 (bi : Int), .func (.func gf) #[] #[], .func (.func sf) #[] #[]] 182))).heap[B]? = _ from hB1.out)
  replace hV1 := Lib.hid (show (World.drew (w.alloc (.cells #[.int .i64 (bi : Int), .func (.func gf) #[] #[], .func (.func sf) #[] #[]] 182))).heap[V]? = _ from hV1.out)
  replace hR1 := Lib.hid (show (World.drew (w.alloc (.cells #[.int .i64 (bi : Int), .func (.func gf) #[] #[], .func (.func sf) #[] #[]] 182))).heap[Rp]? = _ from hR1.out)
  replace hN1 := Lib.hid (show (World.drew (w.alloc (.cells #[.int .i64 (bi : Int), .func (.func gf) #[] #[], .func (.func sf) #[] #[]] 182))).heap[w.heap.size]? = _ from hN1.out)
  generalize World.drew (w.alloc (.cells #[.int .i64 (bi : Int), .func (.func gf) #[] #[], .func (.func sf) #[] #[]] 182)) = W1 at hB1 hV1 hR1 hN1 hGh ⊢
  have c1 := cell_of_one hV1.out
  have c2 := cell_of_one hR1.out
  have c3 : W1.cell? ⟨w.heap.size, 0, none⟩ = some (.int .i64 (bi : Int)) := cell_at hN1.out 0
  have c4 : W1.cell? ⟨w.heap.size, 2, none⟩ = some (.func (.func sf) #[] #[]) := cell_at hN1.out 2
  still_step
  still_step
  still_step
  still_step
  still_step
  still_step
  still_step
  still_step
  still_step
  still_step
  still_step
  refine wpStill_nil ?_
  have hGg := hGh.out
  have hBs := hB1.out
  clear hB1 hV1 hR1 hN1 hGh c3
  go_wp2_with fail
  rw [huh.out]
  refine (hseth.out W1 hBs).mono ?_
  rintro e w2 ⟨rfl, h1, h2⟩
  have h3 := Lib.hid (Ck.grown_trans hGg h2)
  have h1 := Lib.hid h1
  clear hGg hBs h2
  go_wp2
  go_end0
  exact ⟨rfl, h1.out, h3.out⟩
theorem unpack1_any (w : World) (f : Fd) (pl V Rp B v : Nat) (r : Rg) (hV : w.heap[V]? = some (.cells #[.int .u32 (v : Int)] 86 (0, 0))) (hRp : w.heap[Rp]? = some (.cells #[.pointer (some ⟨B, 0, none⟩)] 166 (0, 0)))
    (hB : w.heap[B]? = some (.cells (rcells r) 164 (0, 0))) (hpl : pl ≤ 31) (hv : v < 2 ^ 32) :
    Calls Tryz.prog 100 #[.agg f.cells.toArray, .int .i64 (pl : Int), .pointer (some ⟨Rp, 0, none⟩), .pointer (some ⟨V, 0, none⟩)] w
      fun e w' => e = .returned (.tuple #[]) ∧ w'.heap[B]? = some (.cells (rcells (f.set r (v / 2 ^ pl % 2 ^ f.bits))) 164 (0, 0)) ∧ w.grownBy w' (some B) := by
  have hd : v / 2 ^ pl < 2 ^ 32 := Nat.lt_of_le_of_lt (Nat.div_le_self _ _) hv
  have hm : v / 2 ^ pl % 2 ^ f.bits < 4294967296 := Nat.lt_of_le_of_lt (Nat.mod_le _ _) hd
  refine unpack1_core w f.bits f.getF f.setF (v / 2 ^ pl % 2 ^ f.bits) pl V Rp B v (rcells r) _ (call_set f) (fun W hW => set_any W B r hW _ hm f) hV hRp hB hpl (bits_le f) ?_
  have := mask32 (v := v / 2 ^ pl) (k := f.bits) hd (by have := bits_le f; omega)
  rw [← this]
  congr 1

set_option maxHeartbeats 800000 in
set_option maxRecDepth 100000 in
theorem unpack_any (w : World) (B : Nat) (r : Rg) (A : Option Addr) (fs : List Fd) (v : Nat) (hv : v < 2 ^ 32) (hB : w.heap[B]? = some (.cells (rcells r) 164 (0, 0))) (hF : FRd w A fs) (hn : fs.length ≤ 100) (hp : ∀ k, k < fs.length → placeN fs k ≤ 31)
    (hAB : ∀ g, A = some ⟨g, 0, none⟩ → 0 < fs.length → B ≠ g) :
    Calls Tryz.prog 83 #[.pointer (some ⟨B, 0, none⟩), .slice A fs.length fs.length, .int .u32 (v : Int)] w
      fun e w' => e = .returned (.tuple #[]) ∧ w'.heap[B]? = some (.cells (rcells (unpackN fs v r fs.length)) 164 (0, 0)) ∧ w.grownBy w' (some B) := by
  have hmf : ∀ (fn : Fn) (first cap : Array Value) (w : World), (Instr.makeFunc fn first cap).run Tryz.prog w = .ok (.func fn first cap) w := fun _ _ _ _ => rfl
  have hFh := Lib.hid hF
  have hBh := Lib.hid hB
  have hph := Lib.hid hp
  have hABh := Lib.hid hAB
  clear hF hB hp hAB
  have h0 : ∀ (W : World) (o o' : Obj) (k : Nat), W.heap[k]? = some o' → (W.alloc o).heap[k]? = some o' := fun W o o' k h => (Below.heap_alloc W o k (lt_of_block h)).trans h
  have h0h := Lib.hid h0
  clear h0
  go_enter Tryz.func83, Tryz.ntmps83
  go_wp2_with fail
  have hB2 := h0h.out _ (.cells #[.int .u32 (v : Int)] 86) _ _ (h0h.out w (.cells #[.pointer (some ⟨B, 0, none⟩)] 166) _ _ hBh.out)
  have hR2 := h0h.out _ (.cells #[.int .u32 (v : Int)] 86) _ _ (heap_alloc_new w (.cells #[.pointer (some ⟨B, 0, none⟩)] 166))
  have hV2 := heap_alloc_new (w.alloc (.cells #[.pointer (some ⟨B, 0, none⟩)] 166)) (.cells #[.int .u32 (v : Int)] 86)
  rw [show (w.alloc (.cells #[.pointer (some ⟨B, 0, none⟩)] 166)).heap.size = w.heap.size + 1 by simp] at hV2
  have hF2 : FRd ((w.alloc (.cells #[.pointer (some ⟨B, 0, none⟩)] 166)).alloc (.cells #[.int .u32 (v : Int)] 86)) A fs := fun hl => by
    obtain ⟨g, e, hr⟩ := hFh.out hl
    exact ⟨g, e, h0h.out _ _ _ _ (h0h.out _ _ _ _ hr)⟩
  have hb2 : w.grownBy ((w.alloc (.cells #[.pointer (some ⟨B, 0, none⟩)] 166)).alloc (.cells #[.int .u32 (v : Int)] 86)) (some B) := Ck.grown_trans (grown_alloc _ _ _) (grown_alloc _ _ _)
  have hBl := lt_of_block hBh.out
  generalize hW2 : ((w.alloc (.cells #[.pointer (some ⟨B, 0, none⟩)] 166)).alloc (.cells #[.int .u32 (v : Int)] 86)) = W2 at hB2 hR2 hV2 hF2 hb2 ⊢
  clear hW2
  have hzl := lt_of_block hB2
  refine (walk_any W2 100 #[.pointer (some ⟨w.heap.size, 0, none⟩), .pointer (some ⟨w.heap.size + 1, 0, none⟩)] (call_enter Tryz.func100 (by kernel_rfl) rfl) A fs hF2 hn (some B) (fun g e => by cases e; exact hzl)
    (fun hl g e h => by have := hABh.out g e hl; injection h; omega) (fun k W => W2.grownBy W (some B) ∧ W.heap[B]? = some (.cells (rcells (unpackN fs v r k)) 164 (0, 0))) ⟨Ck.grown_refl _ _, hB2⟩ (fun k W h => h.1) (fun k W o h => ⟨Ck.grown_trans h.1 ⟨rfl, rfl, rfl, by simp, fun k hk _ => Below.heap_alloc W _ k hk⟩, h0h.out _ _ _ _ h.2⟩) ?_).mono ?_
  · intro k hk W hI
    have hkp := hph.out k hk
    refine (unpack1_any W (fs[k]) (placeN fs k) (w.heap.size + 1) w.heap.size B v (unpackN fs v r k) ((hI.1.block _ (lt_of_block hV2) (by simp; omega)).trans hV2) ((hI.1.block _ (lt_of_block hR2) (by simp; omega)).trans hR2) hI.2 hkp hv).mono ?_
    rintro e W' ⟨rfl, h1, h2⟩
    refine ⟨rfl, ⟨Ck.grown_trans hI.1 h2, ?_⟩, h2⟩
    have e : unpackN fs v r (k + 1) = (fs[k]).set (unpackN fs v r k) (v / 2 ^ placeN fs k % 2 ^ (fs[k]).bits) := by
      show (fs.getD k .addr).set (unpackN fs v r k) (v / 2 ^ placeN fs k % 2 ^ (fs.getD k .addr).bits) = _
      rw [List.getD_eq_getElem?_getD, List.getElem?_eq_getElem hk]; rfl
    rw [e]
    exact h1
  rintro e w3 ⟨rfl, hg3, hV3⟩
  have hb3 := Lib.hid (Ck.grown_trans hb2 hg3)
  have hV3 := Lib.hid hV3
  clear hg3 hB2 hR2 hV2 hF2 hb2 hzl
  go_wp2
  go_end0
  exact ⟨rfl, hV3.out, hb3.out⟩

end Go.Proofs.YtgihpgdjkanodaaGreatDoor

