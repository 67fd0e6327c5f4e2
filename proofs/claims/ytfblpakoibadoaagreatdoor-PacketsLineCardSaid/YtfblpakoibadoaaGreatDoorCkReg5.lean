/-
  Helper text: the check of five bits; no statement is proved here.
-/
import Derived.Test.YtfblpakoibadoaaGreatDoorCkLen
namespace Go.Proofs.YtfblpakoibadoaaGreatDoor.Ck
open Go Go.RowKit

/-- The four blocks that are new behind the boxes. -/
abbrev four (w : World) (K : IntKind) (tR tS : TypeId) (Bt len wd lo r : Nat) : World :=
  (((w.alloc (.cells #[.int K (r : Int)] tR)).alloc (.cells #[.slice (some ⟨Bt, 0, none⟩) len len] tS)).alloc (.cells #[.int K (lo : Int)] tR)).alloc (.cells #[.int .i64 (wd : Int)] 3)
theorem four_below (w : World) (K : IntKind) (tR tS : TypeId) (Bt len wd lo r : Nat) : Below w.heap.size w (four w K tR tS Bt len wd lo r) :=
  (((((Below.refl w.heap.size w).alloc (Nat.le_refl _) _).alloc (by simp) _).alloc (by simp; omega) _).alloc (by simp; omega) _)
theorem mach_new (w : World) (K : IntKind) (tR tS : TypeId) (Bt len : Nat) (tab : Nat → Nat) (wd lo r : Nat) (ht : Bt < w.heap.size) (htab : ∀ j, j < len → w.cell? ⟨Bt, j, none⟩ = some (.int K (tab j : Int))) :
    Mach K tR tS Bt len tab wd lo w.heap.size (w.heap.size + 1 + 1 + 1) (w.heap.size + 1) (w.heap.size + 1 + 1) r (four w K tR tS Bt len wd lo r) := by
  have hsz : ∀ (W : World) (o : Obj), (W.alloc o).heap.size = W.heap.size + 1 := fun W o => by simp
  have h0 : ∀ (W : World) (o o' : Obj) (k : Nat), W.heap[k]? = some o' → (W.alloc o).heap[k]? = some o' := fun W o o' k h => (Below.heap_alloc W o k (lt_of_block h)).trans h
  refine ⟨?_, ?_, ?_, ?_, fun j hj => ?_, by omega, by omega, by omega, by omega⟩
  · exact h0 _ _ _ _ (h0 _ _ _ _ (h0 _ _ _ _ (heap_alloc_new w _)))
  · have := heap_alloc_new (((w.alloc (.cells #[.int K (r : Int)] tR)).alloc (.cells #[.slice (some ⟨Bt, 0, none⟩) len len] tS)).alloc (.cells #[.int K (lo : Int)] tR)) (.cells #[.int .i64 (wd : Int)] 3)
    rwa [hsz, hsz, hsz] at this
  · have := heap_alloc_new (w.alloc (.cells #[.int K (r : Int)] tR)) (.cells #[.slice (some ⟨Bt, 0, none⟩) len len] tS)
    rw [hsz] at this
    exact h0 _ _ _ _ (h0 _ _ _ _ this)
  · have := heap_alloc_new ((w.alloc (.cells #[.int K (r : Int)] tR)).alloc (.cells #[.slice (some ⟨Bt, 0, none⟩) len len] tS)) (.cells #[.int K (lo : Int)] tR)
    rw [hsz, hsz] at this
    exact h0 _ _ _ _ this
  · exact ((four_below w K tR tS Bt len wd lo r).cell (p := ⟨Bt, j, none⟩) ht).trans (htab j hj)

set_option maxHeartbeats 800000 in
set_option maxRecDepth 100000 in
theorem reg5 (w : World) (Bt Bn Bv n v : Nat) (hn : n ≤ 29) (hv : v < 2 ^ n) (ht : Bt < w.heap.size) (tab : ∀ j, j < 2 → w.cell? ⟨Bt, j, none⟩ = some (.int .u8 (tab5 j : Int)))
    (cn : w.heap[Bn]? = some (.cells #[.int .i64 (n : Int)] 3 (0, 0))) (cv : w.heap[Bv]? = some (.cells #[.int .u32 (v : Int)] 81 (0, 0))) :
    Calls Tryz.prog 125 #[.int .u8 31, .slice (some ⟨Bt, 0, none⟩) 2 2, .func (.func 126) #[] #[.pointer (some ⟨Bn, 0, none⟩), .pointer (some ⟨Bv, 0, none⟩)]] w
      fun e w' => e = .returned (.int .u8 (sN 20 n (31 ^^^ v) : Int)) ∧ Below w.heap.size w w' := by
  have hmf : ∀ (fn : Fn) (first cap : Array Value) (w : World), (Instr.makeFunc fn first cap).run Tryz.prog w = .ok (.func fn first cap) w := fun _ _ _ _ => rfl
  go_enter Tryz.func125, Tryz.ntmps125
  go_wp2_with fail
  refine (len_1 _).mono ?_
  rintro e w1 ⟨rfl, rfl⟩
  go_wp2_with fail
  have hB := four_below w .u8 5 27 Bt 2 1 1 31
  refine (send5 _ Bt w.heap.size (w.heap.size + 1 + 1 + 1) (w.heap.size + 1) (w.heap.size + 1 + 1) Bn Bv n v (mach_new w .u8 5 27 Bt 2 tab5 1 1 31 ht tab) hn hv ((hB.block _ (lt_of_block cn)).trans cn) ((hB.block _ (lt_of_block cv)).trans cv)
    (fun e => by have := lt_of_block cn; omega) (fun e => by have := lt_of_block cv; omega)).mono ?_
  rintro e w2 ⟨rfl, hm, hg⟩
  have c1 := cell_of_one hm.reg
  go_wp2
  go_ret
  exact ⟨rfl, hB.grown hg hB.size fun k e => by cases e; exact Nat.le_refl _⟩

end Go.Proofs.YtfblpakoibadoaaGreatDoor.Ck
