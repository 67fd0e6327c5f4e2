/-
  Helper text: the walk of the law PacketsText; no statement is proved here.
-/
import Derived.Test.YtfblpakoibadoaaDoorTextA
namespace Go.Proofs.YtfblpakoibadoaaDoor
open Go Go.RowKit

theorem lawText_skip (w : World) (wt a b fr fl : Nat) (A : Option Addr) (n c : Nat) (wt' a' b' fr' fl' : Nat) (A' : Option Addr) (n' c' : Nat) (h : 300 < n ∨ 300 < n') :
    Calls Tryd.prog 4 #[.agg (xcells wt a b fr fl (.slice A n c)), .agg (xcells wt' a' b' fr' fl' (.slice A' n' c'))] w (ResB w true) := by
  simp only [xcells]
  by_cases h1 : 300 < n
  · have t1 : (300 : Int) < (n : Int) := by omega
    go_enter Tryd.func4, Tryd.ntmps4
    go_wp2
    go_ret
    exact ⟨rfl, ((Below.refl _ w).alloc (Nat.le_refl _) _).alloc (by simp) _⟩
  · have t1 : ¬ (300 : Int) < (n : Int) := by omega
    have t2 : (300 : Int) < (n' : Int) := by omega
    clear h h1
    go_enter Tryd.func4, Tryd.ntmps4
    go_wp2
    go_ret
    exact ⟨rfl, ((Below.refl _ w).alloc (Nat.le_refl _) _).alloc (by simp) _⟩

set_option maxHeartbeats 6400000 in
set_option maxRecDepth 100000 in
theorem lawText_in (w : World) (hL : Laid w) (wt a b fr fl : Nat) (hwt : wt < 256) (ha : a < 256) (hb : b < 256) (hfr : fr < 65536) (hfl : fl < 256) (A : Option Addr) (c : Nat) (xs : List UInt8) (hx : Rd w w.heap.size A c xs) (hl : xs.length ≤ 300) (wt' a' b' fr' fl' : Nat) (hwt' : wt' < 256) (ha' : a' < 256) (hb' : b' < 256) (hfr' : fr' < 65536) (hfl' : fl' < 256) (A' : Option Addr) (c' : Nat) (ys : List UInt8) (hy : Rd w w.heap.size A' c' ys) (hl' : ys.length ≤ 300) :
    Calls Tryd.prog 4 #[.agg (xcells wt a b fr fl (.slice A xs.length c)), .agg (xcells wt' a' b' fr' fl' (.slice A' ys.length c'))] w (ResB w true) := by
  have t1 : ¬ (300 : Int) < (xs.length : Int) := by omega
  have t2 : ¬ (300 : Int) < (ys.length : Int) := by omega
  simp only [xcells]
  have hbW : Below w.heap.size w ((w.alloc (.cells #[.int .u8 (wt : Int), .int .u8 (a : Int), .int .u8 (b : Int), .int .u16 (fr : Int), .int .u8 (fl : Int), .slice A xs.length c] 34)).alloc (.cells #[.int .u8 (wt' : Int), .int .u8 (a' : Int), .int .u8 (b' : Int), .int .u16 (fr' : Int), .int .u8 (fl' : Int), .slice A' ys.length c'] 34)) := ((Below.refl w.heap.size w).alloc (Nat.le_refl _) _).alloc (by simp) _
  have hs0 : (w.alloc (.cells #[.int .u8 (wt : Int), .int .u8 (a : Int), .int .u8 (b : Int), .int .u16 (fr : Int), .int .u8 (fl : Int), .slice A xs.length c] 34)).heap.size = w.heap.size + 1 := by simp
  have hn2 : Hid (((w.alloc (.cells #[.int .u8 (wt : Int), .int .u8 (a : Int), .int .u8 (b : Int), .int .u16 (fr : Int), .int .u8 (fl : Int), .slice A xs.length c] 34)).alloc (.cells #[.int .u8 (wt' : Int), .int .u8 (a' : Int), .int .u8 (b' : Int), .int .u16 (fr' : Int), .int .u8 (fl' : Int), .slice A' ys.length c'] 34)).heap[w.heap.size + 1]? = some (.cells #[.int .u8 (wt' : Int), .int .u8 (a' : Int), .int .u8 (b' : Int), .int .u16 (fr' : Int), .int .u8 (fl' : Int), .slice A' ys.length c'] 34 (0, 0))) := by
    have h := heap_alloc_new (w.alloc (.cells #[.int .u8 (wt : Int), .int .u8 (a : Int), .int .u8 (b : Int), .int .u16 (fr : Int), .int .u8 (fl : Int), .slice A xs.length c] 34)) (.cells #[.int .u8 (wt' : Int), .int .u8 (a' : Int), .int .u8 (b' : Int), .int .u16 (fr' : Int), .int .u8 (fl' : Int), .slice A' ys.length c'] 34)
    rw [hs0] at h
    exact h
  have hn1 : Hid (((w.alloc (.cells #[.int .u8 (wt : Int), .int .u8 (a : Int), .int .u8 (b : Int), .int .u16 (fr : Int), .int .u8 (fl : Int), .slice A xs.length c] 34)).alloc (.cells #[.int .u8 (wt' : Int), .int .u8 (a' : Int), .int .u8 (b' : Int), .int .u16 (fr' : Int), .int .u8 (fl' : Int), .slice A' ys.length c'] 34)).heap[w.heap.size]? = some (.cells #[.int .u8 (wt : Int), .int .u8 (a : Int), .int .u8 (b : Int), .int .u16 (fr : Int), .int .u8 (fl : Int), .slice A xs.length c] 34 (0, 0))) := (Below.heap_alloc _ (.cells #[.int .u8 (wt' : Int), .int .u8 (a' : Int), .int .u8 (b' : Int), .int .u16 (fr' : Int), .int .u8 (fl' : Int), .slice A' ys.length c'] 34) _ (lt_of_block (heap_alloc_new w (.cells #[.int .u8 (wt : Int), .int .u8 (a : Int), .int .u8 (b : Int), .int .u16 (fr : Int), .int .u8 (fl : Int), .slice A xs.length c] 34)))).trans (heap_alloc_new w (.cells #[.int .u8 (wt : Int), .int .u8 (a : Int), .int .u8 (b : Int), .int .u16 (fr : Int), .int .u8 (fl : Int), .slice A xs.length c] 34))
  have hw0 : Hid (Below w.heap.size w ((w.alloc (.cells #[.int .u8 (wt : Int), .int .u8 (a : Int), .int .u8 (b : Int), .int .u16 (fr : Int), .int .u8 (fl : Int), .slice A xs.length c] 34)).alloc (.cells #[.int .u8 (wt' : Int), .int .u8 (a' : Int), .int .u8 (b' : Int), .int .u16 (fr' : Int), .int .u8 (fl' : Int), .slice A' ys.length c'] 34)).drew) := hbW.drew
  obtain ⟨B0, hB0⟩ : ∃ B0, ((w.alloc (.cells #[.int .u8 (wt : Int), .int .u8 (a : Int), .int .u8 (b : Int), .int .u16 (fr : Int), .int .u8 (fl : Int), .slice A xs.length c] 34)).alloc (.cells #[.int .u8 (wt' : Int), .int .u8 (a' : Int), .int .u8 (b' : Int), .int .u16 (fr' : Int), .int .u8 (fl' : Int), .slice A' ys.length c'] 34)).drew.heap.size = B0 := ⟨_, rfl⟩
  have HX : Hid (Rd ((w.alloc (.cells #[.int .u8 (wt : Int), .int .u8 (a : Int), .int .u8 (b : Int), .int .u16 (fr : Int), .int .u8 (fl : Int), .slice A xs.length c] 34)).alloc (.cells #[.int .u8 (wt' : Int), .int .u8 (a' : Int), .int .u8 (b' : Int), .int .u16 (fr' : Int), .int .u8 (fl' : Int), .slice A' ys.length c'] 34)).drew B0 A c xs) := hB0 ▸ (hx.belowTop hbW).drew
  have HY : Hid (Rd ((w.alloc (.cells #[.int .u8 (wt : Int), .int .u8 (a : Int), .int .u8 (b : Int), .int .u16 (fr : Int), .int .u8 (fl : Int), .slice A xs.length c] 34)).alloc (.cells #[.int .u8 (wt' : Int), .int .u8 (a' : Int), .int .u8 (b' : Int), .int .u16 (fr' : Int), .int .u8 (fl' : Int), .slice A' ys.length c'] 34)).drew B0 A' c' ys) := hB0 ▸ (hy.belowTop hbW).drew
  have h0B : Hid (w.heap.size ≤ B0) := hB0 ▸ hw0.out.size
  have hS : Hid (B0 ≤ ((w.alloc (.cells #[.int .u8 (wt : Int), .int .u8 (a : Int), .int .u8 (b : Int), .int .u16 (fr : Int), .int .u8 (fl : Int), .slice A xs.length c] 34)).alloc (.cells #[.int .u8 (wt' : Int), .int .u8 (a' : Int), .int .u8 (b' : Int), .int .u16 (fr' : Int), .int .u8 (fl' : Int), .slice A' ys.length c'] 34)).drew.heap.size) := Nat.le_of_eq hB0.symm
  replace hn1 : Hid (((w.alloc (.cells #[.int .u8 (wt : Int), .int .u8 (a : Int), .int .u8 (b : Int), .int .u16 (fr : Int), .int .u8 (fl : Int), .slice A xs.length c] 34)).alloc (.cells #[.int .u8 (wt' : Int), .int .u8 (a' : Int), .int .u8 (b' : Int), .int .u16 (fr' : Int), .int .u8 (fl' : Int), .slice A' ys.length c'] 34)).drew.heap[w.heap.size]? = some (.cells #[.int .u8 (wt : Int), .int .u8 (a : Int), .int .u8 (b : Int), .int .u16 (fr : Int), .int .u8 (fl : Int), .slice A xs.length c] 34 (0, 0))) := hn1
  replace hn2 : Hid (((w.alloc (.cells #[.int .u8 (wt : Int), .int .u8 (a : Int), .int .u8 (b : Int), .int .u16 (fr : Int), .int .u8 (fl : Int), .slice A xs.length c] 34)).alloc (.cells #[.int .u8 (wt' : Int), .int .u8 (a' : Int), .int .u8 (b' : Int), .int .u16 (fr' : Int), .int .u8 (fl' : Int), .slice A' ys.length c'] 34)).drew.heap[w.heap.size + 1]? = some (.cells #[.int .u8 (wt' : Int), .int .u8 (a' : Int), .int .u8 (b' : Int), .int .u16 (fr' : Int), .int .u8 (fl' : Int), .slice A' ys.length c'] 34 (0, 0))) := hn2
  have hi1 : Hid (w.heap.size < B0) := hB0 ▸ lt_of_block hn1.out
  have hi2 : Hid (w.heap.size + 1 < B0) := hB0 ▸ lt_of_block hn2.out
  clear hB0
  have hw' := Lib.hid (And.intro hwt' (And.intro ha' (And.intro hb' (And.intro hfr' hfl'))))
  have Hl := Lib.hid hl'
  have hLh := Lib.hid hL
  have KL := Lib.hid fun (W : World) (b : Below w.heap.size w W) => lives_any W (hLh.out.below b)
  clear hL hx hy hbW hs0 hwt' ha' hb' hfr' hfl' hl'
  go_enter Tryd.func4, Tryd.ntmps4
  go_wp2_with fail
  refine region_inv (fun a₀ act w' => ∃ (r q : Rg) (us vs : List UInt8) (A1 A3 : Option Addr) (c1 c3 g4 g5 : Nat), (r.Ok ∧ Fit r us ∧ us.length ≤ 1024) ∧ (q.Ok ∧ Fit q vs ∧ vs.length ≤ 1024) ∧
      act = (((((a₀.put (some 17) (.agg #[.int .u8 (wt : Int), .int .u8 (a : Int), .int .u8 (b : Int), .int .u16 (fr : Int), .int .u8 (fl : Int), .slice A xs.length c])).put (some 18) (.agg #[.int .u8 (r.pid : Int), .int .u8 (r.addr : Int), .int .u8 (r.endp : Int), .int .u16 (r.frame : Int), .int .u8 (r.hub : Int), .int .u8 (r.port : Int), .bool r.comp, .bool r.low, .int .u8 (r.kind : Int), .slice A1 us.length c1])).put (some 19) (.agg #[.int .u8 (wt' : Int), .int .u8 (a' : Int), .int .u8 (b' : Int), .int .u16 (fr' : Int), .int .u8 (fl' : Int), .slice A' ys.length c'])).put (some 20) (.agg #[.int .u8 (q.pid : Int), .int .u8 (q.addr : Int), .int .u8 (q.endp : Int), .int .u16 (q.frame : Int), .int .u8 (q.hub : Int), .int .u8 (q.port : Int), .bool q.comp, .bool q.low, .int .u8 (q.kind : Int), .slice A3 vs.length c3])).put (some 5) (.pointer (some ⟨g4, 0, none⟩))).put (some 6) (.pointer (some ⟨g5, 0, none⟩)) ∧
      Below w.heap.size w w' ∧ w'.heap[g4]? = some (.cells #[.int .u8 (r.pid : Int), .int .u8 (r.addr : Int), .int .u8 (r.endp : Int), .int .u16 (r.frame : Int), .int .u8 (r.hub : Int), .int .u8 (r.port : Int), .bool r.comp, .bool r.low, .int .u8 (r.kind : Int), .slice A1 us.length c1] 29 (0, 0)) ∧ w'.heap[g5]? = some (.cells #[.int .u8 (q.pid : Int), .int .u8 (q.addr : Int), .int .u8 (q.endp : Int), .int .u16 (q.frame : Int), .int .u8 (q.hub : Int), .int .u8 (q.port : Int), .bool q.comp, .bool q.low, .int .u8 (q.kind : Int), .slice A3 vs.length c3] 29 (0, 0)) ∧ Rd w' w'.heap.size A1 c1 us ∧ Rd w' w'.heap.size A3 c3 vs) ?_ ?_
  · refine startB 8 (l := #[false, false, false, false, false, false, false, false]) (B := B0) (by kernel_rfl) rfl rfl ?_
    have hB : Hid (Below B0 ((w.alloc (.cells #[.int .u8 (wt : Int), .int .u8 (a : Int), .int .u8 (b : Int), .int .u16 (fr : Int), .int .u8 (fl : Int), .slice A xs.length c] 34)).alloc (.cells #[.int .u8 (wt' : Int), .int .u8 (a' : Int), .int .u8 (b' : Int), .int .u16 (fr' : Int), .int .u8 (fl' : Int), .slice A' ys.length c'] 34)).drew ((w.alloc (.cells #[.int .u8 (wt : Int), .int .u8 (a : Int), .int .u8 (b : Int), .int .u16 (fr : Int), .int .u8 (fl : Int), .slice A xs.length c] 34)).alloc (.cells #[.int .u8 (wt' : Int), .int .u8 (a' : Int), .int .u8 (b' : Int), .int .u16 (fr' : Int), .int .u8 (fl' : Int), .slice A' ys.length c'] 34)).drew) := Below.refl _ _
    generalize ((w.alloc (.cells #[.int .u8 (wt : Int), .int .u8 (a : Int), .int .u8 (b : Int), .int .u16 (fr : Int), .int .u8 (fl : Int), .slice A xs.length c] 34)).alloc (.cells #[.int .u8 (wt' : Int), .int .u8 (a' : Int), .int .u8 (b' : Int), .int .u16 (fr' : Int), .int .u8 (fl' : Int), .slice A' ys.length c'] 34)).drew = w0 at hn1 hn2 hw0 HX HY hB hS ⊢
    refine takeB 0 (v := .agg #[.int .u8 (wt : Int), .int .u8 (a : Int), .int .u8 (b : Int), .int .u16 (fr : Int), .int .u8 (fl : Int), .slice A xs.length c]) rfl (by decide +kernel) (by decide +kernel) (by decide +kernel) (fun _ _ _ h => h) (Or.inl ⟨by rfl, ?_⟩) ?_
    · intro W hW
      have hnl := (hW.block _ hi1.out).trans hn1.out
      have q0 := block_at (i := 0) hnl rfl
      have q1 := block_at (i := 1) hnl rfl
      have q2 := block_at (i := 2) hnl rfl
      have q3 := block_at (i := 3) hnl rfl
      have q4 := block_at (i := 4) hnl rfl
      have q5 := block_at (i := 5) hnl rfl
      clear hnl hW
      go_simp
      first | done | omega | with_reducible rfl
    try simp only [Act.put, List.setIfInBounds_toArray, List.set_cons_zero, List.set_cons_succ]
    refine takeB 2 (v := .agg #[.int .u8 (wt' : Int), .int .u8 (a' : Int), .int .u8 (b' : Int), .int .u16 (fr' : Int), .int .u8 (fl' : Int), .slice A' ys.length c']) rfl (by decide +kernel) (by decide +kernel) (by decide +kernel) (fun _ _ _ h => h) (Or.inl ⟨by rfl, ?_⟩) ?_
    · intro W hW
      have hnl := (hW.block _ hi2.out).trans hn2.out
      have q0 := block_at (i := 0) hnl rfl
      have q1 := block_at (i := 1) hnl rfl
      have q2 := block_at (i := 2) hnl rfl
      have q3 := block_at (i := 3) hnl rfl
      have q4 := block_at (i := 4) hnl rfl
      have q5 := block_at (i := 5) hnl rfl
      clear hnl hW
      go_simp
      first | done | omega | with_reducible rfl
    try simp only [Act.put, List.setIfInBounds_toArray, List.set_cons_zero, List.set_cons_succ]
    clear hn1 hn2 hi1 hi2
    refine stepBA [1, 4, 5] (by decide +kernel) (by decide) ?_
    intro i hi
    rcases (by simpa using hi : i = 1 ∨ i = 4 ∨ i = 5) with rfl | rfl | rfl
    · clear hi
      refine ⟨_, rfl, by rfl, ?_⟩
      intro K hK
      go_simp
      obtain ⟨r, us, ok1, hf1, hl1, KP1⟩ := pkt_any w0 wt a b fr fl hwt ha hb hfr hfl A c xs ((HX.out.below hB.out).more hS.out) (by omega)
      simp only [xcells, ResX, pcells] at KP1
      refine KP1.mono ?_
      rintro e w1 ⟨v, rfl, o, bb⟩
      obtain ⟨A1, c1, rfl, _⟩ := Rd.of_own o
      refine hK _ _ (bb.mono hS.out) ?_
      have o1 := Lib.hid (own_base o hS.out)
      replace hB := Lib.hid (hB.out.trans (bb.mono hS.out))
      replace hS := Lib.hid (Nat.le_trans hS.out bb.size)
      have pf1 := Lib.hid (And.intro ok1 (And.intro hf1 hl1))
      clear hK K bb o ok1 hf1 hl1 KP1
      try simp only [Act.put, List.setIfInBounds_toArray, List.set_cons_zero, List.set_cons_succ]
      refine stepBA [3, 4, 5] (by decide +kernel) (by decide) ?_
      intro i hi
      rcases (by simpa using hi : i = 3 ∨ i = 4 ∨ i = 5) with rfl | rfl | rfl
      · clear hi
        refine ⟨_, rfl, by rfl, ?_⟩
        intro K hK
        go_simp
        obtain ⟨q, vs, ok3, hf3, hl3, KP3⟩ := pkt_any w1 wt' a' b' fr' fl' hw'.out.1 hw'.out.2.1 hw'.out.2.2.1 hw'.out.2.2.2.1 hw'.out.2.2.2.2 A' c' ys ((HY.out.below hB.out).more hS.out) (by have := Hl.out; omega)
        simp only [xcells, ResX, pcells] at KP3
        refine KP3.mono ?_
        rintro e w2 ⟨v, rfl, o, bb⟩
        obtain ⟨A3, c3, rfl, _⟩ := Rd.of_own o
        refine hK _ _ (bb.mono hS.out) ?_
        replace o1 := Lib.hid (own_below o1.out bb)
        have o3 := Lib.hid (own_base o hS.out)
        replace hB := Lib.hid (hB.out.trans (bb.mono hS.out))
        replace hS := Lib.hid (Nat.le_trans hS.out bb.size)
        have pf3 := Lib.hid (And.intro ok3 (And.intro hf3 hl3))
        clear hK K bb o ok3 hf3 hl3 KP3
        try simp only [Act.put, List.setIfInBounds_toArray, List.set_cons_zero, List.set_cons_succ]
        refine stepBA [4, 5] (by decide +kernel) (by decide) ?_
        intro i hi
        rcases (by simpa using hi : i = 4 ∨ i = 5) with rfl | rfl
        · clear hi
          refine ⟨_, rfl, by rfl, ?_⟩
          intro K hK
          go_simp
          have bb := (Below.refl w2.heap.size w2).alloc (Nat.le_refl _) (.cells #[.int .u8 0, .int .u8 0, .int .u8 0, .int .u16 0, .int .u8 0, .int .u8 0, .bool false, .bool false, .int .u8 0, .slice none 0 0] 29)
          refine hK _ _ (bb.mono hS.out) ?_
          have h4 := Lib.hid (heap_alloc_new w2 (.cells #[.int .u8 0, .int .u8 0, .int .u8 0, .int .u16 0, .int .u8 0, .int .u8 0, .bool false, .bool false, .int .u8 0, .slice none 0 0] 29))
          have hg4 := Lib.hid hS.out
          have n14 := Lib.hid (own_ne_new o1.out)
          replace o1 := Lib.hid (own_below o1.out bb)
          have n34 := Lib.hid (own_ne_new o3.out)
          replace o3 := Lib.hid (own_below o3.out bb)
          replace hB := Lib.hid (hB.out.trans (bb.mono hS.out))
          replace hS := Lib.hid (Nat.le_trans hS.out bb.size)
          clear hK K bb
          try simp only [Act.put, List.setIfInBounds_toArray, List.set_cons_zero, List.set_cons_succ]
          generalize w2.alloc (.cells #[.int .u8 0, .int .u8 0, .int .u8 0, .int .u16 0, .int .u8 0, .int .u8 0, .bool false, .bool false, .int .u8 0, .slice none 0 0] 29) = w3 at h4 hB hS o1 o3 ⊢
          generalize w2.heap.size = g4 at h4 hg4 n14 n34 ⊢
          refine stepBA [5] (by decide +kernel) (by decide) ?_
          intro i hi
          obtain rfl : i = 5 := by simpa using hi
          clear hi
          refine ⟨_, rfl, by rfl, ?_⟩
          intro K hK
          go_simp
          have bb := (Below.refl w3.heap.size w3).alloc (Nat.le_refl _) (.cells #[.int .u8 0, .int .u8 0, .int .u8 0, .int .u16 0, .int .u8 0, .int .u8 0, .bool false, .bool false, .int .u8 0, .slice none 0 0] 29)
          refine hK _ _ (bb.mono hS.out) ?_
          have h5 := Lib.hid (heap_alloc_new w3 (.cells #[.int .u8 0, .int .u8 0, .int .u8 0, .int .u16 0, .int .u8 0, .int .u8 0, .bool false, .bool false, .int .u8 0, .slice none 0 0] 29))
          have hg5 := Lib.hid hS.out
          have n15 := Lib.hid (own_ne_new o1.out)
          replace o1 := Lib.hid (own_below o1.out bb)
          have n35 := Lib.hid (own_ne_new o3.out)
          replace o3 := Lib.hid (own_below o3.out bb)
          have ne := Lib.hid (show g4 ≠ w3.heap.size from Nat.ne_of_lt (lt_of_block h4.out))
          replace h4 := Lib.hid ((bb.block _ (lt_of_block h4.out)).trans h4.out)
          replace hB := Lib.hid (hB.out.trans (bb.mono hS.out))
          replace hS := Lib.hid (Nat.le_trans hS.out bb.size)
          clear hK K bb
          try simp only [Act.put, List.setIfInBounds_toArray, List.set_cons_zero, List.set_cons_succ]
          generalize w3.alloc (.cells #[.int .u8 0, .int .u8 0, .int .u8 0, .int .u16 0, .int .u8 0, .int .u8 0, .bool false, .bool false, .int .u8 0, .slice none 0 0] 29) = w4 at h5 hB hS o1 o3 h4 ⊢
          generalize w3.heap.size = g5 at h5 hg5 n15 n35 ne ⊢
          have m14 := Lib.hid (And.intro n14.out n15.out)
          have m34 := Lib.hid (And.intro n34.out n35.out)
          have m45 : Hid (g4 ≠ g5) := ne.out
          clear n14 n15 n34 n35 ne
          have k0 := block_at (i := 0) h4.out rfl
          have k1 := block_at (i := 1) h4.out rfl
          have k2 := block_at (i := 2) h4.out rfl
          have k3 := block_at (i := 3) h4.out rfl
          have k4 := block_at (i := 4) h4.out rfl
          have k5 := block_at (i := 5) h4.out rfl
          have k6 := block_at (i := 6) h4.out rfl
          have k7 := block_at (i := 7) h4.out rfl
          have k8 := block_at (i := 8) h4.out rfl
          have k9 := block_at (i := 9) h4.out rfl
          have fR : ∀ i, w4.frozen? ⟨g4, i, none⟩ = false := fun i => by simp [World.frozen?, h4.out]
          refine stepB 6 rfl (by decide +kernel) (by rfl) ?_
          intro K hK
          go_simp
          have bb : Below B0 w4 ((((((((((w4.setCell ⟨g4, 0, none⟩ (.int .u8 (r.pid : Int))).setCell ⟨g4, 1, none⟩ (.int .u8 (r.addr : Int))).setCell ⟨g4, 2, none⟩ (.int .u8 (r.endp : Int))).setCell ⟨g4, 3, none⟩ (.int .u16 (r.frame : Int))).setCell ⟨g4, 4, none⟩ (.int .u8 (r.hub : Int))).setCell ⟨g4, 5, none⟩ (.int .u8 (r.port : Int))).setCell ⟨g4, 6, none⟩ (.bool r.comp)).setCell ⟨g4, 7, none⟩ (.bool r.low)).setCell ⟨g4, 8, none⟩ (.int .u8 (r.kind : Int))).setCell ⟨g4, 9, none⟩ (.slice A1 us.length c1)) := below10 (.int .u8 (r.pid : Int)) (.int .u8 (r.addr : Int)) (.int .u8 (r.endp : Int)) (.int .u16 (r.frame : Int)) (.int .u8 (r.hub : Int)) (.int .u8 (r.port : Int)) (.bool r.comp) (.bool r.low) (.int .u8 (r.kind : Int)) (.slice A1 us.length c1) (Below.refl _ w4) hg4.out
          refine hK _ _ bb ?_
          have gg : w4.grownBy ((((((((((w4.setCell ⟨g4, 0, none⟩ (.int .u8 (r.pid : Int))).setCell ⟨g4, 1, none⟩ (.int .u8 (r.addr : Int))).setCell ⟨g4, 2, none⟩ (.int .u8 (r.endp : Int))).setCell ⟨g4, 3, none⟩ (.int .u16 (r.frame : Int))).setCell ⟨g4, 4, none⟩ (.int .u8 (r.hub : Int))).setCell ⟨g4, 5, none⟩ (.int .u8 (r.port : Int))).setCell ⟨g4, 6, none⟩ (.bool r.comp)).setCell ⟨g4, 7, none⟩ (.bool r.low)).setCell ⟨g4, 8, none⟩ (.int .u8 (r.kind : Int))).setCell ⟨g4, 9, none⟩ (.slice A1 us.length c1)) (some g4) := grown10 w4 g4 (.int .u8 (r.pid : Int)) (.int .u8 (r.addr : Int)) (.int .u8 (r.endp : Int)) (.int .u16 (r.frame : Int)) (.int .u8 (r.hub : Int)) (.int .u8 (r.port : Int)) (.bool r.comp) (.bool r.low) (.int .u8 (r.kind : Int)) (.slice A1 us.length c1)
          replace h5 := Lib.hid ((gg.block _ (lt_of_block h5.out) (fun e => by injection e with e; exact m45.out e.symm)).trans h5.out)
          replace h4 : Hid (((((((((((w4.setCell ⟨g4, 0, none⟩ (.int .u8 (r.pid : Int))).setCell ⟨g4, 1, none⟩ (.int .u8 (r.addr : Int))).setCell ⟨g4, 2, none⟩ (.int .u8 (r.endp : Int))).setCell ⟨g4, 3, none⟩ (.int .u16 (r.frame : Int))).setCell ⟨g4, 4, none⟩ (.int .u8 (r.hub : Int))).setCell ⟨g4, 5, none⟩ (.int .u8 (r.port : Int))).setCell ⟨g4, 6, none⟩ (.bool r.comp)).setCell ⟨g4, 7, none⟩ (.bool r.low)).setCell ⟨g4, 8, none⟩ (.int .u8 (r.kind : Int))).setCell ⟨g4, 9, none⟩ (.slice A1 us.length c1)).heap[g4]? = _) := store10 _ _ _ _ _ _ _ _ _ _ (.int .u8 (r.pid : Int)) (.int .u8 (r.addr : Int)) (.int .u8 (r.endp : Int)) (.int .u16 (r.frame : Int)) (.int .u8 (r.hub : Int)) (.int .u8 (r.port : Int)) (.bool r.comp) (.bool r.low) (.int .u8 (r.kind : Int)) (.slice A1 us.length c1) h4.out
          replace o1 := Lib.hid (own_apart o1.out gg m14.out.1)
          replace o3 := Lib.hid (own_apart o3.out gg m34.out.1)
          replace hB := Lib.hid (hB.out.trans bb)
          clear hK K bb gg fR k0 k1 k2 k3 k4 k5 k6 k7 k8 k9
          try simp only [Act.put, List.setIfInBounds_toArray, List.set_cons_zero, List.set_cons_succ]
          generalize ((((((((((w4.setCell ⟨g4, 0, none⟩ (.int .u8 (r.pid : Int))).setCell ⟨g4, 1, none⟩ (.int .u8 (r.addr : Int))).setCell ⟨g4, 2, none⟩ (.int .u8 (r.endp : Int))).setCell ⟨g4, 3, none⟩ (.int .u16 (r.frame : Int))).setCell ⟨g4, 4, none⟩ (.int .u8 (r.hub : Int))).setCell ⟨g4, 5, none⟩ (.int .u8 (r.port : Int))).setCell ⟨g4, 6, none⟩ (.bool r.comp)).setCell ⟨g4, 7, none⟩ (.bool r.low)).setCell ⟨g4, 8, none⟩ (.int .u8 (r.kind : Int))).setCell ⟨g4, 9, none⟩ (.slice A1 us.length c1)) = w20 at h4 h5 o1 o3 hB ⊢
          have k0 := block_at (i := 0) h5.out rfl
          have k1 := block_at (i := 1) h5.out rfl
          have k2 := block_at (i := 2) h5.out rfl
          have k3 := block_at (i := 3) h5.out rfl
          have k4 := block_at (i := 4) h5.out rfl
          have k5 := block_at (i := 5) h5.out rfl
          have k6 := block_at (i := 6) h5.out rfl
          have k7 := block_at (i := 7) h5.out rfl
          have k8 := block_at (i := 8) h5.out rfl
          have k9 := block_at (i := 9) h5.out rfl
          have fR : ∀ i, w20.frozen? ⟨g5, i, none⟩ = false := fun i => by simp [World.frozen?, h5.out]
          refine stepB 7 rfl (by decide +kernel) (by rfl) ?_
          intro K hK
          go_simp
          have bb : Below B0 w20 ((((((((((w20.setCell ⟨g5, 0, none⟩ (.int .u8 (q.pid : Int))).setCell ⟨g5, 1, none⟩ (.int .u8 (q.addr : Int))).setCell ⟨g5, 2, none⟩ (.int .u8 (q.endp : Int))).setCell ⟨g5, 3, none⟩ (.int .u16 (q.frame : Int))).setCell ⟨g5, 4, none⟩ (.int .u8 (q.hub : Int))).setCell ⟨g5, 5, none⟩ (.int .u8 (q.port : Int))).setCell ⟨g5, 6, none⟩ (.bool q.comp)).setCell ⟨g5, 7, none⟩ (.bool q.low)).setCell ⟨g5, 8, none⟩ (.int .u8 (q.kind : Int))).setCell ⟨g5, 9, none⟩ (.slice A3 vs.length c3)) := below10 (.int .u8 (q.pid : Int)) (.int .u8 (q.addr : Int)) (.int .u8 (q.endp : Int)) (.int .u16 (q.frame : Int)) (.int .u8 (q.hub : Int)) (.int .u8 (q.port : Int)) (.bool q.comp) (.bool q.low) (.int .u8 (q.kind : Int)) (.slice A3 vs.length c3) (Below.refl _ w20) hg5.out
          refine hK _ _ bb ?_
          have gg : w20.grownBy ((((((((((w20.setCell ⟨g5, 0, none⟩ (.int .u8 (q.pid : Int))).setCell ⟨g5, 1, none⟩ (.int .u8 (q.addr : Int))).setCell ⟨g5, 2, none⟩ (.int .u8 (q.endp : Int))).setCell ⟨g5, 3, none⟩ (.int .u16 (q.frame : Int))).setCell ⟨g5, 4, none⟩ (.int .u8 (q.hub : Int))).setCell ⟨g5, 5, none⟩ (.int .u8 (q.port : Int))).setCell ⟨g5, 6, none⟩ (.bool q.comp)).setCell ⟨g5, 7, none⟩ (.bool q.low)).setCell ⟨g5, 8, none⟩ (.int .u8 (q.kind : Int))).setCell ⟨g5, 9, none⟩ (.slice A3 vs.length c3)) (some g5) := grown10 w20 g5 (.int .u8 (q.pid : Int)) (.int .u8 (q.addr : Int)) (.int .u8 (q.endp : Int)) (.int .u16 (q.frame : Int)) (.int .u8 (q.hub : Int)) (.int .u8 (q.port : Int)) (.bool q.comp) (.bool q.low) (.int .u8 (q.kind : Int)) (.slice A3 vs.length c3)
          replace h4 := Lib.hid ((gg.block _ (lt_of_block h4.out) (fun e => by injection e with e; exact m45.out e)).trans h4.out)
          replace h5 : Hid (((((((((((w20.setCell ⟨g5, 0, none⟩ (.int .u8 (q.pid : Int))).setCell ⟨g5, 1, none⟩ (.int .u8 (q.addr : Int))).setCell ⟨g5, 2, none⟩ (.int .u8 (q.endp : Int))).setCell ⟨g5, 3, none⟩ (.int .u16 (q.frame : Int))).setCell ⟨g5, 4, none⟩ (.int .u8 (q.hub : Int))).setCell ⟨g5, 5, none⟩ (.int .u8 (q.port : Int))).setCell ⟨g5, 6, none⟩ (.bool q.comp)).setCell ⟨g5, 7, none⟩ (.bool q.low)).setCell ⟨g5, 8, none⟩ (.int .u8 (q.kind : Int))).setCell ⟨g5, 9, none⟩ (.slice A3 vs.length c3)).heap[g5]? = _) := store10 _ _ _ _ _ _ _ _ _ _ (.int .u8 (q.pid : Int)) (.int .u8 (q.addr : Int)) (.int .u8 (q.endp : Int)) (.int .u16 (q.frame : Int)) (.int .u8 (q.hub : Int)) (.int .u8 (q.port : Int)) (.bool q.comp) (.bool q.low) (.int .u8 (q.kind : Int)) (.slice A3 vs.length c3) h5.out
          replace o1 := Lib.hid (own_apart o1.out gg m14.out.2)
          replace o3 := Lib.hid (own_apart o3.out gg m34.out.2)
          replace hB := Lib.hid (hB.out.trans bb)
          clear hK K bb gg fR k0 k1 k2 k3 k4 k5 k6 k7 k8 k9
          try simp only [Act.put, List.setIfInBounds_toArray, List.set_cons_zero, List.set_cons_succ]
          generalize ((((((((((w20.setCell ⟨g5, 0, none⟩ (.int .u8 (q.pid : Int))).setCell ⟨g5, 1, none⟩ (.int .u8 (q.addr : Int))).setCell ⟨g5, 2, none⟩ (.int .u8 (q.endp : Int))).setCell ⟨g5, 3, none⟩ (.int .u16 (q.frame : Int))).setCell ⟨g5, 4, none⟩ (.int .u8 (q.hub : Int))).setCell ⟨g5, 5, none⟩ (.int .u8 (q.port : Int))).setCell ⟨g5, 6, none⟩ (.bool q.comp)).setCell ⟨g5, 7, none⟩ (.bool q.low)).setCell ⟨g5, 8, none⟩ (.int .u8 (q.kind : Int))).setCell ⟨g5, 9, none⟩ (.slice A3 vs.length c3)) = w21 at h4 h5 o1 o3 hB ⊢
          refine doneB (by kernel_rfl) ?_
          exact ⟨r, q, us, vs, A1, A3, c1, c3, g4, g5, pf1.out, pf3.out, rfl, hw0.out.trans (hB.out.mono h0B.out), h4.out, h5.out, Rd.of_own_at o1.out, Rd.of_own_at o3.out⟩
        · clear hi
          refine ⟨_, rfl, by rfl, ?_⟩
          intro K hK
          go_simp
          have bb := (Below.refl w2.heap.size w2).alloc (Nat.le_refl _) (.cells #[.int .u8 0, .int .u8 0, .int .u8 0, .int .u16 0, .int .u8 0, .int .u8 0, .bool false, .bool false, .int .u8 0, .slice none 0 0] 29)
          refine hK _ _ (bb.mono hS.out) ?_
          have h5 := Lib.hid (heap_alloc_new w2 (.cells #[.int .u8 0, .int .u8 0, .int .u8 0, .int .u16 0, .int .u8 0, .int .u8 0, .bool false, .bool false, .int .u8 0, .slice none 0 0] 29))
          have hg5 := Lib.hid hS.out
          have n15 := Lib.hid (own_ne_new o1.out)
          replace o1 := Lib.hid (own_below o1.out bb)
          have n35 := Lib.hid (own_ne_new o3.out)
          replace o3 := Lib.hid (own_below o3.out bb)
          replace hB := Lib.hid (hB.out.trans (bb.mono hS.out))
          replace hS := Lib.hid (Nat.le_trans hS.out bb.size)
          clear hK K bb
          try simp only [Act.put, List.setIfInBounds_toArray, List.set_cons_zero, List.set_cons_succ]
          generalize w2.alloc (.cells #[.int .u8 0, .int .u8 0, .int .u8 0, .int .u16 0, .int .u8 0, .int .u8 0, .bool false, .bool false, .int .u8 0, .slice none 0 0] 29) = w3 at h5 hB hS o1 o3 ⊢
          generalize w2.heap.size = g5 at h5 hg5 n15 n35 ⊢
          refine stepBA [4] (by decide +kernel) (by decide) ?_
          intro i hi
          obtain rfl : i = 4 := by simpa using hi
          clear hi
          refine ⟨_, rfl, by rfl, ?_⟩
          intro K hK
          go_simp
          have bb := (Below.refl w3.heap.size w3).alloc (Nat.le_refl _) (.cells #[.int .u8 0, .int .u8 0, .int .u8 0, .int .u16 0, .int .u8 0, .int .u8 0, .bool false, .bool false, .int .u8 0, .slice none 0 0] 29)
          refine hK _ _ (bb.mono hS.out) ?_
          have h4 := Lib.hid (heap_alloc_new w3 (.cells #[.int .u8 0, .int .u8 0, .int .u8 0, .int .u16 0, .int .u8 0, .int .u8 0, .bool false, .bool false, .int .u8 0, .slice none 0 0] 29))
          have hg4 := Lib.hid hS.out
          have n14 := Lib.hid (own_ne_new o1.out)
          replace o1 := Lib.hid (own_below o1.out bb)
          have n34 := Lib.hid (own_ne_new o3.out)
          replace o3 := Lib.hid (own_below o3.out bb)
          have ne := Lib.hid (show g5 ≠ w3.heap.size from Nat.ne_of_lt (lt_of_block h5.out))
          replace h5 := Lib.hid ((bb.block _ (lt_of_block h5.out)).trans h5.out)
          replace hB := Lib.hid (hB.out.trans (bb.mono hS.out))
          replace hS := Lib.hid (Nat.le_trans hS.out bb.size)
          clear hK K bb
          try simp only [Act.put, List.setIfInBounds_toArray, List.set_cons_zero, List.set_cons_succ]
          generalize w3.alloc (.cells #[.int .u8 0, .int .u8 0, .int .u8 0, .int .u16 0, .int .u8 0, .int .u8 0, .bool false, .bool false, .int .u8 0, .slice none 0 0] 29) = w4 at h4 hB hS o1 o3 h5 ⊢
          generalize w3.heap.size = g4 at h4 hg4 n14 n34 ne ⊢
          have m14 := Lib.hid (And.intro n14.out n15.out)
          have m34 := Lib.hid (And.intro n34.out n35.out)
          have m45 : Hid (g4 ≠ g5) := ne.out.symm
          clear n14 n15 n34 n35 ne
          have k0 := block_at (i := 0) h4.out rfl
          have k1 := block_at (i := 1) h4.out rfl
          have k2 := block_at (i := 2) h4.out rfl
          have k3 := block_at (i := 3) h4.out rfl
          have k4 := block_at (i := 4) h4.out rfl
          have k5 := block_at (i := 5) h4.out rfl
          have k6 := block_at (i := 6) h4.out rfl
          have k7 := block_at (i := 7) h4.out rfl
          have k8 := block_at (i := 8) h4.out rfl
          have k9 := block_at (i := 9) h4.out rfl
          have fR : ∀ i, w4.frozen? ⟨g4, i, none⟩ = false := fun i => by simp [World.frozen?, h4.out]
          refine stepB 6 rfl (by decide +kernel) (by rfl) ?_
          intro K hK
          go_simp
          have bb : Below B0 w4 ((((((((((w4.setCell ⟨g4, 0, none⟩ (.int .u8 (r.pid : Int))).setCell ⟨g4, 1, none⟩ (.int .u8 (r.addr : Int))).setCell ⟨g4, 2, none⟩ (.int .u8 (r.endp : Int))).setCell ⟨g4, 3, none⟩ (.int .u16 (r.frame : Int))).setCell ⟨g4, 4, none⟩ (.int .u8 (r.hub : Int))).setCell ⟨g4, 5, none⟩ (.int .u8 (r.port : Int))).setCell ⟨g4, 6, none⟩ (.bool r.comp)).setCell ⟨g4, 7, none⟩ (.bool r.low)).setCell ⟨g4, 8, none⟩ (.int .u8 (r.kind : Int))).setCell ⟨g4, 9, none⟩ (.slice A1 us.length c1)) := below10 (.int .u8 (r.pid : Int)) (.int .u8 (r.addr : Int)) (.int .u8 (r.endp : Int)) (.int .u16 (r.frame : Int)) (.int .u8 (r.hub : Int)) (.int .u8 (r.port : Int)) (.bool r.comp) (.bool r.low) (.int .u8 (r.kind : Int)) (.slice A1 us.length c1) (Below.refl _ w4) hg4.out
          refine hK _ _ bb ?_
          have gg : w4.grownBy ((((((((((w4.setCell ⟨g4, 0, none⟩ (.int .u8 (r.pid : Int))).setCell ⟨g4, 1, none⟩ (.int .u8 (r.addr : Int))).setCell ⟨g4, 2, none⟩ (.int .u8 (r.endp : Int))).setCell ⟨g4, 3, none⟩ (.int .u16 (r.frame : Int))).setCell ⟨g4, 4, none⟩ (.int .u8 (r.hub : Int))).setCell ⟨g4, 5, none⟩ (.int .u8 (r.port : Int))).setCell ⟨g4, 6, none⟩ (.bool r.comp)).setCell ⟨g4, 7, none⟩ (.bool r.low)).setCell ⟨g4, 8, none⟩ (.int .u8 (r.kind : Int))).setCell ⟨g4, 9, none⟩ (.slice A1 us.length c1)) (some g4) := grown10 w4 g4 (.int .u8 (r.pid : Int)) (.int .u8 (r.addr : Int)) (.int .u8 (r.endp : Int)) (.int .u16 (r.frame : Int)) (.int .u8 (r.hub : Int)) (.int .u8 (r.port : Int)) (.bool r.comp) (.bool r.low) (.int .u8 (r.kind : Int)) (.slice A1 us.length c1)
          replace h5 := Lib.hid ((gg.block _ (lt_of_block h5.out) (fun e => by injection e with e; exact m45.out e.symm)).trans h5.out)
          replace h4 : Hid (((((((((((w4.setCell ⟨g4, 0, none⟩ (.int .u8 (r.pid : Int))).setCell ⟨g4, 1, none⟩ (.int .u8 (r.addr : Int))).setCell ⟨g4, 2, none⟩ (.int .u8 (r.endp : Int))).setCell ⟨g4, 3, none⟩ (.int .u16 (r.frame : Int))).setCell ⟨g4, 4, none⟩ (.int .u8 (r.hub : Int))).setCell ⟨g4, 5, none⟩ (.int .u8 (r.port : Int))).setCell ⟨g4, 6, none⟩ (.bool r.comp)).setCell ⟨g4, 7, none⟩ (.bool r.low)).setCell ⟨g4, 8, none⟩ (.int .u8 (r.kind : Int))).setCell ⟨g4, 9, none⟩ (.slice A1 us.length c1)).heap[g4]? = _) := store10 _ _ _ _ _ _ _ _ _ _ (.int .u8 (r.pid : Int)) (.int .u8 (r.addr : Int)) (.int .u8 (r.endp : Int)) (.int .u16 (r.frame : Int)) (.int .u8 (r.hub : Int)) (.int .u8 (r.port : Int)) (.bool r.comp) (.bool r.low) (.int .u8 (r.kind : Int)) (.slice A1 us.length c1) h4.out
          replace o1 := Lib.hid (own_apart o1.out gg m14.out.1)
          replace o3 := Lib.hid (own_apart o3.out gg m34.out.1)
          replace hB := Lib.hid (hB.out.trans bb)
          clear hK K bb gg fR k0 k1 k2 k3 k4 k5 k6 k7 k8 k9
          try simp only [Act.put, List.setIfInBounds_toArray, List.set_cons_zero, List.set_cons_succ]
          generalize ((((((((((w4.setCell ⟨g4, 0, none⟩ (.int .u8 (r.pid : Int))).setCell ⟨g4, 1, none⟩ (.int .u8 (r.addr : Int))).setCell ⟨g4, 2, none⟩ (.int .u8 (r.endp : Int))).setCell ⟨g4, 3, none⟩ (.int .u16 (r.frame : Int))).setCell ⟨g4, 4, none⟩ (.int .u8 (r.hub : Int))).setCell ⟨g4, 5, none⟩ (.int .u8 (r.port : Int))).setCell ⟨g4, 6, none⟩ (.bool r.comp)).setCell ⟨g4, 7, none⟩ (.bool r.low)).setCell ⟨g4, 8, none⟩ (.int .u8 (r.kind : Int))).setCell ⟨g4, 9, none⟩ (.slice A1 us.length c1)) = w20 at h4 h5 o1 o3 hB ⊢
          have k0 := block_at (i := 0) h5.out rfl
          have k1 := block_at (i := 1) h5.out rfl
          have k2 := block_at (i := 2) h5.out rfl
          have k3 := block_at (i := 3) h5.out rfl
          have k4 := block_at (i := 4) h5.out rfl
          have k5 := block_at (i := 5) h5.out rfl
          have k6 := block_at (i := 6) h5.out rfl
          have k7 := block_at (i := 7) h5.out rfl
          have k8 := block_at (i := 8) h5.out rfl
          have k9 := block_at (i := 9) h5.out rfl
          have fR : ∀ i, w20.frozen? ⟨g5, i, none⟩ = false := fun i => by simp [World.frozen?, h5.out]
          refine stepB 7 rfl (by decide +kernel) (by rfl) ?_
          intro K hK
          go_simp
          have bb : Below B0 w20 ((((((((((w20.setCell ⟨g5, 0, none⟩ (.int .u8 (q.pid : Int))).setCell ⟨g5, 1, none⟩ (.int .u8 (q.addr : Int))).setCell ⟨g5, 2, none⟩ (.int .u8 (q.endp : Int))).setCell ⟨g5, 3, none⟩ (.int .u16 (q.frame : Int))).setCell ⟨g5, 4, none⟩ (.int .u8 (q.hub : Int))).setCell ⟨g5, 5, none⟩ (.int .u8 (q.port : Int))).setCell ⟨g5, 6, none⟩ (.bool q.comp)).setCell ⟨g5, 7, none⟩ (.bool q.low)).setCell ⟨g5, 8, none⟩ (.int .u8 (q.kind : Int))).setCell ⟨g5, 9, none⟩ (.slice A3 vs.length c3)) := below10 (.int .u8 (q.pid : Int)) (.int .u8 (q.addr : Int)) (.int .u8 (q.endp : Int)) (.int .u16 (q.frame : Int)) (.int .u8 (q.hub : Int)) (.int .u8 (q.port : Int)) (.bool q.comp) (.bool q.low) (.int .u8 (q.kind : Int)) (.slice A3 vs.length c3) (Below.refl _ w20) hg5.out
          refine hK _ _ bb ?_
          have gg : w20.grownBy ((((((((((w20.setCell ⟨g5, 0, none⟩ (.int .u8 (q.pid : Int))).setCell ⟨g5, 1, none⟩ (.int .u8 (q.addr : Int))).setCell ⟨g5, 2, none⟩ (.int .u8 (q.endp : Int))).setCell ⟨g5, 3, none⟩ (.int .u16 (q.frame : Int))).setCell ⟨g5, 4, none⟩ (.int .u8 (q.hub : Int))).setCell ⟨g5, 5, none⟩ (.int .u8 (q.port : Int))).setCell ⟨g5, 6, none⟩ (.bool q.comp)).setCell ⟨g5, 7, none⟩ (.bool q.low)).setCell ⟨g5, 8, none⟩ (.int .u8 (q.kind : Int))).setCell ⟨g5, 9, none⟩ (.slice A3 vs.length c3)) (some g5) := grown10 w20 g5 (.int .u8 (q.pid : Int)) (.int .u8 (q.addr : Int)) (.int .u8 (q.endp : Int)) (.int .u16 (q.frame : Int)) (.int .u8 (q.hub : Int)) (.int .u8 (q.port : Int)) (.bool q.comp) (.bool q.low) (.int .u8 (q.kind : Int)) (.slice A3 vs.length c3)
          replace h4 := Lib.hid ((gg.block _ (lt_of_block h4.out) (fun e => by injection e with e; exact m45.out e)).trans h4.out)
          replace h5 : Hid (((((((((((w20.setCell ⟨g5, 0, none⟩ (.int .u8 (q.pid : Int))).setCell ⟨g5, 1, none⟩ (.int .u8 (q.addr : Int))).setCell ⟨g5, 2, none⟩ (.int .u8 (q.endp : Int))).setCell ⟨g5, 3, none⟩ (.int .u16 (q.frame : Int))).setCell ⟨g5, 4, none⟩ (.int .u8 (q.hub : Int))).setCell ⟨g5, 5, none⟩ (.int .u8 (q.port : Int))).setCell ⟨g5, 6, none⟩ (.bool q.comp)).setCell ⟨g5, 7, none⟩ (.bool q.low)).setCell ⟨g5, 8, none⟩ (.int .u8 (q.kind : Int))).setCell ⟨g5, 9, none⟩ (.slice A3 vs.length c3)).heap[g5]? = _) := store10 _ _ _ _ _ _ _ _ _ _ (.int .u8 (q.pid : Int)) (.int .u8 (q.addr : Int)) (.int .u8 (q.endp : Int)) (.int .u16 (q.frame : Int)) (.int .u8 (q.hub : Int)) (.int .u8 (q.port : Int)) (.bool q.comp) (.bool q.low) (.int .u8 (q.kind : Int)) (.slice A3 vs.length c3) h5.out
          replace o1 := Lib.hid (own_apart o1.out gg m14.out.2)
          replace o3 := Lib.hid (own_apart o3.out gg m34.out.2)
          replace hB := Lib.hid (hB.out.trans bb)
          clear hK K bb gg fR k0 k1 k2 k3 k4 k5 k6 k7 k8 k9
          try simp only [Act.put, List.setIfInBounds_toArray, List.set_cons_zero, List.set_cons_succ]
          generalize ((((((((((w20.setCell ⟨g5, 0, none⟩ (.int .u8 (q.pid : Int))).setCell ⟨g5, 1, none⟩ (.int .u8 (q.addr : Int))).setCell ⟨g5, 2, none⟩ (.int .u8 (q.endp : Int))).setCell ⟨g5, 3, none⟩ (.int .u16 (q.frame : Int))).setCell ⟨g5, 4, none⟩ (.int .u8 (q.hub : Int))).setCell ⟨g5, 5, none⟩ (.int .u8 (q.port : Int))).setCell ⟨g5, 6, none⟩ (.bool q.comp)).setCell ⟨g5, 7, none⟩ (.bool q.low)).setCell ⟨g5, 8, none⟩ (.int .u8 (q.kind : Int))).setCell ⟨g5, 9, none⟩ (.slice A3 vs.length c3)) = w21 at h4 h5 o1 o3 hB ⊢
          refine doneB (by kernel_rfl) ?_
          exact ⟨r, q, us, vs, A1, A3, c1, c3, g4, g5, pf1.out, pf3.out, rfl, hw0.out.trans (hB.out.mono h0B.out), h4.out, h5.out, Rd.of_own_at o1.out, Rd.of_own_at o3.out⟩
      · clear hi
        refine ⟨_, rfl, by rfl, ?_⟩
        intro K hK
        go_simp
        have bb := (Below.refl w1.heap.size w1).alloc (Nat.le_refl _) (.cells #[.int .u8 0, .int .u8 0, .int .u8 0, .int .u16 0, .int .u8 0, .int .u8 0, .bool false, .bool false, .int .u8 0, .slice none 0 0] 29)
        refine hK _ _ (bb.mono hS.out) ?_
        have h4 := Lib.hid (heap_alloc_new w1 (.cells #[.int .u8 0, .int .u8 0, .int .u8 0, .int .u16 0, .int .u8 0, .int .u8 0, .bool false, .bool false, .int .u8 0, .slice none 0 0] 29))
        have hg4 := Lib.hid hS.out
        have n14 := Lib.hid (own_ne_new o1.out)
        replace o1 := Lib.hid (own_below o1.out bb)
        replace hB := Lib.hid (hB.out.trans (bb.mono hS.out))
        replace hS := Lib.hid (Nat.le_trans hS.out bb.size)
        clear hK K bb
        try simp only [Act.put, List.setIfInBounds_toArray, List.set_cons_zero, List.set_cons_succ]
        generalize w1.alloc (.cells #[.int .u8 0, .int .u8 0, .int .u8 0, .int .u16 0, .int .u8 0, .int .u8 0, .bool false, .bool false, .int .u8 0, .slice none 0 0] 29) = w2 at h4 hB hS o1 ⊢
        generalize w1.heap.size = g4 at h4 hg4 n14 ⊢
        refine stepBA [3, 5] (by decide +kernel) (by decide) ?_
        intro i hi
        rcases (by simpa using hi : i = 3 ∨ i = 5) with rfl | rfl
        · clear hi
          refine ⟨_, rfl, by rfl, ?_⟩
          intro K hK
          go_simp
          obtain ⟨q, vs, ok3, hf3, hl3, KP3⟩ := pkt_any w2 wt' a' b' fr' fl' hw'.out.1 hw'.out.2.1 hw'.out.2.2.1 hw'.out.2.2.2.1 hw'.out.2.2.2.2 A' c' ys ((HY.out.below hB.out).more hS.out) (by have := Hl.out; omega)
          simp only [xcells, ResX, pcells] at KP3
          refine KP3.mono ?_
          rintro e w3 ⟨v, rfl, o, bb⟩
          obtain ⟨A3, c3, rfl, _⟩ := Rd.of_own o
          refine hK _ _ (bb.mono hS.out) ?_
          have n34 := Lib.hid (own_ne_old o (lt_of_block h4.out))
          replace h4 := Lib.hid ((bb.block _ (lt_of_block h4.out)).trans h4.out)
          replace o1 := Lib.hid (own_below o1.out bb)
          have o3 := Lib.hid (own_base o hS.out)
          replace hB := Lib.hid (hB.out.trans (bb.mono hS.out))
          replace hS := Lib.hid (Nat.le_trans hS.out bb.size)
          have pf3 := Lib.hid (And.intro ok3 (And.intro hf3 hl3))
          clear hK K bb o ok3 hf3 hl3 KP3
          try simp only [Act.put, List.setIfInBounds_toArray, List.set_cons_zero, List.set_cons_succ]
          refine stepBA [5] (by decide +kernel) (by decide) ?_
          intro i hi
          obtain rfl : i = 5 := by simpa using hi
          clear hi
          refine ⟨_, rfl, by rfl, ?_⟩
          intro K hK
          go_simp
          have bb := (Below.refl w3.heap.size w3).alloc (Nat.le_refl _) (.cells #[.int .u8 0, .int .u8 0, .int .u8 0, .int .u16 0, .int .u8 0, .int .u8 0, .bool false, .bool false, .int .u8 0, .slice none 0 0] 29)
          refine hK _ _ (bb.mono hS.out) ?_
          have h5 := Lib.hid (heap_alloc_new w3 (.cells #[.int .u8 0, .int .u8 0, .int .u8 0, .int .u16 0, .int .u8 0, .int .u8 0, .bool false, .bool false, .int .u8 0, .slice none 0 0] 29))
          have hg5 := Lib.hid hS.out
          have n15 := Lib.hid (own_ne_new o1.out)
          replace o1 := Lib.hid (own_below o1.out bb)
          have n35 := Lib.hid (own_ne_new o3.out)
          replace o3 := Lib.hid (own_below o3.out bb)
          have ne := Lib.hid (show g4 ≠ w3.heap.size from Nat.ne_of_lt (lt_of_block h4.out))
          replace h4 := Lib.hid ((bb.block _ (lt_of_block h4.out)).trans h4.out)
          replace hB := Lib.hid (hB.out.trans (bb.mono hS.out))
          replace hS := Lib.hid (Nat.le_trans hS.out bb.size)
          clear hK K bb
          try simp only [Act.put, List.setIfInBounds_toArray, List.set_cons_zero, List.set_cons_succ]
          generalize w3.alloc (.cells #[.int .u8 0, .int .u8 0, .int .u8 0, .int .u16 0, .int .u8 0, .int .u8 0, .bool false, .bool false, .int .u8 0, .slice none 0 0] 29) = w4 at h5 hB hS o1 o3 h4 ⊢
          generalize w3.heap.size = g5 at h5 hg5 n15 n35 ne ⊢
          have m14 := Lib.hid (And.intro n14.out n15.out)
          have m34 := Lib.hid (And.intro n34.out n35.out)
          have m45 : Hid (g4 ≠ g5) := ne.out
          clear n14 n15 n34 n35 ne
          have k0 := block_at (i := 0) h4.out rfl
          have k1 := block_at (i := 1) h4.out rfl
          have k2 := block_at (i := 2) h4.out rfl
          have k3 := block_at (i := 3) h4.out rfl
          have k4 := block_at (i := 4) h4.out rfl
          have k5 := block_at (i := 5) h4.out rfl
          have k6 := block_at (i := 6) h4.out rfl
          have k7 := block_at (i := 7) h4.out rfl
          have k8 := block_at (i := 8) h4.out rfl
          have k9 := block_at (i := 9) h4.out rfl
          have fR : ∀ i, w4.frozen? ⟨g4, i, none⟩ = false := fun i => by simp [World.frozen?, h4.out]
          refine stepB 6 rfl (by decide +kernel) (by rfl) ?_
          intro K hK
          go_simp
          have bb : Below B0 w4 ((((((((((w4.setCell ⟨g4, 0, none⟩ (.int .u8 (r.pid : Int))).setCell ⟨g4, 1, none⟩ (.int .u8 (r.addr : Int))).setCell ⟨g4, 2, none⟩ (.int .u8 (r.endp : Int))).setCell ⟨g4, 3, none⟩ (.int .u16 (r.frame : Int))).setCell ⟨g4, 4, none⟩ (.int .u8 (r.hub : Int))).setCell ⟨g4, 5, none⟩ (.int .u8 (r.port : Int))).setCell ⟨g4, 6, none⟩ (.bool r.comp)).setCell ⟨g4, 7, none⟩ (.bool r.low)).setCell ⟨g4, 8, none⟩ (.int .u8 (r.kind : Int))).setCell ⟨g4, 9, none⟩ (.slice A1 us.length c1)) := below10 (.int .u8 (r.pid : Int)) (.int .u8 (r.addr : Int)) (.int .u8 (r.endp : Int)) (.int .u16 (r.frame : Int)) (.int .u8 (r.hub : Int)) (.int .u8 (r.port : Int)) (.bool r.comp) (.bool r.low) (.int .u8 (r.kind : Int)) (.slice A1 us.length c1) (Below.refl _ w4) hg4.out
          refine hK _ _ bb ?_
          have gg : w4.grownBy ((((((((((w4.setCell ⟨g4, 0, none⟩ (.int .u8 (r.pid : Int))).setCell ⟨g4, 1, none⟩ (.int .u8 (r.addr : Int))).setCell ⟨g4, 2, none⟩ (.int .u8 (r.endp : Int))).setCell ⟨g4, 3, none⟩ (.int .u16 (r.frame : Int))).setCell ⟨g4, 4, none⟩ (.int .u8 (r.hub : Int))).setCell ⟨g4, 5, none⟩ (.int .u8 (r.port : Int))).setCell ⟨g4, 6, none⟩ (.bool r.comp)).setCell ⟨g4, 7, none⟩ (.bool r.low)).setCell ⟨g4, 8, none⟩ (.int .u8 (r.kind : Int))).setCell ⟨g4, 9, none⟩ (.slice A1 us.length c1)) (some g4) := grown10 w4 g4 (.int .u8 (r.pid : Int)) (.int .u8 (r.addr : Int)) (.int .u8 (r.endp : Int)) (.int .u16 (r.frame : Int)) (.int .u8 (r.hub : Int)) (.int .u8 (r.port : Int)) (.bool r.comp) (.bool r.low) (.int .u8 (r.kind : Int)) (.slice A1 us.length c1)
          replace h5 := Lib.hid ((gg.block _ (lt_of_block h5.out) (fun e => by injection e with e; exact m45.out e.symm)).trans h5.out)
          replace h4 : Hid (((((((((((w4.setCell ⟨g4, 0, none⟩ (.int .u8 (r.pid : Int))).setCell ⟨g4, 1, none⟩ (.int .u8 (r.addr : Int))).setCell ⟨g4, 2, none⟩ (.int .u8 (r.endp : Int))).setCell ⟨g4, 3, none⟩ (.int .u16 (r.frame : Int))).setCell ⟨g4, 4, none⟩ (.int .u8 (r.hub : Int))).setCell ⟨g4, 5, none⟩ (.int .u8 (r.port : Int))).setCell ⟨g4, 6, none⟩ (.bool r.comp)).setCell ⟨g4, 7, none⟩ (.bool r.low)).setCell ⟨g4, 8, none⟩ (.int .u8 (r.kind : Int))).setCell ⟨g4, 9, none⟩ (.slice A1 us.length c1)).heap[g4]? = _) := store10 _ _ _ _ _ _ _ _ _ _ (.int .u8 (r.pid : Int)) (.int .u8 (r.addr : Int)) (.int .u8 (r.endp : Int)) (.int .u16 (r.frame : Int)) (.int .u8 (r.hub : Int)) (.int .u8 (r.port : Int)) (.bool r.comp) (.bool r.low) (.int .u8 (r.kind : Int)) (.slice A1 us.length c1) h4.out
          replace o1 := Lib.hid (own_apart o1.out gg m14.out.1)
          replace o3 := Lib.hid (own_apart o3.out gg m34.out.1)
          replace hB := Lib.hid (hB.out.trans bb)
          clear hK K bb gg fR k0 k1 k2 k3 k4 k5 k6 k7 k8 k9
          try simp only [Act.put, List.setIfInBounds_toArray, List.set_cons_zero, List.set_cons_succ]
          generalize ((((((((((w4.setCell ⟨g4, 0, none⟩ (.int .u8 (r.pid : Int))).setCell ⟨g4, 1, none⟩ (.int .u8 (r.addr : Int))).setCell ⟨g4, 2, none⟩ (.int .u8 (r.endp : Int))).setCell ⟨g4, 3, none⟩ (.int .u16 (r.frame : Int))).setCell ⟨g4, 4, none⟩ (.int .u8 (r.hub : Int))).setCell ⟨g4, 5, none⟩ (.int .u8 (r.port : Int))).setCell ⟨g4, 6, none⟩ (.bool r.comp)).setCell ⟨g4, 7, none⟩ (.bool r.low)).setCell ⟨g4, 8, none⟩ (.int .u8 (r.kind : Int))).setCell ⟨g4, 9, none⟩ (.slice A1 us.length c1)) = w20 at h4 h5 o1 o3 hB ⊢
          have k0 := block_at (i := 0) h5.out rfl
          have k1 := block_at (i := 1) h5.out rfl
          have k2 := block_at (i := 2) h5.out rfl
          have k3 := block_at (i := 3) h5.out rfl
          have k4 := block_at (i := 4) h5.out rfl
          have k5 := block_at (i := 5) h5.out rfl
          have k6 := block_at (i := 6) h5.out rfl
          have k7 := block_at (i := 7) h5.out rfl
          have k8 := block_at (i := 8) h5.out rfl
          have k9 := block_at (i := 9) h5.out rfl
          have fR : ∀ i, w20.frozen? ⟨g5, i, none⟩ = false := fun i => by simp [World.frozen?, h5.out]
          refine stepB 7 rfl (by decide +kernel) (by rfl) ?_
          intro K hK
          go_simp
          have bb : Below B0 w20 ((((((((((w20.setCell ⟨g5, 0, none⟩ (.int .u8 (q.pid : Int))).setCell ⟨g5, 1, none⟩ (.int .u8 (q.addr : Int))).setCell ⟨g5, 2, none⟩ (.int .u8 (q.endp : Int))).setCell ⟨g5, 3, none⟩ (.int .u16 (q.frame : Int))).setCell ⟨g5, 4, none⟩ (.int .u8 (q.hub : Int))).setCell ⟨g5, 5, none⟩ (.int .u8 (q.port : Int))).setCell ⟨g5, 6, none⟩ (.bool q.comp)).setCell ⟨g5, 7, none⟩ (.bool q.low)).setCell ⟨g5, 8, none⟩ (.int .u8 (q.kind : Int))).setCell ⟨g5, 9, none⟩ (.slice A3 vs.length c3)) := below10 (.int .u8 (q.pid : Int)) (.int .u8 (q.addr : Int)) (.int .u8 (q.endp : Int)) (.int .u16 (q.frame : Int)) (.int .u8 (q.hub : Int)) (.int .u8 (q.port : Int)) (.bool q.comp) (.bool q.low) (.int .u8 (q.kind : Int)) (.slice A3 vs.length c3) (Below.refl _ w20) hg5.out
          refine hK _ _ bb ?_
          have gg : w20.grownBy ((((((((((w20.setCell ⟨g5, 0, none⟩ (.int .u8 (q.pid : Int))).setCell ⟨g5, 1, none⟩ (.int .u8 (q.addr : Int))).setCell ⟨g5, 2, none⟩ (.int .u8 (q.endp : Int))).setCell ⟨g5, 3, none⟩ (.int .u16 (q.frame : Int))).setCell ⟨g5, 4, none⟩ (.int .u8 (q.hub : Int))).setCell ⟨g5, 5, none⟩ (.int .u8 (q.port : Int))).setCell ⟨g5, 6, none⟩ (.bool q.comp)).setCell ⟨g5, 7, none⟩ (.bool q.low)).setCell ⟨g5, 8, none⟩ (.int .u8 (q.kind : Int))).setCell ⟨g5, 9, none⟩ (.slice A3 vs.length c3)) (some g5) := grown10 w20 g5 (.int .u8 (q.pid : Int)) (.int .u8 (q.addr : Int)) (.int .u8 (q.endp : Int)) (.int .u16 (q.frame : Int)) (.int .u8 (q.hub : Int)) (.int .u8 (q.port : Int)) (.bool q.comp) (.bool q.low) (.int .u8 (q.kind : Int)) (.slice A3 vs.length c3)
          replace h4 := Lib.hid ((gg.block _ (lt_of_block h4.out) (fun e => by injection e with e; exact m45.out e)).trans h4.out)
          replace h5 : Hid (((((((((((w20.setCell ⟨g5, 0, none⟩ (.int .u8 (q.pid : Int))).setCell ⟨g5, 1, none⟩ (.int .u8 (q.addr : Int))).setCell ⟨g5, 2, none⟩ (.int .u8 (q.endp : Int))).setCell ⟨g5, 3, none⟩ (.int .u16 (q.frame : Int))).setCell ⟨g5, 4, none⟩ (.int .u8 (q.hub : Int))).setCell ⟨g5, 5, none⟩ (.int .u8 (q.port : Int))).setCell ⟨g5, 6, none⟩ (.bool q.comp)).setCell ⟨g5, 7, none⟩ (.bool q.low)).setCell ⟨g5, 8, none⟩ (.int .u8 (q.kind : Int))).setCell ⟨g5, 9, none⟩ (.slice A3 vs.length c3)).heap[g5]? = _) := store10 _ _ _ _ _ _ _ _ _ _ (.int .u8 (q.pid : Int)) (.int .u8 (q.addr : Int)) (.int .u8 (q.endp : Int)) (.int .u16 (q.frame : Int)) (.int .u8 (q.hub : Int)) (.int .u8 (q.port : Int)) (.bool q.comp) (.bool q.low) (.int .u8 (q.kind : Int)) (.slice A3 vs.length c3) h5.out
          replace o1 := Lib.hid (own_apart o1.out gg m14.out.2)
          replace o3 := Lib.hid (own_apart o3.out gg m34.out.2)
          replace hB := Lib.hid (hB.out.trans bb)
          clear hK K bb gg fR k0 k1 k2 k3 k4 k5 k6 k7 k8 k9
          try simp only [Act.put, List.setIfInBounds_toArray, List.set_cons_zero, List.set_cons_succ]
          generalize ((((((((((w20.setCell ⟨g5, 0, none⟩ (.int .u8 (q.pid : Int))).setCell ⟨g5, 1, none⟩ (.int .u8 (q.addr : Int))).setCell ⟨g5, 2, none⟩ (.int .u8 (q.endp : Int))).setCell ⟨g5, 3, none⟩ (.int .u16 (q.frame : Int))).setCell ⟨g5, 4, none⟩ (.int .u8 (q.hub : Int))).setCell ⟨g5, 5, none⟩ (.int .u8 (q.port : Int))).setCell ⟨g5, 6, none⟩ (.bool q.comp)).setCell ⟨g5, 7, none⟩ (.bool q.low)).setCell ⟨g5, 8, none⟩ (.int .u8 (q.kind : Int))).setCell ⟨g5, 9, none⟩ (.slice A3 vs.length c3)) = w21 at h4 h5 o1 o3 hB ⊢
          refine doneB (by kernel_rfl) ?_
          exact ⟨r, q, us, vs, A1, A3, c1, c3, g4, g5, pf1.out, pf3.out, rfl, hw0.out.trans (hB.out.mono h0B.out), h4.out, h5.out, Rd.of_own_at o1.out, Rd.of_own_at o3.out⟩
        · clear hi
          refine ⟨_, rfl, by rfl, ?_⟩
          intro K hK
          go_simp
          have bb := (Below.refl w2.heap.size w2).alloc (Nat.le_refl _) (.cells #[.int .u8 0, .int .u8 0, .int .u8 0, .int .u16 0, .int .u8 0, .int .u8 0, .bool false, .bool false, .int .u8 0, .slice none 0 0] 29)
          refine hK _ _ (bb.mono hS.out) ?_
          have h5 := Lib.hid (heap_alloc_new w2 (.cells #[.int .u8 0, .int .u8 0, .int .u8 0, .int .u16 0, .int .u8 0, .int .u8 0, .bool false, .bool false, .int .u8 0, .slice none 0 0] 29))
          have hg5 := Lib.hid hS.out
          have n15 := Lib.hid (own_ne_new o1.out)
          replace o1 := Lib.hid (own_below o1.out bb)
          have ne := Lib.hid (show g4 ≠ w2.heap.size from Nat.ne_of_lt (lt_of_block h4.out))
          replace h4 := Lib.hid ((bb.block _ (lt_of_block h4.out)).trans h4.out)
          replace hB := Lib.hid (hB.out.trans (bb.mono hS.out))
          replace hS := Lib.hid (Nat.le_trans hS.out bb.size)
          clear hK K bb
          try simp only [Act.put, List.setIfInBounds_toArray, List.set_cons_zero, List.set_cons_succ]
          generalize w2.alloc (.cells #[.int .u8 0, .int .u8 0, .int .u8 0, .int .u16 0, .int .u8 0, .int .u8 0, .bool false, .bool false, .int .u8 0, .slice none 0 0] 29) = w3 at h5 hB hS o1 h4 ⊢
          generalize w2.heap.size = g5 at h5 hg5 n15 ne ⊢
          refine stepBA [3] (by decide +kernel) (by decide) ?_
          intro i hi
          obtain rfl : i = 3 := by simpa using hi
          clear hi
          refine ⟨_, rfl, by rfl, ?_⟩
          intro K hK
          go_simp
          obtain ⟨q, vs, ok3, hf3, hl3, KP3⟩ := pkt_any w3 wt' a' b' fr' fl' hw'.out.1 hw'.out.2.1 hw'.out.2.2.1 hw'.out.2.2.2.1 hw'.out.2.2.2.2 A' c' ys ((HY.out.below hB.out).more hS.out) (by have := Hl.out; omega)
          simp only [xcells, ResX, pcells] at KP3
          refine KP3.mono ?_
          rintro e w4 ⟨v, rfl, o, bb⟩
          obtain ⟨A3, c3, rfl, _⟩ := Rd.of_own o
          refine hK _ _ (bb.mono hS.out) ?_
          have n34 := Lib.hid (own_ne_old o (lt_of_block h4.out))
          replace h4 := Lib.hid ((bb.block _ (lt_of_block h4.out)).trans h4.out)
          have n35 := Lib.hid (own_ne_old o (lt_of_block h5.out))
          replace h5 := Lib.hid ((bb.block _ (lt_of_block h5.out)).trans h5.out)
          replace o1 := Lib.hid (own_below o1.out bb)
          have o3 := Lib.hid (own_base o hS.out)
          replace hB := Lib.hid (hB.out.trans (bb.mono hS.out))
          replace hS := Lib.hid (Nat.le_trans hS.out bb.size)
          have pf3 := Lib.hid (And.intro ok3 (And.intro hf3 hl3))
          clear hK K bb o ok3 hf3 hl3 KP3
          try simp only [Act.put, List.setIfInBounds_toArray, List.set_cons_zero, List.set_cons_succ]
          have m14 := Lib.hid (And.intro n14.out n15.out)
          have m34 := Lib.hid (And.intro n34.out n35.out)
          have m45 : Hid (g4 ≠ g5) := ne.out
          clear n14 n15 n34 n35 ne
          have k0 := block_at (i := 0) h4.out rfl
          have k1 := block_at (i := 1) h4.out rfl
          have k2 := block_at (i := 2) h4.out rfl
          have k3 := block_at (i := 3) h4.out rfl
          have k4 := block_at (i := 4) h4.out rfl
          have k5 := block_at (i := 5) h4.out rfl
          have k6 := block_at (i := 6) h4.out rfl
          have k7 := block_at (i := 7) h4.out rfl
          have k8 := block_at (i := 8) h4.out rfl
          have k9 := block_at (i := 9) h4.out rfl
          have fR : ∀ i, w4.frozen? ⟨g4, i, none⟩ = false := fun i => by simp [World.frozen?, h4.out]
          refine stepB 6 rfl (by decide +kernel) (by rfl) ?_
          intro K hK
          go_simp
          have bb : Below B0 w4 ((((((((((w4.setCell ⟨g4, 0, none⟩ (.int .u8 (r.pid : Int))).setCell ⟨g4, 1, none⟩ (.int .u8 (r.addr : Int))).setCell ⟨g4, 2, none⟩ (.int .u8 (r.endp : Int))).setCell ⟨g4, 3, none⟩ (.int .u16 (r.frame : Int))).setCell ⟨g4, 4, none⟩ (.int .u8 (r.hub : Int))).setCell ⟨g4, 5, none⟩ (.int .u8 (r.port : Int))).setCell ⟨g4, 6, none⟩ (.bool r.comp)).setCell ⟨g4, 7, none⟩ (.bool r.low)).setCell ⟨g4, 8, none⟩ (.int .u8 (r.kind : Int))).setCell ⟨g4, 9, none⟩ (.slice A1 us.length c1)) := below10 (.int .u8 (r.pid : Int)) (.int .u8 (r.addr : Int)) (.int .u8 (r.endp : Int)) (.int .u16 (r.frame : Int)) (.int .u8 (r.hub : Int)) (.int .u8 (r.port : Int)) (.bool r.comp) (.bool r.low) (.int .u8 (r.kind : Int)) (.slice A1 us.length c1) (Below.refl _ w4) hg4.out
          refine hK _ _ bb ?_
          have gg : w4.grownBy ((((((((((w4.setCell ⟨g4, 0, none⟩ (.int .u8 (r.pid : Int))).setCell ⟨g4, 1, none⟩ (.int .u8 (r.addr : Int))).setCell ⟨g4, 2, none⟩ (.int .u8 (r.endp : Int))).setCell ⟨g4, 3, none⟩ (.int .u16 (r.frame : Int))).setCell ⟨g4, 4, none⟩ (.int .u8 (r.hub : Int))).setCell ⟨g4, 5, none⟩ (.int .u8 (r.port : Int))).setCell ⟨g4, 6, none⟩ (.bool r.comp)).setCell ⟨g4, 7, none⟩ (.bool r.low)).setCell ⟨g4, 8, none⟩ (.int .u8 (r.kind : Int))).setCell ⟨g4, 9, none⟩ (.slice A1 us.length c1)) (some g4) := grown10 w4 g4 (.int .u8 (r.pid : Int)) (.int .u8 (r.addr : Int)) (.int .u8 (r.endp : Int)) (.int .u16 (r.frame : Int)) (.int .u8 (r.hub : Int)) (.int .u8 (r.port : Int)) (.bool r.comp) (.bool r.low) (.int .u8 (r.kind : Int)) (.slice A1 us.length c1)
          replace h5 := Lib.hid ((gg.block _ (lt_of_block h5.out) (fun e => by injection e with e; exact m45.out e.symm)).trans h5.out)
          replace h4 : Hid (((((((((((w4.setCell ⟨g4, 0, none⟩ (.int .u8 (r.pid : Int))).setCell ⟨g4, 1, none⟩ (.int .u8 (r.addr : Int))).setCell ⟨g4, 2, none⟩ (.int .u8 (r.endp : Int))).setCell ⟨g4, 3, none⟩ (.int .u16 (r.frame : Int))).setCell ⟨g4, 4, none⟩ (.int .u8 (r.hub : Int))).setCell ⟨g4, 5, none⟩ (.int .u8 (r.port : Int))).setCell ⟨g4, 6, none⟩ (.bool r.comp)).setCell ⟨g4, 7, none⟩ (.bool r.low)).setCell ⟨g4, 8, none⟩ (.int .u8 (r.kind : Int))).setCell ⟨g4, 9, none⟩ (.slice A1 us.length c1)).heap[g4]? = _) := store10 _ _ _ _ _ _ _ _ _ _ (.int .u8 (r.pid : Int)) (.int .u8 (r.addr : Int)) (.int .u8 (r.endp : Int)) (.int .u16 (r.frame : Int)) (.int .u8 (r.hub : Int)) (.int .u8 (r.port : Int)) (.bool r.comp) (.bool r.low) (.int .u8 (r.kind : Int)) (.slice A1 us.length c1) h4.out
          replace o1 := Lib.hid (own_apart o1.out gg m14.out.1)
          replace o3 := Lib.hid (own_apart o3.out gg m34.out.1)
          replace hB := Lib.hid (hB.out.trans bb)
          clear hK K bb gg fR k0 k1 k2 k3 k4 k5 k6 k7 k8 k9
          try simp only [Act.put, List.setIfInBounds_toArray, List.set_cons_zero, List.set_cons_succ]
          generalize ((((((((((w4.setCell ⟨g4, 0, none⟩ (.int .u8 (r.pid : Int))).setCell ⟨g4, 1, none⟩ (.int .u8 (r.addr : Int))).setCell ⟨g4, 2, none⟩ (.int .u8 (r.endp : Int))).setCell ⟨g4, 3, none⟩ (.int .u16 (r.frame : Int))).setCell ⟨g4, 4, none⟩ (.int .u8 (r.hub : Int))).setCell ⟨g4, 5, none⟩ (.int .u8 (r.port : Int))).setCell ⟨g4, 6, none⟩ (.bool r.comp)).setCell ⟨g4, 7, none⟩ (.bool r.low)).setCell ⟨g4, 8, none⟩ (.int .u8 (r.kind : Int))).setCell ⟨g4, 9, none⟩ (.slice A1 us.length c1)) = w20 at h4 h5 o1 o3 hB ⊢
          have k0 := block_at (i := 0) h5.out rfl
          have k1 := block_at (i := 1) h5.out rfl
          have k2 := block_at (i := 2) h5.out rfl
          have k3 := block_at (i := 3) h5.out rfl
          have k4 := block_at (i := 4) h5.out rfl
          have k5 := block_at (i := 5) h5.out rfl
          have k6 := block_at (i := 6) h5.out rfl
          have k7 := block_at (i := 7) h5.out rfl
          have k8 := block_at (i := 8) h5.out rfl
          have k9 := block_at (i := 9) h5.out rfl
          have fR : ∀ i, w20.frozen? ⟨g5, i, none⟩ = false := fun i => by simp [World.frozen?, h5.out]
          refine stepB 7 rfl (by decide +kernel) (by rfl) ?_
          intro K hK
          go_simp
          have bb : Below B0 w20 ((((((((((w20.setCell ⟨g5, 0, none⟩ (.int .u8 (q.pid : Int))).setCell ⟨g5, 1, none⟩ (.int .u8 (q.addr : Int))).setCell ⟨g5, 2, none⟩ (.int .u8 (q.endp : Int))).setCell ⟨g5, 3, none⟩ (.int .u16 (q.frame : Int))).setCell ⟨g5, 4, none⟩ (.int .u8 (q.hub : Int))).setCell ⟨g5, 5, none⟩ (.int .u8 (q.port : Int))).setCell ⟨g5, 6, none⟩ (.bool q.comp)).setCell ⟨g5, 7, none⟩ (.bool q.low)).setCell ⟨g5, 8, none⟩ (.int .u8 (q.kind : Int))).setCell ⟨g5, 9, none⟩ (.slice A3 vs.length c3)) := below10 (.int .u8 (q.pid : Int)) (.int .u8 (q.addr : Int)) (.int .u8 (q.endp : Int)) (.int .u16 (q.frame : Int)) (.int .u8 (q.hub : Int)) (.int .u8 (q.port : Int)) (.bool q.comp) (.bool q.low) (.int .u8 (q.kind : Int)) (.slice A3 vs.length c3) (Below.refl _ w20) hg5.out
          refine hK _ _ bb ?_
          have gg : w20.grownBy ((((((((((w20.setCell ⟨g5, 0, none⟩ (.int .u8 (q.pid : Int))).setCell ⟨g5, 1, none⟩ (.int .u8 (q.addr : Int))).setCell ⟨g5, 2, none⟩ (.int .u8 (q.endp : Int))).setCell ⟨g5, 3, none⟩ (.int .u16 (q.frame : Int))).setCell ⟨g5, 4, none⟩ (.int .u8 (q.hub : Int))).setCell ⟨g5, 5, none⟩ (.int .u8 (q.port : Int))).setCell ⟨g5, 6, none⟩ (.bool q.comp)).setCell ⟨g5, 7, none⟩ (.bool q.low)).setCell ⟨g5, 8, none⟩ (.int .u8 (q.kind : Int))).setCell ⟨g5, 9, none⟩ (.slice A3 vs.length c3)) (some g5) := grown10 w20 g5 (.int .u8 (q.pid : Int)) (.int .u8 (q.addr : Int)) (.int .u8 (q.endp : Int)) (.int .u16 (q.frame : Int)) (.int .u8 (q.hub : Int)) (.int .u8 (q.port : Int)) (.bool q.comp) (.bool q.low) (.int .u8 (q.kind : Int)) (.slice A3 vs.length c3)
          replace h4 := Lib.hid ((gg.block _ (lt_of_block h4.out) (fun e => by injection e with e; exact m45.out e)).trans h4.out)
          replace h5 : Hid (((((((((((w20.setCell ⟨g5, 0, none⟩ (.int .u8 (q.pid : Int))).setCell ⟨g5, 1, none⟩ (.int .u8 (q.addr : Int))).setCell ⟨g5, 2, none⟩ (.int .u8 (q.endp : Int))).setCell ⟨g5, 3, none⟩ (.int .u16 (q.frame : Int))).setCell ⟨g5, 4, none⟩ (.int .u8 (q.hub : Int))).setCell ⟨g5, 5, none⟩ (.int .u8 (q.port : Int))).setCell ⟨g5, 6, none⟩ (.bool q.comp)).setCell ⟨g5, 7, none⟩ (.bool q.low)).setCell ⟨g5, 8, none⟩ (.int .u8 (q.kind : Int))).setCell ⟨g5, 9, none⟩ (.slice A3 vs.length c3)).heap[g5]? = _) := store10 _ _ _ _ _ _ _ _ _ _ (.int .u8 (q.pid : Int)) (.int .u8 (q.addr : Int)) (.int .u8 (q.endp : Int)) (.int .u16 (q.frame : Int)) (.int .u8 (q.hub : Int)) (.int .u8 (q.port : Int)) (.bool q.comp) (.bool q.low) (.int .u8 (q.kind : Int)) (.slice A3 vs.length c3) h5.out
          replace o1 := Lib.hid (own_apart o1.out gg m14.out.2)
          replace o3 := Lib.hid (own_apart o3.out gg m34.out.2)
          replace hB := Lib.hid (hB.out.trans bb)
          clear hK K bb gg fR k0 k1 k2 k3 k4 k5 k6 k7 k8 k9
          try simp only [Act.put, List.setIfInBounds_toArray, List.set_cons_zero, List.set_cons_succ]
          generalize ((((((((((w20.setCell ⟨g5, 0, none⟩ (.int .u8 (q.pid : Int))).setCell ⟨g5, 1, none⟩ (.int .u8 (q.addr : Int))).setCell ⟨g5, 2, none⟩ (.int .u8 (q.endp : Int))).setCell ⟨g5, 3, none⟩ (.int .u16 (q.frame : Int))).setCell ⟨g5, 4, none⟩ (.int .u8 (q.hub : Int))).setCell ⟨g5, 5, none⟩ (.int .u8 (q.port : Int))).setCell ⟨g5, 6, none⟩ (.bool q.comp)).setCell ⟨g5, 7, none⟩ (.bool q.low)).setCell ⟨g5, 8, none⟩ (.int .u8 (q.kind : Int))).setCell ⟨g5, 9, none⟩ (.slice A3 vs.length c3)) = w21 at h4 h5 o1 o3 hB ⊢
          refine doneB (by kernel_rfl) ?_
          exact ⟨r, q, us, vs, A1, A3, c1, c3, g4, g5, pf1.out, pf3.out, rfl, hw0.out.trans (hB.out.mono h0B.out), h4.out, h5.out, Rd.of_own_at o1.out, Rd.of_own_at o3.out⟩
      · clear hi
        refine ⟨_, rfl, by rfl, ?_⟩
        intro K hK
        go_simp
        have bb := (Below.refl w1.heap.size w1).alloc (Nat.le_refl _) (.cells #[.int .u8 0, .int .u8 0, .int .u8 0, .int .u16 0, .int .u8 0, .int .u8 0, .bool false, .bool false, .int .u8 0, .slice none 0 0] 29)
        refine hK _ _ (bb.mono hS.out) ?_
        have h5 := Lib.hid (heap_alloc_new w1 (.cells #[.int .u8 0, .int .u8 0, .int .u8 0, .int .u16 0, .int .u8 0, .int .u8 0, .bool false, .bool false, .int .u8 0, .slice none 0 0] 29))
        have hg5 := Lib.hid hS.out
        have n15 := Lib.hid (own_ne_new o1.out)
        replace o1 := Lib.hid (own_below o1.out bb)
        replace hB := Lib.hid (hB.out.trans (bb.mono hS.out))
        replace hS := Lib.hid (Nat.le_trans hS.out bb.size)
        clear hK K bb
        try simp only [Act.put, List.setIfInBounds_toArray, List.set_cons_zero, List.set_cons_succ]
        generalize w1.alloc (.cells #[.int .u8 0, .int .u8 0, .int .u8 0, .int .u16 0, .int .u8 0, .int .u8 0, .bool false, .bool false, .int .u8 0, .slice none 0 0] 29) = w2 at h5 hB hS o1 ⊢
        generalize w1.heap.size = g5 at h5 hg5 n15 ⊢
        refine stepBA [3, 4] (by decide +kernel) (by decide) ?_
        intro i hi
        rcases (by simpa using hi : i = 3 ∨ i = 4) with rfl | rfl
        · clear hi
          refine ⟨_, rfl, by rfl, ?_⟩
          intro K hK
          go_simp
          obtain ⟨q, vs, ok3, hf3, hl3, KP3⟩ := pkt_any w2 wt' a' b' fr' fl' hw'.out.1 hw'.out.2.1 hw'.out.2.2.1 hw'.out.2.2.2.1 hw'.out.2.2.2.2 A' c' ys ((HY.out.below hB.out).more hS.out) (by have := Hl.out; omega)
          simp only [xcells, ResX, pcells] at KP3
          refine KP3.mono ?_
          rintro e w3 ⟨v, rfl, o, bb⟩
          obtain ⟨A3, c3, rfl, _⟩ := Rd.of_own o
          refine hK _ _ (bb.mono hS.out) ?_
          have n35 := Lib.hid (own_ne_old o (lt_of_block h5.out))
          replace h5 := Lib.hid ((bb.block _ (lt_of_block h5.out)).trans h5.out)
          replace o1 := Lib.hid (own_below o1.out bb)
          have o3 := Lib.hid (own_base o hS.out)
          replace hB := Lib.hid (hB.out.trans (bb.mono hS.out))
          replace hS := Lib.hid (Nat.le_trans hS.out bb.size)
          have pf3 := Lib.hid (And.intro ok3 (And.intro hf3 hl3))
          clear hK K bb o ok3 hf3 hl3 KP3
          try simp only [Act.put, List.setIfInBounds_toArray, List.set_cons_zero, List.set_cons_succ]
          refine stepBA [4] (by decide +kernel) (by decide) ?_
          intro i hi
          obtain rfl : i = 4 := by simpa using hi
          clear hi
          refine ⟨_, rfl, by rfl, ?_⟩
          intro K hK
          go_simp
          have bb := (Below.refl w3.heap.size w3).alloc (Nat.le_refl _) (.cells #[.int .u8 0, .int .u8 0, .int .u8 0, .int .u16 0, .int .u8 0, .int .u8 0, .bool false, .bool false, .int .u8 0, .slice none 0 0] 29)
          refine hK _ _ (bb.mono hS.out) ?_
          have h4 := Lib.hid (heap_alloc_new w3 (.cells #[.int .u8 0, .int .u8 0, .int .u8 0, .int .u16 0, .int .u8 0, .int .u8 0, .bool false, .bool false, .int .u8 0, .slice none 0 0] 29))
          have hg4 := Lib.hid hS.out
          have n14 := Lib.hid (own_ne_new o1.out)
          replace o1 := Lib.hid (own_below o1.out bb)
          have n34 := Lib.hid (own_ne_new o3.out)
          replace o3 := Lib.hid (own_below o3.out bb)
          have ne := Lib.hid (show g5 ≠ w3.heap.size from Nat.ne_of_lt (lt_of_block h5.out))
          replace h5 := Lib.hid ((bb.block _ (lt_of_block h5.out)).trans h5.out)
          replace hB := Lib.hid (hB.out.trans (bb.mono hS.out))
          replace hS := Lib.hid (Nat.le_trans hS.out bb.size)
          clear hK K bb
          try simp only [Act.put, List.setIfInBounds_toArray, List.set_cons_zero, List.set_cons_succ]
          generalize w3.alloc (.cells #[.int .u8 0, .int .u8 0, .int .u8 0, .int .u16 0, .int .u8 0, .int .u8 0, .bool false, .bool false, .int .u8 0, .slice none 0 0] 29) = w4 at h4 hB hS o1 o3 h5 ⊢
          generalize w3.heap.size = g4 at h4 hg4 n14 n34 ne ⊢
          have m14 := Lib.hid (And.intro n14.out n15.out)
          have m34 := Lib.hid (And.intro n34.out n35.out)
          have m45 : Hid (g4 ≠ g5) := ne.out.symm
          clear n14 n15 n34 n35 ne
          have k0 := block_at (i := 0) h4.out rfl
          have k1 := block_at (i := 1) h4.out rfl
          have k2 := block_at (i := 2) h4.out rfl
          have k3 := block_at (i := 3) h4.out rfl
          have k4 := block_at (i := 4) h4.out rfl
          have k5 := block_at (i := 5) h4.out rfl
          have k6 := block_at (i := 6) h4.out rfl
          have k7 := block_at (i := 7) h4.out rfl
          have k8 := block_at (i := 8) h4.out rfl
          have k9 := block_at (i := 9) h4.out rfl
          have fR : ∀ i, w4.frozen? ⟨g4, i, none⟩ = false := fun i => by simp [World.frozen?, h4.out]
          refine stepB 6 rfl (by decide +kernel) (by rfl) ?_
          intro K hK
          go_simp
          have bb : Below B0 w4 ((((((((((w4.setCell ⟨g4, 0, none⟩ (.int .u8 (r.pid : Int))).setCell ⟨g4, 1, none⟩ (.int .u8 (r.addr : Int))).setCell ⟨g4, 2, none⟩ (.int .u8 (r.endp : Int))).setCell ⟨g4, 3, none⟩ (.int .u16 (r.frame : Int))).setCell ⟨g4, 4, none⟩ (.int .u8 (r.hub : Int))).setCell ⟨g4, 5, none⟩ (.int .u8 (r.port : Int))).setCell ⟨g4, 6, none⟩ (.bool r.comp)).setCell ⟨g4, 7, none⟩ (.bool r.low)).setCell ⟨g4, 8, none⟩ (.int .u8 (r.kind : Int))).setCell ⟨g4, 9, none⟩ (.slice A1 us.length c1)) := below10 (.int .u8 (r.pid : Int)) (.int .u8 (r.addr : Int)) (.int .u8 (r.endp : Int)) (.int .u16 (r.frame : Int)) (.int .u8 (r.hub : Int)) (.int .u8 (r.port : Int)) (.bool r.comp) (.bool r.low) (.int .u8 (r.kind : Int)) (.slice A1 us.length c1) (Below.refl _ w4) hg4.out
          refine hK _ _ bb ?_
          have gg : w4.grownBy ((((((((((w4.setCell ⟨g4, 0, none⟩ (.int .u8 (r.pid : Int))).setCell ⟨g4, 1, none⟩ (.int .u8 (r.addr : Int))).setCell ⟨g4, 2, none⟩ (.int .u8 (r.endp : Int))).setCell ⟨g4, 3, none⟩ (.int .u16 (r.frame : Int))).setCell ⟨g4, 4, none⟩ (.int .u8 (r.hub : Int))).setCell ⟨g4, 5, none⟩ (.int .u8 (r.port : Int))).setCell ⟨g4, 6, none⟩ (.bool r.comp)).setCell ⟨g4, 7, none⟩ (.bool r.low)).setCell ⟨g4, 8, none⟩ (.int .u8 (r.kind : Int))).setCell ⟨g4, 9, none⟩ (.slice A1 us.length c1)) (some g4) := grown10 w4 g4 (.int .u8 (r.pid : Int)) (.int .u8 (r.addr : Int)) (.int .u8 (r.endp : Int)) (.int .u16 (r.frame : Int)) (.int .u8 (r.hub : Int)) (.int .u8 (r.port : Int)) (.bool r.comp) (.bool r.low) (.int .u8 (r.kind : Int)) (.slice A1 us.length c1)
          replace h5 := Lib.hid ((gg.block _ (lt_of_block h5.out) (fun e => by injection e with e; exact m45.out e.symm)).trans h5.out)
          replace h4 : Hid (((((((((((w4.setCell ⟨g4, 0, none⟩ (.int .u8 (r.pid : Int))).setCell ⟨g4, 1, none⟩ (.int .u8 (r.addr : Int))).setCell ⟨g4, 2, none⟩ (.int .u8 (r.endp : Int))).setCell ⟨g4, 3, none⟩ (.int .u16 (r.frame : Int))).setCell ⟨g4, 4, none⟩ (.int .u8 (r.hub : Int))).setCell ⟨g4, 5, none⟩ (.int .u8 (r.port : Int))).setCell ⟨g4, 6, none⟩ (.bool r.comp)).setCell ⟨g4, 7, none⟩ (.bool r.low)).setCell ⟨g4, 8, none⟩ (.int .u8 (r.kind : Int))).setCell ⟨g4, 9, none⟩ (.slice A1 us.length c1)).heap[g4]? = _) := store10 _ _ _ _ _ _ _ _ _ _ (.int .u8 (r.pid : Int)) (.int .u8 (r.addr : Int)) (.int .u8 (r.endp : Int)) (.int .u16 (r.frame : Int)) (.int .u8 (r.hub : Int)) (.int .u8 (r.port : Int)) (.bool r.comp) (.bool r.low) (.int .u8 (r.kind : Int)) (.slice A1 us.length c1) h4.out
          replace o1 := Lib.hid (own_apart o1.out gg m14.out.1)
          replace o3 := Lib.hid (own_apart o3.out gg m34.out.1)
          replace hB := Lib.hid (hB.out.trans bb)
          clear hK K bb gg fR k0 k1 k2 k3 k4 k5 k6 k7 k8 k9
          try simp only [Act.put, List.setIfInBounds_toArray, List.set_cons_zero, List.set_cons_succ]
          generalize ((((((((((w4.setCell ⟨g4, 0, none⟩ (.int .u8 (r.pid : Int))).setCell ⟨g4, 1, none⟩ (.int .u8 (r.addr : Int))).setCell ⟨g4, 2, none⟩ (.int .u8 (r.endp : Int))).setCell ⟨g4, 3, none⟩ (.int .u16 (r.frame : Int))).setCell ⟨g4, 4, none⟩ (.int .u8 (r.hub : Int))).setCell ⟨g4, 5, none⟩ (.int .u8 (r.port : Int))).setCell ⟨g4, 6, none⟩ (.bool r.comp)).setCell ⟨g4, 7, none⟩ (.bool r.low)).setCell ⟨g4, 8, none⟩ (.int .u8 (r.kind : Int))).setCell ⟨g4, 9, none⟩ (.slice A1 us.length c1)) = w20 at h4 h5 o1 o3 hB ⊢
          have k0 := block_at (i := 0) h5.out rfl
          have k1 := block_at (i := 1) h5.out rfl
          have k2 := block_at (i := 2) h5.out rfl
          have k3 := block_at (i := 3) h5.out rfl
          have k4 := block_at (i := 4) h5.out rfl
          have k5 := block_at (i := 5) h5.out rfl
          have k6 := block_at (i := 6) h5.out rfl
          have k7 := block_at (i := 7) h5.out rfl
          have k8 := block_at (i := 8) h5.out rfl
          have k9 := block_at (i := 9) h5.out rfl
          have fR : ∀ i, w20.frozen? ⟨g5, i, none⟩ = false := fun i => by simp [World.frozen?, h5.out]
          refine stepB 7 rfl (by decide +kernel) (by rfl) ?_
          intro K hK
          go_simp
          have bb : Below B0 w20 ((((((((((w20.setCell ⟨g5, 0, none⟩ (.int .u8 (q.pid : Int))).setCell ⟨g5, 1, none⟩ (.int .u8 (q.addr : Int))).setCell ⟨g5, 2, none⟩ (.int .u8 (q.endp : Int))).setCell ⟨g5, 3, none⟩ (.int .u16 (q.frame : Int))).setCell ⟨g5, 4, none⟩ (.int .u8 (q.hub : Int))).setCell ⟨g5, 5, none⟩ (.int .u8 (q.port : Int))).setCell ⟨g5, 6, none⟩ (.bool q.comp)).setCell ⟨g5, 7, none⟩ (.bool q.low)).setCell ⟨g5, 8, none⟩ (.int .u8 (q.kind : Int))).setCell ⟨g5, 9, none⟩ (.slice A3 vs.length c3)) := below10 (.int .u8 (q.pid : Int)) (.int .u8 (q.addr : Int)) (.int .u8 (q.endp : Int)) (.int .u16 (q.frame : Int)) (.int .u8 (q.hub : Int)) (.int .u8 (q.port : Int)) (.bool q.comp) (.bool q.low) (.int .u8 (q.kind : Int)) (.slice A3 vs.length c3) (Below.refl _ w20) hg5.out
          refine hK _ _ bb ?_
          have gg : w20.grownBy ((((((((((w20.setCell ⟨g5, 0, none⟩ (.int .u8 (q.pid : Int))).setCell ⟨g5, 1, none⟩ (.int .u8 (q.addr : Int))).setCell ⟨g5, 2, none⟩ (.int .u8 (q.endp : Int))).setCell ⟨g5, 3, none⟩ (.int .u16 (q.frame : Int))).setCell ⟨g5, 4, none⟩ (.int .u8 (q.hub : Int))).setCell ⟨g5, 5, none⟩ (.int .u8 (q.port : Int))).setCell ⟨g5, 6, none⟩ (.bool q.comp)).setCell ⟨g5, 7, none⟩ (.bool q.low)).setCell ⟨g5, 8, none⟩ (.int .u8 (q.kind : Int))).setCell ⟨g5, 9, none⟩ (.slice A3 vs.length c3)) (some g5) := grown10 w20 g5 (.int .u8 (q.pid : Int)) (.int .u8 (q.addr : Int)) (.int .u8 (q.endp : Int)) (.int .u16 (q.frame : Int)) (.int .u8 (q.hub : Int)) (.int .u8 (q.port : Int)) (.bool q.comp) (.bool q.low) (.int .u8 (q.kind : Int)) (.slice A3 vs.length c3)
          replace h4 := Lib.hid ((gg.block _ (lt_of_block h4.out) (fun e => by injection e with e; exact m45.out e)).trans h4.out)
          replace h5 : Hid (((((((((((w20.setCell ⟨g5, 0, none⟩ (.int .u8 (q.pid : Int))).setCell ⟨g5, 1, none⟩ (.int .u8 (q.addr : Int))).setCell ⟨g5, 2, none⟩ (.int .u8 (q.endp : Int))).setCell ⟨g5, 3, none⟩ (.int .u16 (q.frame : Int))).setCell ⟨g5, 4, none⟩ (.int .u8 (q.hub : Int))).setCell ⟨g5, 5, none⟩ (.int .u8 (q.port : Int))).setCell ⟨g5, 6, none⟩ (.bool q.comp)).setCell ⟨g5, 7, none⟩ (.bool q.low)).setCell ⟨g5, 8, none⟩ (.int .u8 (q.kind : Int))).setCell ⟨g5, 9, none⟩ (.slice A3 vs.length c3)).heap[g5]? = _) := store10 _ _ _ _ _ _ _ _ _ _ (.int .u8 (q.pid : Int)) (.int .u8 (q.addr : Int)) (.int .u8 (q.endp : Int)) (.int .u16 (q.frame : Int)) (.int .u8 (q.hub : Int)) (.int .u8 (q.port : Int)) (.bool q.comp) (.bool q.low) (.int .u8 (q.kind : Int)) (.slice A3 vs.length c3) h5.out
          replace o1 := Lib.hid (own_apart o1.out gg m14.out.2)
          replace o3 := Lib.hid (own_apart o3.out gg m34.out.2)
          replace hB := Lib.hid (hB.out.trans bb)
          clear hK K bb gg fR k0 k1 k2 k3 k4 k5 k6 k7 k8 k9
          try simp only [Act.put, List.setIfInBounds_toArray, List.set_cons_zero, List.set_cons_succ]
          generalize ((((((((((w20.setCell ⟨g5, 0, none⟩ (.int .u8 (q.pid : Int))).setCell ⟨g5, 1, none⟩ (.int .u8 (q.addr : Int))).setCell ⟨g5, 2, none⟩ (.int .u8 (q.endp : Int))).setCell ⟨g5, 3, none⟩ (.int .u16 (q.frame : Int))).setCell ⟨g5, 4, none⟩ (.int .u8 (q.hub : Int))).setCell ⟨g5, 5, none⟩ (.int .u8 (q.port : Int))).setCell ⟨g5, 6, none⟩ (.bool q.comp)).setCell ⟨g5, 7, none⟩ (.bool q.low)).setCell ⟨g5, 8, none⟩ (.int .u8 (q.kind : Int))).setCell ⟨g5, 9, none⟩ (.slice A3 vs.length c3)) = w21 at h4 h5 o1 o3 hB ⊢
          refine doneB (by kernel_rfl) ?_
          exact ⟨r, q, us, vs, A1, A3, c1, c3, g4, g5, pf1.out, pf3.out, rfl, hw0.out.trans (hB.out.mono h0B.out), h4.out, h5.out, Rd.of_own_at o1.out, Rd.of_own_at o3.out⟩
        · clear hi
          refine ⟨_, rfl, by rfl, ?_⟩
          intro K hK
          go_simp
          have bb := (Below.refl w2.heap.size w2).alloc (Nat.le_refl _) (.cells #[.int .u8 0, .int .u8 0, .int .u8 0, .int .u16 0, .int .u8 0, .int .u8 0, .bool false, .bool false, .int .u8 0, .slice none 0 0] 29)
          refine hK _ _ (bb.mono hS.out) ?_
          have h4 := Lib.hid (heap_alloc_new w2 (.cells #[.int .u8 0, .int .u8 0, .int .u8 0, .int .u16 0, .int .u8 0, .int .u8 0, .bool false, .bool false, .int .u8 0, .slice none 0 0] 29))
          have hg4 := Lib.hid hS.out
          have n14 := Lib.hid (own_ne_new o1.out)
          replace o1 := Lib.hid (own_below o1.out bb)
          have ne := Lib.hid (show g5 ≠ w2.heap.size from Nat.ne_of_lt (lt_of_block h5.out))
          replace h5 := Lib.hid ((bb.block _ (lt_of_block h5.out)).trans h5.out)
          replace hB := Lib.hid (hB.out.trans (bb.mono hS.out))
          replace hS := Lib.hid (Nat.le_trans hS.out bb.size)
          clear hK K bb
          try simp only [Act.put, List.setIfInBounds_toArray, List.set_cons_zero, List.set_cons_succ]
          generalize w2.alloc (.cells #[.int .u8 0, .int .u8 0, .int .u8 0, .int .u16 0, .int .u8 0, .int .u8 0, .bool false, .bool false, .int .u8 0, .slice none 0 0] 29) = w3 at h4 hB hS o1 h5 ⊢
          generalize w2.heap.size = g4 at h4 hg4 n14 ne ⊢
          refine stepBA [3] (by decide +kernel) (by decide) ?_
          intro i hi
          obtain rfl : i = 3 := by simpa using hi
          clear hi
          refine ⟨_, rfl, by rfl, ?_⟩
          intro K hK
          go_simp
          obtain ⟨q, vs, ok3, hf3, hl3, KP3⟩ := pkt_any w3 wt' a' b' fr' fl' hw'.out.1 hw'.out.2.1 hw'.out.2.2.1 hw'.out.2.2.2.1 hw'.out.2.2.2.2 A' c' ys ((HY.out.below hB.out).more hS.out) (by have := Hl.out; omega)
          simp only [xcells, ResX, pcells] at KP3
          refine KP3.mono ?_
          rintro e w4 ⟨v, rfl, o, bb⟩
          obtain ⟨A3, c3, rfl, _⟩ := Rd.of_own o
          refine hK _ _ (bb.mono hS.out) ?_
          have n34 := Lib.hid (own_ne_old o (lt_of_block h4.out))
          replace h4 := Lib.hid ((bb.block _ (lt_of_block h4.out)).trans h4.out)
          have n35 := Lib.hid (own_ne_old o (lt_of_block h5.out))
          replace h5 := Lib.hid ((bb.block _ (lt_of_block h5.out)).trans h5.out)
          replace o1 := Lib.hid (own_below o1.out bb)
          have o3 := Lib.hid (own_base o hS.out)
          replace hB := Lib.hid (hB.out.trans (bb.mono hS.out))
          replace hS := Lib.hid (Nat.le_trans hS.out bb.size)
          have pf3 := Lib.hid (And.intro ok3 (And.intro hf3 hl3))
          clear hK K bb o ok3 hf3 hl3 KP3
          try simp only [Act.put, List.setIfInBounds_toArray, List.set_cons_zero, List.set_cons_succ]
          have m14 := Lib.hid (And.intro n14.out n15.out)
          have m34 := Lib.hid (And.intro n34.out n35.out)
          have m45 : Hid (g4 ≠ g5) := ne.out.symm
          clear n14 n15 n34 n35 ne
          have k0 := block_at (i := 0) h4.out rfl
          have k1 := block_at (i := 1) h4.out rfl
          have k2 := block_at (i := 2) h4.out rfl
          have k3 := block_at (i := 3) h4.out rfl
          have k4 := block_at (i := 4) h4.out rfl
          have k5 := block_at (i := 5) h4.out rfl
          have k6 := block_at (i := 6) h4.out rfl
          have k7 := block_at (i := 7) h4.out rfl
          have k8 := block_at (i := 8) h4.out rfl
          have k9 := block_at (i := 9) h4.out rfl
          have fR : ∀ i, w4.frozen? ⟨g4, i, none⟩ = false := fun i => by simp [World.frozen?, h4.out]
          refine stepB 6 rfl (by decide +kernel) (by rfl) ?_
          intro K hK
          go_simp
          have bb : Below B0 w4 ((((((((((w4.setCell ⟨g4, 0, none⟩ (.int .u8 (r.pid : Int))).setCell ⟨g4, 1, none⟩ (.int .u8 (r.addr : Int))).setCell ⟨g4, 2, none⟩ (.int .u8 (r.endp : Int))).setCell ⟨g4, 3, none⟩ (.int .u16 (r.frame : Int))).setCell ⟨g4, 4, none⟩ (.int .u8 (r.hub : Int))).setCell ⟨g4, 5, none⟩ (.int .u8 (r.port : Int))).setCell ⟨g4, 6, none⟩ (.bool r.comp)).setCell ⟨g4, 7, none⟩ (.bool r.low)).setCell ⟨g4, 8, none⟩ (.int .u8 (r.kind : Int))).setCell ⟨g4, 9, none⟩ (.slice A1 us.length c1)) := below10 (.int .u8 (r.pid : Int)) (.int .u8 (r.addr : Int)) (.int .u8 (r.endp : Int)) (.int .u16 (r.frame : Int)) (.int .u8 (r.hub : Int)) (.int .u8 (r.port : Int)) (.bool r.comp) (.bool r.low) (.int .u8 (r.kind : Int)) (.slice A1 us.length c1) (Below.refl _ w4) hg4.out
          refine hK _ _ bb ?_
          have gg : w4.grownBy ((((((((((w4.setCell ⟨g4, 0, none⟩ (.int .u8 (r.pid : Int))).setCell ⟨g4, 1, none⟩ (.int .u8 (r.addr : Int))).setCell ⟨g4, 2, none⟩ (.int .u8 (r.endp : Int))).setCell ⟨g4, 3, none⟩ (.int .u16 (r.frame : Int))).setCell ⟨g4, 4, none⟩ (.int .u8 (r.hub : Int))).setCell ⟨g4, 5, none⟩ (.int .u8 (r.port : Int))).setCell ⟨g4, 6, none⟩ (.bool r.comp)).setCell ⟨g4, 7, none⟩ (.bool r.low)).setCell ⟨g4, 8, none⟩ (.int .u8 (r.kind : Int))).setCell ⟨g4, 9, none⟩ (.slice A1 us.length c1)) (some g4) := grown10 w4 g4 (.int .u8 (r.pid : Int)) (.int .u8 (r.addr : Int)) (.int .u8 (r.endp : Int)) (.int .u16 (r.frame : Int)) (.int .u8 (r.hub : Int)) (.int .u8 (r.port : Int)) (.bool r.comp) (.bool r.low) (.int .u8 (r.kind : Int)) (.slice A1 us.length c1)
          replace h5 := Lib.hid ((gg.block _ (lt_of_block h5.out) (fun e => by injection e with e; exact m45.out e.symm)).trans h5.out)
          replace h4 : Hid (((((((((((w4.setCell ⟨g4, 0, none⟩ (.int .u8 (r.pid : Int))).setCell ⟨g4, 1, none⟩ (.int .u8 (r.addr : Int))).setCell ⟨g4, 2, none⟩ (.int .u8 (r.endp : Int))).setCell ⟨g4, 3, none⟩ (.int .u16 (r.frame : Int))).setCell ⟨g4, 4, none⟩ (.int .u8 (r.hub : Int))).setCell ⟨g4, 5, none⟩ (.int .u8 (r.port : Int))).setCell ⟨g4, 6, none⟩ (.bool r.comp)).setCell ⟨g4, 7, none⟩ (.bool r.low)).setCell ⟨g4, 8, none⟩ (.int .u8 (r.kind : Int))).setCell ⟨g4, 9, none⟩ (.slice A1 us.length c1)).heap[g4]? = _) := store10 _ _ _ _ _ _ _ _ _ _ (.int .u8 (r.pid : Int)) (.int .u8 (r.addr : Int)) (.int .u8 (r.endp : Int)) (.int .u16 (r.frame : Int)) (.int .u8 (r.hub : Int)) (.int .u8 (r.port : Int)) (.bool r.comp) (.bool r.low) (.int .u8 (r.kind : Int)) (.slice A1 us.length c1) h4.out
          replace o1 := Lib.hid (own_apart o1.out gg m14.out.1)
          replace o3 := Lib.hid (own_apart o3.out gg m34.out.1)
          replace hB := Lib.hid (hB.out.trans bb)
          clear hK K bb gg fR k0 k1 k2 k3 k4 k5 k6 k7 k8 k9
          try simp only [Act.put, List.setIfInBounds_toArray, List.set_cons_zero, List.set_cons_succ]
          generalize ((((((((((w4.setCell ⟨g4, 0, none⟩ (.int .u8 (r.pid : Int))).setCell ⟨g4, 1, none⟩ (.int .u8 (r.addr : Int))).setCell ⟨g4, 2, none⟩ (.int .u8 (r.endp : Int))).setCell ⟨g4, 3, none⟩ (.int .u16 (r.frame : Int))).setCell ⟨g4, 4, none⟩ (.int .u8 (r.hub : Int))).setCell ⟨g4, 5, none⟩ (.int .u8 (r.port : Int))).setCell ⟨g4, 6, none⟩ (.bool r.comp)).setCell ⟨g4, 7, none⟩ (.bool r.low)).setCell ⟨g4, 8, none⟩ (.int .u8 (r.kind : Int))).setCell ⟨g4, 9, none⟩ (.slice A1 us.length c1)) = w20 at h4 h5 o1 o3 hB ⊢
          have k0 := block_at (i := 0) h5.out rfl
          have k1 := block_at (i := 1) h5.out rfl
          have k2 := block_at (i := 2) h5.out rfl
          have k3 := block_at (i := 3) h5.out rfl
          have k4 := block_at (i := 4) h5.out rfl
          have k5 := block_at (i := 5) h5.out rfl
          have k6 := block_at (i := 6) h5.out rfl
          have k7 := block_at (i := 7) h5.out rfl
          have k8 := block_at (i := 8) h5.out rfl
          have k9 := block_at (i := 9) h5.out rfl
          have fR : ∀ i, w20.frozen? ⟨g5, i, none⟩ = false := fun i => by simp [World.frozen?, h5.out]
          refine stepB 7 rfl (by decide +kernel) (by rfl) ?_
          intro K hK
          go_simp
          have bb : Below B0 w20 ((((((((((w20.setCell ⟨g5, 0, none⟩ (.int .u8 (q.pid : Int))).setCell ⟨g5, 1, none⟩ (.int .u8 (q.addr : Int))).setCell ⟨g5, 2, none⟩ (.int .u8 (q.endp : Int))).setCell ⟨g5, 3, none⟩ (.int .u16 (q.frame : Int))).setCell ⟨g5, 4, none⟩ (.int .u8 (q.hub : Int))).setCell ⟨g5, 5, none⟩ (.int .u8 (q.port : Int))).setCell ⟨g5, 6, none⟩ (.bool q.comp)).setCell ⟨g5, 7, none⟩ (.bool q.low)).setCell ⟨g5, 8, none⟩ (.int .u8 (q.kind : Int))).setCell ⟨g5, 9, none⟩ (.slice A3 vs.length c3)) := below10 (.int .u8 (q.pid : Int)) (.int .u8 (q.addr : Int)) (.int .u8 (q.endp : Int)) (.int .u16 (q.frame : Int)) (.int .u8 (q.hub : Int)) (.int .u8 (q.port : Int)) (.bool q.comp) (.bool q.low) (.int .u8 (q.kind : Int)) (.slice A3 vs.length c3) (Below.refl _ w20) hg5.out
          refine hK _ _ bb ?_
          have gg : w20.grownBy ((((((((((w20.setCell ⟨g5, 0, none⟩ (.int .u8 (q.pid : Int))).setCell ⟨g5, 1, none⟩ (.int .u8 (q.addr : Int))).setCell ⟨g5, 2, none⟩ (.int .u8 (q.endp : Int))).setCell ⟨g5, 3, none⟩ (.int .u16 (q.frame : Int))).setCell ⟨g5, 4, none⟩ (.int .u8 (q.hub : Int))).setCell ⟨g5, 5, none⟩ (.int .u8 (q.port : Int))).setCell ⟨g5, 6, none⟩ (.bool q.comp)).setCell ⟨g5, 7, none⟩ (.bool q.low)).setCell ⟨g5, 8, none⟩ (.int .u8 (q.kind : Int))).setCell ⟨g5, 9, none⟩ (.slice A3 vs.length c3)) (some g5) := grown10 w20 g5 (.int .u8 (q.pid : Int)) (.int .u8 (q.addr : Int)) (.int .u8 (q.endp : Int)) (.int .u16 (q.frame : Int)) (.int .u8 (q.hub : Int)) (.int .u8 (q.port : Int)) (.bool q.comp) (.bool q.low) (.int .u8 (q.kind : Int)) (.slice A3 vs.length c3)
          replace h4 := Lib.hid ((gg.block _ (lt_of_block h4.out) (fun e => by injection e with e; exact m45.out e)).trans h4.out)
          replace h5 : Hid (((((((((((w20.setCell ⟨g5, 0, none⟩ (.int .u8 (q.pid : Int))).setCell ⟨g5, 1, none⟩ (.int .u8 (q.addr : Int))).setCell ⟨g5, 2, none⟩ (.int .u8 (q.endp : Int))).setCell ⟨g5, 3, none⟩ (.int .u16 (q.frame : Int))).setCell ⟨g5, 4, none⟩ (.int .u8 (q.hub : Int))).setCell ⟨g5, 5, none⟩ (.int .u8 (q.port : Int))).setCell ⟨g5, 6, none⟩ (.bool q.comp)).setCell ⟨g5, 7, none⟩ (.bool q.low)).setCell ⟨g5, 8, none⟩ (.int .u8 (q.kind : Int))).setCell ⟨g5, 9, none⟩ (.slice A3 vs.length c3)).heap[g5]? = _) := store10 _ _ _ _ _ _ _ _ _ _ (.int .u8 (q.pid : Int)) (.int .u8 (q.addr : Int)) (.int .u8 (q.endp : Int)) (.int .u16 (q.frame : Int)) (.int .u8 (q.hub : Int)) (.int .u8 (q.port : Int)) (.bool q.comp) (.bool q.low) (.int .u8 (q.kind : Int)) (.slice A3 vs.length c3) h5.out
          replace o1 := Lib.hid (own_apart o1.out gg m14.out.2)
          replace o3 := Lib.hid (own_apart o3.out gg m34.out.2)
          replace hB := Lib.hid (hB.out.trans bb)
          clear hK K bb gg fR k0 k1 k2 k3 k4 k5 k6 k7 k8 k9
          try simp only [Act.put, List.setIfInBounds_toArray, List.set_cons_zero, List.set_cons_succ]
          generalize ((((((((((w20.setCell ⟨g5, 0, none⟩ (.int .u8 (q.pid : Int))).setCell ⟨g5, 1, none⟩ (.int .u8 (q.addr : Int))).setCell ⟨g5, 2, none⟩ (.int .u8 (q.endp : Int))).setCell ⟨g5, 3, none⟩ (.int .u16 (q.frame : Int))).setCell ⟨g5, 4, none⟩ (.int .u8 (q.hub : Int))).setCell ⟨g5, 5, none⟩ (.int .u8 (q.port : Int))).setCell ⟨g5, 6, none⟩ (.bool q.comp)).setCell ⟨g5, 7, none⟩ (.bool q.low)).setCell ⟨g5, 8, none⟩ (.int .u8 (q.kind : Int))).setCell ⟨g5, 9, none⟩ (.slice A3 vs.length c3)) = w21 at h4 h5 o1 o3 hB ⊢
          refine doneB (by kernel_rfl) ?_
          exact ⟨r, q, us, vs, A1, A3, c1, c3, g4, g5, pf1.out, pf3.out, rfl, hw0.out.trans (hB.out.mono h0B.out), h4.out, h5.out, Rd.of_own_at o1.out, Rd.of_own_at o3.out⟩
    · clear hi
      refine ⟨_, rfl, by rfl, ?_⟩
      intro K hK
      go_simp
      have bb := (Below.refl w0.heap.size w0).alloc (Nat.le_refl _) (.cells #[.int .u8 0, .int .u8 0, .int .u8 0, .int .u16 0, .int .u8 0, .int .u8 0, .bool false, .bool false, .int .u8 0, .slice none 0 0] 29)
      refine hK _ _ (bb.mono hS.out) ?_
      have h4 := Lib.hid (heap_alloc_new w0 (.cells #[.int .u8 0, .int .u8 0, .int .u8 0, .int .u16 0, .int .u8 0, .int .u8 0, .bool false, .bool false, .int .u8 0, .slice none 0 0] 29))
      have hg4 := Lib.hid hS.out
      replace hB := Lib.hid (hB.out.trans (bb.mono hS.out))
      replace hS := Lib.hid (Nat.le_trans hS.out bb.size)
      clear hK K bb
      try simp only [Act.put, List.setIfInBounds_toArray, List.set_cons_zero, List.set_cons_succ]
      generalize w0.alloc (.cells #[.int .u8 0, .int .u8 0, .int .u8 0, .int .u16 0, .int .u8 0, .int .u8 0, .bool false, .bool false, .int .u8 0, .slice none 0 0] 29) = w1 at h4 hB hS ⊢
      generalize w0.heap.size = g4 at h4 hg4 ⊢
      refine stepBA [1, 5] (by decide +kernel) (by decide) ?_
      intro i hi
      rcases (by simpa using hi : i = 1 ∨ i = 5) with rfl | rfl
      · clear hi
        refine ⟨_, rfl, by rfl, ?_⟩
        intro K hK
        go_simp
        obtain ⟨r, us, ok1, hf1, hl1, KP1⟩ := pkt_any w1 wt a b fr fl hwt ha hb hfr hfl A c xs ((HX.out.below hB.out).more hS.out) (by omega)
        simp only [xcells, ResX, pcells] at KP1
        refine KP1.mono ?_
        rintro e w2 ⟨v, rfl, o, bb⟩
        obtain ⟨A1, c1, rfl, _⟩ := Rd.of_own o
        refine hK _ _ (bb.mono hS.out) ?_
        have n14 := Lib.hid (own_ne_old o (lt_of_block h4.out))
        replace h4 := Lib.hid ((bb.block _ (lt_of_block h4.out)).trans h4.out)
        have o1 := Lib.hid (own_base o hS.out)
        replace hB := Lib.hid (hB.out.trans (bb.mono hS.out))
        replace hS := Lib.hid (Nat.le_trans hS.out bb.size)
        have pf1 := Lib.hid (And.intro ok1 (And.intro hf1 hl1))
        clear hK K bb o ok1 hf1 hl1 KP1
        try simp only [Act.put, List.setIfInBounds_toArray, List.set_cons_zero, List.set_cons_succ]
        refine stepBA [3, 5] (by decide +kernel) (by decide) ?_
        intro i hi
        rcases (by simpa using hi : i = 3 ∨ i = 5) with rfl | rfl
        · clear hi
          refine ⟨_, rfl, by rfl, ?_⟩
          intro K hK
          go_simp
          obtain ⟨q, vs, ok3, hf3, hl3, KP3⟩ := pkt_any w2 wt' a' b' fr' fl' hw'.out.1 hw'.out.2.1 hw'.out.2.2.1 hw'.out.2.2.2.1 hw'.out.2.2.2.2 A' c' ys ((HY.out.below hB.out).more hS.out) (by have := Hl.out; omega)
          simp only [xcells, ResX, pcells] at KP3
          refine KP3.mono ?_
          rintro e w3 ⟨v, rfl, o, bb⟩
          obtain ⟨A3, c3, rfl, _⟩ := Rd.of_own o
          refine hK _ _ (bb.mono hS.out) ?_
          have n34 := Lib.hid (own_ne_old o (lt_of_block h4.out))
          replace h4 := Lib.hid ((bb.block _ (lt_of_block h4.out)).trans h4.out)
          replace o1 := Lib.hid (own_below o1.out bb)
          have o3 := Lib.hid (own_base o hS.out)
          replace hB := Lib.hid (hB.out.trans (bb.mono hS.out))
          replace hS := Lib.hid (Nat.le_trans hS.out bb.size)
          have pf3 := Lib.hid (And.intro ok3 (And.intro hf3 hl3))
          clear hK K bb o ok3 hf3 hl3 KP3
          try simp only [Act.put, List.setIfInBounds_toArray, List.set_cons_zero, List.set_cons_succ]
          refine stepBA [5] (by decide +kernel) (by decide) ?_
          intro i hi
          obtain rfl : i = 5 := by simpa using hi
          clear hi
          refine ⟨_, rfl, by rfl, ?_⟩
          intro K hK
          go_simp
          have bb := (Below.refl w3.heap.size w3).alloc (Nat.le_refl _) (.cells #[.int .u8 0, .int .u8 0, .int .u8 0, .int .u16 0, .int .u8 0, .int .u8 0, .bool false, .bool false, .int .u8 0, .slice none 0 0] 29)
          refine hK _ _ (bb.mono hS.out) ?_
          have h5 := Lib.hid (heap_alloc_new w3 (.cells #[.int .u8 0, .int .u8 0, .int .u8 0, .int .u16 0, .int .u8 0, .int .u8 0, .bool false, .bool false, .int .u8 0, .slice none 0 0] 29))
          have hg5 := Lib.hid hS.out
          have n15 := Lib.hid (own_ne_new o1.out)
          replace o1 := Lib.hid (own_below o1.out bb)
          have n35 := Lib.hid (own_ne_new o3.out)
          replace o3 := Lib.hid (own_below o3.out bb)
          have ne := Lib.hid (show g4 ≠ w3.heap.size from Nat.ne_of_lt (lt_of_block h4.out))
          replace h4 := Lib.hid ((bb.block _ (lt_of_block h4.out)).trans h4.out)
          replace hB := Lib.hid (hB.out.trans (bb.mono hS.out))
          replace hS := Lib.hid (Nat.le_trans hS.out bb.size)
          clear hK K bb
          try simp only [Act.put, List.setIfInBounds_toArray, List.set_cons_zero, List.set_cons_succ]
          generalize w3.alloc (.cells #[.int .u8 0, .int .u8 0, .int .u8 0, .int .u16 0, .int .u8 0, .int .u8 0, .bool false, .bool false, .int .u8 0, .slice none 0 0] 29) = w4 at h5 hB hS o1 o3 h4 ⊢
          generalize w3.heap.size = g5 at h5 hg5 n15 n35 ne ⊢
          have m14 := Lib.hid (And.intro n14.out n15.out)
          have m34 := Lib.hid (And.intro n34.out n35.out)
          have m45 : Hid (g4 ≠ g5) := ne.out
          clear n14 n15 n34 n35 ne
          have k0 := block_at (i := 0) h4.out rfl
          have k1 := block_at (i := 1) h4.out rfl
          have k2 := block_at (i := 2) h4.out rfl
          have k3 := block_at (i := 3) h4.out rfl
          have k4 := block_at (i := 4) h4.out rfl
          have k5 := block_at (i := 5) h4.out rfl
          have k6 := block_at (i := 6) h4.out rfl
          have k7 := block_at (i := 7) h4.out rfl
          have k8 := block_at (i := 8) h4.out rfl
          have k9 := block_at (i := 9) h4.out rfl
          have fR : ∀ i, w4.frozen? ⟨g4, i, none⟩ = false := fun i => by simp [World.frozen?, h4.out]
          refine stepB 6 rfl (by decide +kernel) (by rfl) ?_
          intro K hK
          go_simp
          have bb : Below B0 w4 ((((((((((w4.setCell ⟨g4, 0, none⟩ (.int .u8 (r.pid : Int))).setCell ⟨g4, 1, none⟩ (.int .u8 (r.addr : Int))).setCell ⟨g4, 2, none⟩ (.int .u8 (r.endp : Int))).setCell ⟨g4, 3, none⟩ (.int .u16 (r.frame : Int))).setCell ⟨g4, 4, none⟩ (.int .u8 (r.hub : Int))).setCell ⟨g4, 5, none⟩ (.int .u8 (r.port : Int))).setCell ⟨g4, 6, none⟩ (.bool r.comp)).setCell ⟨g4, 7, none⟩ (.bool r.low)).setCell ⟨g4, 8, none⟩ (.int .u8 (r.kind : Int))).setCell ⟨g4, 9, none⟩ (.slice A1 us.length c1)) := below10 (.int .u8 (r.pid : Int)) (.int .u8 (r.addr : Int)) (.int .u8 (r.endp : Int)) (.int .u16 (r.frame : Int)) (.int .u8 (r.hub : Int)) (.int .u8 (r.port : Int)) (.bool r.comp) (.bool r.low) (.int .u8 (r.kind : Int)) (.slice A1 us.length c1) (Below.refl _ w4) hg4.out
          refine hK _ _ bb ?_
          have gg : w4.grownBy ((((((((((w4.setCell ⟨g4, 0, none⟩ (.int .u8 (r.pid : Int))).setCell ⟨g4, 1, none⟩ (.int .u8 (r.addr : Int))).setCell ⟨g4, 2, none⟩ (.int .u8 (r.endp : Int))).setCell ⟨g4, 3, none⟩ (.int .u16 (r.frame : Int))).setCell ⟨g4, 4, none⟩ (.int .u8 (r.hub : Int))).setCell ⟨g4, 5, none⟩ (.int .u8 (r.port : Int))).setCell ⟨g4, 6, none⟩ (.bool r.comp)).setCell ⟨g4, 7, none⟩ (.bool r.low)).setCell ⟨g4, 8, none⟩ (.int .u8 (r.kind : Int))).setCell ⟨g4, 9, none⟩ (.slice A1 us.length c1)) (some g4) := grown10 w4 g4 (.int .u8 (r.pid : Int)) (.int .u8 (r.addr : Int)) (.int .u8 (r.endp : Int)) (.int .u16 (r.frame : Int)) (.int .u8 (r.hub : Int)) (.int .u8 (r.port : Int)) (.bool r.comp) (.bool r.low) (.int .u8 (r.kind : Int)) (.slice A1 us.length c1)
          replace h5 := Lib.hid ((gg.block _ (lt_of_block h5.out) (fun e => by injection e with e; exact m45.out e.symm)).trans h5.out)
          replace h4 : Hid (((((((((((w4.setCell ⟨g4, 0, none⟩ (.int .u8 (r.pid : Int))).setCell ⟨g4, 1, none⟩ (.int .u8 (r.addr : Int))).setCell ⟨g4, 2, none⟩ (.int .u8 (r.endp : Int))).setCell ⟨g4, 3, none⟩ (.int .u16 (r.frame : Int))).setCell ⟨g4, 4, none⟩ (.int .u8 (r.hub : Int))).setCell ⟨g4, 5, none⟩ (.int .u8 (r.port : Int))).setCell ⟨g4, 6, none⟩ (.bool r.comp)).setCell ⟨g4, 7, none⟩ (.bool r.low)).setCell ⟨g4, 8, none⟩ (.int .u8 (r.kind : Int))).setCell ⟨g4, 9, none⟩ (.slice A1 us.length c1)).heap[g4]? = _) := store10 _ _ _ _ _ _ _ _ _ _ (.int .u8 (r.pid : Int)) (.int .u8 (r.addr : Int)) (.int .u8 (r.endp : Int)) (.int .u16 (r.frame : Int)) (.int .u8 (r.hub : Int)) (.int .u8 (r.port : Int)) (.bool r.comp) (.bool r.low) (.int .u8 (r.kind : Int)) (.slice A1 us.length c1) h4.out
          replace o1 := Lib.hid (own_apart o1.out gg m14.out.1)
          replace o3 := Lib.hid (own_apart o3.out gg m34.out.1)
          replace hB := Lib.hid (hB.out.trans bb)
          clear hK K bb gg fR k0 k1 k2 k3 k4 k5 k6 k7 k8 k9
          try simp only [Act.put, List.setIfInBounds_toArray, List.set_cons_zero, List.set_cons_succ]
          generalize ((((((((((w4.setCell ⟨g4, 0, none⟩ (.int .u8 (r.pid : Int))).setCell ⟨g4, 1, none⟩ (.int .u8 (r.addr : Int))).setCell ⟨g4, 2, none⟩ (.int .u8 (r.endp : Int))).setCell ⟨g4, 3, none⟩ (.int .u16 (r.frame : Int))).setCell ⟨g4, 4, none⟩ (.int .u8 (r.hub : Int))).setCell ⟨g4, 5, none⟩ (.int .u8 (r.port : Int))).setCell ⟨g4, 6, none⟩ (.bool r.comp)).setCell ⟨g4, 7, none⟩ (.bool r.low)).setCell ⟨g4, 8, none⟩ (.int .u8 (r.kind : Int))).setCell ⟨g4, 9, none⟩ (.slice A1 us.length c1)) = w20 at h4 h5 o1 o3 hB ⊢
          have k0 := block_at (i := 0) h5.out rfl
          have k1 := block_at (i := 1) h5.out rfl
          have k2 := block_at (i := 2) h5.out rfl
          have k3 := block_at (i := 3) h5.out rfl
          have k4 := block_at (i := 4) h5.out rfl
          have k5 := block_at (i := 5) h5.out rfl
          have k6 := block_at (i := 6) h5.out rfl
          have k7 := block_at (i := 7) h5.out rfl
          have k8 := block_at (i := 8) h5.out rfl
          have k9 := block_at (i := 9) h5.out rfl
          have fR : ∀ i, w20.frozen? ⟨g5, i, none⟩ = false := fun i => by simp [World.frozen?, h5.out]
          refine stepB 7 rfl (by decide +kernel) (by rfl) ?_
          intro K hK
          go_simp
          have bb : Below B0 w20 ((((((((((w20.setCell ⟨g5, 0, none⟩ (.int .u8 (q.pid : Int))).setCell ⟨g5, 1, none⟩ (.int .u8 (q.addr : Int))).setCell ⟨g5, 2, none⟩ (.int .u8 (q.endp : Int))).setCell ⟨g5, 3, none⟩ (.int .u16 (q.frame : Int))).setCell ⟨g5, 4, none⟩ (.int .u8 (q.hub : Int))).setCell ⟨g5, 5, none⟩ (.int .u8 (q.port : Int))).setCell ⟨g5, 6, none⟩ (.bool q.comp)).setCell ⟨g5, 7, none⟩ (.bool q.low)).setCell ⟨g5, 8, none⟩ (.int .u8 (q.kind : Int))).setCell ⟨g5, 9, none⟩ (.slice A3 vs.length c3)) := below10 (.int .u8 (q.pid : Int)) (.int .u8 (q.addr : Int)) (.int .u8 (q.endp : Int)) (.int .u16 (q.frame : Int)) (.int .u8 (q.hub : Int)) (.int .u8 (q.port : Int)) (.bool q.comp) (.bool q.low) (.int .u8 (q.kind : Int)) (.slice A3 vs.length c3) (Below.refl _ w20) hg5.out
          refine hK _ _ bb ?_
          have gg : w20.grownBy ((((((((((w20.setCell ⟨g5, 0, none⟩ (.int .u8 (q.pid : Int))).setCell ⟨g5, 1, none⟩ (.int .u8 (q.addr : Int))).setCell ⟨g5, 2, none⟩ (.int .u8 (q.endp : Int))).setCell ⟨g5, 3, none⟩ (.int .u16 (q.frame : Int))).setCell ⟨g5, 4, none⟩ (.int .u8 (q.hub : Int))).setCell ⟨g5, 5, none⟩ (.int .u8 (q.port : Int))).setCell ⟨g5, 6, none⟩ (.bool q.comp)).setCell ⟨g5, 7, none⟩ (.bool q.low)).setCell ⟨g5, 8, none⟩ (.int .u8 (q.kind : Int))).setCell ⟨g5, 9, none⟩ (.slice A3 vs.length c3)) (some g5) := grown10 w20 g5 (.int .u8 (q.pid : Int)) (.int .u8 (q.addr : Int)) (.int .u8 (q.endp : Int)) (.int .u16 (q.frame : Int)) (.int .u8 (q.hub : Int)) (.int .u8 (q.port : Int)) (.bool q.comp) (.bool q.low) (.int .u8 (q.kind : Int)) (.slice A3 vs.length c3)
          replace h4 := Lib.hid ((gg.block _ (lt_of_block h4.out) (fun e => by injection e with e; exact m45.out e)).trans h4.out)
          replace h5 : Hid (((((((((((w20.setCell ⟨g5, 0, none⟩ (.int .u8 (q.pid : Int))).setCell ⟨g5, 1, none⟩ (.int .u8 (q.addr : Int))).setCell ⟨g5, 2, none⟩ (.int .u8 (q.endp : Int))).setCell ⟨g5, 3, none⟩ (.int .u16 (q.frame : Int))).setCell ⟨g5, 4, none⟩ (.int .u8 (q.hub : Int))).setCell ⟨g5, 5, none⟩ (.int .u8 (q.port : Int))).setCell ⟨g5, 6, none⟩ (.bool q.comp)).setCell ⟨g5, 7, none⟩ (.bool q.low)).setCell ⟨g5, 8, none⟩ (.int .u8 (q.kind : Int))).setCell ⟨g5, 9, none⟩ (.slice A3 vs.length c3)).heap[g5]? = _) := store10 _ _ _ _ _ _ _ _ _ _ (.int .u8 (q.pid : Int)) (.int .u8 (q.addr : Int)) (.int .u8 (q.endp : Int)) (.int .u16 (q.frame : Int)) (.int .u8 (q.hub : Int)) (.int .u8 (q.port : Int)) (.bool q.comp) (.bool q.low) (.int .u8 (q.kind : Int)) (.slice A3 vs.length c3) h5.out
          replace o1 := Lib.hid (own_apart o1.out gg m14.out.2)
          replace o3 := Lib.hid (own_apart o3.out gg m34.out.2)
          replace hB := Lib.hid (hB.out.trans bb)
          clear hK K bb gg fR k0 k1 k2 k3 k4 k5 k6 k7 k8 k9
          try simp only [Act.put, List.setIfInBounds_toArray, List.set_cons_zero, List.set_cons_succ]
          generalize ((((((((((w20.setCell ⟨g5, 0, none⟩ (.int .u8 (q.pid : Int))).setCell ⟨g5, 1, none⟩ (.int .u8 (q.addr : Int))).setCell ⟨g5, 2, none⟩ (.int .u8 (q.endp : Int))).setCell ⟨g5, 3, none⟩ (.int .u16 (q.frame : Int))).setCell ⟨g5, 4, none⟩ (.int .u8 (q.hub : Int))).setCell ⟨g5, 5, none⟩ (.int .u8 (q.port : Int))).setCell ⟨g5, 6, none⟩ (.bool q.comp)).setCell ⟨g5, 7, none⟩ (.bool q.low)).setCell ⟨g5, 8, none⟩ (.int .u8 (q.kind : Int))).setCell ⟨g5, 9, none⟩ (.slice A3 vs.length c3)) = w21 at h4 h5 o1 o3 hB ⊢
          refine doneB (by kernel_rfl) ?_
          exact ⟨r, q, us, vs, A1, A3, c1, c3, g4, g5, pf1.out, pf3.out, rfl, hw0.out.trans (hB.out.mono h0B.out), h4.out, h5.out, Rd.of_own_at o1.out, Rd.of_own_at o3.out⟩
        · clear hi
          refine ⟨_, rfl, by rfl, ?_⟩
          intro K hK
          go_simp
          have bb := (Below.refl w2.heap.size w2).alloc (Nat.le_refl _) (.cells #[.int .u8 0, .int .u8 0, .int .u8 0, .int .u16 0, .int .u8 0, .int .u8 0, .bool false, .bool false, .int .u8 0, .slice none 0 0] 29)
          refine hK _ _ (bb.mono hS.out) ?_
          have h5 := Lib.hid (heap_alloc_new w2 (.cells #[.int .u8 0, .int .u8 0, .int .u8 0, .int .u16 0, .int .u8 0, .int .u8 0, .bool false, .bool false, .int .u8 0, .slice none 0 0] 29))
          have hg5 := Lib.hid hS.out
          have n15 := Lib.hid (own_ne_new o1.out)
          replace o1 := Lib.hid (own_below o1.out bb)
          have ne := Lib.hid (show g4 ≠ w2.heap.size from Nat.ne_of_lt (lt_of_block h4.out))
          replace h4 := Lib.hid ((bb.block _ (lt_of_block h4.out)).trans h4.out)
          replace hB := Lib.hid (hB.out.trans (bb.mono hS.out))
          replace hS := Lib.hid (Nat.le_trans hS.out bb.size)
          clear hK K bb
          try simp only [Act.put, List.setIfInBounds_toArray, List.set_cons_zero, List.set_cons_succ]
          generalize w2.alloc (.cells #[.int .u8 0, .int .u8 0, .int .u8 0, .int .u16 0, .int .u8 0, .int .u8 0, .bool false, .bool false, .int .u8 0, .slice none 0 0] 29) = w3 at h5 hB hS o1 h4 ⊢
          generalize w2.heap.size = g5 at h5 hg5 n15 ne ⊢
          refine stepBA [3] (by decide +kernel) (by decide) ?_
          intro i hi
          obtain rfl : i = 3 := by simpa using hi
          clear hi
          refine ⟨_, rfl, by rfl, ?_⟩
          intro K hK
          go_simp
          obtain ⟨q, vs, ok3, hf3, hl3, KP3⟩ := pkt_any w3 wt' a' b' fr' fl' hw'.out.1 hw'.out.2.1 hw'.out.2.2.1 hw'.out.2.2.2.1 hw'.out.2.2.2.2 A' c' ys ((HY.out.below hB.out).more hS.out) (by have := Hl.out; omega)
          simp only [xcells, ResX, pcells] at KP3
          refine KP3.mono ?_
          rintro e w4 ⟨v, rfl, o, bb⟩
          obtain ⟨A3, c3, rfl, _⟩ := Rd.of_own o
          refine hK _ _ (bb.mono hS.out) ?_
          have n34 := Lib.hid (own_ne_old o (lt_of_block h4.out))
          replace h4 := Lib.hid ((bb.block _ (lt_of_block h4.out)).trans h4.out)
          have n35 := Lib.hid (own_ne_old o (lt_of_block h5.out))
          replace h5 := Lib.hid ((bb.block _ (lt_of_block h5.out)).trans h5.out)
          replace o1 := Lib.hid (own_below o1.out bb)
          have o3 := Lib.hid (own_base o hS.out)
          replace hB := Lib.hid (hB.out.trans (bb.mono hS.out))
          replace hS := Lib.hid (Nat.le_trans hS.out bb.size)
          have pf3 := Lib.hid (And.intro ok3 (And.intro hf3 hl3))
          clear hK K bb o ok3 hf3 hl3 KP3
          try simp only [Act.put, List.setIfInBounds_toArray, List.set_cons_zero, List.set_cons_succ]
          have m14 := Lib.hid (And.intro n14.out n15.out)
          have m34 := Lib.hid (And.intro n34.out n35.out)
          have m45 : Hid (g4 ≠ g5) := ne.out
          clear n14 n15 n34 n35 ne
          have k0 := block_at (i := 0) h4.out rfl
          have k1 := block_at (i := 1) h4.out rfl
          have k2 := block_at (i := 2) h4.out rfl
          have k3 := block_at (i := 3) h4.out rfl
          have k4 := block_at (i := 4) h4.out rfl
          have k5 := block_at (i := 5) h4.out rfl
          have k6 := block_at (i := 6) h4.out rfl
          have k7 := block_at (i := 7) h4.out rfl
          have k8 := block_at (i := 8) h4.out rfl
          have k9 := block_at (i := 9) h4.out rfl
          have fR : ∀ i, w4.frozen? ⟨g4, i, none⟩ = false := fun i => by simp [World.frozen?, h4.out]
          refine stepB 6 rfl (by decide +kernel) (by rfl) ?_
          intro K hK
          go_simp
          have bb : Below B0 w4 ((((((((((w4.setCell ⟨g4, 0, none⟩ (.int .u8 (r.pid : Int))).setCell ⟨g4, 1, none⟩ (.int .u8 (r.addr : Int))).setCell ⟨g4, 2, none⟩ (.int .u8 (r.endp : Int))).setCell ⟨g4, 3, none⟩ (.int .u16 (r.frame : Int))).setCell ⟨g4, 4, none⟩ (.int .u8 (r.hub : Int))).setCell ⟨g4, 5, none⟩ (.int .u8 (r.port : Int))).setCell ⟨g4, 6, none⟩ (.bool r.comp)).setCell ⟨g4, 7, none⟩ (.bool r.low)).setCell ⟨g4, 8, none⟩ (.int .u8 (r.kind : Int))).setCell ⟨g4, 9, none⟩ (.slice A1 us.length c1)) := below10 (.int .u8 (r.pid : Int)) (.int .u8 (r.addr : Int)) (.int .u8 (r.endp : Int)) (.int .u16 (r.frame : Int)) (.int .u8 (r.hub : Int)) (.int .u8 (r.port : Int)) (.bool r.comp) (.bool r.low) (.int .u8 (r.kind : Int)) (.slice A1 us.length c1) (Below.refl _ w4) hg4.out
          refine hK _ _ bb ?_
          have gg : w4.grownBy ((((((((((w4.setCell ⟨g4, 0, none⟩ (.int .u8 (r.pid : Int))).setCell ⟨g4, 1, none⟩ (.int .u8 (r.addr : Int))).setCell ⟨g4, 2, none⟩ (.int .u8 (r.endp : Int))).setCell ⟨g4, 3, none⟩ (.int .u16 (r.frame : Int))).setCell ⟨g4, 4, none⟩ (.int .u8 (r.hub : Int))).setCell ⟨g4, 5, none⟩ (.int .u8 (r.port : Int))).setCell ⟨g4, 6, none⟩ (.bool r.comp)).setCell ⟨g4, 7, none⟩ (.bool r.low)).setCell ⟨g4, 8, none⟩ (.int .u8 (r.kind : Int))).setCell ⟨g4, 9, none⟩ (.slice A1 us.length c1)) (some g4) := grown10 w4 g4 (.int .u8 (r.pid : Int)) (.int .u8 (r.addr : Int)) (.int .u8 (r.endp : Int)) (.int .u16 (r.frame : Int)) (.int .u8 (r.hub : Int)) (.int .u8 (r.port : Int)) (.bool r.comp) (.bool r.low) (.int .u8 (r.kind : Int)) (.slice A1 us.length c1)
          replace h5 := Lib.hid ((gg.block _ (lt_of_block h5.out) (fun e => by injection e with e; exact m45.out e.symm)).trans h5.out)
          replace h4 : Hid (((((((((((w4.setCell ⟨g4, 0, none⟩ (.int .u8 (r.pid : Int))).setCell ⟨g4, 1, none⟩ (.int .u8 (r.addr : Int))).setCell ⟨g4, 2, none⟩ (.int .u8 (r.endp : Int))).setCell ⟨g4, 3, none⟩ (.int .u16 (r.frame : Int))).setCell ⟨g4, 4, none⟩ (.int .u8 (r.hub : Int))).setCell ⟨g4, 5, none⟩ (.int .u8 (r.port : Int))).setCell ⟨g4, 6, none⟩ (.bool r.comp)).setCell ⟨g4, 7, none⟩ (.bool r.low)).setCell ⟨g4, 8, none⟩ (.int .u8 (r.kind : Int))).setCell ⟨g4, 9, none⟩ (.slice A1 us.length c1)).heap[g4]? = _) := store10 _ _ _ _ _ _ _ _ _ _ (.int .u8 (r.pid : Int)) (.int .u8 (r.addr : Int)) (.int .u8 (r.endp : Int)) (.int .u16 (r.frame : Int)) (.int .u8 (r.hub : Int)) (.int .u8 (r.port : Int)) (.bool r.comp) (.bool r.low) (.int .u8 (r.kind : Int)) (.slice A1 us.length c1) h4.out
          replace o1 := Lib.hid (own_apart o1.out gg m14.out.1)
          replace o3 := Lib.hid (own_apart o3.out gg m34.out.1)
          replace hB := Lib.hid (hB.out.trans bb)
          clear hK K bb gg fR k0 k1 k2 k3 k4 k5 k6 k7 k8 k9
          try simp only [Act.put, List.setIfInBounds_toArray, List.set_cons_zero, List.set_cons_succ]
          generalize ((((((((((w4.setCell ⟨g4, 0, none⟩ (.int .u8 (r.pid : Int))).setCell ⟨g4, 1, none⟩ (.int .u8 (r.addr : Int))).setCell ⟨g4, 2, none⟩ (.int .u8 (r.endp : Int))).setCell ⟨g4, 3, none⟩ (.int .u16 (r.frame : Int))).setCell ⟨g4, 4, none⟩ (.int .u8 (r.hub : Int))).setCell ⟨g4, 5, none⟩ (.int .u8 (r.port : Int))).setCell ⟨g4, 6, none⟩ (.bool r.comp)).setCell ⟨g4, 7, none⟩ (.bool r.low)).setCell ⟨g4, 8, none⟩ (.int .u8 (r.kind : Int))).setCell ⟨g4, 9, none⟩ (.slice A1 us.length c1)) = w20 at h4 h5 o1 o3 hB ⊢
          have k0 := block_at (i := 0) h5.out rfl
          have k1 := block_at (i := 1) h5.out rfl
          have k2 := block_at (i := 2) h5.out rfl
          have k3 := block_at (i := 3) h5.out rfl
          have k4 := block_at (i := 4) h5.out rfl
          have k5 := block_at (i := 5) h5.out rfl
          have k6 := block_at (i := 6) h5.out rfl
          have k7 := block_at (i := 7) h5.out rfl
          have k8 := block_at (i := 8) h5.out rfl
          have k9 := block_at (i := 9) h5.out rfl
          have fR : ∀ i, w20.frozen? ⟨g5, i, none⟩ = false := fun i => by simp [World.frozen?, h5.out]
          refine stepB 7 rfl (by decide +kernel) (by rfl) ?_
          intro K hK
          go_simp
          have bb : Below B0 w20 ((((((((((w20.setCell ⟨g5, 0, none⟩ (.int .u8 (q.pid : Int))).setCell ⟨g5, 1, none⟩ (.int .u8 (q.addr : Int))).setCell ⟨g5, 2, none⟩ (.int .u8 (q.endp : Int))).setCell ⟨g5, 3, none⟩ (.int .u16 (q.frame : Int))).setCell ⟨g5, 4, none⟩ (.int .u8 (q.hub : Int))).setCell ⟨g5, 5, none⟩ (.int .u8 (q.port : Int))).setCell ⟨g5, 6, none⟩ (.bool q.comp)).setCell ⟨g5, 7, none⟩ (.bool q.low)).setCell ⟨g5, 8, none⟩ (.int .u8 (q.kind : Int))).setCell ⟨g5, 9, none⟩ (.slice A3 vs.length c3)) := below10 (.int .u8 (q.pid : Int)) (.int .u8 (q.addr : Int)) (.int .u8 (q.endp : Int)) (.int .u16 (q.frame : Int)) (.int .u8 (q.hub : Int)) (.int .u8 (q.port : Int)) (.bool q.comp) (.bool q.low) (.int .u8 (q.kind : Int)) (.slice A3 vs.length c3) (Below.refl _ w20) hg5.out
          refine hK _ _ bb ?_
          have gg : w20.grownBy ((((((((((w20.setCell ⟨g5, 0, none⟩ (.int .u8 (q.pid : Int))).setCell ⟨g5, 1, none⟩ (.int .u8 (q.addr : Int))).setCell ⟨g5, 2, none⟩ (.int .u8 (q.endp : Int))).setCell ⟨g5, 3, none⟩ (.int .u16 (q.frame : Int))).setCell ⟨g5, 4, none⟩ (.int .u8 (q.hub : Int))).setCell ⟨g5, 5, none⟩ (.int .u8 (q.port : Int))).setCell ⟨g5, 6, none⟩ (.bool q.comp)).setCell ⟨g5, 7, none⟩ (.bool q.low)).setCell ⟨g5, 8, none⟩ (.int .u8 (q.kind : Int))).setCell ⟨g5, 9, none⟩ (.slice A3 vs.length c3)) (some g5) := grown10 w20 g5 (.int .u8 (q.pid : Int)) (.int .u8 (q.addr : Int)) (.int .u8 (q.endp : Int)) (.int .u16 (q.frame : Int)) (.int .u8 (q.hub : Int)) (.int .u8 (q.port : Int)) (.bool q.comp) (.bool q.low) (.int .u8 (q.kind : Int)) (.slice A3 vs.length c3)
          replace h4 := Lib.hid ((gg.block _ (lt_of_block h4.out) (fun e => by injection e with e; exact m45.out e)).trans h4.out)
          replace h5 : Hid (((((((((((w20.setCell ⟨g5, 0, none⟩ (.int .u8 (q.pid : Int))).setCell ⟨g5, 1, none⟩ (.int .u8 (q.addr : Int))).setCell ⟨g5, 2, none⟩ (.int .u8 (q.endp : Int))).setCell ⟨g5, 3, none⟩ (.int .u16 (q.frame : Int))).setCell ⟨g5, 4, none⟩ (.int .u8 (q.hub : Int))).setCell ⟨g5, 5, none⟩ (.int .u8 (q.port : Int))).setCell ⟨g5, 6, none⟩ (.bool q.comp)).setCell ⟨g5, 7, none⟩ (.bool q.low)).setCell ⟨g5, 8, none⟩ (.int .u8 (q.kind : Int))).setCell ⟨g5, 9, none⟩ (.slice A3 vs.length c3)).heap[g5]? = _) := store10 _ _ _ _ _ _ _ _ _ _ (.int .u8 (q.pid : Int)) (.int .u8 (q.addr : Int)) (.int .u8 (q.endp : Int)) (.int .u16 (q.frame : Int)) (.int .u8 (q.hub : Int)) (.int .u8 (q.port : Int)) (.bool q.comp) (.bool q.low) (.int .u8 (q.kind : Int)) (.slice A3 vs.length c3) h5.out
          replace o1 := Lib.hid (own_apart o1.out gg m14.out.2)
          replace o3 := Lib.hid (own_apart o3.out gg m34.out.2)
          replace hB := Lib.hid (hB.out.trans bb)
          clear hK K bb gg fR k0 k1 k2 k3 k4 k5 k6 k7 k8 k9
          try simp only [Act.put, List.setIfInBounds_toArray, List.set_cons_zero, List.set_cons_succ]
          generalize ((((((((((w20.setCell ⟨g5, 0, none⟩ (.int .u8 (q.pid : Int))).setCell ⟨g5, 1, none⟩ (.int .u8 (q.addr : Int))).setCell ⟨g5, 2, none⟩ (.int .u8 (q.endp : Int))).setCell ⟨g5, 3, none⟩ (.int .u16 (q.frame : Int))).setCell ⟨g5, 4, none⟩ (.int .u8 (q.hub : Int))).setCell ⟨g5, 5, none⟩ (.int .u8 (q.port : Int))).setCell ⟨g5, 6, none⟩ (.bool q.comp)).setCell ⟨g5, 7, none⟩ (.bool q.low)).setCell ⟨g5, 8, none⟩ (.int .u8 (q.kind : Int))).setCell ⟨g5, 9, none⟩ (.slice A3 vs.length c3)) = w21 at h4 h5 o1 o3 hB ⊢
          refine doneB (by kernel_rfl) ?_
          exact ⟨r, q, us, vs, A1, A3, c1, c3, g4, g5, pf1.out, pf3.out, rfl, hw0.out.trans (hB.out.mono h0B.out), h4.out, h5.out, Rd.of_own_at o1.out, Rd.of_own_at o3.out⟩
      · clear hi
        refine ⟨_, rfl, by rfl, ?_⟩
        intro K hK
        go_simp
        have bb := (Below.refl w1.heap.size w1).alloc (Nat.le_refl _) (.cells #[.int .u8 0, .int .u8 0, .int .u8 0, .int .u16 0, .int .u8 0, .int .u8 0, .bool false, .bool false, .int .u8 0, .slice none 0 0] 29)
        refine hK _ _ (bb.mono hS.out) ?_
        have h5 := Lib.hid (heap_alloc_new w1 (.cells #[.int .u8 0, .int .u8 0, .int .u8 0, .int .u16 0, .int .u8 0, .int .u8 0, .bool false, .bool false, .int .u8 0, .slice none 0 0] 29))
        have hg5 := Lib.hid hS.out
        have ne := Lib.hid (show g4 ≠ w1.heap.size from Nat.ne_of_lt (lt_of_block h4.out))
        replace h4 := Lib.hid ((bb.block _ (lt_of_block h4.out)).trans h4.out)
        replace hB := Lib.hid (hB.out.trans (bb.mono hS.out))
        replace hS := Lib.hid (Nat.le_trans hS.out bb.size)
        clear hK K bb
        try simp only [Act.put, List.setIfInBounds_toArray, List.set_cons_zero, List.set_cons_succ]
        generalize w1.alloc (.cells #[.int .u8 0, .int .u8 0, .int .u8 0, .int .u16 0, .int .u8 0, .int .u8 0, .bool false, .bool false, .int .u8 0, .slice none 0 0] 29) = w2 at h5 hB hS h4 ⊢
        generalize w1.heap.size = g5 at h5 hg5 ne ⊢
        refine stepBA [1] (by decide +kernel) (by decide) ?_
        intro i hi
        obtain rfl : i = 1 := by simpa using hi
        clear hi
        refine ⟨_, rfl, by rfl, ?_⟩
        intro K hK
        go_simp
        obtain ⟨r, us, ok1, hf1, hl1, KP1⟩ := pkt_any w2 wt a b fr fl hwt ha hb hfr hfl A c xs ((HX.out.below hB.out).more hS.out) (by omega)
        simp only [xcells, ResX, pcells] at KP1
        refine KP1.mono ?_
        rintro e w3 ⟨v, rfl, o, bb⟩
        obtain ⟨A1, c1, rfl, _⟩ := Rd.of_own o
        refine hK _ _ (bb.mono hS.out) ?_
        have n14 := Lib.hid (own_ne_old o (lt_of_block h4.out))
        replace h4 := Lib.hid ((bb.block _ (lt_of_block h4.out)).trans h4.out)
        have n15 := Lib.hid (own_ne_old o (lt_of_block h5.out))
        replace h5 := Lib.hid ((bb.block _ (lt_of_block h5.out)).trans h5.out)
        have o1 := Lib.hid (own_base o hS.out)
        replace hB := Lib.hid (hB.out.trans (bb.mono hS.out))
        replace hS := Lib.hid (Nat.le_trans hS.out bb.size)
        have pf1 := Lib.hid (And.intro ok1 (And.intro hf1 hl1))
        clear hK K bb o ok1 hf1 hl1 KP1
        try simp only [Act.put, List.setIfInBounds_toArray, List.set_cons_zero, List.set_cons_succ]
        refine stepBA [3] (by decide +kernel) (by decide) ?_
        intro i hi
        obtain rfl : i = 3 := by simpa using hi
        clear hi
        refine ⟨_, rfl, by rfl, ?_⟩
        intro K hK
        go_simp
        obtain ⟨q, vs, ok3, hf3, hl3, KP3⟩ := pkt_any w3 wt' a' b' fr' fl' hw'.out.1 hw'.out.2.1 hw'.out.2.2.1 hw'.out.2.2.2.1 hw'.out.2.2.2.2 A' c' ys ((HY.out.below hB.out).more hS.out) (by have := Hl.out; omega)
        simp only [xcells, ResX, pcells] at KP3
        refine KP3.mono ?_
        rintro e w4 ⟨v, rfl, o, bb⟩
        obtain ⟨A3, c3, rfl, _⟩ := Rd.of_own o
        refine hK _ _ (bb.mono hS.out) ?_
        have n34 := Lib.hid (own_ne_old o (lt_of_block h4.out))
        replace h4 := Lib.hid ((bb.block _ (lt_of_block h4.out)).trans h4.out)
        have n35 := Lib.hid (own_ne_old o (lt_of_block h5.out))
        replace h5 := Lib.hid ((bb.block _ (lt_of_block h5.out)).trans h5.out)
        replace o1 := Lib.hid (own_below o1.out bb)
        have o3 := Lib.hid (own_base o hS.out)
        replace hB := Lib.hid (hB.out.trans (bb.mono hS.out))
        replace hS := Lib.hid (Nat.le_trans hS.out bb.size)
        have pf3 := Lib.hid (And.intro ok3 (And.intro hf3 hl3))
        clear hK K bb o ok3 hf3 hl3 KP3
        try simp only [Act.put, List.setIfInBounds_toArray, List.set_cons_zero, List.set_cons_succ]
        have m14 := Lib.hid (And.intro n14.out n15.out)
        have m34 := Lib.hid (And.intro n34.out n35.out)
        have m45 : Hid (g4 ≠ g5) := ne.out
        clear n14 n15 n34 n35 ne
        have k0 := block_at (i := 0) h4.out rfl
        have k1 := block_at (i := 1) h4.out rfl
        have k2 := block_at (i := 2) h4.out rfl
        have k3 := block_at (i := 3) h4.out rfl
        have k4 := block_at (i := 4) h4.out rfl
        have k5 := block_at (i := 5) h4.out rfl
        have k6 := block_at (i := 6) h4.out rfl
        have k7 := block_at (i := 7) h4.out rfl
        have k8 := block_at (i := 8) h4.out rfl
        have k9 := block_at (i := 9) h4.out rfl
        have fR : ∀ i, w4.frozen? ⟨g4, i, none⟩ = false := fun i => by simp [World.frozen?, h4.out]
        refine stepB 6 rfl (by decide +kernel) (by rfl) ?_
        intro K hK
        go_simp
        have bb : Below B0 w4 ((((((((((w4.setCell ⟨g4, 0, none⟩ (.int .u8 (r.pid : Int))).setCell ⟨g4, 1, none⟩ (.int .u8 (r.addr : Int))).setCell ⟨g4, 2, none⟩ (.int .u8 (r.endp : Int))).setCell ⟨g4, 3, none⟩ (.int .u16 (r.frame : Int))).setCell ⟨g4, 4, none⟩ (.int .u8 (r.hub : Int))).setCell ⟨g4, 5, none⟩ (.int .u8 (r.port : Int))).setCell ⟨g4, 6, none⟩ (.bool r.comp)).setCell ⟨g4, 7, none⟩ (.bool r.low)).setCell ⟨g4, 8, none⟩ (.int .u8 (r.kind : Int))).setCell ⟨g4, 9, none⟩ (.slice A1 us.length c1)) := below10 (.int .u8 (r.pid : Int)) (.int .u8 (r.addr : Int)) (.int .u8 (r.endp : Int)) (.int .u16 (r.frame : Int)) (.int .u8 (r.hub : Int)) (.int .u8 (r.port : Int)) (.bool r.comp) (.bool r.low) (.int .u8 (r.kind : Int)) (.slice A1 us.length c1) (Below.refl _ w4) hg4.out
        refine hK _ _ bb ?_
        have gg : w4.grownBy ((((((((((w4.setCell ⟨g4, 0, none⟩ (.int .u8 (r.pid : Int))).setCell ⟨g4, 1, none⟩ (.int .u8 (r.addr : Int))).setCell ⟨g4, 2, none⟩ (.int .u8 (r.endp : Int))).setCell ⟨g4, 3, none⟩ (.int .u16 (r.frame : Int))).setCell ⟨g4, 4, none⟩ (.int .u8 (r.hub : Int))).setCell ⟨g4, 5, none⟩ (.int .u8 (r.port : Int))).setCell ⟨g4, 6, none⟩ (.bool r.comp)).setCell ⟨g4, 7, none⟩ (.bool r.low)).setCell ⟨g4, 8, none⟩ (.int .u8 (r.kind : Int))).setCell ⟨g4, 9, none⟩ (.slice A1 us.length c1)) (some g4) := grown10 w4 g4 (.int .u8 (r.pid : Int)) (.int .u8 (r.addr : Int)) (.int .u8 (r.endp : Int)) (.int .u16 (r.frame : Int)) (.int .u8 (r.hub : Int)) (.int .u8 (r.port : Int)) (.bool r.comp) (.bool r.low) (.int .u8 (r.kind : Int)) (.slice A1 us.length c1)
        replace h5 := Lib.hid ((gg.block _ (lt_of_block h5.out) (fun e => by injection e with e; exact m45.out e.symm)).trans h5.out)
        replace h4 : Hid (((((((((((w4.setCell ⟨g4, 0, none⟩ (.int .u8 (r.pid : Int))).setCell ⟨g4, 1, none⟩ (.int .u8 (r.addr : Int))).setCell ⟨g4, 2, none⟩ (.int .u8 (r.endp : Int))).setCell ⟨g4, 3, none⟩ (.int .u16 (r.frame : Int))).setCell ⟨g4, 4, none⟩ (.int .u8 (r.hub : Int))).setCell ⟨g4, 5, none⟩ (.int .u8 (r.port : Int))).setCell ⟨g4, 6, none⟩ (.bool r.comp)).setCell ⟨g4, 7, none⟩ (.bool r.low)).setCell ⟨g4, 8, none⟩ (.int .u8 (r.kind : Int))).setCell ⟨g4, 9, none⟩ (.slice A1 us.length c1)).heap[g4]? = _) := store10 _ _ _ _ _ _ _ _ _ _ (.int .u8 (r.pid : Int)) (.int .u8 (r.addr : Int)) (.int .u8 (r.endp : Int)) (.int .u16 (r.frame : Int)) (.int .u8 (r.hub : Int)) (.int .u8 (r.port : Int)) (.bool r.comp) (.bool r.low) (.int .u8 (r.kind : Int)) (.slice A1 us.length c1) h4.out
        replace o1 := Lib.hid (own_apart o1.out gg m14.out.1)
        replace o3 := Lib.hid (own_apart o3.out gg m34.out.1)
        replace hB := Lib.hid (hB.out.trans bb)
        clear hK K bb gg fR k0 k1 k2 k3 k4 k5 k6 k7 k8 k9
        try simp only [Act.put, List.setIfInBounds_toArray, List.set_cons_zero, List.set_cons_succ]
        generalize ((((((((((w4.setCell ⟨g4, 0, none⟩ (.int .u8 (r.pid : Int))).setCell ⟨g4, 1, none⟩ (.int .u8 (r.addr : Int))).setCell ⟨g4, 2, none⟩ (.int .u8 (r.endp : Int))).setCell ⟨g4, 3, none⟩ (.int .u16 (r.frame : Int))).setCell ⟨g4, 4, none⟩ (.int .u8 (r.hub : Int))).setCell ⟨g4, 5, none⟩ (.int .u8 (r.port : Int))).setCell ⟨g4, 6, none⟩ (.bool r.comp)).setCell ⟨g4, 7, none⟩ (.bool r.low)).setCell ⟨g4, 8, none⟩ (.int .u8 (r.kind : Int))).setCell ⟨g4, 9, none⟩ (.slice A1 us.length c1)) = w20 at h4 h5 o1 o3 hB ⊢
        have k0 := block_at (i := 0) h5.out rfl
        have k1 := block_at (i := 1) h5.out rfl
        have k2 := block_at (i := 2) h5.out rfl
        have k3 := block_at (i := 3) h5.out rfl
        have k4 := block_at (i := 4) h5.out rfl
        have k5 := block_at (i := 5) h5.out rfl
        have k6 := block_at (i := 6) h5.out rfl
        have k7 := block_at (i := 7) h5.out rfl
        have k8 := block_at (i := 8) h5.out rfl
        have k9 := block_at (i := 9) h5.out rfl
        have fR : ∀ i, w20.frozen? ⟨g5, i, none⟩ = false := fun i => by simp [World.frozen?, h5.out]
        refine stepB 7 rfl (by decide +kernel) (by rfl) ?_
        intro K hK
        go_simp
        have bb : Below B0 w20 ((((((((((w20.setCell ⟨g5, 0, none⟩ (.int .u8 (q.pid : Int))).setCell ⟨g5, 1, none⟩ (.int .u8 (q.addr : Int))).setCell ⟨g5, 2, none⟩ (.int .u8 (q.endp : Int))).setCell ⟨g5, 3, none⟩ (.int .u16 (q.frame : Int))).setCell ⟨g5, 4, none⟩ (.int .u8 (q.hub : Int))).setCell ⟨g5, 5, none⟩ (.int .u8 (q.port : Int))).setCell ⟨g5, 6, none⟩ (.bool q.comp)).setCell ⟨g5, 7, none⟩ (.bool q.low)).setCell ⟨g5, 8, none⟩ (.int .u8 (q.kind : Int))).setCell ⟨g5, 9, none⟩ (.slice A3 vs.length c3)) := below10 (.int .u8 (q.pid : Int)) (.int .u8 (q.addr : Int)) (.int .u8 (q.endp : Int)) (.int .u16 (q.frame : Int)) (.int .u8 (q.hub : Int)) (.int .u8 (q.port : Int)) (.bool q.comp) (.bool q.low) (.int .u8 (q.kind : Int)) (.slice A3 vs.length c3) (Below.refl _ w20) hg5.out
        refine hK _ _ bb ?_
        have gg : w20.grownBy ((((((((((w20.setCell ⟨g5, 0, none⟩ (.int .u8 (q.pid : Int))).setCell ⟨g5, 1, none⟩ (.int .u8 (q.addr : Int))).setCell ⟨g5, 2, none⟩ (.int .u8 (q.endp : Int))).setCell ⟨g5, 3, none⟩ (.int .u16 (q.frame : Int))).setCell ⟨g5, 4, none⟩ (.int .u8 (q.hub : Int))).setCell ⟨g5, 5, none⟩ (.int .u8 (q.port : Int))).setCell ⟨g5, 6, none⟩ (.bool q.comp)).setCell ⟨g5, 7, none⟩ (.bool q.low)).setCell ⟨g5, 8, none⟩ (.int .u8 (q.kind : Int))).setCell ⟨g5, 9, none⟩ (.slice A3 vs.length c3)) (some g5) := grown10 w20 g5 (.int .u8 (q.pid : Int)) (.int .u8 (q.addr : Int)) (.int .u8 (q.endp : Int)) (.int .u16 (q.frame : Int)) (.int .u8 (q.hub : Int)) (.int .u8 (q.port : Int)) (.bool q.comp) (.bool q.low) (.int .u8 (q.kind : Int)) (.slice A3 vs.length c3)
        replace h4 := Lib.hid ((gg.block _ (lt_of_block h4.out) (fun e => by injection e with e; exact m45.out e)).trans h4.out)
        replace h5 : Hid (((((((((((w20.setCell ⟨g5, 0, none⟩ (.int .u8 (q.pid : Int))).setCell ⟨g5, 1, none⟩ (.int .u8 (q.addr : Int))).setCell ⟨g5, 2, none⟩ (.int .u8 (q.endp : Int))).setCell ⟨g5, 3, none⟩ (.int .u16 (q.frame : Int))).setCell ⟨g5, 4, none⟩ (.int .u8 (q.hub : Int))).setCell ⟨g5, 5, none⟩ (.int .u8 (q.port : Int))).setCell ⟨g5, 6, none⟩ (.bool q.comp)).setCell ⟨g5, 7, none⟩ (.bool q.low)).setCell ⟨g5, 8, none⟩ (.int .u8 (q.kind : Int))).setCell ⟨g5, 9, none⟩ (.slice A3 vs.length c3)).heap[g5]? = _) := store10 _ _ _ _ _ _ _ _ _ _ (.int .u8 (q.pid : Int)) (.int .u8 (q.addr : Int)) (.int .u8 (q.endp : Int)) (.int .u16 (q.frame : Int)) (.int .u8 (q.hub : Int)) (.int .u8 (q.port : Int)) (.bool q.comp) (.bool q.low) (.int .u8 (q.kind : Int)) (.slice A3 vs.length c3) h5.out
        replace o1 := Lib.hid (own_apart o1.out gg m14.out.2)
        replace o3 := Lib.hid (own_apart o3.out gg m34.out.2)
        replace hB := Lib.hid (hB.out.trans bb)
        clear hK K bb gg fR k0 k1 k2 k3 k4 k5 k6 k7 k8 k9
        try simp only [Act.put, List.setIfInBounds_toArray, List.set_cons_zero, List.set_cons_succ]
        generalize ((((((((((w20.setCell ⟨g5, 0, none⟩ (.int .u8 (q.pid : Int))).setCell ⟨g5, 1, none⟩ (.int .u8 (q.addr : Int))).setCell ⟨g5, 2, none⟩ (.int .u8 (q.endp : Int))).setCell ⟨g5, 3, none⟩ (.int .u16 (q.frame : Int))).setCell ⟨g5, 4, none⟩ (.int .u8 (q.hub : Int))).setCell ⟨g5, 5, none⟩ (.int .u8 (q.port : Int))).setCell ⟨g5, 6, none⟩ (.bool q.comp)).setCell ⟨g5, 7, none⟩ (.bool q.low)).setCell ⟨g5, 8, none⟩ (.int .u8 (q.kind : Int))).setCell ⟨g5, 9, none⟩ (.slice A3 vs.length c3)) = w21 at h4 h5 o1 o3 hB ⊢
        refine doneB (by kernel_rfl) ?_
        exact ⟨r, q, us, vs, A1, A3, c1, c3, g4, g5, pf1.out, pf3.out, rfl, hw0.out.trans (hB.out.mono h0B.out), h4.out, h5.out, Rd.of_own_at o1.out, Rd.of_own_at o3.out⟩
    · clear hi
      refine ⟨_, rfl, by rfl, ?_⟩
      intro K hK
      go_simp
      have bb := (Below.refl w0.heap.size w0).alloc (Nat.le_refl _) (.cells #[.int .u8 0, .int .u8 0, .int .u8 0, .int .u16 0, .int .u8 0, .int .u8 0, .bool false, .bool false, .int .u8 0, .slice none 0 0] 29)
      refine hK _ _ (bb.mono hS.out) ?_
      have h5 := Lib.hid (heap_alloc_new w0 (.cells #[.int .u8 0, .int .u8 0, .int .u8 0, .int .u16 0, .int .u8 0, .int .u8 0, .bool false, .bool false, .int .u8 0, .slice none 0 0] 29))
      have hg5 := Lib.hid hS.out
      replace hB := Lib.hid (hB.out.trans (bb.mono hS.out))
      replace hS := Lib.hid (Nat.le_trans hS.out bb.size)
      clear hK K bb
      try simp only [Act.put, List.setIfInBounds_toArray, List.set_cons_zero, List.set_cons_succ]
      generalize w0.alloc (.cells #[.int .u8 0, .int .u8 0, .int .u8 0, .int .u16 0, .int .u8 0, .int .u8 0, .bool false, .bool false, .int .u8 0, .slice none 0 0] 29) = w1 at h5 hB hS ⊢
      generalize w0.heap.size = g5 at h5 hg5 ⊢
      refine stepBA [1, 4] (by decide +kernel) (by decide) ?_
      intro i hi
      rcases (by simpa using hi : i = 1 ∨ i = 4) with rfl | rfl
      · clear hi
        refine ⟨_, rfl, by rfl, ?_⟩
        intro K hK
        go_simp
        obtain ⟨r, us, ok1, hf1, hl1, KP1⟩ := pkt_any w1 wt a b fr fl hwt ha hb hfr hfl A c xs ((HX.out.below hB.out).more hS.out) (by omega)
        simp only [xcells, ResX, pcells] at KP1
        refine KP1.mono ?_
        rintro e w2 ⟨v, rfl, o, bb⟩
        obtain ⟨A1, c1, rfl, _⟩ := Rd.of_own o
        refine hK _ _ (bb.mono hS.out) ?_
        have n15 := Lib.hid (own_ne_old o (lt_of_block h5.out))
        replace h5 := Lib.hid ((bb.block _ (lt_of_block h5.out)).trans h5.out)
        have o1 := Lib.hid (own_base o hS.out)
        replace hB := Lib.hid (hB.out.trans (bb.mono hS.out))
        replace hS := Lib.hid (Nat.le_trans hS.out bb.size)
        have pf1 := Lib.hid (And.intro ok1 (And.intro hf1 hl1))
        clear hK K bb o ok1 hf1 hl1 KP1
        try simp only [Act.put, List.setIfInBounds_toArray, List.set_cons_zero, List.set_cons_succ]
        refine stepBA [3, 4] (by decide +kernel) (by decide) ?_
        intro i hi
        rcases (by simpa using hi : i = 3 ∨ i = 4) with rfl | rfl
        · clear hi
          refine ⟨_, rfl, by rfl, ?_⟩
          intro K hK
          go_simp
          obtain ⟨q, vs, ok3, hf3, hl3, KP3⟩ := pkt_any w2 wt' a' b' fr' fl' hw'.out.1 hw'.out.2.1 hw'.out.2.2.1 hw'.out.2.2.2.1 hw'.out.2.2.2.2 A' c' ys ((HY.out.below hB.out).more hS.out) (by have := Hl.out; omega)
          simp only [xcells, ResX, pcells] at KP3
          refine KP3.mono ?_
          rintro e w3 ⟨v, rfl, o, bb⟩
          obtain ⟨A3, c3, rfl, _⟩ := Rd.of_own o
          refine hK _ _ (bb.mono hS.out) ?_
          have n35 := Lib.hid (own_ne_old o (lt_of_block h5.out))
          replace h5 := Lib.hid ((bb.block _ (lt_of_block h5.out)).trans h5.out)
          replace o1 := Lib.hid (own_below o1.out bb)
          have o3 := Lib.hid (own_base o hS.out)
          replace hB := Lib.hid (hB.out.trans (bb.mono hS.out))
          replace hS := Lib.hid (Nat.le_trans hS.out bb.size)
          have pf3 := Lib.hid (And.intro ok3 (And.intro hf3 hl3))
          clear hK K bb o ok3 hf3 hl3 KP3
          try simp only [Act.put, List.setIfInBounds_toArray, List.set_cons_zero, List.set_cons_succ]
          refine stepBA [4] (by decide +kernel) (by decide) ?_
          intro i hi
          obtain rfl : i = 4 := by simpa using hi
          clear hi
          refine ⟨_, rfl, by rfl, ?_⟩
          intro K hK
          go_simp
          have bb := (Below.refl w3.heap.size w3).alloc (Nat.le_refl _) (.cells #[.int .u8 0, .int .u8 0, .int .u8 0, .int .u16 0, .int .u8 0, .int .u8 0, .bool false, .bool false, .int .u8 0, .slice none 0 0] 29)
          refine hK _ _ (bb.mono hS.out) ?_
          have h4 := Lib.hid (heap_alloc_new w3 (.cells #[.int .u8 0, .int .u8 0, .int .u8 0, .int .u16 0, .int .u8 0, .int .u8 0, .bool false, .bool false, .int .u8 0, .slice none 0 0] 29))
          have hg4 := Lib.hid hS.out
          have n14 := Lib.hid (own_ne_new o1.out)
          replace o1 := Lib.hid (own_below o1.out bb)
          have n34 := Lib.hid (own_ne_new o3.out)
          replace o3 := Lib.hid (own_below o3.out bb)
          have ne := Lib.hid (show g5 ≠ w3.heap.size from Nat.ne_of_lt (lt_of_block h5.out))
          replace h5 := Lib.hid ((bb.block _ (lt_of_block h5.out)).trans h5.out)
          replace hB := Lib.hid (hB.out.trans (bb.mono hS.out))
          replace hS := Lib.hid (Nat.le_trans hS.out bb.size)
          clear hK K bb
          try simp only [Act.put, List.setIfInBounds_toArray, List.set_cons_zero, List.set_cons_succ]
          generalize w3.alloc (.cells #[.int .u8 0, .int .u8 0, .int .u8 0, .int .u16 0, .int .u8 0, .int .u8 0, .bool false, .bool false, .int .u8 0, .slice none 0 0] 29) = w4 at h4 hB hS o1 o3 h5 ⊢
          generalize w3.heap.size = g4 at h4 hg4 n14 n34 ne ⊢
          have m14 := Lib.hid (And.intro n14.out n15.out)
          have m34 := Lib.hid (And.intro n34.out n35.out)
          have m45 : Hid (g4 ≠ g5) := ne.out.symm
          clear n14 n15 n34 n35 ne
          have k0 := block_at (i := 0) h4.out rfl
          have k1 := block_at (i := 1) h4.out rfl
          have k2 := block_at (i := 2) h4.out rfl
          have k3 := block_at (i := 3) h4.out rfl
          have k4 := block_at (i := 4) h4.out rfl
          have k5 := block_at (i := 5) h4.out rfl
          have k6 := block_at (i := 6) h4.out rfl
          have k7 := block_at (i := 7) h4.out rfl
          have k8 := block_at (i := 8) h4.out rfl
          have k9 := block_at (i := 9) h4.out rfl
          have fR : ∀ i, w4.frozen? ⟨g4, i, none⟩ = false := fun i => by simp [World.frozen?, h4.out]
          refine stepB 6 rfl (by decide +kernel) (by rfl) ?_
          intro K hK
          go_simp
          have bb : Below B0 w4 ((((((((((w4.setCell ⟨g4, 0, none⟩ (.int .u8 (r.pid : Int))).setCell ⟨g4, 1, none⟩ (.int .u8 (r.addr : Int))).setCell ⟨g4, 2, none⟩ (.int .u8 (r.endp : Int))).setCell ⟨g4, 3, none⟩ (.int .u16 (r.frame : Int))).setCell ⟨g4, 4, none⟩ (.int .u8 (r.hub : Int))).setCell ⟨g4, 5, none⟩ (.int .u8 (r.port : Int))).setCell ⟨g4, 6, none⟩ (.bool r.comp)).setCell ⟨g4, 7, none⟩ (.bool r.low)).setCell ⟨g4, 8, none⟩ (.int .u8 (r.kind : Int))).setCell ⟨g4, 9, none⟩ (.slice A1 us.length c1)) := below10 (.int .u8 (r.pid : Int)) (.int .u8 (r.addr : Int)) (.int .u8 (r.endp : Int)) (.int .u16 (r.frame : Int)) (.int .u8 (r.hub : Int)) (.int .u8 (r.port : Int)) (.bool r.comp) (.bool r.low) (.int .u8 (r.kind : Int)) (.slice A1 us.length c1) (Below.refl _ w4) hg4.out
          refine hK _ _ bb ?_
          have gg : w4.grownBy ((((((((((w4.setCell ⟨g4, 0, none⟩ (.int .u8 (r.pid : Int))).setCell ⟨g4, 1, none⟩ (.int .u8 (r.addr : Int))).setCell ⟨g4, 2, none⟩ (.int .u8 (r.endp : Int))).setCell ⟨g4, 3, none⟩ (.int .u16 (r.frame : Int))).setCell ⟨g4, 4, none⟩ (.int .u8 (r.hub : Int))).setCell ⟨g4, 5, none⟩ (.int .u8 (r.port : Int))).setCell ⟨g4, 6, none⟩ (.bool r.comp)).setCell ⟨g4, 7, none⟩ (.bool r.low)).setCell ⟨g4, 8, none⟩ (.int .u8 (r.kind : Int))).setCell ⟨g4, 9, none⟩ (.slice A1 us.length c1)) (some g4) := grown10 w4 g4 (.int .u8 (r.pid : Int)) (.int .u8 (r.addr : Int)) (.int .u8 (r.endp : Int)) (.int .u16 (r.frame : Int)) (.int .u8 (r.hub : Int)) (.int .u8 (r.port : Int)) (.bool r.comp) (.bool r.low) (.int .u8 (r.kind : Int)) (.slice A1 us.length c1)
          replace h5 := Lib.hid ((gg.block _ (lt_of_block h5.out) (fun e => by injection e with e; exact m45.out e.symm)).trans h5.out)
          replace h4 : Hid (((((((((((w4.setCell ⟨g4, 0, none⟩ (.int .u8 (r.pid : Int))).setCell ⟨g4, 1, none⟩ (.int .u8 (r.addr : Int))).setCell ⟨g4, 2, none⟩ (.int .u8 (r.endp : Int))).setCell ⟨g4, 3, none⟩ (.int .u16 (r.frame : Int))).setCell ⟨g4, 4, none⟩ (.int .u8 (r.hub : Int))).setCell ⟨g4, 5, none⟩ (.int .u8 (r.port : Int))).setCell ⟨g4, 6, none⟩ (.bool r.comp)).setCell ⟨g4, 7, none⟩ (.bool r.low)).setCell ⟨g4, 8, none⟩ (.int .u8 (r.kind : Int))).setCell ⟨g4, 9, none⟩ (.slice A1 us.length c1)).heap[g4]? = _) := store10 _ _ _ _ _ _ _ _ _ _ (.int .u8 (r.pid : Int)) (.int .u8 (r.addr : Int)) (.int .u8 (r.endp : Int)) (.int .u16 (r.frame : Int)) (.int .u8 (r.hub : Int)) (.int .u8 (r.port : Int)) (.bool r.comp) (.bool r.low) (.int .u8 (r.kind : Int)) (.slice A1 us.length c1) h4.out
          replace o1 := Lib.hid (own_apart o1.out gg m14.out.1)
          replace o3 := Lib.hid (own_apart o3.out gg m34.out.1)
          replace hB := Lib.hid (hB.out.trans bb)
          clear hK K bb gg fR k0 k1 k2 k3 k4 k5 k6 k7 k8 k9
          try simp only [Act.put, List.setIfInBounds_toArray, List.set_cons_zero, List.set_cons_succ]
          generalize ((((((((((w4.setCell ⟨g4, 0, none⟩ (.int .u8 (r.pid : Int))).setCell ⟨g4, 1, none⟩ (.int .u8 (r.addr : Int))).setCell ⟨g4, 2, none⟩ (.int .u8 (r.endp : Int))).setCell ⟨g4, 3, none⟩ (.int .u16 (r.frame : Int))).setCell ⟨g4, 4, none⟩ (.int .u8 (r.hub : Int))).setCell ⟨g4, 5, none⟩ (.int .u8 (r.port : Int))).setCell ⟨g4, 6, none⟩ (.bool r.comp)).setCell ⟨g4, 7, none⟩ (.bool r.low)).setCell ⟨g4, 8, none⟩ (.int .u8 (r.kind : Int))).setCell ⟨g4, 9, none⟩ (.slice A1 us.length c1)) = w20 at h4 h5 o1 o3 hB ⊢
          have k0 := block_at (i := 0) h5.out rfl
          have k1 := block_at (i := 1) h5.out rfl
          have k2 := block_at (i := 2) h5.out rfl
          have k3 := block_at (i := 3) h5.out rfl
          have k4 := block_at (i := 4) h5.out rfl
          have k5 := block_at (i := 5) h5.out rfl
          have k6 := block_at (i := 6) h5.out rfl
          have k7 := block_at (i := 7) h5.out rfl
          have k8 := block_at (i := 8) h5.out rfl
          have k9 := block_at (i := 9) h5.out rfl
          have fR : ∀ i, w20.frozen? ⟨g5, i, none⟩ = false := fun i => by simp [World.frozen?, h5.out]
          refine stepB 7 rfl (by decide +kernel) (by rfl) ?_
          intro K hK
          go_simp
          have bb : Below B0 w20 ((((((((((w20.setCell ⟨g5, 0, none⟩ (.int .u8 (q.pid : Int))).setCell ⟨g5, 1, none⟩ (.int .u8 (q.addr : Int))).setCell ⟨g5, 2, none⟩ (.int .u8 (q.endp : Int))).setCell ⟨g5, 3, none⟩ (.int .u16 (q.frame : Int))).setCell ⟨g5, 4, none⟩ (.int .u8 (q.hub : Int))).setCell ⟨g5, 5, none⟩ (.int .u8 (q.port : Int))).setCell ⟨g5, 6, none⟩ (.bool q.comp)).setCell ⟨g5, 7, none⟩ (.bool q.low)).setCell ⟨g5, 8, none⟩ (.int .u8 (q.kind : Int))).setCell ⟨g5, 9, none⟩ (.slice A3 vs.length c3)) := below10 (.int .u8 (q.pid : Int)) (.int .u8 (q.addr : Int)) (.int .u8 (q.endp : Int)) (.int .u16 (q.frame : Int)) (.int .u8 (q.hub : Int)) (.int .u8 (q.port : Int)) (.bool q.comp) (.bool q.low) (.int .u8 (q.kind : Int)) (.slice A3 vs.length c3) (Below.refl _ w20) hg5.out
          refine hK _ _ bb ?_
          have gg : w20.grownBy ((((((((((w20.setCell ⟨g5, 0, none⟩ (.int .u8 (q.pid : Int))).setCell ⟨g5, 1, none⟩ (.int .u8 (q.addr : Int))).setCell ⟨g5, 2, none⟩ (.int .u8 (q.endp : Int))).setCell ⟨g5, 3, none⟩ (.int .u16 (q.frame : Int))).setCell ⟨g5, 4, none⟩ (.int .u8 (q.hub : Int))).setCell ⟨g5, 5, none⟩ (.int .u8 (q.port : Int))).setCell ⟨g5, 6, none⟩ (.bool q.comp)).setCell ⟨g5, 7, none⟩ (.bool q.low)).setCell ⟨g5, 8, none⟩ (.int .u8 (q.kind : Int))).setCell ⟨g5, 9, none⟩ (.slice A3 vs.length c3)) (some g5) := grown10 w20 g5 (.int .u8 (q.pid : Int)) (.int .u8 (q.addr : Int)) (.int .u8 (q.endp : Int)) (.int .u16 (q.frame : Int)) (.int .u8 (q.hub : Int)) (.int .u8 (q.port : Int)) (.bool q.comp) (.bool q.low) (.int .u8 (q.kind : Int)) (.slice A3 vs.length c3)
          replace h4 := Lib.hid ((gg.block _ (lt_of_block h4.out) (fun e => by injection e with e; exact m45.out e)).trans h4.out)
          replace h5 : Hid (((((((((((w20.setCell ⟨g5, 0, none⟩ (.int .u8 (q.pid : Int))).setCell ⟨g5, 1, none⟩ (.int .u8 (q.addr : Int))).setCell ⟨g5, 2, none⟩ (.int .u8 (q.endp : Int))).setCell ⟨g5, 3, none⟩ (.int .u16 (q.frame : Int))).setCell ⟨g5, 4, none⟩ (.int .u8 (q.hub : Int))).setCell ⟨g5, 5, none⟩ (.int .u8 (q.port : Int))).setCell ⟨g5, 6, none⟩ (.bool q.comp)).setCell ⟨g5, 7, none⟩ (.bool q.low)).setCell ⟨g5, 8, none⟩ (.int .u8 (q.kind : Int))).setCell ⟨g5, 9, none⟩ (.slice A3 vs.length c3)).heap[g5]? = _) := store10 _ _ _ _ _ _ _ _ _ _ (.int .u8 (q.pid : Int)) (.int .u8 (q.addr : Int)) (.int .u8 (q.endp : Int)) (.int .u16 (q.frame : Int)) (.int .u8 (q.hub : Int)) (.int .u8 (q.port : Int)) (.bool q.comp) (.bool q.low) (.int .u8 (q.kind : Int)) (.slice A3 vs.length c3) h5.out
          replace o1 := Lib.hid (own_apart o1.out gg m14.out.2)
          replace o3 := Lib.hid (own_apart o3.out gg m34.out.2)
          replace hB := Lib.hid (hB.out.trans bb)
          clear hK K bb gg fR k0 k1 k2 k3 k4 k5 k6 k7 k8 k9
          try simp only [Act.put, List.setIfInBounds_toArray, List.set_cons_zero, List.set_cons_succ]
          generalize ((((((((((w20.setCell ⟨g5, 0, none⟩ (.int .u8 (q.pid : Int))).setCell ⟨g5, 1, none⟩ (.int .u8 (q.addr : Int))).setCell ⟨g5, 2, none⟩ (.int .u8 (q.endp : Int))).setCell ⟨g5, 3, none⟩ (.int .u16 (q.frame : Int))).setCell ⟨g5, 4, none⟩ (.int .u8 (q.hub : Int))).setCell ⟨g5, 5, none⟩ (.int .u8 (q.port : Int))).setCell ⟨g5, 6, none⟩ (.bool q.comp)).setCell ⟨g5, 7, none⟩ (.bool q.low)).setCell ⟨g5, 8, none⟩ (.int .u8 (q.kind : Int))).setCell ⟨g5, 9, none⟩ (.slice A3 vs.length c3)) = w21 at h4 h5 o1 o3 hB ⊢
          refine doneB (by kernel_rfl) ?_
          exact ⟨r, q, us, vs, A1, A3, c1, c3, g4, g5, pf1.out, pf3.out, rfl, hw0.out.trans (hB.out.mono h0B.out), h4.out, h5.out, Rd.of_own_at o1.out, Rd.of_own_at o3.out⟩
        · clear hi
          refine ⟨_, rfl, by rfl, ?_⟩
          intro K hK
          go_simp
          have bb := (Below.refl w2.heap.size w2).alloc (Nat.le_refl _) (.cells #[.int .u8 0, .int .u8 0, .int .u8 0, .int .u16 0, .int .u8 0, .int .u8 0, .bool false, .bool false, .int .u8 0, .slice none 0 0] 29)
          refine hK _ _ (bb.mono hS.out) ?_
          have h4 := Lib.hid (heap_alloc_new w2 (.cells #[.int .u8 0, .int .u8 0, .int .u8 0, .int .u16 0, .int .u8 0, .int .u8 0, .bool false, .bool false, .int .u8 0, .slice none 0 0] 29))
          have hg4 := Lib.hid hS.out
          have n14 := Lib.hid (own_ne_new o1.out)
          replace o1 := Lib.hid (own_below o1.out bb)
          have ne := Lib.hid (show g5 ≠ w2.heap.size from Nat.ne_of_lt (lt_of_block h5.out))
          replace h5 := Lib.hid ((bb.block _ (lt_of_block h5.out)).trans h5.out)
          replace hB := Lib.hid (hB.out.trans (bb.mono hS.out))
          replace hS := Lib.hid (Nat.le_trans hS.out bb.size)
          clear hK K bb
          try simp only [Act.put, List.setIfInBounds_toArray, List.set_cons_zero, List.set_cons_succ]
          generalize w2.alloc (.cells #[.int .u8 0, .int .u8 0, .int .u8 0, .int .u16 0, .int .u8 0, .int .u8 0, .bool false, .bool false, .int .u8 0, .slice none 0 0] 29) = w3 at h4 hB hS o1 h5 ⊢
          generalize w2.heap.size = g4 at h4 hg4 n14 ne ⊢
          refine stepBA [3] (by decide +kernel) (by decide) ?_
          intro i hi
          obtain rfl : i = 3 := by simpa using hi
          clear hi
          refine ⟨_, rfl, by rfl, ?_⟩
          intro K hK
          go_simp
          obtain ⟨q, vs, ok3, hf3, hl3, KP3⟩ := pkt_any w3 wt' a' b' fr' fl' hw'.out.1 hw'.out.2.1 hw'.out.2.2.1 hw'.out.2.2.2.1 hw'.out.2.2.2.2 A' c' ys ((HY.out.below hB.out).more hS.out) (by have := Hl.out; omega)
          simp only [xcells, ResX, pcells] at KP3
          refine KP3.mono ?_
          rintro e w4 ⟨v, rfl, o, bb⟩
          obtain ⟨A3, c3, rfl, _⟩ := Rd.of_own o
          refine hK _ _ (bb.mono hS.out) ?_
          have n34 := Lib.hid (own_ne_old o (lt_of_block h4.out))
          replace h4 := Lib.hid ((bb.block _ (lt_of_block h4.out)).trans h4.out)
          have n35 := Lib.hid (own_ne_old o (lt_of_block h5.out))
          replace h5 := Lib.hid ((bb.block _ (lt_of_block h5.out)).trans h5.out)
          replace o1 := Lib.hid (own_below o1.out bb)
          have o3 := Lib.hid (own_base o hS.out)
          replace hB := Lib.hid (hB.out.trans (bb.mono hS.out))
          replace hS := Lib.hid (Nat.le_trans hS.out bb.size)
          have pf3 := Lib.hid (And.intro ok3 (And.intro hf3 hl3))
          clear hK K bb o ok3 hf3 hl3 KP3
          try simp only [Act.put, List.setIfInBounds_toArray, List.set_cons_zero, List.set_cons_succ]
          have m14 := Lib.hid (And.intro n14.out n15.out)
          have m34 := Lib.hid (And.intro n34.out n35.out)
          have m45 : Hid (g4 ≠ g5) := ne.out.symm
          clear n14 n15 n34 n35 ne
          have k0 := block_at (i := 0) h4.out rfl
          have k1 := block_at (i := 1) h4.out rfl
          have k2 := block_at (i := 2) h4.out rfl
          have k3 := block_at (i := 3) h4.out rfl
          have k4 := block_at (i := 4) h4.out rfl
          have k5 := block_at (i := 5) h4.out rfl
          have k6 := block_at (i := 6) h4.out rfl
          have k7 := block_at (i := 7) h4.out rfl
          have k8 := block_at (i := 8) h4.out rfl
          have k9 := block_at (i := 9) h4.out rfl
          have fR : ∀ i, w4.frozen? ⟨g4, i, none⟩ = false := fun i => by simp [World.frozen?, h4.out]
          refine stepB 6 rfl (by decide +kernel) (by rfl) ?_
          intro K hK
          go_simp
          have bb : Below B0 w4 ((((((((((w4.setCell ⟨g4, 0, none⟩ (.int .u8 (r.pid : Int))).setCell ⟨g4, 1, none⟩ (.int .u8 (r.addr : Int))).setCell ⟨g4, 2, none⟩ (.int .u8 (r.endp : Int))).setCell ⟨g4, 3, none⟩ (.int .u16 (r.frame : Int))).setCell ⟨g4, 4, none⟩ (.int .u8 (r.hub : Int))).setCell ⟨g4, 5, none⟩ (.int .u8 (r.port : Int))).setCell ⟨g4, 6, none⟩ (.bool r.comp)).setCell ⟨g4, 7, none⟩ (.bool r.low)).setCell ⟨g4, 8, none⟩ (.int .u8 (r.kind : Int))).setCell ⟨g4, 9, none⟩ (.slice A1 us.length c1)) := below10 (.int .u8 (r.pid : Int)) (.int .u8 (r.addr : Int)) (.int .u8 (r.endp : Int)) (.int .u16 (r.frame : Int)) (.int .u8 (r.hub : Int)) (.int .u8 (r.port : Int)) (.bool r.comp) (.bool r.low) (.int .u8 (r.kind : Int)) (.slice A1 us.length c1) (Below.refl _ w4) hg4.out
          refine hK _ _ bb ?_
          have gg : w4.grownBy ((((((((((w4.setCell ⟨g4, 0, none⟩ (.int .u8 (r.pid : Int))).setCell ⟨g4, 1, none⟩ (.int .u8 (r.addr : Int))).setCell ⟨g4, 2, none⟩ (.int .u8 (r.endp : Int))).setCell ⟨g4, 3, none⟩ (.int .u16 (r.frame : Int))).setCell ⟨g4, 4, none⟩ (.int .u8 (r.hub : Int))).setCell ⟨g4, 5, none⟩ (.int .u8 (r.port : Int))).setCell ⟨g4, 6, none⟩ (.bool r.comp)).setCell ⟨g4, 7, none⟩ (.bool r.low)).setCell ⟨g4, 8, none⟩ (.int .u8 (r.kind : Int))).setCell ⟨g4, 9, none⟩ (.slice A1 us.length c1)) (some g4) := grown10 w4 g4 (.int .u8 (r.pid : Int)) (.int .u8 (r.addr : Int)) (.int .u8 (r.endp : Int)) (.int .u16 (r.frame : Int)) (.int .u8 (r.hub : Int)) (.int .u8 (r.port : Int)) (.bool r.comp) (.bool r.low) (.int .u8 (r.kind : Int)) (.slice A1 us.length c1)
          replace h5 := Lib.hid ((gg.block _ (lt_of_block h5.out) (fun e => by injection e with e; exact m45.out e.symm)).trans h5.out)
          replace h4 : Hid (((((((((((w4.setCell ⟨g4, 0, none⟩ (.int .u8 (r.pid : Int))).setCell ⟨g4, 1, none⟩ (.int .u8 (r.addr : Int))).setCell ⟨g4, 2, none⟩ (.int .u8 (r.endp : Int))).setCell ⟨g4, 3, none⟩ (.int .u16 (r.frame : Int))).setCell ⟨g4, 4, none⟩ (.int .u8 (r.hub : Int))).setCell ⟨g4, 5, none⟩ (.int .u8 (r.port : Int))).setCell ⟨g4, 6, none⟩ (.bool r.comp)).setCell ⟨g4, 7, none⟩ (.bool r.low)).setCell ⟨g4, 8, none⟩ (.int .u8 (r.kind : Int))).setCell ⟨g4, 9, none⟩ (.slice A1 us.length c1)).heap[g4]? = _) := store10 _ _ _ _ _ _ _ _ _ _ (.int .u8 (r.pid : Int)) (.int .u8 (r.addr : Int)) (.int .u8 (r.endp : Int)) (.int .u16 (r.frame : Int)) (.int .u8 (r.hub : Int)) (.int .u8 (r.port : Int)) (.bool r.comp) (.bool r.low) (.int .u8 (r.kind : Int)) (.slice A1 us.length c1) h4.out
          replace o1 := Lib.hid (own_apart o1.out gg m14.out.1)
          replace o3 := Lib.hid (own_apart o3.out gg m34.out.1)
          replace hB := Lib.hid (hB.out.trans bb)
          clear hK K bb gg fR k0 k1 k2 k3 k4 k5 k6 k7 k8 k9
          try simp only [Act.put, List.setIfInBounds_toArray, List.set_cons_zero, List.set_cons_succ]
          generalize ((((((((((w4.setCell ⟨g4, 0, none⟩ (.int .u8 (r.pid : Int))).setCell ⟨g4, 1, none⟩ (.int .u8 (r.addr : Int))).setCell ⟨g4, 2, none⟩ (.int .u8 (r.endp : Int))).setCell ⟨g4, 3, none⟩ (.int .u16 (r.frame : Int))).setCell ⟨g4, 4, none⟩ (.int .u8 (r.hub : Int))).setCell ⟨g4, 5, none⟩ (.int .u8 (r.port : Int))).setCell ⟨g4, 6, none⟩ (.bool r.comp)).setCell ⟨g4, 7, none⟩ (.bool r.low)).setCell ⟨g4, 8, none⟩ (.int .u8 (r.kind : Int))).setCell ⟨g4, 9, none⟩ (.slice A1 us.length c1)) = w20 at h4 h5 o1 o3 hB ⊢
          have k0 := block_at (i := 0) h5.out rfl
          have k1 := block_at (i := 1) h5.out rfl
          have k2 := block_at (i := 2) h5.out rfl
          have k3 := block_at (i := 3) h5.out rfl
          have k4 := block_at (i := 4) h5.out rfl
          have k5 := block_at (i := 5) h5.out rfl
          have k6 := block_at (i := 6) h5.out rfl
          have k7 := block_at (i := 7) h5.out rfl
          have k8 := block_at (i := 8) h5.out rfl
          have k9 := block_at (i := 9) h5.out rfl
          have fR : ∀ i, w20.frozen? ⟨g5, i, none⟩ = false := fun i => by simp [World.frozen?, h5.out]
          refine stepB 7 rfl (by decide +kernel) (by rfl) ?_
          intro K hK
          go_simp
          have bb : Below B0 w20 ((((((((((w20.setCell ⟨g5, 0, none⟩ (.int .u8 (q.pid : Int))).setCell ⟨g5, 1, none⟩ (.int .u8 (q.addr : Int))).setCell ⟨g5, 2, none⟩ (.int .u8 (q.endp : Int))).setCell ⟨g5, 3, none⟩ (.int .u16 (q.frame : Int))).setCell ⟨g5, 4, none⟩ (.int .u8 (q.hub : Int))).setCell ⟨g5, 5, none⟩ (.int .u8 (q.port : Int))).setCell ⟨g5, 6, none⟩ (.bool q.comp)).setCell ⟨g5, 7, none⟩ (.bool q.low)).setCell ⟨g5, 8, none⟩ (.int .u8 (q.kind : Int))).setCell ⟨g5, 9, none⟩ (.slice A3 vs.length c3)) := below10 (.int .u8 (q.pid : Int)) (.int .u8 (q.addr : Int)) (.int .u8 (q.endp : Int)) (.int .u16 (q.frame : Int)) (.int .u8 (q.hub : Int)) (.int .u8 (q.port : Int)) (.bool q.comp) (.bool q.low) (.int .u8 (q.kind : Int)) (.slice A3 vs.length c3) (Below.refl _ w20) hg5.out
          refine hK _ _ bb ?_
          have gg : w20.grownBy ((((((((((w20.setCell ⟨g5, 0, none⟩ (.int .u8 (q.pid : Int))).setCell ⟨g5, 1, none⟩ (.int .u8 (q.addr : Int))).setCell ⟨g5, 2, none⟩ (.int .u8 (q.endp : Int))).setCell ⟨g5, 3, none⟩ (.int .u16 (q.frame : Int))).setCell ⟨g5, 4, none⟩ (.int .u8 (q.hub : Int))).setCell ⟨g5, 5, none⟩ (.int .u8 (q.port : Int))).setCell ⟨g5, 6, none⟩ (.bool q.comp)).setCell ⟨g5, 7, none⟩ (.bool q.low)).setCell ⟨g5, 8, none⟩ (.int .u8 (q.kind : Int))).setCell ⟨g5, 9, none⟩ (.slice A3 vs.length c3)) (some g5) := grown10 w20 g5 (.int .u8 (q.pid : Int)) (.int .u8 (q.addr : Int)) (.int .u8 (q.endp : Int)) (.int .u16 (q.frame : Int)) (.int .u8 (q.hub : Int)) (.int .u8 (q.port : Int)) (.bool q.comp) (.bool q.low) (.int .u8 (q.kind : Int)) (.slice A3 vs.length c3)
          replace h4 := Lib.hid ((gg.block _ (lt_of_block h4.out) (fun e => by injection e with e; exact m45.out e)).trans h4.out)
          replace h5 : Hid (((((((((((w20.setCell ⟨g5, 0, none⟩ (.int .u8 (q.pid : Int))).setCell ⟨g5, 1, none⟩ (.int .u8 (q.addr : Int))).setCell ⟨g5, 2, none⟩ (.int .u8 (q.endp : Int))).setCell ⟨g5, 3, none⟩ (.int .u16 (q.frame : Int))).setCell ⟨g5, 4, none⟩ (.int .u8 (q.hub : Int))).setCell ⟨g5, 5, none⟩ (.int .u8 (q.port : Int))).setCell ⟨g5, 6, none⟩ (.bool q.comp)).setCell ⟨g5, 7, none⟩ (.bool q.low)).setCell ⟨g5, 8, none⟩ (.int .u8 (q.kind : Int))).setCell ⟨g5, 9, none⟩ (.slice A3 vs.length c3)).heap[g5]? = _) := store10 _ _ _ _ _ _ _ _ _ _ (.int .u8 (q.pid : Int)) (.int .u8 (q.addr : Int)) (.int .u8 (q.endp : Int)) (.int .u16 (q.frame : Int)) (.int .u8 (q.hub : Int)) (.int .u8 (q.port : Int)) (.bool q.comp) (.bool q.low) (.int .u8 (q.kind : Int)) (.slice A3 vs.length c3) h5.out
          replace o1 := Lib.hid (own_apart o1.out gg m14.out.2)
          replace o3 := Lib.hid (own_apart o3.out gg m34.out.2)
          replace hB := Lib.hid (hB.out.trans bb)
          clear hK K bb gg fR k0 k1 k2 k3 k4 k5 k6 k7 k8 k9
          try simp only [Act.put, List.setIfInBounds_toArray, List.set_cons_zero, List.set_cons_succ]
          generalize ((((((((((w20.setCell ⟨g5, 0, none⟩ (.int .u8 (q.pid : Int))).setCell ⟨g5, 1, none⟩ (.int .u8 (q.addr : Int))).setCell ⟨g5, 2, none⟩ (.int .u8 (q.endp : Int))).setCell ⟨g5, 3, none⟩ (.int .u16 (q.frame : Int))).setCell ⟨g5, 4, none⟩ (.int .u8 (q.hub : Int))).setCell ⟨g5, 5, none⟩ (.int .u8 (q.port : Int))).setCell ⟨g5, 6, none⟩ (.bool q.comp)).setCell ⟨g5, 7, none⟩ (.bool q.low)).setCell ⟨g5, 8, none⟩ (.int .u8 (q.kind : Int))).setCell ⟨g5, 9, none⟩ (.slice A3 vs.length c3)) = w21 at h4 h5 o1 o3 hB ⊢
          refine doneB (by kernel_rfl) ?_
          exact ⟨r, q, us, vs, A1, A3, c1, c3, g4, g5, pf1.out, pf3.out, rfl, hw0.out.trans (hB.out.mono h0B.out), h4.out, h5.out, Rd.of_own_at o1.out, Rd.of_own_at o3.out⟩
      · clear hi
        refine ⟨_, rfl, by rfl, ?_⟩
        intro K hK
        go_simp
        have bb := (Below.refl w1.heap.size w1).alloc (Nat.le_refl _) (.cells #[.int .u8 0, .int .u8 0, .int .u8 0, .int .u16 0, .int .u8 0, .int .u8 0, .bool false, .bool false, .int .u8 0, .slice none 0 0] 29)
        refine hK _ _ (bb.mono hS.out) ?_
        have h4 := Lib.hid (heap_alloc_new w1 (.cells #[.int .u8 0, .int .u8 0, .int .u8 0, .int .u16 0, .int .u8 0, .int .u8 0, .bool false, .bool false, .int .u8 0, .slice none 0 0] 29))
        have hg4 := Lib.hid hS.out
        have ne := Lib.hid (show g5 ≠ w1.heap.size from Nat.ne_of_lt (lt_of_block h5.out))
        replace h5 := Lib.hid ((bb.block _ (lt_of_block h5.out)).trans h5.out)
        replace hB := Lib.hid (hB.out.trans (bb.mono hS.out))
        replace hS := Lib.hid (Nat.le_trans hS.out bb.size)
        clear hK K bb
        try simp only [Act.put, List.setIfInBounds_toArray, List.set_cons_zero, List.set_cons_succ]
        generalize w1.alloc (.cells #[.int .u8 0, .int .u8 0, .int .u8 0, .int .u16 0, .int .u8 0, .int .u8 0, .bool false, .bool false, .int .u8 0, .slice none 0 0] 29) = w2 at h4 hB hS h5 ⊢
        generalize w1.heap.size = g4 at h4 hg4 ne ⊢
        refine stepBA [1] (by decide +kernel) (by decide) ?_
        intro i hi
        obtain rfl : i = 1 := by simpa using hi
        clear hi
        refine ⟨_, rfl, by rfl, ?_⟩
        intro K hK
        go_simp
        obtain ⟨r, us, ok1, hf1, hl1, KP1⟩ := pkt_any w2 wt a b fr fl hwt ha hb hfr hfl A c xs ((HX.out.below hB.out).more hS.out) (by omega)
        simp only [xcells, ResX, pcells] at KP1
        refine KP1.mono ?_
        rintro e w3 ⟨v, rfl, o, bb⟩
        obtain ⟨A1, c1, rfl, _⟩ := Rd.of_own o
        refine hK _ _ (bb.mono hS.out) ?_
        have n14 := Lib.hid (own_ne_old o (lt_of_block h4.out))
        replace h4 := Lib.hid ((bb.block _ (lt_of_block h4.out)).trans h4.out)
        have n15 := Lib.hid (own_ne_old o (lt_of_block h5.out))
        replace h5 := Lib.hid ((bb.block _ (lt_of_block h5.out)).trans h5.out)
        have o1 := Lib.hid (own_base o hS.out)
        replace hB := Lib.hid (hB.out.trans (bb.mono hS.out))
        replace hS := Lib.hid (Nat.le_trans hS.out bb.size)
        have pf1 := Lib.hid (And.intro ok1 (And.intro hf1 hl1))
        clear hK K bb o ok1 hf1 hl1 KP1
        try simp only [Act.put, List.setIfInBounds_toArray, List.set_cons_zero, List.set_cons_succ]
        refine stepBA [3] (by decide +kernel) (by decide) ?_
        intro i hi
        obtain rfl : i = 3 := by simpa using hi
        clear hi
        refine ⟨_, rfl, by rfl, ?_⟩
        intro K hK
        go_simp
        obtain ⟨q, vs, ok3, hf3, hl3, KP3⟩ := pkt_any w3 wt' a' b' fr' fl' hw'.out.1 hw'.out.2.1 hw'.out.2.2.1 hw'.out.2.2.2.1 hw'.out.2.2.2.2 A' c' ys ((HY.out.below hB.out).more hS.out) (by have := Hl.out; omega)
        simp only [xcells, ResX, pcells] at KP3
        refine KP3.mono ?_
        rintro e w4 ⟨v, rfl, o, bb⟩
        obtain ⟨A3, c3, rfl, _⟩ := Rd.of_own o
        refine hK _ _ (bb.mono hS.out) ?_
        have n34 := Lib.hid (own_ne_old o (lt_of_block h4.out))
        replace h4 := Lib.hid ((bb.block _ (lt_of_block h4.out)).trans h4.out)
        have n35 := Lib.hid (own_ne_old o (lt_of_block h5.out))
        replace h5 := Lib.hid ((bb.block _ (lt_of_block h5.out)).trans h5.out)
        replace o1 := Lib.hid (own_below o1.out bb)
        have o3 := Lib.hid (own_base o hS.out)
        replace hB := Lib.hid (hB.out.trans (bb.mono hS.out))
        replace hS := Lib.hid (Nat.le_trans hS.out bb.size)
        have pf3 := Lib.hid (And.intro ok3 (And.intro hf3 hl3))
        clear hK K bb o ok3 hf3 hl3 KP3
        try simp only [Act.put, List.setIfInBounds_toArray, List.set_cons_zero, List.set_cons_succ]
        have m14 := Lib.hid (And.intro n14.out n15.out)
        have m34 := Lib.hid (And.intro n34.out n35.out)
        have m45 : Hid (g4 ≠ g5) := ne.out.symm
        clear n14 n15 n34 n35 ne
        have k0 := block_at (i := 0) h4.out rfl
        have k1 := block_at (i := 1) h4.out rfl
        have k2 := block_at (i := 2) h4.out rfl
        have k3 := block_at (i := 3) h4.out rfl
        have k4 := block_at (i := 4) h4.out rfl
        have k5 := block_at (i := 5) h4.out rfl
        have k6 := block_at (i := 6) h4.out rfl
        have k7 := block_at (i := 7) h4.out rfl
        have k8 := block_at (i := 8) h4.out rfl
        have k9 := block_at (i := 9) h4.out rfl
        have fR : ∀ i, w4.frozen? ⟨g4, i, none⟩ = false := fun i => by simp [World.frozen?, h4.out]
        refine stepB 6 rfl (by decide +kernel) (by rfl) ?_
        intro K hK
        go_simp
        have bb : Below B0 w4 ((((((((((w4.setCell ⟨g4, 0, none⟩ (.int .u8 (r.pid : Int))).setCell ⟨g4, 1, none⟩ (.int .u8 (r.addr : Int))).setCell ⟨g4, 2, none⟩ (.int .u8 (r.endp : Int))).setCell ⟨g4, 3, none⟩ (.int .u16 (r.frame : Int))).setCell ⟨g4, 4, none⟩ (.int .u8 (r.hub : Int))).setCell ⟨g4, 5, none⟩ (.int .u8 (r.port : Int))).setCell ⟨g4, 6, none⟩ (.bool r.comp)).setCell ⟨g4, 7, none⟩ (.bool r.low)).setCell ⟨g4, 8, none⟩ (.int .u8 (r.kind : Int))).setCell ⟨g4, 9, none⟩ (.slice A1 us.length c1)) := below10 (.int .u8 (r.pid : Int)) (.int .u8 (r.addr : Int)) (.int .u8 (r.endp : Int)) (.int .u16 (r.frame : Int)) (.int .u8 (r.hub : Int)) (.int .u8 (r.port : Int)) (.bool r.comp) (.bool r.low) (.int .u8 (r.kind : Int)) (.slice A1 us.length c1) (Below.refl _ w4) hg4.out
        refine hK _ _ bb ?_
        have gg : w4.grownBy ((((((((((w4.setCell ⟨g4, 0, none⟩ (.int .u8 (r.pid : Int))).setCell ⟨g4, 1, none⟩ (.int .u8 (r.addr : Int))).setCell ⟨g4, 2, none⟩ (.int .u8 (r.endp : Int))).setCell ⟨g4, 3, none⟩ (.int .u16 (r.frame : Int))).setCell ⟨g4, 4, none⟩ (.int .u8 (r.hub : Int))).setCell ⟨g4, 5, none⟩ (.int .u8 (r.port : Int))).setCell ⟨g4, 6, none⟩ (.bool r.comp)).setCell ⟨g4, 7, none⟩ (.bool r.low)).setCell ⟨g4, 8, none⟩ (.int .u8 (r.kind : Int))).setCell ⟨g4, 9, none⟩ (.slice A1 us.length c1)) (some g4) := grown10 w4 g4 (.int .u8 (r.pid : Int)) (.int .u8 (r.addr : Int)) (.int .u8 (r.endp : Int)) (.int .u16 (r.frame : Int)) (.int .u8 (r.hub : Int)) (.int .u8 (r.port : Int)) (.bool r.comp) (.bool r.low) (.int .u8 (r.kind : Int)) (.slice A1 us.length c1)
        replace h5 := Lib.hid ((gg.block _ (lt_of_block h5.out) (fun e => by injection e with e; exact m45.out e.symm)).trans h5.out)
        replace h4 : Hid (((((((((((w4.setCell ⟨g4, 0, none⟩ (.int .u8 (r.pid : Int))).setCell ⟨g4, 1, none⟩ (.int .u8 (r.addr : Int))).setCell ⟨g4, 2, none⟩ (.int .u8 (r.endp : Int))).setCell ⟨g4, 3, none⟩ (.int .u16 (r.frame : Int))).setCell ⟨g4, 4, none⟩ (.int .u8 (r.hub : Int))).setCell ⟨g4, 5, none⟩ (.int .u8 (r.port : Int))).setCell ⟨g4, 6, none⟩ (.bool r.comp)).setCell ⟨g4, 7, none⟩ (.bool r.low)).setCell ⟨g4, 8, none⟩ (.int .u8 (r.kind : Int))).setCell ⟨g4, 9, none⟩ (.slice A1 us.length c1)).heap[g4]? = _) := store10 _ _ _ _ _ _ _ _ _ _ (.int .u8 (r.pid : Int)) (.int .u8 (r.addr : Int)) (.int .u8 (r.endp : Int)) (.int .u16 (r.frame : Int)) (.int .u8 (r.hub : Int)) (.int .u8 (r.port : Int)) (.bool r.comp) (.bool r.low) (.int .u8 (r.kind : Int)) (.slice A1 us.length c1) h4.out
        replace o1 := Lib.hid (own_apart o1.out gg m14.out.1)
        replace o3 := Lib.hid (own_apart o3.out gg m34.out.1)
        replace hB := Lib.hid (hB.out.trans bb)
        clear hK K bb gg fR k0 k1 k2 k3 k4 k5 k6 k7 k8 k9
        try simp only [Act.put, List.setIfInBounds_toArray, List.set_cons_zero, List.set_cons_succ]
        generalize ((((((((((w4.setCell ⟨g4, 0, none⟩ (.int .u8 (r.pid : Int))).setCell ⟨g4, 1, none⟩ (.int .u8 (r.addr : Int))).setCell ⟨g4, 2, none⟩ (.int .u8 (r.endp : Int))).setCell ⟨g4, 3, none⟩ (.int .u16 (r.frame : Int))).setCell ⟨g4, 4, none⟩ (.int .u8 (r.hub : Int))).setCell ⟨g4, 5, none⟩ (.int .u8 (r.port : Int))).setCell ⟨g4, 6, none⟩ (.bool r.comp)).setCell ⟨g4, 7, none⟩ (.bool r.low)).setCell ⟨g4, 8, none⟩ (.int .u8 (r.kind : Int))).setCell ⟨g4, 9, none⟩ (.slice A1 us.length c1)) = w20 at h4 h5 o1 o3 hB ⊢
        have k0 := block_at (i := 0) h5.out rfl
        have k1 := block_at (i := 1) h5.out rfl
        have k2 := block_at (i := 2) h5.out rfl
        have k3 := block_at (i := 3) h5.out rfl
        have k4 := block_at (i := 4) h5.out rfl
        have k5 := block_at (i := 5) h5.out rfl
        have k6 := block_at (i := 6) h5.out rfl
        have k7 := block_at (i := 7) h5.out rfl
        have k8 := block_at (i := 8) h5.out rfl
        have k9 := block_at (i := 9) h5.out rfl
        have fR : ∀ i, w20.frozen? ⟨g5, i, none⟩ = false := fun i => by simp [World.frozen?, h5.out]
        refine stepB 7 rfl (by decide +kernel) (by rfl) ?_
        intro K hK
        go_simp
        have bb : Below B0 w20 ((((((((((w20.setCell ⟨g5, 0, none⟩ (.int .u8 (q.pid : Int))).setCell ⟨g5, 1, none⟩ (.int .u8 (q.addr : Int))).setCell ⟨g5, 2, none⟩ (.int .u8 (q.endp : Int))).setCell ⟨g5, 3, none⟩ (.int .u16 (q.frame : Int))).setCell ⟨g5, 4, none⟩ (.int .u8 (q.hub : Int))).setCell ⟨g5, 5, none⟩ (.int .u8 (q.port : Int))).setCell ⟨g5, 6, none⟩ (.bool q.comp)).setCell ⟨g5, 7, none⟩ (.bool q.low)).setCell ⟨g5, 8, none⟩ (.int .u8 (q.kind : Int))).setCell ⟨g5, 9, none⟩ (.slice A3 vs.length c3)) := below10 (.int .u8 (q.pid : Int)) (.int .u8 (q.addr : Int)) (.int .u8 (q.endp : Int)) (.int .u16 (q.frame : Int)) (.int .u8 (q.hub : Int)) (.int .u8 (q.port : Int)) (.bool q.comp) (.bool q.low) (.int .u8 (q.kind : Int)) (.slice A3 vs.length c3) (Below.refl _ w20) hg5.out
        refine hK _ _ bb ?_
        have gg : w20.grownBy ((((((((((w20.setCell ⟨g5, 0, none⟩ (.int .u8 (q.pid : Int))).setCell ⟨g5, 1, none⟩ (.int .u8 (q.addr : Int))).setCell ⟨g5, 2, none⟩ (.int .u8 (q.endp : Int))).setCell ⟨g5, 3, none⟩ (.int .u16 (q.frame : Int))).setCell ⟨g5, 4, none⟩ (.int .u8 (q.hub : Int))).setCell ⟨g5, 5, none⟩ (.int .u8 (q.port : Int))).setCell ⟨g5, 6, none⟩ (.bool q.comp)).setCell ⟨g5, 7, none⟩ (.bool q.low)).setCell ⟨g5, 8, none⟩ (.int .u8 (q.kind : Int))).setCell ⟨g5, 9, none⟩ (.slice A3 vs.length c3)) (some g5) := grown10 w20 g5 (.int .u8 (q.pid : Int)) (.int .u8 (q.addr : Int)) (.int .u8 (q.endp : Int)) (.int .u16 (q.frame : Int)) (.int .u8 (q.hub : Int)) (.int .u8 (q.port : Int)) (.bool q.comp) (.bool q.low) (.int .u8 (q.kind : Int)) (.slice A3 vs.length c3)
        replace h4 := Lib.hid ((gg.block _ (lt_of_block h4.out) (fun e => by injection e with e; exact m45.out e)).trans h4.out)
        replace h5 : Hid (((((((((((w20.setCell ⟨g5, 0, none⟩ (.int .u8 (q.pid : Int))).setCell ⟨g5, 1, none⟩ (.int .u8 (q.addr : Int))).setCell ⟨g5, 2, none⟩ (.int .u8 (q.endp : Int))).setCell ⟨g5, 3, none⟩ (.int .u16 (q.frame : Int))).setCell ⟨g5, 4, none⟩ (.int .u8 (q.hub : Int))).setCell ⟨g5, 5, none⟩ (.int .u8 (q.port : Int))).setCell ⟨g5, 6, none⟩ (.bool q.comp)).setCell ⟨g5, 7, none⟩ (.bool q.low)).setCell ⟨g5, 8, none⟩ (.int .u8 (q.kind : Int))).setCell ⟨g5, 9, none⟩ (.slice A3 vs.length c3)).heap[g5]? = _) := store10 _ _ _ _ _ _ _ _ _ _ (.int .u8 (q.pid : Int)) (.int .u8 (q.addr : Int)) (.int .u8 (q.endp : Int)) (.int .u16 (q.frame : Int)) (.int .u8 (q.hub : Int)) (.int .u8 (q.port : Int)) (.bool q.comp) (.bool q.low) (.int .u8 (q.kind : Int)) (.slice A3 vs.length c3) h5.out
        replace o1 := Lib.hid (own_apart o1.out gg m14.out.2)
        replace o3 := Lib.hid (own_apart o3.out gg m34.out.2)
        replace hB := Lib.hid (hB.out.trans bb)
        clear hK K bb gg fR k0 k1 k2 k3 k4 k5 k6 k7 k8 k9
        try simp only [Act.put, List.setIfInBounds_toArray, List.set_cons_zero, List.set_cons_succ]
        generalize ((((((((((w20.setCell ⟨g5, 0, none⟩ (.int .u8 (q.pid : Int))).setCell ⟨g5, 1, none⟩ (.int .u8 (q.addr : Int))).setCell ⟨g5, 2, none⟩ (.int .u8 (q.endp : Int))).setCell ⟨g5, 3, none⟩ (.int .u16 (q.frame : Int))).setCell ⟨g5, 4, none⟩ (.int .u8 (q.hub : Int))).setCell ⟨g5, 5, none⟩ (.int .u8 (q.port : Int))).setCell ⟨g5, 6, none⟩ (.bool q.comp)).setCell ⟨g5, 7, none⟩ (.bool q.low)).setCell ⟨g5, 8, none⟩ (.int .u8 (q.kind : Int))).setCell ⟨g5, 9, none⟩ (.slice A3 vs.length c3)) = w21 at h4 h5 o1 o3 hB ⊢
        refine doneB (by kernel_rfl) ?_
        exact ⟨r, q, us, vs, A1, A3, c1, c3, g4, g5, pf1.out, pf3.out, rfl, hw0.out.trans (hB.out.mono h0B.out), h4.out, h5.out, Rd.of_own_at o1.out, Rd.of_own_at o3.out⟩
  · rintro act w1 ⟨r, q, us, vs, A1, A3, c1, c3, g4, g5, pf1, pf3, rfl, hB1, h41, h51, r11, r31⟩
    have T1 := told_any pf1.1 pf1.2.1 pf1.2.2
    have T2 := told_any pf3.1 pf3.2.1 pf3.2.2
    obtain ⟨bx, he, KD⟩ := two_any pf1.1 pf3.1 pf1.2.1 pf3.2.1
    obtain ⟨sx, hsx⟩ : ∃ sx, (⟨(Lib.join (wordsL r us) [32]).toArray⟩ : ByteArray) = sx := ⟨_, rfl⟩
    obtain ⟨sy, hsy⟩ : ∃ sy, (⟨(Lib.join (wordsL q vs) [32]).toArray⟩ : ByteArray) = sy := ⟨_, rfl⟩
    rw [hsx, hsy] at he
    have K1 : Hid (∀ W, Below w.heap.size w W → Rd W W.heap.size A1 c1 us → Calls Tryd.prog 9 #[.agg #[.int .u8 (r.pid : Int), .int .u8 (r.addr : Int), .int .u8 (r.endp : Int), .int .u16 (r.frame : Int), .int .u8 (r.hub : Int), .int .u8 (r.port : Int), .bool r.comp, .bool r.low, .int .u8 (r.kind : Int), .slice A1 us.length c1]] W fun e w' => e = .returned (.string sx) ∧ Below W.heap.size W w') := fun W hb hR => (T1.text W (.slice A1 us.length c1) A1 c1 (hLh.out.below hb) hR rfl).mono fun e w' h => ⟨by rw [← hsx]; exact h.1, h.2⟩
    have K2 : Hid (∀ W, Below w.heap.size w W → Rd W W.heap.size A1 c1 us → Calls Tryd.prog 10 #[.agg #[.int .u8 (r.pid : Int), .int .u8 (r.addr : Int), .int .u8 (r.endp : Int), .int .u16 (r.frame : Int), .int .u8 (r.hub : Int), .int .u8 (r.port : Int), .bool r.comp, .bool r.low, .int .u8 (r.kind : Int), .slice A1 us.length c1]] W fun e w' => e = .returned (.string sx) ∧ Below W.heap.size W w') := fun W hb hR => (T1.rtext W (.slice A1 us.length c1) A1 c1 hR rfl).mono fun e w' h => ⟨by rw [← hsx]; exact h.1, h.2⟩
    have K3 : Hid (∀ W, Below w.heap.size w W → Rd W W.heap.size A3 c3 vs → Calls Tryd.prog 9 #[.agg #[.int .u8 (q.pid : Int), .int .u8 (q.addr : Int), .int .u8 (q.endp : Int), .int .u16 (q.frame : Int), .int .u8 (q.hub : Int), .int .u8 (q.port : Int), .bool q.comp, .bool q.low, .int .u8 (q.kind : Int), .slice A3 vs.length c3]] W fun e w' => e = .returned (.string sy) ∧ Below W.heap.size W w') := fun W hb hR => (T2.text W (.slice A3 vs.length c3) A3 c3 (hLh.out.below hb) hR rfl).mono fun e w' h => ⟨by rw [← hsy]; exact h.1, h.2⟩
    have K4 : Hid (∀ W, Rd W W.heap.size A1 c1 us → Rd W W.heap.size A3 c3 vs → Calls Tryd.prog 6 #[.agg #[.int .u8 (r.pid : Int), .int .u8 (r.addr : Int), .int .u8 (r.endp : Int), .int .u16 (r.frame : Int), .int .u8 (r.hub : Int), .int .u8 (r.port : Int), .bool r.comp, .bool r.low, .int .u8 (r.kind : Int), .slice A1 us.length c1], .agg #[.int .u8 (q.pid : Int), .int .u8 (q.addr : Int), .int .u8 (q.endp : Int), .int .u16 (q.frame : Int), .int .u8 (q.hub : Int), .int .u8 (q.port : Int), .bool q.comp, .bool q.low, .int .u8 (q.kind : Int), .slice A3 vs.length c3]] W fun e w' => e = .returned (.int .i64 (difN bx)) ∧ Below W.heap.size W w') := fun W h1 h2 => KD W (.slice A1 us.length c1) (.slice A3 vs.length c3) A1 c1 A3 c3 h1 h2 rfl rfl
    have hB := Lib.hid hB1
    have h4 := Lib.hid h41
    have h5 := Lib.hid h51
    have r1 := Lib.hid r11
    have r3 := Lib.hid r31
    clear T1 T2 KD hsx hsy pf1 pf3 hB1 h41 h51 r11 r31 hn1 hn2 hw0 HX HY
    try simp only [Act.put, List.setIfInBounds_toArray, List.set_cons_zero, List.set_cons_succ]
    go_wp2_with fail
    refine startG 21 (l := #[false, false, false, false, false, false, false, false, false, false, false, false, false, false, false, false, false, false, false, false, false]) (by kernel_rfl) rfl rfl ?_
    replace hB : Hid (Below w.heap.size w w1.drew) := hB.out.drew
    replace h4 : Hid (w1.drew.heap[g4]? = _) := h4
    replace h5 : Hid (w1.drew.heap[g5]? = _) := h5
    replace r1 : Hid (Rd w1.drew w1.drew.heap.size A1 c1 us) := r1.out.drew
    replace r3 : Hid (Rd w1.drew w1.drew.heap.size A3 c3 vs) := r3.out.drew
    generalize w1.drew = w2 at hB h4 h5 r1 r3 ⊢
    refine takeG 0 (v := .agg #[.int .u8 (r.pid : Int), .int .u8 (r.addr : Int), .int .u8 (r.endp : Int), .int .u16 (r.frame : Int), .int .u8 (r.hub : Int), .int .u8 (r.port : Int), .bool r.comp, .bool r.low, .int .u8 (r.kind : Int), .slice A1 us.length c1]) rfl (by decide +kernel) (by decide +kernel) (by decide +kernel) (fun _ _ _ h => h) (Or.inl ⟨by rfl, ?_⟩) ?_
    · intro W hW
      have hnl := (hW.block _ (lt_of_block h4.out)).trans h4.out
      have k0 := block_at (i := 0) hnl rfl
      have k1 := block_at (i := 1) hnl rfl
      have k2 := block_at (i := 2) hnl rfl
      have k3 := block_at (i := 3) hnl rfl
      have k4 := block_at (i := 4) hnl rfl
      have k5 := block_at (i := 5) hnl rfl
      have k6 := block_at (i := 6) hnl rfl
      have k7 := block_at (i := 7) hnl rfl
      have k8 := block_at (i := 8) hnl rfl
      have k9 := block_at (i := 9) hnl rfl
      clear hnl hW
      go_simp
      first | done | omega | with_reducible rfl
    try simp only [Act.put, List.setIfInBounds_toArray, List.set_cons_zero, List.set_cons_succ]
    refine takeG 2 (v := .agg #[.int .u8 (r.pid : Int), .int .u8 (r.addr : Int), .int .u8 (r.endp : Int), .int .u16 (r.frame : Int), .int .u8 (r.hub : Int), .int .u8 (r.port : Int), .bool r.comp, .bool r.low, .int .u8 (r.kind : Int), .slice A1 us.length c1]) rfl (by decide +kernel) (by decide +kernel) (by decide +kernel) (fun _ _ _ h => h) (Or.inl ⟨by rfl, ?_⟩) ?_
    · intro W hW
      have hnl := (hW.block _ (lt_of_block h4.out)).trans h4.out
      have k0 := block_at (i := 0) hnl rfl
      have k1 := block_at (i := 1) hnl rfl
      have k2 := block_at (i := 2) hnl rfl
      have k3 := block_at (i := 3) hnl rfl
      have k4 := block_at (i := 4) hnl rfl
      have k5 := block_at (i := 5) hnl rfl
      have k6 := block_at (i := 6) hnl rfl
      have k7 := block_at (i := 7) hnl rfl
      have k8 := block_at (i := 8) hnl rfl
      have k9 := block_at (i := 9) hnl rfl
      clear hnl hW
      go_simp
      first | done | omega | with_reducible rfl
    try simp only [Act.put, List.setIfInBounds_toArray, List.set_cons_zero, List.set_cons_succ]
    refine stepG 1 rfl (by decide +kernel) (by rfl) ?_
    intro K hK
    go_simp
    refine (K1.out w2 hB.out r1.out).mono ?_
    rintro e w3 ⟨rfl, bb⟩
    refine hK _ _ bb ?_
    replace h4 := Lib.hid ((bb.block _ (lt_of_block h4.out)).trans h4.out)
    replace h5 := Lib.hid ((bb.block _ (lt_of_block h5.out)).trans h5.out)
    replace hB := Lib.hid (hB.out.trans (bb.mono hB.out.size))
    replace r1 := Lib.hid (r1.out.belowTop bb)
    replace r3 := Lib.hid (r3.out.belowTop bb)
    clear hK K bb
    try simp only [Act.put, List.setIfInBounds_toArray, List.set_cons_zero, List.set_cons_succ]
    refine stepG 3 rfl (by decide +kernel) (by rfl) ?_
    intro K hK
    go_simp
    refine (K2.out w3 hB.out r1.out).mono ?_
    rintro e w4 ⟨rfl, bb⟩
    refine hK _ _ bb ?_
    replace h4 := Lib.hid ((bb.block _ (lt_of_block h4.out)).trans h4.out)
    replace h5 := Lib.hid ((bb.block _ (lt_of_block h5.out)).trans h5.out)
    replace hB := Lib.hid (hB.out.trans (bb.mono hB.out.size))
    replace r1 := Lib.hid (r1.out.belowTop bb)
    replace r3 := Lib.hid (r3.out.belowTop bb)
    clear hK K bb
    try simp only [Act.put, List.setIfInBounds_toArray, List.set_cons_zero, List.set_cons_succ]
    ((first | (refine takeG 4 (v := ?_) rfl (by decide +kernel) (by decide +kernel) (by decide +kernel) (fun _ _ _ h => h) (Or.inl ⟨by rfl, ?_⟩) ?_; rotate_left 1; (focus (intro W hW; go_simp; first | done | with_reducible rfl)); try simp only [Act.put, List.setIfInBounds_toArray, List.set_cons_zero, List.set_cons_succ]) | (refine takeG 4 rfl (by decide +kernel) (by decide +kernel) (by decide +kernel) (fun _ _ _ h => h) (Or.inr ⟨by rfl, rfl⟩) ?_; try simp only [Act.put, List.setIfInBounds_toArray, List.set_cons_zero, List.set_cons_succ]) | skip); (first | (refine takeG 5 (v := ?_) rfl (by decide +kernel) (by decide +kernel) (by decide +kernel) (fun _ _ _ h => h) (Or.inl ⟨by rfl, ?_⟩) ?_; rotate_left 1; (focus (intro W hW; go_simp; first | done | with_reducible rfl)); try simp only [Act.put, List.setIfInBounds_toArray, List.set_cons_zero, List.set_cons_succ]) | (refine takeG 5 rfl (by decide +kernel) (by decide +kernel) (by decide +kernel) (fun _ _ _ h => h) (Or.inr ⟨by rfl, rfl⟩) ?_; try simp only [Act.put, List.setIfInBounds_toArray, List.set_cons_zero, List.set_cons_succ]) | skip))
    refine takeG 6 (v := .agg #[.int .u8 (r.pid : Int), .int .u8 (r.addr : Int), .int .u8 (r.endp : Int), .int .u16 (r.frame : Int), .int .u8 (r.hub : Int), .int .u8 (r.port : Int), .bool r.comp, .bool r.low, .int .u8 (r.kind : Int), .slice A1 us.length c1]) rfl (by decide +kernel) (by decide +kernel) (by decide +kernel) (fun _ _ _ h => h) (Or.inl ⟨by rfl, ?_⟩) ?_
    · intro W hW
      have hnl := (hW.block _ (lt_of_block h4.out)).trans h4.out
      have k0 := block_at (i := 0) hnl rfl
      have k1 := block_at (i := 1) hnl rfl
      have k2 := block_at (i := 2) hnl rfl
      have k3 := block_at (i := 3) hnl rfl
      have k4 := block_at (i := 4) hnl rfl
      have k5 := block_at (i := 5) hnl rfl
      have k6 := block_at (i := 6) hnl rfl
      have k7 := block_at (i := 7) hnl rfl
      have k8 := block_at (i := 8) hnl rfl
      have k9 := block_at (i := 9) hnl rfl
      clear hnl hW
      go_simp
      first | done | omega | with_reducible rfl
    try simp only [Act.put, List.setIfInBounds_toArray, List.set_cons_zero, List.set_cons_succ]
    refine takeG 8 (v := .agg #[.int .u8 (q.pid : Int), .int .u8 (q.addr : Int), .int .u8 (q.endp : Int), .int .u16 (q.frame : Int), .int .u8 (q.hub : Int), .int .u8 (q.port : Int), .bool q.comp, .bool q.low, .int .u8 (q.kind : Int), .slice A3 vs.length c3]) rfl (by decide +kernel) (by decide +kernel) (by decide +kernel) (fun _ _ _ h => h) (Or.inl ⟨by rfl, ?_⟩) ?_
    · intro W hW
      have hnl := (hW.block _ (lt_of_block h5.out)).trans h5.out
      have k0 := block_at (i := 0) hnl rfl
      have k1 := block_at (i := 1) hnl rfl
      have k2 := block_at (i := 2) hnl rfl
      have k3 := block_at (i := 3) hnl rfl
      have k4 := block_at (i := 4) hnl rfl
      have k5 := block_at (i := 5) hnl rfl
      have k6 := block_at (i := 6) hnl rfl
      have k7 := block_at (i := 7) hnl rfl
      have k8 := block_at (i := 8) hnl rfl
      have k9 := block_at (i := 9) hnl rfl
      clear hnl hW
      go_simp
      first | done | omega | with_reducible rfl
    try simp only [Act.put, List.setIfInBounds_toArray, List.set_cons_zero, List.set_cons_succ]
    refine takeG 11 (v := .agg #[.int .u8 (r.pid : Int), .int .u8 (r.addr : Int), .int .u8 (r.endp : Int), .int .u16 (r.frame : Int), .int .u8 (r.hub : Int), .int .u8 (r.port : Int), .bool r.comp, .bool r.low, .int .u8 (r.kind : Int), .slice A1 us.length c1]) rfl (by decide +kernel) (by decide +kernel) (by decide +kernel) (fun _ _ _ h => h) (Or.inl ⟨by rfl, ?_⟩) ?_
    · intro W hW
      have hnl := (hW.block _ (lt_of_block h4.out)).trans h4.out
      have k0 := block_at (i := 0) hnl rfl
      have k1 := block_at (i := 1) hnl rfl
      have k2 := block_at (i := 2) hnl rfl
      have k3 := block_at (i := 3) hnl rfl
      have k4 := block_at (i := 4) hnl rfl
      have k5 := block_at (i := 5) hnl rfl
      have k6 := block_at (i := 6) hnl rfl
      have k7 := block_at (i := 7) hnl rfl
      have k8 := block_at (i := 8) hnl rfl
      have k9 := block_at (i := 9) hnl rfl
      clear hnl hW
      go_simp
      first | done | omega | with_reducible rfl
    try simp only [Act.put, List.setIfInBounds_toArray, List.set_cons_zero, List.set_cons_succ]
    refine takeG 12 (v := .agg #[.int .u8 (q.pid : Int), .int .u8 (q.addr : Int), .int .u8 (q.endp : Int), .int .u16 (q.frame : Int), .int .u8 (q.hub : Int), .int .u8 (q.port : Int), .bool q.comp, .bool q.low, .int .u8 (q.kind : Int), .slice A3 vs.length c3]) rfl (by decide +kernel) (by decide +kernel) (by decide +kernel) (fun _ _ _ h => h) (Or.inl ⟨by rfl, ?_⟩) ?_
    · intro W hW
      have hnl := (hW.block _ (lt_of_block h5.out)).trans h5.out
      have k0 := block_at (i := 0) hnl rfl
      have k1 := block_at (i := 1) hnl rfl
      have k2 := block_at (i := 2) hnl rfl
      have k3 := block_at (i := 3) hnl rfl
      have k4 := block_at (i := 4) hnl rfl
      have k5 := block_at (i := 5) hnl rfl
      have k6 := block_at (i := 6) hnl rfl
      have k7 := block_at (i := 7) hnl rfl
      have k8 := block_at (i := 8) hnl rfl
      have k9 := block_at (i := 9) hnl rfl
      clear hnl hW
      go_simp
      first | done | omega | with_reducible rfl
    try simp only [Act.put, List.setIfInBounds_toArray, List.set_cons_zero, List.set_cons_succ]
    refine stepG 7 rfl (by decide +kernel) (by rfl) ?_
    intro K hK
    go_simp
    refine (K1.out w4 hB.out r1.out).mono ?_
    rintro e w5 ⟨rfl, bb⟩
    refine hK _ _ bb ?_
    replace h4 := Lib.hid ((bb.block _ (lt_of_block h4.out)).trans h4.out)
    replace h5 := Lib.hid ((bb.block _ (lt_of_block h5.out)).trans h5.out)
    replace hB := Lib.hid (hB.out.trans (bb.mono hB.out.size))
    replace r1 := Lib.hid (r1.out.belowTop bb)
    replace r3 := Lib.hid (r3.out.belowTop bb)
    clear hK K bb
    try simp only [Act.put, List.setIfInBounds_toArray, List.set_cons_zero, List.set_cons_succ]
    refine stepG 9 rfl (by decide +kernel) (by rfl) ?_
    intro K hK
    go_simp
    refine (K3.out w5 hB.out r3.out).mono ?_
    rintro e w6 ⟨rfl, bb⟩
    refine hK _ _ bb ?_
    replace h4 := Lib.hid ((bb.block _ (lt_of_block h4.out)).trans h4.out)
    replace h5 := Lib.hid ((bb.block _ (lt_of_block h5.out)).trans h5.out)
    replace hB := Lib.hid (hB.out.trans (bb.mono hB.out.size))
    replace r1 := Lib.hid (r1.out.belowTop bb)
    replace r3 := Lib.hid (r3.out.belowTop bb)
    clear hK K bb
    try simp only [Act.put, List.setIfInBounds_toArray, List.set_cons_zero, List.set_cons_succ]
    ((first | (refine takeG 10 (v := ?_) rfl (by decide +kernel) (by decide +kernel) (by decide +kernel) (fun _ _ _ h => h) (Or.inl ⟨by rfl, ?_⟩) ?_; rotate_left 1; (focus (intro W hW; go_simp; first | done | with_reducible rfl)); try simp only [Act.put, List.setIfInBounds_toArray, List.set_cons_zero, List.set_cons_succ]) | (refine takeG 10 rfl (by decide +kernel) (by decide +kernel) (by decide +kernel) (fun _ _ _ h => h) (Or.inr ⟨by rfl, rfl⟩) ?_; try simp only [Act.put, List.setIfInBounds_toArray, List.set_cons_zero, List.set_cons_succ]) | skip))
    refine stepG 13 rfl (by decide +kernel) (by rfl) ?_
    intro K hK
    go_simp
    refine (K4.out w6 r1.out r3.out).mono ?_
    rintro e w7 ⟨rfl, bb⟩
    refine hK _ _ bb ?_
    replace h4 := Lib.hid ((bb.block _ (lt_of_block h4.out)).trans h4.out)
    replace h5 := Lib.hid ((bb.block _ (lt_of_block h5.out)).trans h5.out)
    replace hB := Lib.hid (hB.out.trans (bb.mono hB.out.size))
    replace r1 := Lib.hid (r1.out.belowTop bb)
    replace r3 := Lib.hid (r3.out.belowTop bb)
    clear hK K bb
    try simp only [Act.put, List.setIfInBounds_toArray, List.set_cons_zero, List.set_cons_succ]
    clear K1 K2 K3 K4
    cases bx
    · rw [show difN false = 1 from rfl]
      ((first | (refine takeG 14 (v := ?_) rfl (by decide +kernel) (by decide +kernel) (by decide +kernel) (fun _ _ _ h => h) (Or.inl ⟨by rfl, ?_⟩) ?_; rotate_left 1; (focus (intro W hW; go_simp; first | done | with_reducible rfl)); try simp only [Act.put, List.setIfInBounds_toArray, List.set_cons_zero, List.set_cons_succ]) | (refine takeG 14 rfl (by decide +kernel) (by decide +kernel) (by decide +kernel) (fun _ _ _ h => h) (Or.inr ⟨by rfl, rfl⟩) ?_; try simp only [Act.put, List.setIfInBounds_toArray, List.set_cons_zero, List.set_cons_succ]) | skip); (first | (refine takeG 15 (v := ?_) rfl (by decide +kernel) (by decide +kernel) (by decide +kernel) (fun _ _ _ h => h) (Or.inl ⟨by rfl, ?_⟩) ?_; rotate_left 1; (focus (intro W hW; go_simp; first | done | with_reducible rfl)); try simp only [Act.put, List.setIfInBounds_toArray, List.set_cons_zero, List.set_cons_succ]) | (refine takeG 15 rfl (by decide +kernel) (by decide +kernel) (by decide +kernel) (fun _ _ _ h => h) (Or.inr ⟨by rfl, rfl⟩) ?_; try simp only [Act.put, List.setIfInBounds_toArray, List.set_cons_zero, List.set_cons_succ]) | skip); (first | (refine takeG 16 (v := ?_) rfl (by decide +kernel) (by decide +kernel) (by decide +kernel) (fun _ _ _ h => h) (Or.inl ⟨by rfl, ?_⟩) ?_; rotate_left 1; (focus (intro W hW; go_simp; first | done | with_reducible rfl)); try simp only [Act.put, List.setIfInBounds_toArray, List.set_cons_zero, List.set_cons_succ]) | (refine takeG 16 rfl (by decide +kernel) (by decide +kernel) (by decide +kernel) (fun _ _ _ h => h) (Or.inr ⟨by rfl, rfl⟩) ?_; try simp only [Act.put, List.setIfInBounds_toArray, List.set_cons_zero, List.set_cons_succ]) | skip); (first | (refine takeG 17 (v := ?_) rfl (by decide +kernel) (by decide +kernel) (by decide +kernel) (fun _ _ _ h => h) (Or.inl ⟨by rfl, ?_⟩) ?_; rotate_left 1; (focus (intro W hW; go_simp; first | done | with_reducible rfl)); try simp only [Act.put, List.setIfInBounds_toArray, List.set_cons_zero, List.set_cons_succ]) | (refine takeG 17 rfl (by decide +kernel) (by decide +kernel) (by decide +kernel) (fun _ _ _ h => h) (Or.inr ⟨by rfl, rfl⟩) ?_; try simp only [Act.put, List.setIfInBounds_toArray, List.set_cons_zero, List.set_cons_succ]) | skip))
      refine stepG 18 rfl (by decide +kernel) (by rfl) ?_
      intro K hK
      go_simp
      refine (KL.out w7 hB.out).mono ?_
      rintro e w8 ⟨rfl, bb⟩
      refine hK _ _ bb ?_
      have e9 := Lib.hid (hB.out.trans (bb.mono hB.out.size))
      clear hK K bb
      try simp only [Act.put, List.setIfInBounds_toArray, List.set_cons_zero, List.set_cons_succ]
      ((first | (refine takeG 19 (v := ?_) rfl (by decide +kernel) (by decide +kernel) (by decide +kernel) (fun _ _ _ h => h) (Or.inl ⟨by rfl, ?_⟩) ?_; rotate_left 1; (focus (intro W hW; go_simp; first | done | with_reducible rfl)); try simp only [Act.put, List.setIfInBounds_toArray, List.set_cons_zero, List.set_cons_succ]) | (refine takeG 19 rfl (by decide +kernel) (by decide +kernel) (by decide +kernel) (fun _ _ _ h => h) (Or.inr ⟨by rfl, rfl⟩) ?_; try simp only [Act.put, List.setIfInBounds_toArray, List.set_cons_zero, List.set_cons_succ]) | skip); (first | (refine takeG 20 (v := ?_) rfl (by decide +kernel) (by decide +kernel) (by decide +kernel) (fun _ _ _ h => h) (Or.inl ⟨by rfl, ?_⟩) ?_; rotate_left 1; (focus (intro W hW; go_simp; first | done | with_reducible rfl)); try simp only [Act.put, List.setIfInBounds_toArray, List.set_cons_zero, List.set_cons_succ]) | (refine takeG 20 rfl (by decide +kernel) (by decide +kernel) (by decide +kernel) (fun _ _ _ h => h) (Or.inr ⟨by rfl, rfl⟩) ?_; try simp only [Act.put, List.setIfInBounds_toArray, List.set_cons_zero, List.set_cons_succ]) | skip))
      refine doneG (by kernel_rfl) ?_
      go_wp2
      go_ret
      exact ⟨rfl, e9.out⟩
    · rw [show difN true = 0 from rfl]
      ((first | (refine takeG 14 (v := ?_) rfl (by decide +kernel) (by decide +kernel) (by decide +kernel) (fun _ _ _ h => h) (Or.inl ⟨by rfl, ?_⟩) ?_; rotate_left 1; (focus (intro W hW; go_simp; first | done | with_reducible rfl)); try simp only [Act.put, List.setIfInBounds_toArray, List.set_cons_zero, List.set_cons_succ]) | (refine takeG 14 rfl (by decide +kernel) (by decide +kernel) (by decide +kernel) (fun _ _ _ h => h) (Or.inr ⟨by rfl, rfl⟩) ?_; try simp only [Act.put, List.setIfInBounds_toArray, List.set_cons_zero, List.set_cons_succ]) | skip); (first | (refine takeG 15 (v := ?_) rfl (by decide +kernel) (by decide +kernel) (by decide +kernel) (fun _ _ _ h => h) (Or.inl ⟨by rfl, ?_⟩) ?_; rotate_left 1; (focus (intro W hW; go_simp; first | done | with_reducible rfl)); try simp only [Act.put, List.setIfInBounds_toArray, List.set_cons_zero, List.set_cons_succ]) | (refine takeG 15 rfl (by decide +kernel) (by decide +kernel) (by decide +kernel) (fun _ _ _ h => h) (Or.inr ⟨by rfl, rfl⟩) ?_; try simp only [Act.put, List.setIfInBounds_toArray, List.set_cons_zero, List.set_cons_succ]) | skip); (first | (refine takeG 16 (v := ?_) rfl (by decide +kernel) (by decide +kernel) (by decide +kernel) (fun _ _ _ h => h) (Or.inl ⟨by rfl, ?_⟩) ?_; rotate_left 1; (focus (intro W hW; go_simp; first | done | with_reducible rfl)); try simp only [Act.put, List.setIfInBounds_toArray, List.set_cons_zero, List.set_cons_succ]) | (refine takeG 16 rfl (by decide +kernel) (by decide +kernel) (by decide +kernel) (fun _ _ _ h => h) (Or.inr ⟨by rfl, rfl⟩) ?_; try simp only [Act.put, List.setIfInBounds_toArray, List.set_cons_zero, List.set_cons_succ]) | skip); (first | (refine takeG 17 (v := ?_) rfl (by decide +kernel) (by decide +kernel) (by decide +kernel) (fun _ _ _ h => h) (Or.inl ⟨by rfl, ?_⟩) ?_; rotate_left 1; (focus (intro W hW; go_simp; first | done | with_reducible rfl)); try simp only [Act.put, List.setIfInBounds_toArray, List.set_cons_zero, List.set_cons_succ]) | (refine takeG 17 rfl (by decide +kernel) (by decide +kernel) (by decide +kernel) (fun _ _ _ h => h) (Or.inr ⟨by rfl, rfl⟩) ?_; try simp only [Act.put, List.setIfInBounds_toArray, List.set_cons_zero, List.set_cons_succ]) | skip))
      refine stepG 18 rfl (by decide +kernel) (by rfl) ?_
      intro K hK
      go_simp
      refine (KL.out w7 hB.out).mono ?_
      rintro e w8 ⟨rfl, bb⟩
      refine hK _ _ bb ?_
      have e9 := Lib.hid (hB.out.trans (bb.mono hB.out.size))
      clear hK K bb
      try simp only [Act.put, List.setIfInBounds_toArray, List.set_cons_zero, List.set_cons_succ]
      ((first | (refine takeG 19 (v := ?_) rfl (by decide +kernel) (by decide +kernel) (by decide +kernel) (fun _ _ _ h => h) (Or.inl ⟨by rfl, ?_⟩) ?_; rotate_left 1; (focus (intro W hW; go_simp; first | done | with_reducible rfl)); try simp only [Act.put, List.setIfInBounds_toArray, List.set_cons_zero, List.set_cons_succ]) | (refine takeG 19 rfl (by decide +kernel) (by decide +kernel) (by decide +kernel) (fun _ _ _ h => h) (Or.inr ⟨by rfl, rfl⟩) ?_; try simp only [Act.put, List.setIfInBounds_toArray, List.set_cons_zero, List.set_cons_succ]) | skip); (first | (refine takeG 20 (v := ?_) rfl (by decide +kernel) (by decide +kernel) (by decide +kernel) (fun _ _ _ h => h) (Or.inl ⟨by rfl, ?_⟩) ?_; rotate_left 1; (focus (intro W hW; go_simp; first | done | with_reducible rfl)); try simp only [Act.put, List.setIfInBounds_toArray, List.set_cons_zero, List.set_cons_succ]) | (refine takeG 20 rfl (by decide +kernel) (by decide +kernel) (by decide +kernel) (fun _ _ _ h => h) (Or.inr ⟨by rfl, rfl⟩) ?_; try simp only [Act.put, List.setIfInBounds_toArray, List.set_cons_zero, List.set_cons_succ]) | skip))
      refine doneG (by kernel_rfl) ?_
      go_wp2
      go_ret
      exact ⟨rfl, e9.out⟩

theorem lawText_any (w : World) (hL : Laid w) (wt a b fr fl : Nat) (hwt : wt < 256) (ha : a < 256) (hb : b < 256) (hfr : fr < 65536) (hfl : fl < 256) (A : Option Addr) (c : Nat) (xs : List UInt8) (hx : Rd w w.heap.size A c xs) (wt' a' b' fr' fl' : Nat) (hwt' : wt' < 256) (ha' : a' < 256) (hb' : b' < 256) (hfr' : fr' < 65536) (hfl' : fl' < 256) (A' : Option Addr) (c' : Nat) (ys : List UInt8) (hy : Rd w w.heap.size A' c' ys) :
    Calls Tryd.prog 4 #[.agg (xcells wt a b fr fl (.slice A xs.length c)), .agg (xcells wt' a' b' fr' fl' (.slice A' ys.length c'))] w (ResB w true) := by
  by_cases h : 300 < xs.length ∨ 300 < ys.length
  · exact lawText_skip w wt a b fr fl A _ c wt' a' b' fr' fl' A' _ c' h
  · exact lawText_in w hL wt a b fr fl hwt ha hb hfr hfl A c xs hx (by omega) wt' a' b' fr' fl' hwt' ha' hb' hfr' hfl' A' c' ys hy (by omega)

end Go.Proofs.YtfblpakoibadoaaDoor
