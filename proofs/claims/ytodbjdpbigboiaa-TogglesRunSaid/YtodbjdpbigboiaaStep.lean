/-
  Helper text: the reference's step; no statement is proved here.
-/
import Derived.Test.YtodbjdpbigboiaaInts
import Derived.Test.YtodbjdpbigboiaaMath
import Derived.Test.YtodbjdpbigboiaaLw2
namespace Go.Proofs.Ytodbjdpbigboiaa
open Go Go.RowKit

/-- The reference's state as a value. -/
abbrev stV (a : Nat) (A : Option Addr) (n c : Nat) (s r : Bool) : Value := .agg #[.int .i64 (a : Int), .slice A n c, .bool s, .bool r]
/-- A state of the reference is returned. -/
def ResX (w : World) (a : Nat) (A : Option Addr) (c : Nat) (zs : List Int) (s r : Bool) (e : Ending) (w' : World) : Prop :=
  e = .returned (stV a A zs.length c s r) ∧ RdI w' w'.heap.size A c zs ∧ Below w.heap.size w w'

/-- append of numbers, at the operation. -/
theorem wp_appendIN2 {P : Program} {o : Oper} {a : Act} {K : Act → World → Prop} {Q : Exit → Act → World → Prop} {w : World} {t e : TypeId} (ht : P.underlying t = some (.slice e))
    (hinf : (P.info? e).map (fun i => (i.zero, i.size, i.bytes)) = some (some (.int .i64 0), 1, 8)) (s x : Operand)
    (ho : o.op = .call { callee := .builtin .append, args := #[s, x], argTypes := #[t, t] })
    (base : Nat) (v : Value) (zs : List Int) (hs : a.eval s = v) (hown : w.ownsRow base e 1 v zs.length (zs.map iv)) (B c : Nat) (A : Option Addr) (ys : List Int) (hr : RdI w B A c ys)
    (hx : a.eval x = .slice A ys.length c) (hl : zs.length + ys.length ≤ 100000000) (hbase : base ≤ w.heap.size)
    (h : ∀ A' c' w', w'.ownsRow base e 1 (.slice A' (zs ++ ys).length c') (zs ++ ys).length ((zs ++ ys).map iv) → Below base w w' → w.grownBy w' v.ownBlock → K (a.put o.dst (.slice A' (zs ++ ys).length c')) w') :
    o.wp P a w K Q := by
  have key : ∃ v' w', (Builtin.append_ #[t, t] o.type #[v, .slice A ys.length c]).run P w = .ok v' w' ∧ w'.ownsRow base e 1 v' (zs ++ ys).length ((zs ++ ys).map iv) ∧ Below base w w' ∧ w.grownBy w' v.ownBlock := by
    obtain ⟨i0, hi, hz0, hz1, hz2⟩ := info_parts hinf
    rcases A with _ | ad
    · have hn : ys = [] := by
        rcases Nat.eq_zero_or_pos ys.length with h0 | h0
        · exact List.eq_nil_of_length_eq_zero h0
        · obtain ⟨b, off, e', _⟩ := hr.cells h0
          cases e'
      subst hn
      exact ⟨v, w, run_append_nil (P := P) (w := w) (ty := o.type) ht hi hown c, by simpa using hown, Below.refl _ _, grown_refl _ _⟩
    · have hnews : ∀ j u, (ys.map iv)[j]? = some u → w.cell? (ad.add j) = some u := by
        intro j u hu
        rw [List.getElem?_map] at hu
        rcases Nat.lt_or_ge j ys.length with hj | hj
        · obtain ⟨b, off, e', _, hc⟩ := hr.cells (by omega)
          obtain rfl := Option.some.inj e'
          rw [Go.WideShapes.add_plain, hc j hj]
          rw [List.getElem?_eq_getElem hj] at hu
          simpa [List.getD, List.getElem?_eq_getElem hj] using hu
        · rw [List.getElem?_eq_none hj] at hu
          cases hu
      obtain ⟨v', w', h0, h1, h2, _, _⟩ := run_append_own_at (P := P) w base t o.type e i0 (.int .i64 0) 1 8 ht hi hz0 hz1 hz2 rfl (by decide) v zs.length (zs.map iv) hown ad ys.length c (ys.map iv) (by simp) hnews
        (fun z hz => by obtain ⟨_, _, rfl⟩ := List.mem_map.1 hz; rfl) (by unfold maxLen; omega) (by omega) hbase
      exact ⟨v', w', h0, by simpa using h1, (Below.refl base w).grown h2 hbase fun k hk => (hown.lt k hk).1, h2⟩
  obtain ⟨v', w', h0, h1, h2, h3⟩ := key
  obtain ⟨A', c', rfl, _⟩ := RdI.of_own h1
  unfold Oper.wp execOp
  simp only [ho, resolve, invoke, builtin, Sem.run_bind, Sem.run_pure, Result.andThen_ok, List.map_toArray, List.map_cons, List.map_nil, hs, hx, h0]
  exact h A' c' w' h1 h2 h3
theorem rdi_one {w : World} {g : Nat} {a : Int} {t : TypeId} (h : w.heap[g]? = some (.cells #[.int .i64 a] t (0, 0))) : RdI w w.heap.size (some ⟨g, 0, none⟩) 1 [a] :=
  ⟨by simp, by omega, fun _ => ⟨g, 0, rfl, block_lt h, fun j hj => by
    obtain rfl : j = 0 := by simpa using hj
    exact block_at h (i := 0) rfl⟩⟩

set_option maxHeartbeats 800000 in
set_option maxRecDepth 100000 in
theorem step_skip (w : World) (a : Nat) (A : Option Addr) (c : Nat) (zs : List Int) (s r : Bool) (many : Nat) (lo : Int) (hr : RdI w w.heap.size A c zs) (h : many ≤ a ∨ (a < many ∧ lo = 1)) :
    Calls Try.prog 17 #[stV a A zs.length c s r, .int .i64 (many : Int), .int .i64 lo] w (ResX w a A c zs s r) := by
  have hb := Lib.hid (((Below.refl w.heap.size w).alloc (Nat.le_refl _) (.cells #[.int .i64 (a : Int), .slice A zs.length c, .bool s, .bool r] 47)).alloc (by simp) (.cells #[.int .i64 (a : Int), .slice A zs.length c, .bool s, .bool r] 47))
  rcases h with h | ⟨h, rfl⟩
  · have h1 : decide ((many : Int) ≤ (a : Int)) = true := by rw [decide_eq_true_iff]; omega
    have h1' : decide (many ≤ a) = true := by rw [decide_eq_true_iff]; omega
    go_enter Try.func17, Try.ntmps17
    go_wp2
    refine bodyPost_ret (v := stV a A zs.length c s r) (by simp [results, Try.results17, go_sem]) rfl ?_
    exact ⟨rfl, hr.belowTop hb.out, hb.out⟩
  · have h1 : decide ((many : Int) ≤ (a : Int)) = false := by rw [decide_eq_false_iff_not]; omega
    have h1' : decide (many ≤ a) = false := by rw [decide_eq_false_iff_not]; omega
    go_enter Try.func17, Try.ntmps17
    go_wp2
    refine bodyPost_ret (v := stV a A zs.length c s r) (by simp [results, Try.results17, go_sem]) rfl ?_
    exact ⟨rfl, hr.belowTop hb.out, hb.out⟩

theorem RdI.of_own' {w : World} {base e n c : Nat} {A : Option Addr} {zs : List Int} (hn : zs.length = n) (h : w.ownsRow base e 1 (.slice A n c) n (zs.map iv)) : RdI w w.heap.size A c zs := by
  subst hn
  obtain ⟨A2, c2, h1, h2⟩ := RdI.of_own h
  injection h1 with e1 e2 e3
  subst e1 e3
  exact h2
theorem own_set {w : World} {B p i e n : Nat} {v u : Value} {vs : List Value} (h : w.ownsRow B e 1 v n vs) (hp : p < B) : (w.setCell ⟨p, i, none⟩ u).ownsRow B e 1 v n vs :=
  h.kept (grown_setCell w ⟨p, i, none⟩ u) (.inr fun e => by have h5 := (h.lt _ e).1; have h6 : B ≤ p := h5; omega)
theorem other {w : World} {g b i T : Nat} {cs : Array Value} {u : Value} (h : w.heap[g]? = some (.cells cs T (0, 0))) (hn : g ≠ b) : (w.setCell ⟨b, i, none⟩ u).heap[g]? = some (.cells cs T (0, 0)) :=
  block_grown h (grown_setCell w ⟨b, i, none⟩ u) (fun e => hn (show g = b from (Option.some.inj e)))
theorem set1234 {w : World} {p T : Nat} {a b c d : Value} (h : w.heap[p]? = some (.cells #[a, b, c, d] T (0, 0))) (u v x y : Value) :
    ((((w.setCell ⟨p, 0, none⟩ u).setCell ⟨p, 1, none⟩ v).setCell ⟨p, 2, none⟩ x).setCell ⟨p, 3, none⟩ y).heap[p]? = some (.cells #[u, v, x, y] T (0, 0)) := by
  have := block_set (block_set (block_set (block_set h 0 u) 1 v) 2 x) 3 y
  simpa using this
theorem lo_cases (lo : Int) (h : Hid (lo = 0 ∨ lo = 2)) : (lo == 1) = false := by rcases h.out with rfl | rfl <;> rfl
/-- The slice lies at or above B. -/
def Newer (B : Nat) (A : Option Addr) : Prop := ∀ ad, A = some ad → B ≤ ad.block
theorem newer_own {w : World} {base base' e n c : Nat} {A : Option Addr} {vs : List Value} (h : w.ownsRow base e 1 (.slice A n c) n vs) (hb : base' ≤ base) : Newer base' A := fun ad e => by
  obtain ⟨_, h2⟩ := h
  rcases h2 with ⟨h2, _⟩ | ⟨g, cap, cur, h2, h3, _⟩
  · injection h2 with e1
    rw [e1] at e
    cases e
  · injection h2 with e1
    rw [e1] at e
    obtain rfl := Option.some.inj e
    exact Nat.le_trans hb h3
/-- What follows a step that reads. -/
def After (Q : Ending → World → Prop) (w : World) (a : Nat) (zs : List Int) (s : Bool) (lo : Int) : Prop :=
  ∀ A c w', RdI w' w'.heap.size A c (zs ++ [(a : Int)]) → Below w.heap.size w w' → Newer w.heap.size A →
    (lo = 2 → Q (.returned (stV a A (zs.length + 1) c s (!s))) w') ∧ (lo = 0 → Q (.returned (stV (a + 1) A (zs.length + 1) c (!s) (!s))) w')

set_option maxHeartbeats 1600000 in
set_option maxRecDepth 100000 in
theorem step_take_core (Q : Ending → World → Prop) (w : World) (a : Nat) (A : Option Addr) (c : Nat) (zs : List Int) (s : Bool) (many : Nat) (lo : Int) (hr : RdI w w.heap.size A c zs) (h : a < many) (hm : many ≤ 1000) (hzl : zs.length ≤ 1000) (hlo : Hid (lo = 0 ∨ lo = 2))
    (hQ : Hid (After Q w a zs s lo)) :
    Calls Try.prog 17 #[stV a A zs.length c s s, .int .i64 (many : Int), .int .i64 lo] w Q := by
  have hw0 := Lib.hid (((Below.refl w.heap.size w).alloc (Nat.le_refl _) (.cells #[.int .i64 (a : Int), .slice A zs.length c, .bool s, .bool s] 47)).alloc (by simp) (.cells #[.int .i64 0, .slice none 0 0, .bool false, .bool false] 47))
  have hbx0 := Lib.hid (heap_alloc2_old w (.cells #[.int .i64 (a : Int), .slice A zs.length c, .bool s, .bool s] 47) (.cells #[.int .i64 0, .slice none 0 0, .bool false, .bool false] 47))
  have hby0 := Lib.hid (heap_alloc2_new w (.cells #[.int .i64 (a : Int), .slice A zs.length c, .bool s, .bool s] 47) (.cells #[.int .i64 0, .slice none 0 0, .bool false, .bool false] 47))
  have h1 : decide ((many : Int) ≤ (a : Int)) = false := by rw [decide_eq_false_iff_not]; omega
  have h1' : decide (many ≤ a) = false := by rw [decide_eq_false_iff_not]; omega
  have h2 := lo_cases lo hlo
  have h3 : (s == s) = true := by simp
  have R0 := Lib.hid (hr.belowTop hw0.out)
  clear hr
  go_enter Try.func17, Try.ntmps17
  go_wp2
  generalize (w.alloc (.cells #[.int .i64 (a : Int), .slice A zs.length c, .bool s, .bool s] 47)).alloc (.cells #[.int .i64 0, .slice none 0 0, .bool false, .bool false] 47) = W0 at hw0 hbx0 hby0 R0 ⊢
  generalize hbxe : w.heap.size = bx at hw0 hbx0 hby0 ⊢
  generalize hbye : bx + 1 = by_ at hby0 ⊢
  have nxy : bx ≠ by_ := by omega
  have hgey : bx ≤ by_ := by omega
  have hbx := block_lt hbx0.out
  have hby := block_lt hby0.out
  refine region_inv (fun a₀ act w' => ∃ (v21 v22 v23 v24 v25 v26 v27 v28 v29 : Value) (A' : Option Addr) (c' : Nat),
      act = ((((((((a₀.put (some 21) v21).put (some 22) v22).put (some 23) v23).put (some 24) v24).put (some 25) v25).put (some 26) v26).put (some 27) v27).put (some 28) v28).put (some 29) v29 ∧
      w'.heap[bx]? = some (.cells #[.int .i64 (a : Int), .slice A' (zs.length + 1) c', .bool s, .bool s] 47 (0, 0)) ∧
      w'.heap[by_]? = some (.cells #[.int .i64 0, .slice none 0 0, .bool false, .bool false] 47 (0, 0)) ∧
      w'.ownsRow W0.heap.size 3 1 (.slice A' (zs.length + 1) c') (zs.length + 1) ((zs ++ [(a : Int)]).map iv) ∧ Below bx w w') ?_ ?_
  · have e0 := block_at hbx0.out (i := 0) (v := .int .i64 (a : Int)) rfl
    have e1 := block_at hbx0.out (i := 1) (v := .slice A zs.length c) rfl
    refine startT (S := fun a => a.block = bx) (T := [9]) 10 (by kernel_rfl) rfl (l := #[false, false, false, false, false, false, false, false, false, false]) rfl ?_
    have hW : Below W0.heap.size W0 W0.drew := (Below.refl _ _).drew
    have hlen : Hid ((zs ++ [(a : Int)]).length = zs.length + 1) := Lib.hid (by simp)
    ((first | (refine takeT 1 (v := ?_) rfl (by decide +kernel) (by decide +kernel) (by decide +kernel) (fun _ _ _ h => h) (by decide +kernel) (Or.inl ⟨by rfl, ?_⟩) ?_; rotate_left 1; (focus (intro W hW; have hcW := hW.at; (try dsimp only at hcW); go_simp; first | done | with_reducible rfl)); try simp only [Act.put, List.setIfInBounds_toArray, List.set_cons_zero, List.set_cons_succ]) | (refine takeW 1 (v := ?_) rfl (by decide +kernel) (by decide +kernel) (by decide +kernel) (fun _ _ _ h => h) (Or.inl ⟨by rfl, ?_⟩) ?_; rotate_left 1; (focus (intro W hW; go_simp; first | done | with_reducible rfl)); try simp only [Act.put, List.setIfInBounds_toArray, List.set_cons_zero, List.set_cons_succ]) | (refine takeW 1 rfl (by decide +kernel) (by decide +kernel) (by decide +kernel) (fun _ _ _ h => h) (Or.inr ⟨by rfl, rfl⟩) ?_; try simp only [Act.put, List.setIfInBounds_toArray, List.set_cons_zero, List.set_cons_succ]) | skip); (first | (refine takeT 2 (v := ?_) rfl (by decide +kernel) (by decide +kernel) (by decide +kernel) (fun _ _ _ h => h) (by decide +kernel) (Or.inl ⟨by rfl, ?_⟩) ?_; rotate_left 1; (focus (intro W hW; have hcW := hW.at; (try dsimp only at hcW); go_simp; first | done | with_reducible rfl)); try simp only [Act.put, List.setIfInBounds_toArray, List.set_cons_zero, List.set_cons_succ]) | (refine takeW 2 (v := ?_) rfl (by decide +kernel) (by decide +kernel) (by decide +kernel) (fun _ _ _ h => h) (Or.inl ⟨by rfl, ?_⟩) ?_; rotate_left 1; (focus (intro W hW; go_simp; first | done | with_reducible rfl)); try simp only [Act.put, List.setIfInBounds_toArray, List.set_cons_zero, List.set_cons_succ]) | (refine takeW 2 rfl (by decide +kernel) (by decide +kernel) (by decide +kernel) (fun _ _ _ h => h) (Or.inr ⟨by rfl, rfl⟩) ?_; try simp only [Act.put, List.setIfInBounds_toArray, List.set_cons_zero, List.set_cons_succ]) | skip))
    ((first | (refine takeT 4 (v := ?_) rfl (by decide +kernel) (by decide +kernel) (by decide +kernel) (fun _ _ _ h => h) (by decide +kernel) (Or.inl ⟨by rfl, ?_⟩) ?_; rotate_left 1; (focus (intro W hW; have hcW := hW.at; (try dsimp only at hcW); go_simp; first | done | with_reducible rfl)); try simp only [Act.put, List.setIfInBounds_toArray, List.set_cons_zero, List.set_cons_succ]) | (refine takeW 4 (v := ?_) rfl (by decide +kernel) (by decide +kernel) (by decide +kernel) (fun _ _ _ h => h) (Or.inl ⟨by rfl, ?_⟩) ?_; rotate_left 1; (focus (intro W hW; go_simp; first | done | with_reducible rfl)); try simp only [Act.put, List.setIfInBounds_toArray, List.set_cons_zero, List.set_cons_succ]) | (refine takeW 4 rfl (by decide +kernel) (by decide +kernel) (by decide +kernel) (fun _ _ _ h => h) (Or.inr ⟨by rfl, rfl⟩) ?_; try simp only [Act.put, List.setIfInBounds_toArray, List.set_cons_zero, List.set_cons_succ]) | skip); (first | (refine takeT 5 (v := ?_) rfl (by decide +kernel) (by decide +kernel) (by decide +kernel) (fun _ _ _ h => h) (by decide +kernel) (Or.inl ⟨by rfl, ?_⟩) ?_; rotate_left 1; (focus (intro W hW; have hcW := hW.at; (try dsimp only at hcW); go_simp; first | done | with_reducible rfl)); try simp only [Act.put, List.setIfInBounds_toArray, List.set_cons_zero, List.set_cons_succ]) | (refine takeW 5 (v := ?_) rfl (by decide +kernel) (by decide +kernel) (by decide +kernel) (fun _ _ _ h => h) (Or.inl ⟨by rfl, ?_⟩) ?_; rotate_left 1; (focus (intro W hW; go_simp; first | done | with_reducible rfl)); try simp only [Act.put, List.setIfInBounds_toArray, List.set_cons_zero, List.set_cons_succ]) | (refine takeW 5 rfl (by decide +kernel) (by decide +kernel) (by decide +kernel) (fun _ _ _ h => h) (Or.inr ⟨by rfl, rfl⟩) ?_; try simp only [Act.put, List.setIfInBounds_toArray, List.set_cons_zero, List.set_cons_succ]) | skip))
    generalize W0.drew = v0 at hW ⊢
    clear e0 e1
    -- tree
    refine stepTA [0, 6] (by decide +kernel) (by decide) ?_
    intro i hi
    rcases (by simpa using hi : i = 0 ∨ i = 6) with rfl | rfl
    · clear hi
      refine ⟨_, rfl, by rfl, ?_⟩
      intro K hK
      go_simp
      have bb := (Below.refl v0.heap.size v0).alloc (Nat.le_refl _) (.cells #[] 3)
      have h0 := Lib.hid (own_base (show (v0.alloc (.cells #[] 3)).ownsRow v0.heap.size 3 1 (.slice (some ⟨v0.heap.size, 0, none⟩) 0 0) ([] : List Int).length (([] : List Int).map iv) from ownI_built v0 3 [] (by simp)) hW.size)
      refine hK _ _ (.inr fun x hx => bb.cell (by rw [hx]; exact Nat.lt_of_lt_of_le hbx hW.size)) ?_
      replace hW := hW.trans (bb.mono hW.size)
      clear hK K bb
      try simp only [Act.put, List.setIfInBounds_toArray, List.set_cons_zero, List.set_cons_succ]
      generalize v0.alloc (.cells #[] 3) = v1 at hW h0 ⊢
      generalize v0.heap.size = q0 at h0 ⊢
      refine stepTA [3, 6] (by decide +kernel) (by decide) ?_
      intro i hi
      rcases (by simpa using hi : i = 3 ∨ i = 6) with rfl | rfl
      · clear hi
        refine ⟨_, rfl, by rfl, ?_⟩
        intro K hK
        refine wp_appendIN2 Try.underlying45 Try.info3 (.tmp 21) (.tmp 23) rfl W0.heap.size (.slice (some ⟨q0, 0, none⟩) 0 0) [] rfl h0.out W0.heap.size c A zs (R0.out.below hW) rfl (by simp; omega) hW.size ?_
        intro A3 c3 v2 h3 bb hgr
        rw [List.nil_append] at h3 ⊢
        refine hK _ _ (.inr fun x hx => bb.cell (by rw [hx]; exact hbx)) ?_
        replace h3 := Lib.hid h3
        replace hW := hW.trans bb
        clear hK K bb hgr h0
        try simp only [Act.put, List.setIfInBounds_toArray, List.set_cons_zero, List.set_cons_succ]
        refine stepTA [6] (by decide +kernel) (by decide) ?_
        intro i hi
        obtain rfl : i = 6 := by simpa using hi
        clear hi
        refine ⟨_, rfl, by rfl, ?_⟩
        intro K hK
        go_simp
        have bb := (Below.refl v2.heap.size v2).alloc (Nat.le_refl _) (.cells #[.int .i64 (a : Int)] 3)
        have h6 := Lib.hid (heap_alloc_new v2 (.cells #[.int .i64 (a : Int)] 3))
        refine hK _ _ (.inr fun x hx => bb.cell (by rw [hx]; exact Nat.lt_of_lt_of_le hbx hW.size)) ?_
        replace h3 := Lib.hid (own_below h3.out bb)
        replace hW := hW.trans (bb.mono hW.size)
        clear hK K bb
        try simp only [Act.put, List.setIfInBounds_toArray, List.set_cons_zero, List.set_cons_succ]
        generalize v2.alloc (.cells #[.int .i64 (a : Int)] 3) = v3 at hW h6 h3 ⊢
        generalize v2.heap.size = g6 at h6 ⊢
        refine stepT 7 rfl (by decide +kernel) (by rfl) ?_
        intro K hK
        refine wp_appendIN2 Try.underlying45 Try.info3 (.tmp 24) (.tmp 27) rfl W0.heap.size (.slice A3 zs.length c3) zs rfl h3.out v3.heap.size 1 (some ⟨g6, 0, none⟩) [(a : Int)] (rdi_one h6.out) rfl (by simp; omega) hW.size ?_
        intro A4 c4 wx h4 bb hgr
        refine hK _ _ (.inr fun x hx => bb.cell (by rw [hx]; exact hbx)) ?_
        replace hW := hW.trans bb
        obtain ⟨A4', c4', e4, r4⟩ := RdI.of_own h4
        obtain ⟨rfl, rfl⟩ : A4 = A4' ∧ c4 = c4' := by injection e4 with e1 e2 e3; exact ⟨e1, e3⟩
        replace r4 := Lib.hid (r4)
        have own4 := Lib.hid h4
        rw [hlen.out]
        clear hK K bb hgr h3 h6 h4 e4
        try simp only [Act.put, List.setIfInBounds_toArray, List.set_cons_zero, List.set_cons_succ]
        ((first | (refine takeT 8 (v := ?_) rfl (by decide +kernel) (by decide +kernel) (by decide +kernel) (fun _ _ _ h => h) (by decide +kernel) (Or.inl ⟨by rfl, ?_⟩) ?_; rotate_left 1; (focus (intro W hW; have hcW := hW.at; (try dsimp only at hcW); go_simp; first | done | with_reducible rfl)); try simp only [Act.put, List.setIfInBounds_toArray, List.set_cons_zero, List.set_cons_succ]) | (refine takeW 8 (v := ?_) rfl (by decide +kernel) (by decide +kernel) (by decide +kernel) (fun _ _ _ h => h) (Or.inl ⟨by rfl, ?_⟩) ?_; rotate_left 1; (focus (intro W hW; go_simp; first | done | with_reducible rfl)); try simp only [Act.put, List.setIfInBounds_toArray, List.set_cons_zero, List.set_cons_succ]) | (refine takeW 8 rfl (by decide +kernel) (by decide +kernel) (by decide +kernel) (fun _ _ _ h => h) (Or.inr ⟨by rfl, rfl⟩) ?_; try simp only [Act.put, List.setIfInBounds_toArray, List.set_cons_zero, List.set_cons_succ]) | skip))
        have hx := (hW.block _ hbx).trans hbx0.out
        have hy := (hW.block _ hby).trans hby0.out
        have d0 := block_at hx (i := 1) (v := .slice A zs.length c) rfl
        have f0 := block_free hx 1
        replace hx := Lib.hid hx
        replace hy := Lib.hid hy
        refine stepT 9 rfl (by decide +kernel) (by rfl) ?_
        intro K hK
        go_simp
        refine hK _ _ (.inl (by decide)) ?_
        have hs := grown_setCell wx ⟨bx, 1, none⟩ (.slice A4 (zs.length + 1) c4)
        have hx2 := block_set hx.out 1 (.slice A4 (zs.length + 1) c4)
        have hy2 := block_grown hy.out hs (fun e => nxy (Option.some.inj e).symm)
        have own5 := own4.out.kept hs (.inr fun e => by have h5 := (own4.out.lt _ e).1; have h6 : W0.heap.size ≤ bx := h5; omega)
        obtain ⟨A5, c5, e5, r5⟩ := RdI.of_own own5
        obtain ⟨rfl, rfl⟩ : A4 = A5 ∧ c4 = c5 := by injection e5 with e1 e2 e3; exact ⟨e1, e3⟩
        clear hK K d0 f0 hs
        rw [hlen.out] at own5
        refine doneT (by kernel_rfl) ?_
        exact ⟨_, _, _, _, _, _, _, _, _, A4, c4, rfl, by simpa using hx2, hy2, own5, (hw0.out.trans (hW.mono (Nat.le_of_lt hbx))).setCell (p := ⟨bx, 1, none⟩) (Nat.le_refl _) _⟩
      · clear hi
        refine ⟨_, rfl, by rfl, ?_⟩
        intro K hK
        go_simp
        have bb := (Below.refl v1.heap.size v1).alloc (Nat.le_refl _) (.cells #[.int .i64 (a : Int)] 3)
        have h6 := Lib.hid (heap_alloc_new v1 (.cells #[.int .i64 (a : Int)] 3))
        refine hK _ _ (.inr fun x hx => bb.cell (by rw [hx]; exact Nat.lt_of_lt_of_le hbx hW.size)) ?_
        have n06 : q0 ≠ v1.heap.size := Nat.ne_of_lt ((h0.out.lt q0 rfl).2)
        replace h0 := Lib.hid (own_below h0.out bb)
        replace hW := hW.trans (bb.mono hW.size)
        clear hK K bb
        try simp only [Act.put, List.setIfInBounds_toArray, List.set_cons_zero, List.set_cons_succ]
        generalize v1.alloc (.cells #[.int .i64 (a : Int)] 3) = v4 at hW h6 h0 ⊢
        generalize v1.heap.size = g6 at h6 n06 ⊢
        refine stepTA [3] (by decide +kernel) (by decide) ?_
        intro i hi
        obtain rfl : i = 3 := by simpa using hi
        clear hi
        refine ⟨_, rfl, by rfl, ?_⟩
        intro K hK
        refine wp_appendIN2 Try.underlying45 Try.info3 (.tmp 21) (.tmp 23) rfl W0.heap.size (.slice (some ⟨q0, 0, none⟩) 0 0) [] rfl h0.out W0.heap.size c A zs (R0.out.below hW) rfl (by simp; omega) hW.size ?_
        intro A3 c3 v5 h3 bb hgr
        rw [List.nil_append] at h3 ⊢
        refine hK _ _ (.inr fun x hx => bb.cell (by rw [hx]; exact hbx)) ?_
        replace h6 := Lib.hid (block_grown h6.out hgr (fun e => n06 (Option.some.inj e).symm))
        replace h3 := Lib.hid h3
        replace hW := hW.trans bb
        clear hK K bb hgr h0 n06
        try simp only [Act.put, List.setIfInBounds_toArray, List.set_cons_zero, List.set_cons_succ]
        refine stepT 7 rfl (by decide +kernel) (by rfl) ?_
        intro K hK
        refine wp_appendIN2 Try.underlying45 Try.info3 (.tmp 24) (.tmp 27) rfl W0.heap.size (.slice A3 zs.length c3) zs rfl h3.out v5.heap.size 1 (some ⟨g6, 0, none⟩) [(a : Int)] (rdi_one h6.out) rfl (by simp; omega) hW.size ?_
        intro A4 c4 wx h4 bb hgr
        refine hK _ _ (.inr fun x hx => bb.cell (by rw [hx]; exact hbx)) ?_
        replace hW := hW.trans bb
        obtain ⟨A4', c4', e4, r4⟩ := RdI.of_own h4
        obtain ⟨rfl, rfl⟩ : A4 = A4' ∧ c4 = c4' := by injection e4 with e1 e2 e3; exact ⟨e1, e3⟩
        replace r4 := Lib.hid (r4)
        have own4 := Lib.hid h4
        rw [hlen.out]
        clear hK K bb hgr h3 h6 h4 e4
        try simp only [Act.put, List.setIfInBounds_toArray, List.set_cons_zero, List.set_cons_succ]
        ((first | (refine takeT 8 (v := ?_) rfl (by decide +kernel) (by decide +kernel) (by decide +kernel) (fun _ _ _ h => h) (by decide +kernel) (Or.inl ⟨by rfl, ?_⟩) ?_; rotate_left 1; (focus (intro W hW; have hcW := hW.at; (try dsimp only at hcW); go_simp; first | done | with_reducible rfl)); try simp only [Act.put, List.setIfInBounds_toArray, List.set_cons_zero, List.set_cons_succ]) | (refine takeW 8 (v := ?_) rfl (by decide +kernel) (by decide +kernel) (by decide +kernel) (fun _ _ _ h => h) (Or.inl ⟨by rfl, ?_⟩) ?_; rotate_left 1; (focus (intro W hW; go_simp; first | done | with_reducible rfl)); try simp only [Act.put, List.setIfInBounds_toArray, List.set_cons_zero, List.set_cons_succ]) | (refine takeW 8 rfl (by decide +kernel) (by decide +kernel) (by decide +kernel) (fun _ _ _ h => h) (Or.inr ⟨by rfl, rfl⟩) ?_; try simp only [Act.put, List.setIfInBounds_toArray, List.set_cons_zero, List.set_cons_succ]) | skip))
        have hx := (hW.block _ hbx).trans hbx0.out
        have hy := (hW.block _ hby).trans hby0.out
        have d0 := block_at hx (i := 1) (v := .slice A zs.length c) rfl
        have f0 := block_free hx 1
        replace hx := Lib.hid hx
        replace hy := Lib.hid hy
        refine stepT 9 rfl (by decide +kernel) (by rfl) ?_
        intro K hK
        go_simp
        refine hK _ _ (.inl (by decide)) ?_
        have hs := grown_setCell wx ⟨bx, 1, none⟩ (.slice A4 (zs.length + 1) c4)
        have hx2 := block_set hx.out 1 (.slice A4 (zs.length + 1) c4)
        have hy2 := block_grown hy.out hs (fun e => nxy (Option.some.inj e).symm)
        have own5 := own4.out.kept hs (.inr fun e => by have h5 := (own4.out.lt _ e).1; have h6 : W0.heap.size ≤ bx := h5; omega)
        obtain ⟨A5, c5, e5, r5⟩ := RdI.of_own own5
        obtain ⟨rfl, rfl⟩ : A4 = A5 ∧ c4 = c5 := by injection e5 with e1 e2 e3; exact ⟨e1, e3⟩
        clear hK K d0 f0 hs
        rw [hlen.out] at own5
        refine doneT (by kernel_rfl) ?_
        exact ⟨_, _, _, _, _, _, _, _, _, A4, c4, rfl, by simpa using hx2, hy2, own5, (hw0.out.trans (hW.mono (Nat.le_of_lt hbx))).setCell (p := ⟨bx, 1, none⟩) (Nat.le_refl _) _⟩
    · clear hi
      refine ⟨_, rfl, by rfl, ?_⟩
      intro K hK
      go_simp
      have bb := (Below.refl v0.heap.size v0).alloc (Nat.le_refl _) (.cells #[.int .i64 (a : Int)] 3)
      have h6 := Lib.hid (heap_alloc_new v0 (.cells #[.int .i64 (a : Int)] 3))
      refine hK _ _ (.inr fun x hx => bb.cell (by rw [hx]; exact Nat.lt_of_lt_of_le hbx hW.size)) ?_
      replace hW := hW.trans (bb.mono hW.size)
      clear hK K bb
      try simp only [Act.put, List.setIfInBounds_toArray, List.set_cons_zero, List.set_cons_succ]
      generalize v0.alloc (.cells #[.int .i64 (a : Int)] 3) = v6 at hW h6 ⊢
      generalize v0.heap.size = g6 at h6 ⊢
      refine stepTA [0] (by decide +kernel) (by decide) ?_
      intro i hi
      obtain rfl : i = 0 := by simpa using hi
      clear hi
      refine ⟨_, rfl, by rfl, ?_⟩
      intro K hK
      go_simp
      have bb := (Below.refl v6.heap.size v6).alloc (Nat.le_refl _) (.cells #[] 3)
      have h0 := Lib.hid (own_base (show (v6.alloc (.cells #[] 3)).ownsRow v6.heap.size 3 1 (.slice (some ⟨v6.heap.size, 0, none⟩) 0 0) ([] : List Int).length (([] : List Int).map iv) from ownI_built v6 3 [] (by simp)) hW.size)
      refine hK _ _ (.inr fun x hx => bb.cell (by rw [hx]; exact Nat.lt_of_lt_of_le hbx hW.size)) ?_
      have n06 : v6.heap.size ≠ g6 := fun e => by have := block_lt h6.out; omega
      replace h6 := Lib.hid ((bb.block _ (block_lt h6.out)).trans h6.out)
      replace hW := hW.trans (bb.mono hW.size)
      clear hK K bb
      try simp only [Act.put, List.setIfInBounds_toArray, List.set_cons_zero, List.set_cons_succ]
      generalize v6.alloc (.cells #[] 3) = v7 at hW h0 h6 ⊢
      generalize v6.heap.size = q0 at h0 n06 ⊢
      refine stepTA [3] (by decide +kernel) (by decide) ?_
      intro i hi
      obtain rfl : i = 3 := by simpa using hi
      clear hi
      refine ⟨_, rfl, by rfl, ?_⟩
      intro K hK
      refine wp_appendIN2 Try.underlying45 Try.info3 (.tmp 21) (.tmp 23) rfl W0.heap.size (.slice (some ⟨q0, 0, none⟩) 0 0) [] rfl h0.out W0.heap.size c A zs (R0.out.below hW) rfl (by simp; omega) hW.size ?_
      intro A3 c3 v8 h3 bb hgr
      rw [List.nil_append] at h3 ⊢
      refine hK _ _ (.inr fun x hx => bb.cell (by rw [hx]; exact hbx)) ?_
      replace h6 := Lib.hid (block_grown h6.out hgr (fun e => n06 (Option.some.inj e).symm))
      replace h3 := Lib.hid h3
      replace hW := hW.trans bb
      clear hK K bb hgr h0 n06
      try simp only [Act.put, List.setIfInBounds_toArray, List.set_cons_zero, List.set_cons_succ]
      refine stepT 7 rfl (by decide +kernel) (by rfl) ?_
      intro K hK
      refine wp_appendIN2 Try.underlying45 Try.info3 (.tmp 24) (.tmp 27) rfl W0.heap.size (.slice A3 zs.length c3) zs rfl h3.out v8.heap.size 1 (some ⟨g6, 0, none⟩) [(a : Int)] (rdi_one h6.out) rfl (by simp; omega) hW.size ?_
      intro A4 c4 wx h4 bb hgr
      refine hK _ _ (.inr fun x hx => bb.cell (by rw [hx]; exact hbx)) ?_
      replace hW := hW.trans bb
      obtain ⟨A4', c4', e4, r4⟩ := RdI.of_own h4
      obtain ⟨rfl, rfl⟩ : A4 = A4' ∧ c4 = c4' := by injection e4 with e1 e2 e3; exact ⟨e1, e3⟩
      replace r4 := Lib.hid (r4)
      have own4 := Lib.hid h4
      rw [hlen.out]
      clear hK K bb hgr h3 h6 h4 e4
      try simp only [Act.put, List.setIfInBounds_toArray, List.set_cons_zero, List.set_cons_succ]
      ((first | (refine takeT 8 (v := ?_) rfl (by decide +kernel) (by decide +kernel) (by decide +kernel) (fun _ _ _ h => h) (by decide +kernel) (Or.inl ⟨by rfl, ?_⟩) ?_; rotate_left 1; (focus (intro W hW; have hcW := hW.at; (try dsimp only at hcW); go_simp; first | done | with_reducible rfl)); try simp only [Act.put, List.setIfInBounds_toArray, List.set_cons_zero, List.set_cons_succ]) | (refine takeW 8 (v := ?_) rfl (by decide +kernel) (by decide +kernel) (by decide +kernel) (fun _ _ _ h => h) (Or.inl ⟨by rfl, ?_⟩) ?_; rotate_left 1; (focus (intro W hW; go_simp; first | done | with_reducible rfl)); try simp only [Act.put, List.setIfInBounds_toArray, List.set_cons_zero, List.set_cons_succ]) | (refine takeW 8 rfl (by decide +kernel) (by decide +kernel) (by decide +kernel) (fun _ _ _ h => h) (Or.inr ⟨by rfl, rfl⟩) ?_; try simp only [Act.put, List.setIfInBounds_toArray, List.set_cons_zero, List.set_cons_succ]) | skip))
      have hx := (hW.block _ hbx).trans hbx0.out
      have hy := (hW.block _ hby).trans hby0.out
      have d0 := block_at hx (i := 1) (v := .slice A zs.length c) rfl
      have f0 := block_free hx 1
      replace hx := Lib.hid hx
      replace hy := Lib.hid hy
      refine stepT 9 rfl (by decide +kernel) (by rfl) ?_
      intro K hK
      go_simp
      refine hK _ _ (.inl (by decide)) ?_
      have hs := grown_setCell wx ⟨bx, 1, none⟩ (.slice A4 (zs.length + 1) c4)
      have hx2 := block_set hx.out 1 (.slice A4 (zs.length + 1) c4)
      have hy2 := block_grown hy.out hs (fun e => nxy (Option.some.inj e).symm)
      have own5 := own4.out.kept hs (.inr fun e => by have h5 := (own4.out.lt _ e).1; have h6 : W0.heap.size ≤ bx := h5; omega)
      obtain ⟨A5, c5, e5, r5⟩ := RdI.of_own own5
      obtain ⟨rfl, rfl⟩ : A4 = A5 ∧ c4 = c5 := by injection e5 with e1 e2 e3; exact ⟨e1, e3⟩
      clear hK K d0 f0 hs
      rw [hlen.out] at own5
      refine doneT (by kernel_rfl) ?_
      exact ⟨_, _, _, _, _, _, _, _, _, A4, c4, rfl, by simpa using hx2, hy2, own5, (hw0.out.trans (hW.mono (Nat.le_of_lt hbx))).setCell (p := ⟨bx, 1, none⟩) (Nat.le_refl _) _⟩
    -- end of tree
  · rintro act w2 ⟨v21, v22, v23, v24, v25, v26, v27, v28, v29, A', c', rfl, hx, hy, ho, hW⟩
    have hx0 := block_at hx (i := 0) (v := .int .i64 (a : Int)) rfl
    have hx1 := block_at hx (i := 1) (v := .slice A' (zs.length + 1) c') rfl
    have hx2 := block_at hx (i := 2) (v := .bool s) rfl
    have hx3 := block_at hx (i := 3) (v := .bool s) rfl
    have fx := block_free hx
    have hy0 := block_at hy (i := 0) (v := .int .i64 0) rfl
    have hy1 := block_at hy (i := 1) (v := .slice none 0 0) rfl
    have hy2 := block_at hy (i := 2) (v := .bool false) rfl
    have hy3 := block_at hy (i := 3) (v := .bool false) rfl
    have fy := block_free hy
    replace hy := Lib.hid hy
    replace ho := Lib.hid ho
    replace hW := Lib.hid hW
    have nyx : by_ ≠ bx := nxy.symm
    replace hbxe := Lib.hid hbxe
    replace hbye := Lib.hid hbye
    have ha1 : IntKind.i64.wrap ((a : Int) + 1) = ((a + 1 : Nat) : Int) := by simp only [IntKind.wrap_i64]; omega
    clear hx R0 hw0 hbx0 hby0
    rcases hlo.out with rfl | rfl
    · clear hlo h2
      go_wp2
      refine bodyPost_ret (results_cell_row rfl _ _ by_ _ _ _ _ rfl (set1234 (other (other (other hy.out nyx) nyx) nyx) _ _ _ _) Try.underlying47 rfl (by kernel_rfl)) rfl ?_
      refine (hQ.out A' c' _ ?_ ?_ (newer_own ho.out (by have := hbxe.out; omega))).2 rfl
      · refine RdI.of_own' (base := W0.heap.size) (e := 3) (n := zs.length + 1) (zs := zs ++ [(a : Int)]) (by simp) ?_
        repeat (refine own_set ?_ (by first | exact hbx | exact hby))
        exact ho.out
      · rw [hbxe.out]
        repeat (refine Below.setCell ?_ (by first | exact Nat.le_refl _ | exact hgey) _)
        exact hW.out
    · clear hlo h2
      go_wp2
      refine bodyPost_ret (results_cell_row rfl _ _ by_ _ _ _ _ rfl (set1234 (other hy.out nyx) _ _ _ _) Try.underlying47 rfl (by kernel_rfl)) rfl ?_
      refine (hQ.out A' c' _ ?_ ?_ (newer_own ho.out (by have := hbxe.out; omega))).1 rfl
      · refine RdI.of_own' (base := W0.heap.size) (e := 3) (n := zs.length + 1) (zs := zs ++ [(a : Int)]) (by simp) ?_
        repeat (refine own_set ?_ (by first | exact hbx | exact hby))
        exact ho.out
      · rw [hbxe.out]
        repeat (refine Below.setCell ?_ (by first | exact Nat.le_refl _ | exact hgey) _)
        exact hW.out

/-- What follows a step that reads nothing. -/
def AfterR (Q : Ending → World → Prop) (w : World) (a : Nat) (A : Option Addr) (c : Nat) (zs : List Int) (s : Bool) (lo : Int) : Prop :=
  ∀ w', RdI w' w'.heap.size A c zs → Below w.heap.size w w' →
    (lo = 2 → Q (.returned (stV a A zs.length c s (!s))) w') ∧ (lo = 0 → Q (.returned (stV (a + 1) A zs.length c (!s) (!s))) w')
set_option maxHeartbeats 1600000 in
set_option maxRecDepth 100000 in
theorem step_rep_core (Q : Ending → World → Prop) (w : World) (a : Nat) (A : Option Addr) (c : Nat) (zs : List Int) (s : Bool) (many : Nat) (lo : Int) (hr : RdI w w.heap.size A c zs) (h : a < many) (hm : many ≤ 1000) (hlo : Hid (lo = 0 ∨ lo = 2))
    (hQ : Hid (AfterR Q w a A c zs s lo)) :
    Calls Try.prog 17 #[stV a A zs.length c s (!s), .int .i64 (many : Int), .int .i64 lo] w Q := by
  have hw0 := Lib.hid (((Below.refl w.heap.size w).alloc (Nat.le_refl _) (.cells #[.int .i64 (a : Int), .slice A zs.length c, .bool s, .bool !s] 47)).alloc (by simp) (.cells #[.int .i64 0, .slice none 0 0, .bool false, .bool false] 47))
  have hbx0 := Lib.hid (heap_alloc2_old w (.cells #[.int .i64 (a : Int), .slice A zs.length c, .bool s, .bool !s] 47) (.cells #[.int .i64 0, .slice none 0 0, .bool false, .bool false] 47))
  have hby0 := Lib.hid (heap_alloc2_new w (.cells #[.int .i64 (a : Int), .slice A zs.length c, .bool s, .bool !s] 47) (.cells #[.int .i64 0, .slice none 0 0, .bool false, .bool false] 47))
  have h1 : decide ((many : Int) ≤ (a : Int)) = false := by rw [decide_eq_false_iff_not]; omega
  have h1' : decide (many ≤ a) = false := by rw [decide_eq_false_iff_not]; omega
  have h2 := lo_cases lo hlo
  have h3 : (s == !s) = false := by cases s <;> rfl
  have R0 := Lib.hid (hr.belowTop hw0.out)
  have ha1 : IntKind.i64.wrap ((a : Int) + 1) = ((a + 1 : Nat) : Int) := by simp only [IntKind.wrap_i64]; omega
  replace hr := Lib.hid hr
  go_enter Try.func17, Try.ntmps17
  rcases hlo.out with rfl | rfl
  · clear hlo h2 hw0 R0
    go_wp2
    have hz := ((Below.refl w.heap.size w).alloc (Nat.le_refl _) (.cells #[.int .i64 ((a : Int) + 1 : Int), .slice A zs.length c, .bool !s, .bool !s] 47)).alloc (by simp) (.cells #[.int .i64 ((a : Int) + 1 : Int), .slice A zs.length c, .bool !s, .bool !s] 47)
    refine bodyPost_ret (v := stV (a + 1) A zs.length c (!s) (!s)) (by simp [results, Try.results17, go_sem]) rfl ?_
    exact (hQ.out _ (hr.out.belowTop hz) hz).2 rfl
  · clear hlo h2 hw0 R0
    go_wp2
    have hz := ((Below.refl w.heap.size w).alloc (Nat.le_refl _) (.cells #[.int .i64 ((a : Int) : Int), .slice A zs.length c, .bool s, .bool !s] 47)).alloc (by simp) (.cells #[.int .i64 ((a : Int) : Int), .slice A zs.length c, .bool s, .bool !s] 47)
    refine bodyPost_ret (v := stV a A zs.length c (s) (!s)) (by simp [results, Try.results17, go_sem]) rfl ?_
    exact (hQ.out _ (hr.out.belowTop hz) hz).1 rfl

end Go.Proofs.Ytodbjdpbigboiaa
