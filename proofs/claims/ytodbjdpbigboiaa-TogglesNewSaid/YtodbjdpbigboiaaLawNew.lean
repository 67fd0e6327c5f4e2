/-
  The law TogglesNew is walked for any packets and numbers; no statement is proved here.
-/
import Derived.Test.YtodbjdpbigboiaaLw6
import Derived.Test.YtodbjdpbigboiaaApi2
import Derived.Test.YtodbjdpbigboiaaLives
namespace Go.Proofs.Ytodbjdpbigboiaa
open Go Go.RowKit

/-- A store whose run is known. -/
theorem wpList_storeT {P : Program} {ops : Array Oper} {rest : List Oper} {op : Oper} {a : Act} {w : World} {Q : Exit → Act → World → Prop} (hgd : op.guard = none) (ty : TypeId) (x y : Operand) (ho : op.op = .store ty x y)
    (b : Nat) (v : Value) (w' : World) (hx : a.eval x = .pointer (some ⟨b, 0, none⟩)) (hy : a.eval y = v) (hs : (storeVar ty ⟨b, 0, none⟩ v).run P w = .ok () w')
    (h : wpList P ops Q rest (a.put op.dst undef) w') : wpList P ops Q (op :: rest) a w :=
  wpList_plain hgd fun _ hK => by
    unfold Oper.wp execOp
    simp only [ho, hx, hy, Instr.storeAt, Instr.sureAddr, Sem.run_bind, Sem.run_pure, Result.andThen_ok, hs]
    exact hK _ _ h
/-- The state of the law's walk. -/
structure Ln (w W : World) (B b9 gs : Nat) (t : Bool) (l qf : List (List UInt8)) (Af : Option Addr) (cf : Nat) : Prop where
  below : Below w.heap.size w W
  b : W.heap[b9]? = some (.cells #[.bool t, .slice (some ⟨gs, 0, none⟩) l.length l.length] 28 (0, 0))
  n : News W w.heap.size gs l
  r : Rds W B Af cf qf
  ge : B ≤ b9
  geB : w.heap.size ≤ B
namespace Ln
variable {w W W' : World} {B b9 gs cf : Nat} {t : Bool} {l qf : List (List UInt8)} {Af : Option Addr}
theorem to (h : Ln w W B b9 gs t l qf Af cf) (bb : Below W.heap.size W W') : Ln w W' B b9 gs t l qf Af cf :=
  ⟨h.below.trans (bb.mono h.below.size), (bb.block _ (block_lt h.b)).trans h.b, h.n.below bb, h.r.below (bb.mono (Nat.le_trans h.ge (Nat.le_of_lt (block_lt h.b)))), h.ge, h.geB⟩
theorem set (h : Ln w W B b9 gs t l qf Af cf) {g' : Nat} {l' : List (List UInt8)} (hn : News W w.heap.size g' l') (t' : Bool) :
    Ln w ((W.setCell ⟨b9, 0, none⟩ (.bool t')).setCell ⟨b9, 1, none⟩ (.slice (some ⟨g', 0, none⟩) l'.length l'.length)) B b9 g' t' l' qf Af cf :=
  ⟨below2 h.below (Nat.le_trans h.geB h.ge) _ _, set2 h.b _ _, hn.stores2 h.b (by decide) (by decide) _ _, h.r.below (below2 (Below.refl _ _) h.ge _ _), h.ge, h.geB⟩
end Ln

set_option maxHeartbeats 800000 in
set_option maxRecDepth 100000 in
theorem lnew_small (w : World) (A : Option Addr) (c m l : Nat) (ps : List (List UInt8)) (h : Rds w w.heap.size A c ps) (hs : ¬ SmallP ps 40) :
    Calls Try.prog 3 #[.slice A ps.length c, .int .u16 (m : Int), .int .u16 (l : Int)] w (ResB w true) := by
  have KS := Lib.hid (small_no w A c ps h 40 (by omega) hs)
  go_enter Try.func3, Try.ntmps3
  go_wp2_with fail
  refine KS.out.mono ?_
  rintro e w1 ⟨rfl, rfl⟩
  go_wp2
  go_ret
  exact ⟨rfl, Below.refl _ _⟩

set_option maxHeartbeats 6400000 in
set_option maxRecDepth 100000 in
theorem lnew_good (w : World) (A : Option Addr) (c m l : Nat) (hm : m ≤ 65535) (hl : l ≤ 65535) (ps : List (List UInt8)) (h : Rds w w.heap.size A c ps) (hs : SmallP ps 40) :
    Calls Try.prog 3 #[.slice A ps.length c, .int .u16 (m : Int), .int .u16 (l : Int)] w (ResB w true) := by
  have KS := Lib.hid (small_yes w A c ps h 40 (by omega) hs)
  have cv : IntKind.i64.wrap (m : Int) = (m : Int) := by simp only [IntKind.wrap_i64]; omega
  have hps := hs.1
  obtain ⟨r, hr⟩ : ∃ r, m % 4200 = r := ⟨_, rfl⟩
  have hr4 : r < 4200 := by omega
  have cr0 : (m : Int) % 4200 = (r : Int) := by omega
  have cr1 : Int.tmod (m : Int) 4200 = (r : Int) := by rw [Int.tmod_eq_emod_of_nonneg (by omega)]; exact cr0
  have cr2 : IntKind.i64.wrap (r : Int) = (r : Int) := by simp only [IntKind.wrap_i64]; omega
  clear hr
  go_enter Try.func3, Try.ntmps3
  go_wp2_with fail
  refine KS.out.mono ?_
  rintro e w1 ⟨rfl, rfl⟩
  go_wp2_with fail
  refine (clone_any w A c ps h (hs.sml (by omega))).mono ?_
  rintro e w1 ⟨v1, rfl, hpk1, hb1⟩
  obtain ⟨A1, c1, rfl⟩ := hpk1.shape
  replace hpk1 := Lib.hid hpk1
  replace hb1 := Lib.hid hb1
  go_wp2
  go_loopg [7, 8] r (fun g v i wr => ∃ k : Nat, k + g = r ∧ i = .int .i64 k ∧ Pk wr w.heap.size 26 v (ps ++ List.replicate k []) ∧ Below w.heap.size w wr)
  case atStart => exact ⟨0, by omega, rfl, by simpa using hpk1.out, hb1.out⟩
  case round =>
    obtain ⟨k, hkg, rfl, hpk, hb⟩ := hrel
    by_cases hk : k < r
    · have hki : (k : Int) < (r : Int) := by omega
      obtain ⟨Av, cv, rfl⟩ := hpk.shape
      have hsn := Lib.hid (show ps ++ List.replicate (k + 1) [] = (ps ++ List.replicate k []) ++ [[]] by rw [List.replicate_succ', List.append_assoc])
      have htl : (ps ++ List.replicate k ([] : List UInt8)).length ≤ 1000000 := by rw [List.length_append, List.length_replicate]; omega
      generalize ps ++ List.replicate k [] = ls at hpk hsn htl
      have hnil : Rd wr wr.heap.size none 0 [] := ⟨Nat.le_refl _, by omega, fun h => absurd h (by simp)⟩
      go_wp2_with (at_builtin; refine wpl_appendPk Try.underlying22 Try.info26 rfl (.tmp 30) (.tmp 31) rfl w.heap.size _ ls rfl hpk none 0 [] hnil (fun h => absurd h (by simp)) rfl htl hb.size ?_; intro v2 w2 hpk2 hb2)
      go_roundg (gk - 1)
      case measure => omega
      case rel => exact ⟨k + 1, by omega, by go_num, by rw [hsn.out]; exact hpk2, hb.trans hb2⟩
    · obtain rfl : k = r := by omega
      have hql : (ps ++ List.replicate k ([] : List UInt8)).length = ps.length + k := by rw [List.length_append, List.length_replicate]
      have hq64 : ∀ j, ((ps ++ List.replicate k ([] : List UInt8)).getD j []).length ≤ 64 := fun j => by
        rcases Nat.lt_or_ge j ps.length with hj | hj
        · rw [getD_append_lt hj]; exact hs.all j
        · rw [getD_append_ge hj]
          have : (List.replicate k ([] : List UInt8)).getD (j - ps.length) [] = [] := by
            simp only [List.getD, List.getElem?_replicate]
            split <;> rfl
          rw [this]; simp
      generalize ps ++ List.replicate k [] = qs at hpk hql hq64
      have hql4 : qs.length ≤ 4300 := by omega
      clear hql
      obtain ⟨n, hnq⟩ : ∃ n, qs.length = n := ⟨_, rfl⟩
      obtain ⟨rl, hrl⟩ : ∃ rl, l % 4 = rl := ⟨_, rfl⟩
      have cl0 : (l : Int) % 4 = (rl : Int) := by omega
      have cl1 : Int.tmod (l : Int) 4 = (rl : Int) := by rw [Int.tmod_eq_emod_of_nonneg (by omega)]; exact cl0
      have hrl4 : rl < 4 := by omega
      clear hrl
      rcases Nat.eq_zero_or_pos qs.length with hz | hz
      · have hz1 : ¬ (0 : Int) < (qs.length : Int) := by omega
        have hn0 := Lib.hid (show n = 0 by omega)
        obtain ⟨Af, cf, hAe, hRq⟩ := hpk.rds
        rw [hnq] at hAe
        subst hAe
        have HR := Lib.hid hRq
        have HB := Lib.hid hb
        have hqn : qs.length = n := hnq
        have F1 : ∀ j, j + 1 < n → (qs.getD j []).length ≤ 64 := fun j _ => hq64 j
        clear hRq hpk hb hq64
        go_wp2_with fail
        have hmany : ¬ 4096 < n := by have := hn0.out; omega
        have hm2 : ¬ (4096 : Int) < (n : Int) := by omega
        have hshort : ∀ j, (qs.getD j []).length ≤ 1024 := fun j => by
          have e : qs.getD j [] = [] := by simp [List.getD, List.getElem?_eq_none (by have := hn0.out; omega : qs.length ≤ j)]
          rw [e]; simp
        have hsml : Sml qs := ⟨by omega, fun j => by have := hshort j; omega⟩
        have hng := new_good wr _ cf qs HR.out (by omega) hshort
        rw [hqn] at hng
        refine hng.mono ?_
        rintro e w5 ⟨gs, he, hnw, bb⟩
        rw [hqn] at he
        subst he
        have hB5 := Lib.hid (HB.out.trans (bb.mono HB.out.size))
        have hR5 := HR.out.belowTop bb
        replace hnw := hnw.mono (base' := w.heap.size) HB.out.size
        clear bb HR
        have ba := (Below.refl w5.heap.size w5).alloc (Nat.le_refl _) (.cells #[.bool false, .slice (some ⟨gs, 0, none⟩) n n] 28)
        have hB6 := Lib.hid (hB5.out.alloc hB5.out.size (.cells #[.bool false, .slice (some ⟨gs, 0, none⟩) n n] 28))
        have hN6 := Lib.hid (hnw.below ba)
        have hR6 := Lib.hid (hR5.below ba)
        have hb6 := Lib.hid (heap_alloc_new w5 (.cells #[.bool false, .slice (some ⟨gs, 0, none⟩) n n] 28))
        have hz6 : (w5.alloc (.cells #[.bool false, .slice (some ⟨gs, 0, none⟩) n n] 28)).heap.size = w5.heap.size + 1 := by simp
        replace hB5 := hB5.out.size
        clear hnw hR5 ba
        go_wp2_with fail
        have hNr := hN6.out.rds hsml
        rw [hqn] at hNr
        refine (lists_n _ n _ _ _ _ qs hqn hNr (hR6.out.more (by rw [hz6]; omega)) (by omega)).mono ?_
        rintro e w7 ⟨rfl, bb⟩
        have hL6 : Ln w _ w5.heap.size w5.heap.size gs false qs qs _ cf := ⟨hB6.out, by rw [hqn]; exact hb6.out, hN6.out, hR6.out, Nat.le_refl _, hB5⟩
        have hL := hL6.to bb
        clear hNr hL6 hB6 hb6 hN6 hR6 bb HB hz6 hB5
        generalize w5.heap.size = b9 at hL ⊢
        by_cases h50 : 50 < n
        · have h5 : (50 : Int) < (n : Int) := by omega
          replace hL := Lib.hid hL
          go_wp2_with fail
          refine (lives_any w7).mono ?_
          rintro e w8 ⟨rfl, bb⟩
          have hB8 := Lib.hid (hL.out.below.trans (bb.mono hL.out.below.size))
          go_wp2
          go_ret
          exact ⟨rfl, hB8.out⟩
        have h5 : ¬ (50 : Int) < (n : Int) := by omega
        replace hL := Lib.hid hL
        go_wp2
        go_loopg [11] n (fun g i wr => ∃ (k gs : Nat), k + g = n ∧ i = .int .i64 k ∧ Ln w wr b9 b9 gs (k % 2 == 1) (qs.drop k) qs Af cf)
        case atStart => exact ⟨0, gs, by omega, rfl, hL.out⟩
        case round =>
          obtain ⟨k, gs, hkg, rfl, hL⟩ := hrel
          by_cases hk : k < n
          · obtain ⟨l, hl⟩ : ∃ l, qs.drop k = l := ⟨_, rfl⟩
            have hl1 : l.drop 1 = qs.drop (k + 1) := by rw [← hl, List.drop_drop]
            have hl2 : l.getD 0 [] = qs.getD k [] := by rw [← hl]; simp [List.getD, List.getElem?_drop]
            have hl0 : 0 < l.length := by rw [← hl, List.length_drop]; omega
            have hsl : Sml l := by rw [← hl]; exact hsml.drop k
            rw [hl] at hL
            obtain ⟨t, ht⟩ : ∃ t, (k % 2 == 1) = t := ⟨_, rfl⟩
            have ht1 : ((k + 1) % 2 == 1) = !t := by
              rw [← ht]
              rcases Nat.mod_two_eq_zero_or_one k with h | h
              · rw [show (k + 1) % 2 = 1 by omega, h]; rfl
              · rw [show (k + 1) % 2 = 0 by omega, h]; rfl
            rw [ht] at hL
            obtain ⟨k2, hk2⟩ : ∃ k2, k % 2 = k2 := ⟨_, rfl⟩
            have ct0 : (k : Int) % 2 = (k2 : Int) := by omega
            have ct1 : Int.tmod (k : Int) 2 = (k2 : Int) := by rw [Int.tmod_eq_emod_of_nonneg (by omega)]; exact ct0
            have ct2 : IntKind.i64.wrap (k2 : Int) = (k2 : Int) := by simp only [IntKind.wrap_i64]; omega
            have ct3 : ((k2 : Int) == 1) = t := by
              rw [← ht, hk2]
              have : k2 = 0 ∨ k2 = 1 := by omega
              rcases this with rfl | rfl <;> rfl
            have ct4 : (t != t) = false := by simp
            have hki : (k : Int) < (n : Int) := by omega
            have hki0 : (0 : Int) ≤ (k : Int) := by omega
            replace ht1 := Lib.hid ht1
            replace hl1 := Lib.hid hl1
            clear hl ht hk2
            have e0 := block_at hL.b (i := 0) (v := .bool t) rfl
            have e1 := block_at hL.b (i := 1) (v := .slice (some ⟨gs, 0, none⟩) l.length l.length) rfl
            replace hL := Lib.hid hL
            go_wp2_with fail
            refine (offer_some wr t _ _ l (hL.out.n.rds hsl) hl0 hsl).mono ?_
            rintro e w8 ⟨q, rfl, hq, hrow, bb⟩
            replace hL := Lib.hid (hL.out.to bb)
            rw [hl2] at hrow ⊢
            obtain ⟨bq, offq, Aq, cq, hAq, hltq, hcq, hrq⟩ := hL.out.r.at_ (k := k) (by omega)
            first | subst hAq | (injection hAq with hAq; injection hAq with ha1 ha2; subst ha1 ha2)
            have hrd := hrow.rd (by have := hsml.2 k; omega)
            generalize qs.getD k [] = xs at hrow hcq hrq hrd ⊢
            have cv1 := Lib.hid (fun W (hW : Sm (fun _ => True) w8.drew W) => (hrd.keep (w' := W) fun p _ => hW p trivial).cv)
            have cv2 := Lib.hid (fun W (hW : Sm (fun _ => True) w8.drew W) => (hrq.keep (w' := W) fun p _ => hW p trivial).cv)
            clear e0 e1 hrow hrd hrq bb
            go_wp2
            refine startT (S := fun _ => True) (T := []) 19 (by kernel_rfl) rfl (l := #[false, false, false, false, false, false, false, false, false, false, false, false, false, false, false, false, false, false, false]) rfl ?_
            ((first | (refine takeT 0 (v := ?_) rfl (by decide +kernel) (by decide +kernel) (by decide +kernel) (fun _ _ _ h => h) (by decide +kernel) (Or.inl ⟨by rfl, ?_⟩) ?_; rotate_left 1; (focus (intro W hW; have hcW := hW.at; (try dsimp only at hcW); go_simp; first | done | with_reducible rfl)); try simp only [Act.put, List.setIfInBounds_toArray, List.set_cons_zero, List.set_cons_succ]) | (refine takeW 0 (v := ?_) rfl (by decide +kernel) (by decide +kernel) (by decide +kernel) (fun _ _ _ h => h) (Or.inl ⟨by rfl, ?_⟩) ?_; rotate_left 1; (focus (intro W hW; go_simp; first | done | with_reducible rfl)); try simp only [Act.put, List.setIfInBounds_toArray, List.set_cons_zero, List.set_cons_succ]) | (refine takeW 0 rfl (by decide +kernel) (by decide +kernel) (by decide +kernel) (fun _ _ _ h => h) (Or.inr ⟨by rfl, rfl⟩) ?_; try simp only [Act.put, List.setIfInBounds_toArray, List.set_cons_zero, List.set_cons_succ]) | skip); (first | (refine takeT 1 (v := ?_) rfl (by decide +kernel) (by decide +kernel) (by decide +kernel) (fun _ _ _ h => h) (by decide +kernel) (Or.inl ⟨by rfl, ?_⟩) ?_; rotate_left 1; (focus (intro W hW; have hcW := hW.at; (try dsimp only at hcW); go_simp; first | done | with_reducible rfl)); try simp only [Act.put, List.setIfInBounds_toArray, List.set_cons_zero, List.set_cons_succ]) | (refine takeW 1 (v := ?_) rfl (by decide +kernel) (by decide +kernel) (by decide +kernel) (fun _ _ _ h => h) (Or.inl ⟨by rfl, ?_⟩) ?_; rotate_left 1; (focus (intro W hW; go_simp; first | done | with_reducible rfl)); try simp only [Act.put, List.setIfInBounds_toArray, List.set_cons_zero, List.set_cons_succ]) | (refine takeW 1 rfl (by decide +kernel) (by decide +kernel) (by decide +kernel) (fun _ _ _ h => h) (Or.inr ⟨by rfl, rfl⟩) ?_; try simp only [Act.put, List.setIfInBounds_toArray, List.set_cons_zero, List.set_cons_succ]) | skip); (first | (refine takeT 2 (v := ?_) rfl (by decide +kernel) (by decide +kernel) (by decide +kernel) (fun _ _ _ h => h) (by decide +kernel) (Or.inl ⟨by rfl, ?_⟩) ?_; rotate_left 1; (focus (intro W hW; have hcW := hW.at; (try dsimp only at hcW); go_simp; first | done | with_reducible rfl)); try simp only [Act.put, List.setIfInBounds_toArray, List.set_cons_zero, List.set_cons_succ]) | (refine takeW 2 (v := ?_) rfl (by decide +kernel) (by decide +kernel) (by decide +kernel) (fun _ _ _ h => h) (Or.inl ⟨by rfl, ?_⟩) ?_; rotate_left 1; (focus (intro W hW; go_simp; first | done | with_reducible rfl)); try simp only [Act.put, List.setIfInBounds_toArray, List.set_cons_zero, List.set_cons_succ]) | (refine takeW 2 rfl (by decide +kernel) (by decide +kernel) (by decide +kernel) (fun _ _ _ h => h) (Or.inr ⟨by rfl, rfl⟩) ?_; try simp only [Act.put, List.setIfInBounds_toArray, List.set_cons_zero, List.set_cons_succ]) | skip); (first | (refine takeT 3 (v := ?_) rfl (by decide +kernel) (by decide +kernel) (by decide +kernel) (fun _ _ _ h => h) (by decide +kernel) (Or.inl ⟨by rfl, ?_⟩) ?_; rotate_left 1; (focus (intro W hW; have hcW := hW.at; (try dsimp only at hcW); go_simp; first | done | with_reducible rfl)); try simp only [Act.put, List.setIfInBounds_toArray, List.set_cons_zero, List.set_cons_succ]) | (refine takeW 3 (v := ?_) rfl (by decide +kernel) (by decide +kernel) (by decide +kernel) (fun _ _ _ h => h) (Or.inl ⟨by rfl, ?_⟩) ?_; rotate_left 1; (focus (intro W hW; go_simp; first | done | with_reducible rfl)); try simp only [Act.put, List.setIfInBounds_toArray, List.set_cons_zero, List.set_cons_succ]) | (refine takeW 3 rfl (by decide +kernel) (by decide +kernel) (by decide +kernel) (fun _ _ _ h => h) (Or.inr ⟨by rfl, rfl⟩) ?_; try simp only [Act.put, List.setIfInBounds_toArray, List.set_cons_zero, List.set_cons_succ]) | skip); (first | (refine takeT 5 (v := ?_) rfl (by decide +kernel) (by decide +kernel) (by decide +kernel) (fun _ _ _ h => h) (by decide +kernel) (Or.inl ⟨by rfl, ?_⟩) ?_; rotate_left 1; (focus (intro W hW; have hcW := hW.at; (try dsimp only at hcW); go_simp; first | done | with_reducible rfl)); try simp only [Act.put, List.setIfInBounds_toArray, List.set_cons_zero, List.set_cons_succ]) | (refine takeW 5 (v := ?_) rfl (by decide +kernel) (by decide +kernel) (by decide +kernel) (fun _ _ _ h => h) (Or.inl ⟨by rfl, ?_⟩) ?_; rotate_left 1; (focus (intro W hW; go_simp; first | done | with_reducible rfl)); try simp only [Act.put, List.setIfInBounds_toArray, List.set_cons_zero, List.set_cons_succ]) | (refine takeW 5 rfl (by decide +kernel) (by decide +kernel) (by decide +kernel) (fun _ _ _ h => h) (Or.inr ⟨by rfl, rfl⟩) ?_; try simp only [Act.put, List.setIfInBounds_toArray, List.set_cons_zero, List.set_cons_succ]) | skip); (first | (refine takeT 6 (v := ?_) rfl (by decide +kernel) (by decide +kernel) (by decide +kernel) (fun _ _ _ h => h) (by decide +kernel) (Or.inl ⟨by rfl, ?_⟩) ?_; rotate_left 1; (focus (intro W hW; have hcW := hW.at; (try dsimp only at hcW); go_simp; first | done | with_reducible rfl)); try simp only [Act.put, List.setIfInBounds_toArray, List.set_cons_zero, List.set_cons_succ]) | (refine takeW 6 (v := ?_) rfl (by decide +kernel) (by decide +kernel) (by decide +kernel) (fun _ _ _ h => h) (Or.inl ⟨by rfl, ?_⟩) ?_; rotate_left 1; (focus (intro W hW; go_simp; first | done | with_reducible rfl)); try simp only [Act.put, List.setIfInBounds_toArray, List.set_cons_zero, List.set_cons_succ]) | (refine takeW 6 rfl (by decide +kernel) (by decide +kernel) (by decide +kernel) (fun _ _ _ h => h) (Or.inr ⟨by rfl, rfl⟩) ?_; try simp only [Act.put, List.setIfInBounds_toArray, List.set_cons_zero, List.set_cons_succ]) | skip); (first | (refine takeT 7 (v := ?_) rfl (by decide +kernel) (by decide +kernel) (by decide +kernel) (fun _ _ _ h => h) (by decide +kernel) (Or.inl ⟨by rfl, ?_⟩) ?_; rotate_left 1; (focus (intro W hW; have hcW := hW.at; (try dsimp only at hcW); go_simp; first | done | with_reducible rfl)); try simp only [Act.put, List.setIfInBounds_toArray, List.set_cons_zero, List.set_cons_succ]) | (refine takeW 7 (v := ?_) rfl (by decide +kernel) (by decide +kernel) (by decide +kernel) (fun _ _ _ h => h) (Or.inl ⟨by rfl, ?_⟩) ?_; rotate_left 1; (focus (intro W hW; go_simp; first | done | with_reducible rfl)); try simp only [Act.put, List.setIfInBounds_toArray, List.set_cons_zero, List.set_cons_succ]) | (refine takeW 7 rfl (by decide +kernel) (by decide +kernel) (by decide +kernel) (fun _ _ _ h => h) (Or.inr ⟨by rfl, rfl⟩) ?_; try simp only [Act.put, List.setIfInBounds_toArray, List.set_cons_zero, List.set_cons_succ]) | skip); (first | (refine takeT 8 (v := ?_) rfl (by decide +kernel) (by decide +kernel) (by decide +kernel) (fun _ _ _ h => h) (by decide +kernel) (Or.inl ⟨by rfl, ?_⟩) ?_; rotate_left 1; (focus (intro W hW; have hcW := hW.at; (try dsimp only at hcW); go_simp; first | done | with_reducible rfl)); try simp only [Act.put, List.setIfInBounds_toArray, List.set_cons_zero, List.set_cons_succ]) | (refine takeW 8 (v := ?_) rfl (by decide +kernel) (by decide +kernel) (by decide +kernel) (fun _ _ _ h => h) (Or.inl ⟨by rfl, ?_⟩) ?_; rotate_left 1; (focus (intro W hW; go_simp; first | done | with_reducible rfl)); try simp only [Act.put, List.setIfInBounds_toArray, List.set_cons_zero, List.set_cons_succ]) | (refine takeW 8 rfl (by decide +kernel) (by decide +kernel) (by decide +kernel) (fun _ _ _ h => h) (Or.inr ⟨by rfl, rfl⟩) ?_; try simp only [Act.put, List.setIfInBounds_toArray, List.set_cons_zero, List.set_cons_succ]) | skip))
            refine takeT 4 (v := .string ⟨xs.toArray⟩) rfl (by decide +kernel) (by decide +kernel) (by decide +kernel) (fun _ _ _ h => h) (by decide +kernel) (Or.inl ⟨by rfl, ?_⟩) ?_
            · intro W hW
              have q := cv1.out W hW
              go_simp
              first | done | with_reducible rfl
            try simp only [Act.put, List.setIfInBounds_toArray, List.set_cons_zero, List.set_cons_succ]
            refine takeT 9 (v := .string ⟨xs.toArray⟩) rfl (by decide +kernel) (by decide +kernel) (by decide +kernel) (fun _ _ _ h => h) (by decide +kernel) (Or.inl ⟨by rfl, ?_⟩) ?_
            · intro W hW
              have q := cv2.out W hW
              go_simp
              first | done | with_reducible rfl
            try simp only [Act.put, List.setIfInBounds_toArray, List.set_cons_zero, List.set_cons_succ]
            ((first | (refine takeT 10 (v := ?_) rfl (by decide +kernel) (by decide +kernel) (by decide +kernel) (fun _ _ _ h => h) (by decide +kernel) (Or.inl ⟨by rfl, ?_⟩) ?_; rotate_left 1; (focus (intro W hW; have hcW := hW.at; (try dsimp only at hcW); go_simp; first | done | with_reducible rfl)); try simp only [Act.put, List.setIfInBounds_toArray, List.set_cons_zero, List.set_cons_succ]) | (refine takeW 10 (v := ?_) rfl (by decide +kernel) (by decide +kernel) (by decide +kernel) (fun _ _ _ h => h) (Or.inl ⟨by rfl, ?_⟩) ?_; rotate_left 1; (focus (intro W hW; go_simp; first | done | with_reducible rfl)); try simp only [Act.put, List.setIfInBounds_toArray, List.set_cons_zero, List.set_cons_succ]) | (refine takeW 10 rfl (by decide +kernel) (by decide +kernel) (by decide +kernel) (fun _ _ _ h => h) (Or.inr ⟨by rfl, rfl⟩) ?_; try simp only [Act.put, List.setIfInBounds_toArray, List.set_cons_zero, List.set_cons_succ]) | skip); (first | (refine takeT 11 (v := ?_) rfl (by decide +kernel) (by decide +kernel) (by decide +kernel) (fun _ _ _ h => h) (by decide +kernel) (Or.inl ⟨by rfl, ?_⟩) ?_; rotate_left 1; (focus (intro W hW; have hcW := hW.at; (try dsimp only at hcW); go_simp; first | done | with_reducible rfl)); try simp only [Act.put, List.setIfInBounds_toArray, List.set_cons_zero, List.set_cons_succ]) | (refine takeW 11 (v := ?_) rfl (by decide +kernel) (by decide +kernel) (by decide +kernel) (fun _ _ _ h => h) (Or.inl ⟨by rfl, ?_⟩) ?_; rotate_left 1; (focus (intro W hW; go_simp; first | done | with_reducible rfl)); try simp only [Act.put, List.setIfInBounds_toArray, List.set_cons_zero, List.set_cons_succ]) | (refine takeW 11 rfl (by decide +kernel) (by decide +kernel) (by decide +kernel) (fun _ _ _ h => h) (Or.inr ⟨by rfl, rfl⟩) ?_; try simp only [Act.put, List.setIfInBounds_toArray, List.set_cons_zero, List.set_cons_succ]) | skip); (first | (refine takeT 12 (v := ?_) rfl (by decide +kernel) (by decide +kernel) (by decide +kernel) (fun _ _ _ h => h) (by decide +kernel) (Or.inl ⟨by rfl, ?_⟩) ?_; rotate_left 1; (focus (intro W hW; have hcW := hW.at; (try dsimp only at hcW); go_simp; first | done | with_reducible rfl)); try simp only [Act.put, List.setIfInBounds_toArray, List.set_cons_zero, List.set_cons_succ]) | (refine takeW 12 (v := ?_) rfl (by decide +kernel) (by decide +kernel) (by decide +kernel) (fun _ _ _ h => h) (Or.inl ⟨by rfl, ?_⟩) ?_; rotate_left 1; (focus (intro W hW; go_simp; first | done | with_reducible rfl)); try simp only [Act.put, List.setIfInBounds_toArray, List.set_cons_zero, List.set_cons_succ]) | (refine takeW 12 rfl (by decide +kernel) (by decide +kernel) (by decide +kernel) (fun _ _ _ h => h) (Or.inr ⟨by rfl, rfl⟩) ?_; try simp only [Act.put, List.setIfInBounds_toArray, List.set_cons_zero, List.set_cons_succ]) | skip); (first | (refine takeT 13 (v := ?_) rfl (by decide +kernel) (by decide +kernel) (by decide +kernel) (fun _ _ _ h => h) (by decide +kernel) (Or.inl ⟨by rfl, ?_⟩) ?_; rotate_left 1; (focus (intro W hW; have hcW := hW.at; (try dsimp only at hcW); go_simp; first | done | with_reducible rfl)); try simp only [Act.put, List.setIfInBounds_toArray, List.set_cons_zero, List.set_cons_succ]) | (refine takeW 13 (v := ?_) rfl (by decide +kernel) (by decide +kernel) (by decide +kernel) (fun _ _ _ h => h) (Or.inl ⟨by rfl, ?_⟩) ?_; rotate_left 1; (focus (intro W hW; go_simp; first | done | with_reducible rfl)); try simp only [Act.put, List.setIfInBounds_toArray, List.set_cons_zero, List.set_cons_succ]) | (refine takeW 13 rfl (by decide +kernel) (by decide +kernel) (by decide +kernel) (fun _ _ _ h => h) (Or.inr ⟨by rfl, rfl⟩) ?_; try simp only [Act.put, List.setIfInBounds_toArray, List.set_cons_zero, List.set_cons_succ]) | skip); (first | (refine takeT 14 (v := ?_) rfl (by decide +kernel) (by decide +kernel) (by decide +kernel) (fun _ _ _ h => h) (by decide +kernel) (Or.inl ⟨by rfl, ?_⟩) ?_; rotate_left 1; (focus (intro W hW; have hcW := hW.at; (try dsimp only at hcW); go_simp; first | done | with_reducible rfl)); try simp only [Act.put, List.setIfInBounds_toArray, List.set_cons_zero, List.set_cons_succ]) | (refine takeW 14 (v := ?_) rfl (by decide +kernel) (by decide +kernel) (by decide +kernel) (fun _ _ _ h => h) (Or.inl ⟨by rfl, ?_⟩) ?_; rotate_left 1; (focus (intro W hW; go_simp; first | done | with_reducible rfl)); try simp only [Act.put, List.setIfInBounds_toArray, List.set_cons_zero, List.set_cons_succ]) | (refine takeW 14 rfl (by decide +kernel) (by decide +kernel) (by decide +kernel) (fun _ _ _ h => h) (Or.inr ⟨by rfl, rfl⟩) ?_; try simp only [Act.put, List.setIfInBounds_toArray, List.set_cons_zero, List.set_cons_succ]) | skip); (first | (refine takeT 15 (v := ?_) rfl (by decide +kernel) (by decide +kernel) (by decide +kernel) (fun _ _ _ h => h) (by decide +kernel) (Or.inl ⟨by rfl, ?_⟩) ?_; rotate_left 1; (focus (intro W hW; have hcW := hW.at; (try dsimp only at hcW); go_simp; first | done | with_reducible rfl)); try simp only [Act.put, List.setIfInBounds_toArray, List.set_cons_zero, List.set_cons_succ]) | (refine takeW 15 (v := ?_) rfl (by decide +kernel) (by decide +kernel) (by decide +kernel) (fun _ _ _ h => h) (Or.inl ⟨by rfl, ?_⟩) ?_; rotate_left 1; (focus (intro W hW; go_simp; first | done | with_reducible rfl)); try simp only [Act.put, List.setIfInBounds_toArray, List.set_cons_zero, List.set_cons_succ]) | (refine takeW 15 rfl (by decide +kernel) (by decide +kernel) (by decide +kernel) (fun _ _ _ h => h) (Or.inr ⟨by rfl, rfl⟩) ?_; try simp only [Act.put, List.setIfInBounds_toArray, List.set_cons_zero, List.set_cons_succ]) | skip); (first | (refine takeT 16 (v := ?_) rfl (by decide +kernel) (by decide +kernel) (by decide +kernel) (fun _ _ _ h => h) (by decide +kernel) (Or.inl ⟨by rfl, ?_⟩) ?_; rotate_left 1; (focus (intro W hW; have hcW := hW.at; (try dsimp only at hcW); go_simp; first | done | with_reducible rfl)); try simp only [Act.put, List.setIfInBounds_toArray, List.set_cons_zero, List.set_cons_succ]) | (refine takeW 16 (v := ?_) rfl (by decide +kernel) (by decide +kernel) (by decide +kernel) (fun _ _ _ h => h) (Or.inl ⟨by rfl, ?_⟩) ?_; rotate_left 1; (focus (intro W hW; go_simp; first | done | with_reducible rfl)); try simp only [Act.put, List.setIfInBounds_toArray, List.set_cons_zero, List.set_cons_succ]) | (refine takeW 16 rfl (by decide +kernel) (by decide +kernel) (by decide +kernel) (fun _ _ _ h => h) (Or.inr ⟨by rfl, rfl⟩) ?_; try simp only [Act.put, List.setIfInBounds_toArray, List.set_cons_zero, List.set_cons_succ]) | skip); (first | (refine takeT 17 (v := ?_) rfl (by decide +kernel) (by decide +kernel) (by decide +kernel) (fun _ _ _ h => h) (by decide +kernel) (Or.inl ⟨by rfl, ?_⟩) ?_; rotate_left 1; (focus (intro W hW; have hcW := hW.at; (try dsimp only at hcW); go_simp; first | done | with_reducible rfl)); try simp only [Act.put, List.setIfInBounds_toArray, List.set_cons_zero, List.set_cons_succ]) | (refine takeW 17 (v := ?_) rfl (by decide +kernel) (by decide +kernel) (by decide +kernel) (fun _ _ _ h => h) (Or.inl ⟨by rfl, ?_⟩) ?_; rotate_left 1; (focus (intro W hW; go_simp; first | done | with_reducible rfl)); try simp only [Act.put, List.setIfInBounds_toArray, List.set_cons_zero, List.set_cons_succ]) | (refine takeW 17 rfl (by decide +kernel) (by decide +kernel) (by decide +kernel) (fun _ _ _ h => h) (Or.inr ⟨by rfl, rfl⟩) ?_; try simp only [Act.put, List.setIfInBounds_toArray, List.set_cons_zero, List.set_cons_succ]) | skip); (first | (refine takeT 18 (v := ?_) rfl (by decide +kernel) (by decide +kernel) (by decide +kernel) (fun _ _ _ h => h) (by decide +kernel) (Or.inl ⟨by rfl, ?_⟩) ?_; rotate_left 1; (focus (intro W hW; have hcW := hW.at; (try dsimp only at hcW); go_simp; first | done | with_reducible rfl)); try simp only [Act.put, List.setIfInBounds_toArray, List.set_cons_zero, List.set_cons_succ]) | (refine takeW 18 (v := ?_) rfl (by decide +kernel) (by decide +kernel) (by decide +kernel) (fun _ _ _ h => h) (Or.inl ⟨by rfl, ?_⟩) ?_; rotate_left 1; (focus (intro W hW; go_simp; first | done | with_reducible rfl)); try simp only [Act.put, List.setIfInBounds_toArray, List.set_cons_zero, List.set_cons_succ]) | (refine takeW 18 rfl (by decide +kernel) (by decide +kernel) (by decide +kernel) (fun _ _ _ h => h) (Or.inr ⟨by rfl, rfl⟩) ?_; try simp only [Act.put, List.setIfInBounds_toArray, List.set_cons_zero, List.set_cons_succ]) | skip))
            refine doneT (by kernel_rfl) ?_
            have hLd : Ln w w8.drew b9 b9 gs t l qs _ cf := hL.out.to (Below.refl _ _).drew
            have e0 := block_at hLd.b (i := 0) (v := .bool t) rfl
            have e1 := block_at hLd.b (i := 1) (v := .slice (some ⟨gs, 0, none⟩) l.length l.length) rfl
            replace hLd := Lib.hid hLd
            clear hL cv1 cv2 hcq
            go_wp2_with fail
            have hac := acks_some _ t _ _ l (hLd.out.n.rds hsl) hl0 hsl
            obtain ⟨l2, hl3⟩ : ∃ l2, l.drop 1 = l2 := ⟨_, rfl⟩
            obtain ⟨t2, ht2⟩ : ∃ t2, (!t) = t2 := ⟨_, rfl⟩
            rw [hl3, ht2] at hac
            replace hl3 := Lib.hid hl3
            replace ht2 := Lib.hid ht2
            refine hac.mono ?_
            rintro e w9 ⟨g2, he, hn9, bb⟩
            replace he : e = .returned (.tuple #[.agg #[.bool t2, .slice (some ⟨g2, 0, none⟩) l2.length l2.length], .int .i64 0]) := he
            subst he
            have hL9 := hLd.out.to bb
            have d0 := block_at hL9.b (i := 0) (v := .bool t) rfl
            have d1 := block_at hL9.b (i := 1) (v := .slice (some ⟨gs, 0, none⟩) l.length l.length) rfl
            have f0 := block_free hL9.b 0
            have f1 := block_free hL9.b 1
            have hLs := Lib.hid (hL9.set (hn9.mono (base' := w.heap.size) hLd.out.below.size) t2)
            clear hL9 hLd hn9 bb e0 e1 hac ct0 ct1 ct2 ct3 ct4 hl0 hki hki0 hl2 hsl
            have tst : (storeVar 28 ⟨b9, 0, none⟩ (.agg #[.bool t2, .slice (some ⟨g2, 0, none⟩) l2.length l2.length])).run Try.prog w9 = .ok () ((w9.setCell ⟨b9, 0, none⟩ (.bool t2)).setCell ⟨b9, 1, none⟩ (.slice (some ⟨g2, 0, none⟩) l2.length l2.length)) := by
              go_simp
            go_wp2_with (refine wpList_storeT rfl 28 (.tmp 9) (.tmp 141) rfl b9 _ _ rfl rfl tst ?_)
            go_roundg (gk - 1)
            case measure => omega
            case rel => exact ⟨k + 1, g2, by omega, by go_num, by rw [ht1.out, ← hl1.out, hl3.out, ht2.out]; exact hLs.out⟩
          · have hkn : k = n := by omega
            rw [hkn, show qs.drop n = [] by rw [← hqn, List.drop_length]] at hL
            generalize (n % 2 == 1) = t at hL
            have e0 := block_at hL.b (i := 0) (v := .bool t) rfl
            have e1 := block_at hL.b (i := 1) (v := .slice (some ⟨gs, 0, none⟩) 0 0) rfl
            have hki : ¬ (k : Int) < (n : Int) := by omega
            replace hL := Lib.hid hL
            clear hkn
            go_wp2_with fail
            refine (offer_none wr t _ 0).mono ?_
            rintro e w8 ⟨rfl, bb⟩
            replace hL := Lib.hid (hL.out.to bb)
            have c0 := block_at hL.out.b (i := 0) (v := .bool t) rfl
            have c1 := block_at hL.out.b (i := 1) (v := .slice (some ⟨gs, 0, none⟩) 0 0) rfl
            clear e0 e1 bb
            go_wp2_with fail
            refine (acks_none w8 t _ 0).mono ?_
            rintro e w9 ⟨rfl, bb⟩
            replace hL := Lib.hid (hL.out.to bb)
            clear c0 c1 bb
            go_wp2_with fail
            refine (lives_any w9).mono ?_
            rintro e w10 ⟨rfl, bb⟩
            have hB9 := Lib.hid (hL.out.below.trans (bb.mono hL.out.below.size))
            go_wp2
            go_ret
            exact ⟨rfl, hB9.out⟩
      · have hz1 : (0 : Int) < (qs.length : Int) := by omega
        rcases Nat.eq_zero_or_pos rl with hr0 | hr0
        · subst hr0
          obtain ⟨A3, cf, rfl⟩ := hpk.shape
          obtain ⟨ql, hq0⟩ : ∃ ql, l / 4 = ql := ⟨_, rfl⟩
          have hqq : ql ≤ 65535 := by omega
          have cq0 : (l : Int) / 4 = (ql : Int) := by omega
          have cq1 : Int.tdiv (l : Int) 4 = (ql : Int) := by rw [Int.tdiv_eq_ediv_of_nonneg (by omega)]; exact cq0
          have cq2 : IntKind.u16.wrap (ql : Int) = (ql : Int) := by rw [IntKind.wrap_u16]; omega
          have cq3 : IntKind.i64.wrap (ql : Int) = (ql : Int) := by simp only [IntKind.wrap_i64]; omega
          obtain ⟨z, hz0⟩ : ∃ z, ql % 1100 = z := ⟨_, rfl⟩
          have hzz : z < 1100 := by omega
          have cz0 : (ql : Int) % 1100 = (z : Int) := by omega
          have cz1 : Int.tmod (ql : Int) 1100 = (z : Int) := by rw [Int.tmod_eq_emod_of_nonneg (by omega)]; exact cz0
          have cz2 : IntKind.i64.wrap (z : Int) = (z : Int) := by simp only [IntKind.wrap_i64]; omega
          have hmk := fun W : World => make_full (z : Int) W (by omega) (by omega)
          simp only [Int.toNat_natCast] at hmk
          obtain ⟨g, u, rfl, hgl, hgc, hgf, hset⟩ := hpk.setlast hz hb.size
          obtain ⟨hrs, hbs⟩ := hset z (by omega)
          rw [World.setCell_alloc_past _ _ _ _ hgl] at hrs hbs
          have hs1 : IntKind.i64.wrap ((n : Int) - 1) = (n : Int) - 1 := by simp only [IntKind.wrap_i64]; omega
          have hs2 : ((n : Int) - 1).toNat = n - 1 := by omega
          rw [hnq] at hgc hgf hrs hbs
          replace hrs := Lib.hid hrs
          replace hbs := Lib.hid hbs
          have hn2 : (n : Int) - 1 < (n : Int) := by omega
          have hn3 : (0 : Int) ≤ (n : Int) - 1 := by omega
          have hn4 : (1 : Int) ≤ (n : Int) := by omega
          clear hset hpk hq0 hz0
          go_wp2_with fail
          have HR : Hid (Rds ((wr.setCell ⟨g, n - 1, none⟩ (.slice (some ⟨wr.heap.size, 0, none⟩) z z)).alloc (.cells (madeCells #[.int .u8 0] z) 5)) ((wr.setCell ⟨g, n - 1, none⟩ (.slice (some ⟨wr.heap.size, 0, none⟩) z z)).alloc (.cells (madeCells #[.int .u8 0] z) 5)).heap.size (some ⟨g, 0, none⟩) cf (lastZ qs z)) := hrs.out
          have HB := Lib.hid (hb.trans hbs.out)
          have hqn : (lastZ qs z).length = n := by rw [lastZ_length z hz]; exact hnq
          have F1 : ∀ j, j + 1 < n → ((lastZ qs z).getD j []).length ≤ 64 := fun j hj => by rw [lastZ_lt z j (by omega)]; exact hq64 j
          clear hrs hbs hgc hgf hmk hb cz0 cz1 cz2 cq0 cq1 cq2 cq3 hs1 hs2 hn2 hn3 hn4 hq64 hz
          generalize (wr.setCell ⟨g, n - 1, none⟩ (.slice (some ⟨wr.heap.size, 0, none⟩) z z)).alloc (.cells (madeCells #[.int .u8 0] z) 5) = Wf at HR HB ⊢
          generalize lastZ qs z = qf at HR hqn F1
          clear hnq hgl
          generalize (some (⟨g, 0, none⟩ : Addr)) = Af at HR ⊢
          by_cases hmany : 4096 < n
          · have hm1 : (4096 : Int) < (n : Int) := by omega
            refine (new_many _ Af n cf hmany).mono ?_
            rintro e w5 ⟨rfl, bb⟩
            have hB5 := Lib.hid (HB.out.trans (bb.mono HB.out.size))
            clear bb HR
            have hb9 := Lib.hid (heap_alloc_new w5 (.cells #[.bool false, .slice none 0 0] 28))
            go_wp2_with fail
            have hB6 := Lib.hid (hB5.out.alloc hB5.out.size (.cells #[.bool false, .slice none 0 0] 28))
            refine (lives_any _).mono ?_
            rintro e w6 ⟨rfl, bb⟩
            have hB7 := Lib.hid (hB6.out.trans (bb.mono hB6.out.size))
            go_wp2
            go_ret
            exact ⟨rfl, hB7.out⟩
          obtain ⟨bl, offl, Al, cl, rfl, hltl, hcl, _⟩ := HR.out.at_ (k := n - 1) (by omega)
          obtain ⟨ln, hln⟩ : ∃ ln, (qf.getD (n - 1) []).length = ln := ⟨_, rfl⟩
          rw [hln] at hcl
          have hm2 : ¬ (4096 : Int) < (n : Int) := by omega
          have hs1 : IntKind.i64.wrap ((n : Int) - 1) = (n : Int) - 1 := by simp only [IntKind.wrap_i64]; omega
          have hs2 : ((n : Int) - 1).toNat = n - 1 := by omega
          have hn2 : (n : Int) - 1 < (n : Int) := by omega
          have hn3 : (0 : Int) ≤ (n : Int) - 1 := by omega
          have hn4 : (1 : Int) ≤ (n : Int) := by omega
          by_cases hlong : 1024 < ln
          · have hm3 : (1024 : Int) < (ln : Int) := by omega
            have hnl := new_long Wf _ cf qf HR.out (by omega) (n - 1) (by omega) (by omega) (fun j hj => by have := F1 j (by omega); omega)
            rw [hqn] at hnl
            refine hnl.mono ?_
            rintro e w5 ⟨rfl, bb⟩
            have hB5 := Lib.hid (HB.out.trans (bb.mono HB.out.size))
            have hcl5 := (bb.cell (p := ⟨bl, offl + (n - 1), none⟩) hltl).trans hcl
            have hlt5 := Nat.lt_of_lt_of_le hltl bb.size
            clear bb HR
            go_wp2_with fail
            have hB6 := Lib.hid (hB5.out.alloc hB5.out.size (.cells #[.bool false, .slice none 0 0] 28))
            refine (lives_any _).mono ?_
            rintro e w6 ⟨rfl, bb⟩
            have hB7 := Lib.hid (hB6.out.trans (bb.mono hB6.out.size))
            go_wp2
            go_ret
            exact ⟨rfl, hB7.out⟩
          have hm3 : ¬ (1024 : Int) < (ln : Int) := by omega
          have hshort : ∀ j, (qf.getD j []).length ≤ 1024 := fun j => by
            rcases Nat.lt_or_ge (j + 1) n with hj | hj
            · have := F1 j hj; omega
            · rcases Nat.lt_or_ge j n with hj2 | hj2
              · obtain rfl : j = n - 1 := by omega
                omega
              · have e : qf.getD j [] = [] := by simp [List.getD, List.getElem?_eq_none (by omega : qf.length ≤ j)]
                rw [e]; simp
          have hsml : Sml qf := ⟨by omega, fun j => by have := hshort j; omega⟩
          have hng := new_good Wf _ cf qf HR.out (by omega) hshort
          rw [hqn] at hng
          refine hng.mono ?_
          rintro e w5 ⟨gs, he, hnw, bb⟩
          rw [hqn] at he
          subst he
          have hB5 := Lib.hid (HB.out.trans (bb.mono HB.out.size))
          have hR5 := HR.out.belowTop bb
          have hcl5 := (bb.cell (p := ⟨bl, offl + (n - 1), none⟩) hltl).trans hcl
          have hlt5 := Nat.lt_of_lt_of_le hltl bb.size
          replace hnw := hnw.mono (base' := w.heap.size) HB.out.size
          clear bb HR
          have ba := (Below.refl w5.heap.size w5).alloc (Nat.le_refl _) (.cells #[.bool false, .slice (some ⟨gs, 0, none⟩) n n] 28)
          have hB6 := Lib.hid (hB5.out.alloc hB5.out.size (.cells #[.bool false, .slice (some ⟨gs, 0, none⟩) n n] 28))
          have hN6 := Lib.hid (hnw.below ba)
          have hR6 := Lib.hid (hR5.below ba)
          have hb6 := Lib.hid (heap_alloc_new w5 (.cells #[.bool false, .slice (some ⟨gs, 0, none⟩) n n] 28))
          have hz6 : (w5.alloc (.cells #[.bool false, .slice (some ⟨gs, 0, none⟩) n n] 28)).heap.size = w5.heap.size + 1 := by simp
          replace hB5 := hB5.out.size
          clear hnw hR5 ba
          go_wp2_with fail
          have hNr := hN6.out.rds hsml
          rw [hqn] at hNr
          refine (lists_n _ n _ _ _ _ qf hqn hNr (hR6.out.more (by rw [hz6]; omega)) (by omega)).mono ?_
          rintro e w7 ⟨rfl, bb⟩
          have hL6 : Ln w _ w5.heap.size w5.heap.size gs false qf qf _ cf := ⟨hB6.out, by rw [hqn]; exact hb6.out, hN6.out, hR6.out, Nat.le_refl _, hB5⟩
          have hL := hL6.to bb
          clear hNr hL6 hB6 hb6 hN6 hR6 bb HB hz6 hB5
          generalize w5.heap.size = b9 at hL ⊢
          by_cases h50 : 50 < n
          · have h5 : (50 : Int) < (n : Int) := by omega
            replace hL := Lib.hid hL
            go_wp2_with fail
            refine (lives_any w7).mono ?_
            rintro e w8 ⟨rfl, bb⟩
            have hB8 := Lib.hid (hL.out.below.trans (bb.mono hL.out.below.size))
            go_wp2
            go_ret
            exact ⟨rfl, hB8.out⟩
          have h5 : ¬ (50 : Int) < (n : Int) := by omega
          replace hL := Lib.hid hL
          go_wp2
          go_loopg [11] n (fun g i wr => ∃ (k gs : Nat), k + g = n ∧ i = .int .i64 k ∧ Ln w wr b9 b9 gs (k % 2 == 1) (qf.drop k) qf _ cf)
          case atStart => exact ⟨0, gs, by omega, rfl, hL.out⟩
          case round =>
            obtain ⟨k, gs, hkg, rfl, hL⟩ := hrel
            by_cases hk : k < n
            · obtain ⟨l, hl⟩ : ∃ l, qf.drop k = l := ⟨_, rfl⟩
              have hl1 : l.drop 1 = qf.drop (k + 1) := by rw [← hl, List.drop_drop]
              have hl2 : l.getD 0 [] = qf.getD k [] := by rw [← hl]; simp [List.getD, List.getElem?_drop]
              have hl0 : 0 < l.length := by rw [← hl, List.length_drop]; omega
              have hsl : Sml l := by rw [← hl]; exact hsml.drop k
              rw [hl] at hL
              obtain ⟨t, ht⟩ : ∃ t, (k % 2 == 1) = t := ⟨_, rfl⟩
              have ht1 : ((k + 1) % 2 == 1) = !t := by
                rw [← ht]
                rcases Nat.mod_two_eq_zero_or_one k with h | h
                · rw [show (k + 1) % 2 = 1 by omega, h]; rfl
                · rw [show (k + 1) % 2 = 0 by omega, h]; rfl
              rw [ht] at hL
              obtain ⟨k2, hk2⟩ : ∃ k2, k % 2 = k2 := ⟨_, rfl⟩
              have ct0 : (k : Int) % 2 = (k2 : Int) := by omega
              have ct1 : Int.tmod (k : Int) 2 = (k2 : Int) := by rw [Int.tmod_eq_emod_of_nonneg (by omega)]; exact ct0
              have ct2 : IntKind.i64.wrap (k2 : Int) = (k2 : Int) := by simp only [IntKind.wrap_i64]; omega
              have ct3 : ((k2 : Int) == 1) = t := by
                rw [← ht, hk2]
                have : k2 = 0 ∨ k2 = 1 := by omega
                rcases this with rfl | rfl <;> rfl
              have ct4 : (t != t) = false := by simp
              have hki : (k : Int) < (n : Int) := by omega
              have hki0 : (0 : Int) ≤ (k : Int) := by omega
              replace ht1 := Lib.hid ht1
              replace hl1 := Lib.hid hl1
              clear hl ht hk2
              have e0 := block_at hL.b (i := 0) (v := .bool t) rfl
              have e1 := block_at hL.b (i := 1) (v := .slice (some ⟨gs, 0, none⟩) l.length l.length) rfl
              replace hL := Lib.hid hL
              go_wp2_with fail
              refine (offer_some wr t _ _ l (hL.out.n.rds hsl) hl0 hsl).mono ?_
              rintro e w8 ⟨q, rfl, hq, hrow, bb⟩
              replace hL := Lib.hid (hL.out.to bb)
              rw [hl2] at hrow ⊢
              obtain ⟨bq, offq, Aq, cq, hAq, hltq, hcq, hrq⟩ := hL.out.r.at_ (k := k) (by omega)
              first | subst hAq | (injection hAq with hAq; injection hAq with ha1 ha2; subst ha1 ha2)
              have hrd := hrow.rd (by have := hsml.2 k; omega)
              generalize qf.getD k [] = xs at hrow hcq hrq hrd ⊢
              have cv1 := Lib.hid (fun W (hW : Sm (fun _ => True) w8.drew W) => (hrd.keep (w' := W) fun p _ => hW p trivial).cv)
              have cv2 := Lib.hid (fun W (hW : Sm (fun _ => True) w8.drew W) => (hrq.keep (w' := W) fun p _ => hW p trivial).cv)
              clear e0 e1 hrow hrd hrq bb
              go_wp2
              refine startT (S := fun _ => True) (T := []) 19 (by kernel_rfl) rfl (l := #[false, false, false, false, false, false, false, false, false, false, false, false, false, false, false, false, false, false, false]) rfl ?_
              ((first | (refine takeT 0 (v := ?_) rfl (by decide +kernel) (by decide +kernel) (by decide +kernel) (fun _ _ _ h => h) (by decide +kernel) (Or.inl ⟨by rfl, ?_⟩) ?_; rotate_left 1; (focus (intro W hW; have hcW := hW.at; (try dsimp only at hcW); go_simp; first | done | with_reducible rfl)); try simp only [Act.put, List.setIfInBounds_toArray, List.set_cons_zero, List.set_cons_succ]) | (refine takeW 0 (v := ?_) rfl (by decide +kernel) (by decide +kernel) (by decide +kernel) (fun _ _ _ h => h) (Or.inl ⟨by rfl, ?_⟩) ?_; rotate_left 1; (focus (intro W hW; go_simp; first | done | with_reducible rfl)); try simp only [Act.put, List.setIfInBounds_toArray, List.set_cons_zero, List.set_cons_succ]) | (refine takeW 0 rfl (by decide +kernel) (by decide +kernel) (by decide +kernel) (fun _ _ _ h => h) (Or.inr ⟨by rfl, rfl⟩) ?_; try simp only [Act.put, List.setIfInBounds_toArray, List.set_cons_zero, List.set_cons_succ]) | skip); (first | (refine takeT 1 (v := ?_) rfl (by decide +kernel) (by decide +kernel) (by decide +kernel) (fun _ _ _ h => h) (by decide +kernel) (Or.inl ⟨by rfl, ?_⟩) ?_; rotate_left 1; (focus (intro W hW; have hcW := hW.at; (try dsimp only at hcW); go_simp; first | done | with_reducible rfl)); try simp only [Act.put, List.setIfInBounds_toArray, List.set_cons_zero, List.set_cons_succ]) | (refine takeW 1 (v := ?_) rfl (by decide +kernel) (by decide +kernel) (by decide +kernel) (fun _ _ _ h => h) (Or.inl ⟨by rfl, ?_⟩) ?_; rotate_left 1; (focus (intro W hW; go_simp; first | done | with_reducible rfl)); try simp only [Act.put, List.setIfInBounds_toArray, List.set_cons_zero, List.set_cons_succ]) | (refine takeW 1 rfl (by decide +kernel) (by decide +kernel) (by decide +kernel) (fun _ _ _ h => h) (Or.inr ⟨by rfl, rfl⟩) ?_; try simp only [Act.put, List.setIfInBounds_toArray, List.set_cons_zero, List.set_cons_succ]) | skip); (first | (refine takeT 2 (v := ?_) rfl (by decide +kernel) (by decide +kernel) (by decide +kernel) (fun _ _ _ h => h) (by decide +kernel) (Or.inl ⟨by rfl, ?_⟩) ?_; rotate_left 1; (focus (intro W hW; have hcW := hW.at; (try dsimp only at hcW); go_simp; first | done | with_reducible rfl)); try simp only [Act.put, List.setIfInBounds_toArray, List.set_cons_zero, List.set_cons_succ]) | (refine takeW 2 (v := ?_) rfl (by decide +kernel) (by decide +kernel) (by decide +kernel) (fun _ _ _ h => h) (Or.inl ⟨by rfl, ?_⟩) ?_; rotate_left 1; (focus (intro W hW; go_simp; first | done | with_reducible rfl)); try simp only [Act.put, List.setIfInBounds_toArray, List.set_cons_zero, List.set_cons_succ]) | (refine takeW 2 rfl (by decide +kernel) (by decide +kernel) (by decide +kernel) (fun _ _ _ h => h) (Or.inr ⟨by rfl, rfl⟩) ?_; try simp only [Act.put, List.setIfInBounds_toArray, List.set_cons_zero, List.set_cons_succ]) | skip); (first | (refine takeT 3 (v := ?_) rfl (by decide +kernel) (by decide +kernel) (by decide +kernel) (fun _ _ _ h => h) (by decide +kernel) (Or.inl ⟨by rfl, ?_⟩) ?_; rotate_left 1; (focus (intro W hW; have hcW := hW.at; (try dsimp only at hcW); go_simp; first | done | with_reducible rfl)); try simp only [Act.put, List.setIfInBounds_toArray, List.set_cons_zero, List.set_cons_succ]) | (refine takeW 3 (v := ?_) rfl (by decide +kernel) (by decide +kernel) (by decide +kernel) (fun _ _ _ h => h) (Or.inl ⟨by rfl, ?_⟩) ?_; rotate_left 1; (focus (intro W hW; go_simp; first | done | with_reducible rfl)); try simp only [Act.put, List.setIfInBounds_toArray, List.set_cons_zero, List.set_cons_succ]) | (refine takeW 3 rfl (by decide +kernel) (by decide +kernel) (by decide +kernel) (fun _ _ _ h => h) (Or.inr ⟨by rfl, rfl⟩) ?_; try simp only [Act.put, List.setIfInBounds_toArray, List.set_cons_zero, List.set_cons_succ]) | skip); (first | (refine takeT 5 (v := ?_) rfl (by decide +kernel) (by decide +kernel) (by decide +kernel) (fun _ _ _ h => h) (by decide +kernel) (Or.inl ⟨by rfl, ?_⟩) ?_; rotate_left 1; (focus (intro W hW; have hcW := hW.at; (try dsimp only at hcW); go_simp; first | done | with_reducible rfl)); try simp only [Act.put, List.setIfInBounds_toArray, List.set_cons_zero, List.set_cons_succ]) | (refine takeW 5 (v := ?_) rfl (by decide +kernel) (by decide +kernel) (by decide +kernel) (fun _ _ _ h => h) (Or.inl ⟨by rfl, ?_⟩) ?_; rotate_left 1; (focus (intro W hW; go_simp; first | done | with_reducible rfl)); try simp only [Act.put, List.setIfInBounds_toArray, List.set_cons_zero, List.set_cons_succ]) | (refine takeW 5 rfl (by decide +kernel) (by decide +kernel) (by decide +kernel) (fun _ _ _ h => h) (Or.inr ⟨by rfl, rfl⟩) ?_; try simp only [Act.put, List.setIfInBounds_toArray, List.set_cons_zero, List.set_cons_succ]) | skip); (first | (refine takeT 6 (v := ?_) rfl (by decide +kernel) (by decide +kernel) (by decide +kernel) (fun _ _ _ h => h) (by decide +kernel) (Or.inl ⟨by rfl, ?_⟩) ?_; rotate_left 1; (focus (intro W hW; have hcW := hW.at; (try dsimp only at hcW); go_simp; first | done | with_reducible rfl)); try simp only [Act.put, List.setIfInBounds_toArray, List.set_cons_zero, List.set_cons_succ]) | (refine takeW 6 (v := ?_) rfl (by decide +kernel) (by decide +kernel) (by decide +kernel) (fun _ _ _ h => h) (Or.inl ⟨by rfl, ?_⟩) ?_; rotate_left 1; (focus (intro W hW; go_simp; first | done | with_reducible rfl)); try simp only [Act.put, List.setIfInBounds_toArray, List.set_cons_zero, List.set_cons_succ]) | (refine takeW 6 rfl (by decide +kernel) (by decide +kernel) (by decide +kernel) (fun _ _ _ h => h) (Or.inr ⟨by rfl, rfl⟩) ?_; try simp only [Act.put, List.setIfInBounds_toArray, List.set_cons_zero, List.set_cons_succ]) | skip); (first | (refine takeT 7 (v := ?_) rfl (by decide +kernel) (by decide +kernel) (by decide +kernel) (fun _ _ _ h => h) (by decide +kernel) (Or.inl ⟨by rfl, ?_⟩) ?_; rotate_left 1; (focus (intro W hW; have hcW := hW.at; (try dsimp only at hcW); go_simp; first | done | with_reducible rfl)); try simp only [Act.put, List.setIfInBounds_toArray, List.set_cons_zero, List.set_cons_succ]) | (refine takeW 7 (v := ?_) rfl (by decide +kernel) (by decide +kernel) (by decide +kernel) (fun _ _ _ h => h) (Or.inl ⟨by rfl, ?_⟩) ?_; rotate_left 1; (focus (intro W hW; go_simp; first | done | with_reducible rfl)); try simp only [Act.put, List.setIfInBounds_toArray, List.set_cons_zero, List.set_cons_succ]) | (refine takeW 7 rfl (by decide +kernel) (by decide +kernel) (by decide +kernel) (fun _ _ _ h => h) (Or.inr ⟨by rfl, rfl⟩) ?_; try simp only [Act.put, List.setIfInBounds_toArray, List.set_cons_zero, List.set_cons_succ]) | skip); (first | (refine takeT 8 (v := ?_) rfl (by decide +kernel) (by decide +kernel) (by decide +kernel) (fun _ _ _ h => h) (by decide +kernel) (Or.inl ⟨by rfl, ?_⟩) ?_; rotate_left 1; (focus (intro W hW; have hcW := hW.at; (try dsimp only at hcW); go_simp; first | done | with_reducible rfl)); try simp only [Act.put, List.setIfInBounds_toArray, List.set_cons_zero, List.set_cons_succ]) | (refine takeW 8 (v := ?_) rfl (by decide +kernel) (by decide +kernel) (by decide +kernel) (fun _ _ _ h => h) (Or.inl ⟨by rfl, ?_⟩) ?_; rotate_left 1; (focus (intro W hW; go_simp; first | done | with_reducible rfl)); try simp only [Act.put, List.setIfInBounds_toArray, List.set_cons_zero, List.set_cons_succ]) | (refine takeW 8 rfl (by decide +kernel) (by decide +kernel) (by decide +kernel) (fun _ _ _ h => h) (Or.inr ⟨by rfl, rfl⟩) ?_; try simp only [Act.put, List.setIfInBounds_toArray, List.set_cons_zero, List.set_cons_succ]) | skip))
              refine takeT 4 (v := .string ⟨xs.toArray⟩) rfl (by decide +kernel) (by decide +kernel) (by decide +kernel) (fun _ _ _ h => h) (by decide +kernel) (Or.inl ⟨by rfl, ?_⟩) ?_
              · intro W hW
                have q := cv1.out W hW
                go_simp
                first | done | with_reducible rfl
              try simp only [Act.put, List.setIfInBounds_toArray, List.set_cons_zero, List.set_cons_succ]
              refine takeT 9 (v := .string ⟨xs.toArray⟩) rfl (by decide +kernel) (by decide +kernel) (by decide +kernel) (fun _ _ _ h => h) (by decide +kernel) (Or.inl ⟨by rfl, ?_⟩) ?_
              · intro W hW
                have q := cv2.out W hW
                go_simp
                first | done | with_reducible rfl
              try simp only [Act.put, List.setIfInBounds_toArray, List.set_cons_zero, List.set_cons_succ]
              ((first | (refine takeT 10 (v := ?_) rfl (by decide +kernel) (by decide +kernel) (by decide +kernel) (fun _ _ _ h => h) (by decide +kernel) (Or.inl ⟨by rfl, ?_⟩) ?_; rotate_left 1; (focus (intro W hW; have hcW := hW.at; (try dsimp only at hcW); go_simp; first | done | with_reducible rfl)); try simp only [Act.put, List.setIfInBounds_toArray, List.set_cons_zero, List.set_cons_succ]) | (refine takeW 10 (v := ?_) rfl (by decide +kernel) (by decide +kernel) (by decide +kernel) (fun _ _ _ h => h) (Or.inl ⟨by rfl, ?_⟩) ?_; rotate_left 1; (focus (intro W hW; go_simp; first | done | with_reducible rfl)); try simp only [Act.put, List.setIfInBounds_toArray, List.set_cons_zero, List.set_cons_succ]) | (refine takeW 10 rfl (by decide +kernel) (by decide +kernel) (by decide +kernel) (fun _ _ _ h => h) (Or.inr ⟨by rfl, rfl⟩) ?_; try simp only [Act.put, List.setIfInBounds_toArray, List.set_cons_zero, List.set_cons_succ]) | skip); (first | (refine takeT 11 (v := ?_) rfl (by decide +kernel) (by decide +kernel) (by decide +kernel) (fun _ _ _ h => h) (by decide +kernel) (Or.inl ⟨by rfl, ?_⟩) ?_; rotate_left 1; (focus (intro W hW; have hcW := hW.at; (try dsimp only at hcW); go_simp; first | done | with_reducible rfl)); try simp only [Act.put, List.setIfInBounds_toArray, List.set_cons_zero, List.set_cons_succ]) | (refine takeW 11 (v := ?_) rfl (by decide +kernel) (by decide +kernel) (by decide +kernel) (fun _ _ _ h => h) (Or.inl ⟨by rfl, ?_⟩) ?_; rotate_left 1; (focus (intro W hW; go_simp; first | done | with_reducible rfl)); try simp only [Act.put, List.setIfInBounds_toArray, List.set_cons_zero, List.set_cons_succ]) | (refine takeW 11 rfl (by decide +kernel) (by decide +kernel) (by decide +kernel) (fun _ _ _ h => h) (Or.inr ⟨by rfl, rfl⟩) ?_; try simp only [Act.put, List.setIfInBounds_toArray, List.set_cons_zero, List.set_cons_succ]) | skip); (first | (refine takeT 12 (v := ?_) rfl (by decide +kernel) (by decide +kernel) (by decide +kernel) (fun _ _ _ h => h) (by decide +kernel) (Or.inl ⟨by rfl, ?_⟩) ?_; rotate_left 1; (focus (intro W hW; have hcW := hW.at; (try dsimp only at hcW); go_simp; first | done | with_reducible rfl)); try simp only [Act.put, List.setIfInBounds_toArray, List.set_cons_zero, List.set_cons_succ]) | (refine takeW 12 (v := ?_) rfl (by decide +kernel) (by decide +kernel) (by decide +kernel) (fun _ _ _ h => h) (Or.inl ⟨by rfl, ?_⟩) ?_; rotate_left 1; (focus (intro W hW; go_simp; first | done | with_reducible rfl)); try simp only [Act.put, List.setIfInBounds_toArray, List.set_cons_zero, List.set_cons_succ]) | (refine takeW 12 rfl (by decide +kernel) (by decide +kernel) (by decide +kernel) (fun _ _ _ h => h) (Or.inr ⟨by rfl, rfl⟩) ?_; try simp only [Act.put, List.setIfInBounds_toArray, List.set_cons_zero, List.set_cons_succ]) | skip); (first | (refine takeT 13 (v := ?_) rfl (by decide +kernel) (by decide +kernel) (by decide +kernel) (fun _ _ _ h => h) (by decide +kernel) (Or.inl ⟨by rfl, ?_⟩) ?_; rotate_left 1; (focus (intro W hW; have hcW := hW.at; (try dsimp only at hcW); go_simp; first | done | with_reducible rfl)); try simp only [Act.put, List.setIfInBounds_toArray, List.set_cons_zero, List.set_cons_succ]) | (refine takeW 13 (v := ?_) rfl (by decide +kernel) (by decide +kernel) (by decide +kernel) (fun _ _ _ h => h) (Or.inl ⟨by rfl, ?_⟩) ?_; rotate_left 1; (focus (intro W hW; go_simp; first | done | with_reducible rfl)); try simp only [Act.put, List.setIfInBounds_toArray, List.set_cons_zero, List.set_cons_succ]) | (refine takeW 13 rfl (by decide +kernel) (by decide +kernel) (by decide +kernel) (fun _ _ _ h => h) (Or.inr ⟨by rfl, rfl⟩) ?_; try simp only [Act.put, List.setIfInBounds_toArray, List.set_cons_zero, List.set_cons_succ]) | skip); (first | (refine takeT 14 (v := ?_) rfl (by decide +kernel) (by decide +kernel) (by decide +kernel) (fun _ _ _ h => h) (by decide +kernel) (Or.inl ⟨by rfl, ?_⟩) ?_; rotate_left 1; (focus (intro W hW; have hcW := hW.at; (try dsimp only at hcW); go_simp; first | done | with_reducible rfl)); try simp only [Act.put, List.setIfInBounds_toArray, List.set_cons_zero, List.set_cons_succ]) | (refine takeW 14 (v := ?_) rfl (by decide +kernel) (by decide +kernel) (by decide +kernel) (fun _ _ _ h => h) (Or.inl ⟨by rfl, ?_⟩) ?_; rotate_left 1; (focus (intro W hW; go_simp; first | done | with_reducible rfl)); try simp only [Act.put, List.setIfInBounds_toArray, List.set_cons_zero, List.set_cons_succ]) | (refine takeW 14 rfl (by decide +kernel) (by decide +kernel) (by decide +kernel) (fun _ _ _ h => h) (Or.inr ⟨by rfl, rfl⟩) ?_; try simp only [Act.put, List.setIfInBounds_toArray, List.set_cons_zero, List.set_cons_succ]) | skip); (first | (refine takeT 15 (v := ?_) rfl (by decide +kernel) (by decide +kernel) (by decide +kernel) (fun _ _ _ h => h) (by decide +kernel) (Or.inl ⟨by rfl, ?_⟩) ?_; rotate_left 1; (focus (intro W hW; have hcW := hW.at; (try dsimp only at hcW); go_simp; first | done | with_reducible rfl)); try simp only [Act.put, List.setIfInBounds_toArray, List.set_cons_zero, List.set_cons_succ]) | (refine takeW 15 (v := ?_) rfl (by decide +kernel) (by decide +kernel) (by decide +kernel) (fun _ _ _ h => h) (Or.inl ⟨by rfl, ?_⟩) ?_; rotate_left 1; (focus (intro W hW; go_simp; first | done | with_reducible rfl)); try simp only [Act.put, List.setIfInBounds_toArray, List.set_cons_zero, List.set_cons_succ]) | (refine takeW 15 rfl (by decide +kernel) (by decide +kernel) (by decide +kernel) (fun _ _ _ h => h) (Or.inr ⟨by rfl, rfl⟩) ?_; try simp only [Act.put, List.setIfInBounds_toArray, List.set_cons_zero, List.set_cons_succ]) | skip); (first | (refine takeT 16 (v := ?_) rfl (by decide +kernel) (by decide +kernel) (by decide +kernel) (fun _ _ _ h => h) (by decide +kernel) (Or.inl ⟨by rfl, ?_⟩) ?_; rotate_left 1; (focus (intro W hW; have hcW := hW.at; (try dsimp only at hcW); go_simp; first | done | with_reducible rfl)); try simp only [Act.put, List.setIfInBounds_toArray, List.set_cons_zero, List.set_cons_succ]) | (refine takeW 16 (v := ?_) rfl (by decide +kernel) (by decide +kernel) (by decide +kernel) (fun _ _ _ h => h) (Or.inl ⟨by rfl, ?_⟩) ?_; rotate_left 1; (focus (intro W hW; go_simp; first | done | with_reducible rfl)); try simp only [Act.put, List.setIfInBounds_toArray, List.set_cons_zero, List.set_cons_succ]) | (refine takeW 16 rfl (by decide +kernel) (by decide +kernel) (by decide +kernel) (fun _ _ _ h => h) (Or.inr ⟨by rfl, rfl⟩) ?_; try simp only [Act.put, List.setIfInBounds_toArray, List.set_cons_zero, List.set_cons_succ]) | skip); (first | (refine takeT 17 (v := ?_) rfl (by decide +kernel) (by decide +kernel) (by decide +kernel) (fun _ _ _ h => h) (by decide +kernel) (Or.inl ⟨by rfl, ?_⟩) ?_; rotate_left 1; (focus (intro W hW; have hcW := hW.at; (try dsimp only at hcW); go_simp; first | done | with_reducible rfl)); try simp only [Act.put, List.setIfInBounds_toArray, List.set_cons_zero, List.set_cons_succ]) | (refine takeW 17 (v := ?_) rfl (by decide +kernel) (by decide +kernel) (by decide +kernel) (fun _ _ _ h => h) (Or.inl ⟨by rfl, ?_⟩) ?_; rotate_left 1; (focus (intro W hW; go_simp; first | done | with_reducible rfl)); try simp only [Act.put, List.setIfInBounds_toArray, List.set_cons_zero, List.set_cons_succ]) | (refine takeW 17 rfl (by decide +kernel) (by decide +kernel) (by decide +kernel) (fun _ _ _ h => h) (Or.inr ⟨by rfl, rfl⟩) ?_; try simp only [Act.put, List.setIfInBounds_toArray, List.set_cons_zero, List.set_cons_succ]) | skip); (first | (refine takeT 18 (v := ?_) rfl (by decide +kernel) (by decide +kernel) (by decide +kernel) (fun _ _ _ h => h) (by decide +kernel) (Or.inl ⟨by rfl, ?_⟩) ?_; rotate_left 1; (focus (intro W hW; have hcW := hW.at; (try dsimp only at hcW); go_simp; first | done | with_reducible rfl)); try simp only [Act.put, List.setIfInBounds_toArray, List.set_cons_zero, List.set_cons_succ]) | (refine takeW 18 (v := ?_) rfl (by decide +kernel) (by decide +kernel) (by decide +kernel) (fun _ _ _ h => h) (Or.inl ⟨by rfl, ?_⟩) ?_; rotate_left 1; (focus (intro W hW; go_simp; first | done | with_reducible rfl)); try simp only [Act.put, List.setIfInBounds_toArray, List.set_cons_zero, List.set_cons_succ]) | (refine takeW 18 rfl (by decide +kernel) (by decide +kernel) (by decide +kernel) (fun _ _ _ h => h) (Or.inr ⟨by rfl, rfl⟩) ?_; try simp only [Act.put, List.setIfInBounds_toArray, List.set_cons_zero, List.set_cons_succ]) | skip))
              refine doneT (by kernel_rfl) ?_
              have hLd : Ln w w8.drew b9 b9 gs t l qf _ cf := hL.out.to (Below.refl _ _).drew
              have e0 := block_at hLd.b (i := 0) (v := .bool t) rfl
              have e1 := block_at hLd.b (i := 1) (v := .slice (some ⟨gs, 0, none⟩) l.length l.length) rfl
              replace hLd := Lib.hid hLd
              clear hL cv1 cv2 hcq
              go_wp2_with fail
              have hac := acks_some _ t _ _ l (hLd.out.n.rds hsl) hl0 hsl
              obtain ⟨l2, hl3⟩ : ∃ l2, l.drop 1 = l2 := ⟨_, rfl⟩
              obtain ⟨t2, ht2⟩ : ∃ t2, (!t) = t2 := ⟨_, rfl⟩
              rw [hl3, ht2] at hac
              replace hl3 := Lib.hid hl3
              replace ht2 := Lib.hid ht2
              refine hac.mono ?_
              rintro e w9 ⟨g2, he, hn9, bb⟩
              replace he : e = .returned (.tuple #[.agg #[.bool t2, .slice (some ⟨g2, 0, none⟩) l2.length l2.length], .int .i64 0]) := he
              subst he
              have hL9 := hLd.out.to bb
              have d0 := block_at hL9.b (i := 0) (v := .bool t) rfl
              have d1 := block_at hL9.b (i := 1) (v := .slice (some ⟨gs, 0, none⟩) l.length l.length) rfl
              have f0 := block_free hL9.b 0
              have f1 := block_free hL9.b 1
              have hLs := Lib.hid (hL9.set (hn9.mono (base' := w.heap.size) hLd.out.below.size) t2)
              clear hL9 hLd hn9 bb e0 e1 hac ct0 ct1 ct2 ct3 ct4 hl0 hki hki0 hl2 hsl
              have tst : (storeVar 28 ⟨b9, 0, none⟩ (.agg #[.bool t2, .slice (some ⟨g2, 0, none⟩) l2.length l2.length])).run Try.prog w9 = .ok () ((w9.setCell ⟨b9, 0, none⟩ (.bool t2)).setCell ⟨b9, 1, none⟩ (.slice (some ⟨g2, 0, none⟩) l2.length l2.length)) := by
                go_simp
              go_wp2_with (refine wpList_storeT rfl 28 (.tmp 9) (.tmp 141) rfl b9 _ _ rfl rfl tst ?_)
              go_roundg (gk - 1)
              case measure => omega
              case rel => exact ⟨k + 1, g2, by omega, by go_num, by rw [ht1.out, ← hl1.out, hl3.out, ht2.out]; exact hLs.out⟩
            · have hkn : k = n := by omega
              rw [hkn, show qf.drop n = [] by rw [← hqn, List.drop_length]] at hL
              generalize (n % 2 == 1) = t at hL
              have e0 := block_at hL.b (i := 0) (v := .bool t) rfl
              have e1 := block_at hL.b (i := 1) (v := .slice (some ⟨gs, 0, none⟩) 0 0) rfl
              have hki : ¬ (k : Int) < (n : Int) := by omega
              replace hL := Lib.hid hL
              clear hkn
              go_wp2_with fail
              refine (offer_none wr t _ 0).mono ?_
              rintro e w8 ⟨rfl, bb⟩
              replace hL := Lib.hid (hL.out.to bb)
              have c0 := block_at hL.out.b (i := 0) (v := .bool t) rfl
              have c1 := block_at hL.out.b (i := 1) (v := .slice (some ⟨gs, 0, none⟩) 0 0) rfl
              clear e0 e1 bb
              go_wp2_with fail
              refine (acks_none w8 t _ 0).mono ?_
              rintro e w9 ⟨rfl, bb⟩
              replace hL := Lib.hid (hL.out.to bb)
              clear c0 c1 bb
              go_wp2_with fail
              refine (lives_any w9).mono ?_
              rintro e w10 ⟨rfl, bb⟩
              have hB9 := Lib.hid (hL.out.below.trans (bb.mono hL.out.below.size))
              go_wp2
              go_ret
              exact ⟨rfl, hB9.out⟩
        · have hr1 : (rl : Int) ≠ 0 := by omega
          have hr2 : ((rl : Int) == 0) = false := by simp; omega
          obtain ⟨Af, cf, hAe, hRq⟩ := hpk.rds
          rw [hnq] at hAe
          subst hAe
          have HR := Lib.hid hRq
          have HB := Lib.hid hb
          have hqn : qs.length = n := hnq
          have F1 : ∀ j, j + 1 < n → (qs.getD j []).length ≤ 64 := fun j _ => hq64 j
          clear hRq hpk hb hq64
          go_wp2_with fail
          by_cases hmany : 4096 < n
          · have hm1 : (4096 : Int) < (n : Int) := by omega
            refine (new_many _ Af n cf hmany).mono ?_
            rintro e w5 ⟨rfl, bb⟩
            have hB5 := Lib.hid (HB.out.trans (bb.mono HB.out.size))
            clear bb HR
            have hb9 := Lib.hid (heap_alloc_new w5 (.cells #[.bool false, .slice none 0 0] 28))
            go_wp2_with fail
            have hB6 := Lib.hid (hB5.out.alloc hB5.out.size (.cells #[.bool false, .slice none 0 0] 28))
            refine (lives_any _).mono ?_
            rintro e w6 ⟨rfl, bb⟩
            have hB7 := Lib.hid (hB6.out.trans (bb.mono hB6.out.size))
            go_wp2
            go_ret
            exact ⟨rfl, hB7.out⟩
          obtain ⟨bl, offl, Al, cl, rfl, hltl, hcl, _⟩ := HR.out.at_ (k := n - 1) (by omega)
          obtain ⟨ln, hln⟩ : ∃ ln, (qs.getD (n - 1) []).length = ln := ⟨_, rfl⟩
          rw [hln] at hcl
          have hm2 : ¬ (4096 : Int) < (n : Int) := by omega
          have hs1 : IntKind.i64.wrap ((n : Int) - 1) = (n : Int) - 1 := by simp only [IntKind.wrap_i64]; omega
          have hs2 : ((n : Int) - 1).toNat = n - 1 := by omega
          have hn2 : (n : Int) - 1 < (n : Int) := by omega
          have hn3 : (0 : Int) ≤ (n : Int) - 1 := by omega
          have hn4 : (1 : Int) ≤ (n : Int) := by omega
          by_cases hlong : 1024 < ln
          · have hm3 : (1024 : Int) < (ln : Int) := by omega
            have hnl := new_long wr _ cf qs HR.out (by omega) (n - 1) (by omega) (by omega) (fun j hj => by have := F1 j (by omega); omega)
            rw [hqn] at hnl
            refine hnl.mono ?_
            rintro e w5 ⟨rfl, bb⟩
            have hB5 := Lib.hid (HB.out.trans (bb.mono HB.out.size))
            have hcl5 := (bb.cell (p := ⟨bl, offl + (n - 1), none⟩) hltl).trans hcl
            have hlt5 := Nat.lt_of_lt_of_le hltl bb.size
            clear bb HR
            go_wp2_with fail
            have hB6 := Lib.hid (hB5.out.alloc hB5.out.size (.cells #[.bool false, .slice none 0 0] 28))
            refine (lives_any _).mono ?_
            rintro e w6 ⟨rfl, bb⟩
            have hB7 := Lib.hid (hB6.out.trans (bb.mono hB6.out.size))
            go_wp2
            go_ret
            exact ⟨rfl, hB7.out⟩
          have hm3 : ¬ (1024 : Int) < (ln : Int) := by omega
          have hshort : ∀ j, (qs.getD j []).length ≤ 1024 := fun j => by
            rcases Nat.lt_or_ge (j + 1) n with hj | hj
            · have := F1 j hj; omega
            · rcases Nat.lt_or_ge j n with hj2 | hj2
              · obtain rfl : j = n - 1 := by omega
                omega
              · have e : qs.getD j [] = [] := by simp [List.getD, List.getElem?_eq_none (by omega : qs.length ≤ j)]
                rw [e]; simp
          have hsml : Sml qs := ⟨by omega, fun j => by have := hshort j; omega⟩
          have hng := new_good wr _ cf qs HR.out (by omega) hshort
          rw [hqn] at hng
          refine hng.mono ?_
          rintro e w5 ⟨gs, he, hnw, bb⟩
          rw [hqn] at he
          subst he
          have hB5 := Lib.hid (HB.out.trans (bb.mono HB.out.size))
          have hR5 := HR.out.belowTop bb
          have hcl5 := (bb.cell (p := ⟨bl, offl + (n - 1), none⟩) hltl).trans hcl
          have hlt5 := Nat.lt_of_lt_of_le hltl bb.size
          replace hnw := hnw.mono (base' := w.heap.size) HB.out.size
          clear bb HR
          have ba := (Below.refl w5.heap.size w5).alloc (Nat.le_refl _) (.cells #[.bool false, .slice (some ⟨gs, 0, none⟩) n n] 28)
          have hB6 := Lib.hid (hB5.out.alloc hB5.out.size (.cells #[.bool false, .slice (some ⟨gs, 0, none⟩) n n] 28))
          have hN6 := Lib.hid (hnw.below ba)
          have hR6 := Lib.hid (hR5.below ba)
          have hb6 := Lib.hid (heap_alloc_new w5 (.cells #[.bool false, .slice (some ⟨gs, 0, none⟩) n n] 28))
          have hz6 : (w5.alloc (.cells #[.bool false, .slice (some ⟨gs, 0, none⟩) n n] 28)).heap.size = w5.heap.size + 1 := by simp
          replace hB5 := hB5.out.size
          clear hnw hR5 ba
          go_wp2_with fail
          have hNr := hN6.out.rds hsml
          rw [hqn] at hNr
          refine (lists_n _ n _ _ _ _ qs hqn hNr (hR6.out.more (by rw [hz6]; omega)) (by omega)).mono ?_
          rintro e w7 ⟨rfl, bb⟩
          have hL6 : Ln w _ w5.heap.size w5.heap.size gs false qs qs _ cf := ⟨hB6.out, by rw [hqn]; exact hb6.out, hN6.out, hR6.out, Nat.le_refl _, hB5⟩
          have hL := hL6.to bb
          clear hNr hL6 hB6 hb6 hN6 hR6 bb HB hz6 hB5
          generalize w5.heap.size = b9 at hL ⊢
          by_cases h50 : 50 < n
          · have h5 : (50 : Int) < (n : Int) := by omega
            replace hL := Lib.hid hL
            go_wp2_with fail
            refine (lives_any w7).mono ?_
            rintro e w8 ⟨rfl, bb⟩
            have hB8 := Lib.hid (hL.out.below.trans (bb.mono hL.out.below.size))
            go_wp2
            go_ret
            exact ⟨rfl, hB8.out⟩
          have h5 : ¬ (50 : Int) < (n : Int) := by omega
          replace hL := Lib.hid hL
          go_wp2
          go_loopg [11] n (fun g i wr => ∃ (k gs : Nat), k + g = n ∧ i = .int .i64 k ∧ Ln w wr b9 b9 gs (k % 2 == 1) (qs.drop k) qs _ cf)
          case atStart => exact ⟨0, gs, by omega, rfl, hL.out⟩
          case round =>
            obtain ⟨k, gs, hkg, rfl, hL⟩ := hrel
            by_cases hk : k < n
            · obtain ⟨l, hl⟩ : ∃ l, qs.drop k = l := ⟨_, rfl⟩
              have hl1 : l.drop 1 = qs.drop (k + 1) := by rw [← hl, List.drop_drop]
              have hl2 : l.getD 0 [] = qs.getD k [] := by rw [← hl]; simp [List.getD, List.getElem?_drop]
              have hl0 : 0 < l.length := by rw [← hl, List.length_drop]; omega
              have hsl : Sml l := by rw [← hl]; exact hsml.drop k
              rw [hl] at hL
              obtain ⟨t, ht⟩ : ∃ t, (k % 2 == 1) = t := ⟨_, rfl⟩
              have ht1 : ((k + 1) % 2 == 1) = !t := by
                rw [← ht]
                rcases Nat.mod_two_eq_zero_or_one k with h | h
                · rw [show (k + 1) % 2 = 1 by omega, h]; rfl
                · rw [show (k + 1) % 2 = 0 by omega, h]; rfl
              rw [ht] at hL
              obtain ⟨k2, hk2⟩ : ∃ k2, k % 2 = k2 := ⟨_, rfl⟩
              have ct0 : (k : Int) % 2 = (k2 : Int) := by omega
              have ct1 : Int.tmod (k : Int) 2 = (k2 : Int) := by rw [Int.tmod_eq_emod_of_nonneg (by omega)]; exact ct0
              have ct2 : IntKind.i64.wrap (k2 : Int) = (k2 : Int) := by simp only [IntKind.wrap_i64]; omega
              have ct3 : ((k2 : Int) == 1) = t := by
                rw [← ht, hk2]
                have : k2 = 0 ∨ k2 = 1 := by omega
                rcases this with rfl | rfl <;> rfl
              have ct4 : (t != t) = false := by simp
              have hki : (k : Int) < (n : Int) := by omega
              have hki0 : (0 : Int) ≤ (k : Int) := by omega
              replace ht1 := Lib.hid ht1
              replace hl1 := Lib.hid hl1
              clear hl ht hk2
              have e0 := block_at hL.b (i := 0) (v := .bool t) rfl
              have e1 := block_at hL.b (i := 1) (v := .slice (some ⟨gs, 0, none⟩) l.length l.length) rfl
              replace hL := Lib.hid hL
              go_wp2_with fail
              refine (offer_some wr t _ _ l (hL.out.n.rds hsl) hl0 hsl).mono ?_
              rintro e w8 ⟨q, rfl, hq, hrow, bb⟩
              replace hL := Lib.hid (hL.out.to bb)
              rw [hl2] at hrow ⊢
              obtain ⟨bq, offq, Aq, cq, hAq, hltq, hcq, hrq⟩ := hL.out.r.at_ (k := k) (by omega)
              first | subst hAq | (injection hAq with hAq; injection hAq with ha1 ha2; subst ha1 ha2)
              have hrd := hrow.rd (by have := hsml.2 k; omega)
              generalize qs.getD k [] = xs at hrow hcq hrq hrd ⊢
              have cv1 := Lib.hid (fun W (hW : Sm (fun _ => True) w8.drew W) => (hrd.keep (w' := W) fun p _ => hW p trivial).cv)
              have cv2 := Lib.hid (fun W (hW : Sm (fun _ => True) w8.drew W) => (hrq.keep (w' := W) fun p _ => hW p trivial).cv)
              clear e0 e1 hrow hrd hrq bb
              go_wp2
              refine startT (S := fun _ => True) (T := []) 19 (by kernel_rfl) rfl (l := #[false, false, false, false, false, false, false, false, false, false, false, false, false, false, false, false, false, false, false]) rfl ?_
              ((first | (refine takeT 0 (v := ?_) rfl (by decide +kernel) (by decide +kernel) (by decide +kernel) (fun _ _ _ h => h) (by decide +kernel) (Or.inl ⟨by rfl, ?_⟩) ?_; rotate_left 1; (focus (intro W hW; have hcW := hW.at; (try dsimp only at hcW); go_simp; first | done | with_reducible rfl)); try simp only [Act.put, List.setIfInBounds_toArray, List.set_cons_zero, List.set_cons_succ]) | (refine takeW 0 (v := ?_) rfl (by decide +kernel) (by decide +kernel) (by decide +kernel) (fun _ _ _ h => h) (Or.inl ⟨by rfl, ?_⟩) ?_; rotate_left 1; (focus (intro W hW; go_simp; first | done | with_reducible rfl)); try simp only [Act.put, List.setIfInBounds_toArray, List.set_cons_zero, List.set_cons_succ]) | (refine takeW 0 rfl (by decide +kernel) (by decide +kernel) (by decide +kernel) (fun _ _ _ h => h) (Or.inr ⟨by rfl, rfl⟩) ?_; try simp only [Act.put, List.setIfInBounds_toArray, List.set_cons_zero, List.set_cons_succ]) | skip); (first | (refine takeT 1 (v := ?_) rfl (by decide +kernel) (by decide +kernel) (by decide +kernel) (fun _ _ _ h => h) (by decide +kernel) (Or.inl ⟨by rfl, ?_⟩) ?_; rotate_left 1; (focus (intro W hW; have hcW := hW.at; (try dsimp only at hcW); go_simp; first | done | with_reducible rfl)); try simp only [Act.put, List.setIfInBounds_toArray, List.set_cons_zero, List.set_cons_succ]) | (refine takeW 1 (v := ?_) rfl (by decide +kernel) (by decide +kernel) (by decide +kernel) (fun _ _ _ h => h) (Or.inl ⟨by rfl, ?_⟩) ?_; rotate_left 1; (focus (intro W hW; go_simp; first | done | with_reducible rfl)); try simp only [Act.put, List.setIfInBounds_toArray, List.set_cons_zero, List.set_cons_succ]) | (refine takeW 1 rfl (by decide +kernel) (by decide +kernel) (by decide +kernel) (fun _ _ _ h => h) (Or.inr ⟨by rfl, rfl⟩) ?_; try simp only [Act.put, List.setIfInBounds_toArray, List.set_cons_zero, List.set_cons_succ]) | skip); (first | (refine takeT 2 (v := ?_) rfl (by decide +kernel) (by decide +kernel) (by decide +kernel) (fun _ _ _ h => h) (by decide +kernel) (Or.inl ⟨by rfl, ?_⟩) ?_; rotate_left 1; (focus (intro W hW; have hcW := hW.at; (try dsimp only at hcW); go_simp; first | done | with_reducible rfl)); try simp only [Act.put, List.setIfInBounds_toArray, List.set_cons_zero, List.set_cons_succ]) | (refine takeW 2 (v := ?_) rfl (by decide +kernel) (by decide +kernel) (by decide +kernel) (fun _ _ _ h => h) (Or.inl ⟨by rfl, ?_⟩) ?_; rotate_left 1; (focus (intro W hW; go_simp; first | done | with_reducible rfl)); try simp only [Act.put, List.setIfInBounds_toArray, List.set_cons_zero, List.set_cons_succ]) | (refine takeW 2 rfl (by decide +kernel) (by decide +kernel) (by decide +kernel) (fun _ _ _ h => h) (Or.inr ⟨by rfl, rfl⟩) ?_; try simp only [Act.put, List.setIfInBounds_toArray, List.set_cons_zero, List.set_cons_succ]) | skip); (first | (refine takeT 3 (v := ?_) rfl (by decide +kernel) (by decide +kernel) (by decide +kernel) (fun _ _ _ h => h) (by decide +kernel) (Or.inl ⟨by rfl, ?_⟩) ?_; rotate_left 1; (focus (intro W hW; have hcW := hW.at; (try dsimp only at hcW); go_simp; first | done | with_reducible rfl)); try simp only [Act.put, List.setIfInBounds_toArray, List.set_cons_zero, List.set_cons_succ]) | (refine takeW 3 (v := ?_) rfl (by decide +kernel) (by decide +kernel) (by decide +kernel) (fun _ _ _ h => h) (Or.inl ⟨by rfl, ?_⟩) ?_; rotate_left 1; (focus (intro W hW; go_simp; first | done | with_reducible rfl)); try simp only [Act.put, List.setIfInBounds_toArray, List.set_cons_zero, List.set_cons_succ]) | (refine takeW 3 rfl (by decide +kernel) (by decide +kernel) (by decide +kernel) (fun _ _ _ h => h) (Or.inr ⟨by rfl, rfl⟩) ?_; try simp only [Act.put, List.setIfInBounds_toArray, List.set_cons_zero, List.set_cons_succ]) | skip); (first | (refine takeT 5 (v := ?_) rfl (by decide +kernel) (by decide +kernel) (by decide +kernel) (fun _ _ _ h => h) (by decide +kernel) (Or.inl ⟨by rfl, ?_⟩) ?_; rotate_left 1; (focus (intro W hW; have hcW := hW.at; (try dsimp only at hcW); go_simp; first | done | with_reducible rfl)); try simp only [Act.put, List.setIfInBounds_toArray, List.set_cons_zero, List.set_cons_succ]) | (refine takeW 5 (v := ?_) rfl (by decide +kernel) (by decide +kernel) (by decide +kernel) (fun _ _ _ h => h) (Or.inl ⟨by rfl, ?_⟩) ?_; rotate_left 1; (focus (intro W hW; go_simp; first | done | with_reducible rfl)); try simp only [Act.put, List.setIfInBounds_toArray, List.set_cons_zero, List.set_cons_succ]) | (refine takeW 5 rfl (by decide +kernel) (by decide +kernel) (by decide +kernel) (fun _ _ _ h => h) (Or.inr ⟨by rfl, rfl⟩) ?_; try simp only [Act.put, List.setIfInBounds_toArray, List.set_cons_zero, List.set_cons_succ]) | skip); (first | (refine takeT 6 (v := ?_) rfl (by decide +kernel) (by decide +kernel) (by decide +kernel) (fun _ _ _ h => h) (by decide +kernel) (Or.inl ⟨by rfl, ?_⟩) ?_; rotate_left 1; (focus (intro W hW; have hcW := hW.at; (try dsimp only at hcW); go_simp; first | done | with_reducible rfl)); try simp only [Act.put, List.setIfInBounds_toArray, List.set_cons_zero, List.set_cons_succ]) | (refine takeW 6 (v := ?_) rfl (by decide +kernel) (by decide +kernel) (by decide +kernel) (fun _ _ _ h => h) (Or.inl ⟨by rfl, ?_⟩) ?_; rotate_left 1; (focus (intro W hW; go_simp; first | done | with_reducible rfl)); try simp only [Act.put, List.setIfInBounds_toArray, List.set_cons_zero, List.set_cons_succ]) | (refine takeW 6 rfl (by decide +kernel) (by decide +kernel) (by decide +kernel) (fun _ _ _ h => h) (Or.inr ⟨by rfl, rfl⟩) ?_; try simp only [Act.put, List.setIfInBounds_toArray, List.set_cons_zero, List.set_cons_succ]) | skip); (first | (refine takeT 7 (v := ?_) rfl (by decide +kernel) (by decide +kernel) (by decide +kernel) (fun _ _ _ h => h) (by decide +kernel) (Or.inl ⟨by rfl, ?_⟩) ?_; rotate_left 1; (focus (intro W hW; have hcW := hW.at; (try dsimp only at hcW); go_simp; first | done | with_reducible rfl)); try simp only [Act.put, List.setIfInBounds_toArray, List.set_cons_zero, List.set_cons_succ]) | (refine takeW 7 (v := ?_) rfl (by decide +kernel) (by decide +kernel) (by decide +kernel) (fun _ _ _ h => h) (Or.inl ⟨by rfl, ?_⟩) ?_; rotate_left 1; (focus (intro W hW; go_simp; first | done | with_reducible rfl)); try simp only [Act.put, List.setIfInBounds_toArray, List.set_cons_zero, List.set_cons_succ]) | (refine takeW 7 rfl (by decide +kernel) (by decide +kernel) (by decide +kernel) (fun _ _ _ h => h) (Or.inr ⟨by rfl, rfl⟩) ?_; try simp only [Act.put, List.setIfInBounds_toArray, List.set_cons_zero, List.set_cons_succ]) | skip); (first | (refine takeT 8 (v := ?_) rfl (by decide +kernel) (by decide +kernel) (by decide +kernel) (fun _ _ _ h => h) (by decide +kernel) (Or.inl ⟨by rfl, ?_⟩) ?_; rotate_left 1; (focus (intro W hW; have hcW := hW.at; (try dsimp only at hcW); go_simp; first | done | with_reducible rfl)); try simp only [Act.put, List.setIfInBounds_toArray, List.set_cons_zero, List.set_cons_succ]) | (refine takeW 8 (v := ?_) rfl (by decide +kernel) (by decide +kernel) (by decide +kernel) (fun _ _ _ h => h) (Or.inl ⟨by rfl, ?_⟩) ?_; rotate_left 1; (focus (intro W hW; go_simp; first | done | with_reducible rfl)); try simp only [Act.put, List.setIfInBounds_toArray, List.set_cons_zero, List.set_cons_succ]) | (refine takeW 8 rfl (by decide +kernel) (by decide +kernel) (by decide +kernel) (fun _ _ _ h => h) (Or.inr ⟨by rfl, rfl⟩) ?_; try simp only [Act.put, List.setIfInBounds_toArray, List.set_cons_zero, List.set_cons_succ]) | skip))
              refine takeT 4 (v := .string ⟨xs.toArray⟩) rfl (by decide +kernel) (by decide +kernel) (by decide +kernel) (fun _ _ _ h => h) (by decide +kernel) (Or.inl ⟨by rfl, ?_⟩) ?_
              · intro W hW
                have q := cv1.out W hW
                go_simp
                first | done | with_reducible rfl
              try simp only [Act.put, List.setIfInBounds_toArray, List.set_cons_zero, List.set_cons_succ]
              refine takeT 9 (v := .string ⟨xs.toArray⟩) rfl (by decide +kernel) (by decide +kernel) (by decide +kernel) (fun _ _ _ h => h) (by decide +kernel) (Or.inl ⟨by rfl, ?_⟩) ?_
              · intro W hW
                have q := cv2.out W hW
                go_simp
                first | done | with_reducible rfl
              try simp only [Act.put, List.setIfInBounds_toArray, List.set_cons_zero, List.set_cons_succ]
              ((first | (refine takeT 10 (v := ?_) rfl (by decide +kernel) (by decide +kernel) (by decide +kernel) (fun _ _ _ h => h) (by decide +kernel) (Or.inl ⟨by rfl, ?_⟩) ?_; rotate_left 1; (focus (intro W hW; have hcW := hW.at; (try dsimp only at hcW); go_simp; first | done | with_reducible rfl)); try simp only [Act.put, List.setIfInBounds_toArray, List.set_cons_zero, List.set_cons_succ]) | (refine takeW 10 (v := ?_) rfl (by decide +kernel) (by decide +kernel) (by decide +kernel) (fun _ _ _ h => h) (Or.inl ⟨by rfl, ?_⟩) ?_; rotate_left 1; (focus (intro W hW; go_simp; first | done | with_reducible rfl)); try simp only [Act.put, List.setIfInBounds_toArray, List.set_cons_zero, List.set_cons_succ]) | (refine takeW 10 rfl (by decide +kernel) (by decide +kernel) (by decide +kernel) (fun _ _ _ h => h) (Or.inr ⟨by rfl, rfl⟩) ?_; try simp only [Act.put, List.setIfInBounds_toArray, List.set_cons_zero, List.set_cons_succ]) | skip); (first | (refine takeT 11 (v := ?_) rfl (by decide +kernel) (by decide +kernel) (by decide +kernel) (fun _ _ _ h => h) (by decide +kernel) (Or.inl ⟨by rfl, ?_⟩) ?_; rotate_left 1; (focus (intro W hW; have hcW := hW.at; (try dsimp only at hcW); go_simp; first | done | with_reducible rfl)); try simp only [Act.put, List.setIfInBounds_toArray, List.set_cons_zero, List.set_cons_succ]) | (refine takeW 11 (v := ?_) rfl (by decide +kernel) (by decide +kernel) (by decide +kernel) (fun _ _ _ h => h) (Or.inl ⟨by rfl, ?_⟩) ?_; rotate_left 1; (focus (intro W hW; go_simp; first | done | with_reducible rfl)); try simp only [Act.put, List.setIfInBounds_toArray, List.set_cons_zero, List.set_cons_succ]) | (refine takeW 11 rfl (by decide +kernel) (by decide +kernel) (by decide +kernel) (fun _ _ _ h => h) (Or.inr ⟨by rfl, rfl⟩) ?_; try simp only [Act.put, List.setIfInBounds_toArray, List.set_cons_zero, List.set_cons_succ]) | skip); (first | (refine takeT 12 (v := ?_) rfl (by decide +kernel) (by decide +kernel) (by decide +kernel) (fun _ _ _ h => h) (by decide +kernel) (Or.inl ⟨by rfl, ?_⟩) ?_; rotate_left 1; (focus (intro W hW; have hcW := hW.at; (try dsimp only at hcW); go_simp; first | done | with_reducible rfl)); try simp only [Act.put, List.setIfInBounds_toArray, List.set_cons_zero, List.set_cons_succ]) | (refine takeW 12 (v := ?_) rfl (by decide +kernel) (by decide +kernel) (by decide +kernel) (fun _ _ _ h => h) (Or.inl ⟨by rfl, ?_⟩) ?_; rotate_left 1; (focus (intro W hW; go_simp; first | done | with_reducible rfl)); try simp only [Act.put, List.setIfInBounds_toArray, List.set_cons_zero, List.set_cons_succ]) | (refine takeW 12 rfl (by decide +kernel) (by decide +kernel) (by decide +kernel) (fun _ _ _ h => h) (Or.inr ⟨by rfl, rfl⟩) ?_; try simp only [Act.put, List.setIfInBounds_toArray, List.set_cons_zero, List.set_cons_succ]) | skip); (first | (refine takeT 13 (v := ?_) rfl (by decide +kernel) (by decide +kernel) (by decide +kernel) (fun _ _ _ h => h) (by decide +kernel) (Or.inl ⟨by rfl, ?_⟩) ?_; rotate_left 1; (focus (intro W hW; have hcW := hW.at; (try dsimp only at hcW); go_simp; first | done | with_reducible rfl)); try simp only [Act.put, List.setIfInBounds_toArray, List.set_cons_zero, List.set_cons_succ]) | (refine takeW 13 (v := ?_) rfl (by decide +kernel) (by decide +kernel) (by decide +kernel) (fun _ _ _ h => h) (Or.inl ⟨by rfl, ?_⟩) ?_; rotate_left 1; (focus (intro W hW; go_simp; first | done | with_reducible rfl)); try simp only [Act.put, List.setIfInBounds_toArray, List.set_cons_zero, List.set_cons_succ]) | (refine takeW 13 rfl (by decide +kernel) (by decide +kernel) (by decide +kernel) (fun _ _ _ h => h) (Or.inr ⟨by rfl, rfl⟩) ?_; try simp only [Act.put, List.setIfInBounds_toArray, List.set_cons_zero, List.set_cons_succ]) | skip); (first | (refine takeT 14 (v := ?_) rfl (by decide +kernel) (by decide +kernel) (by decide +kernel) (fun _ _ _ h => h) (by decide +kernel) (Or.inl ⟨by rfl, ?_⟩) ?_; rotate_left 1; (focus (intro W hW; have hcW := hW.at; (try dsimp only at hcW); go_simp; first | done | with_reducible rfl)); try simp only [Act.put, List.setIfInBounds_toArray, List.set_cons_zero, List.set_cons_succ]) | (refine takeW 14 (v := ?_) rfl (by decide +kernel) (by decide +kernel) (by decide +kernel) (fun _ _ _ h => h) (Or.inl ⟨by rfl, ?_⟩) ?_; rotate_left 1; (focus (intro W hW; go_simp; first | done | with_reducible rfl)); try simp only [Act.put, List.setIfInBounds_toArray, List.set_cons_zero, List.set_cons_succ]) | (refine takeW 14 rfl (by decide +kernel) (by decide +kernel) (by decide +kernel) (fun _ _ _ h => h) (Or.inr ⟨by rfl, rfl⟩) ?_; try simp only [Act.put, List.setIfInBounds_toArray, List.set_cons_zero, List.set_cons_succ]) | skip); (first | (refine takeT 15 (v := ?_) rfl (by decide +kernel) (by decide +kernel) (by decide +kernel) (fun _ _ _ h => h) (by decide +kernel) (Or.inl ⟨by rfl, ?_⟩) ?_; rotate_left 1; (focus (intro W hW; have hcW := hW.at; (try dsimp only at hcW); go_simp; first | done | with_reducible rfl)); try simp only [Act.put, List.setIfInBounds_toArray, List.set_cons_zero, List.set_cons_succ]) | (refine takeW 15 (v := ?_) rfl (by decide +kernel) (by decide +kernel) (by decide +kernel) (fun _ _ _ h => h) (Or.inl ⟨by rfl, ?_⟩) ?_; rotate_left 1; (focus (intro W hW; go_simp; first | done | with_reducible rfl)); try simp only [Act.put, List.setIfInBounds_toArray, List.set_cons_zero, List.set_cons_succ]) | (refine takeW 15 rfl (by decide +kernel) (by decide +kernel) (by decide +kernel) (fun _ _ _ h => h) (Or.inr ⟨by rfl, rfl⟩) ?_; try simp only [Act.put, List.setIfInBounds_toArray, List.set_cons_zero, List.set_cons_succ]) | skip); (first | (refine takeT 16 (v := ?_) rfl (by decide +kernel) (by decide +kernel) (by decide +kernel) (fun _ _ _ h => h) (by decide +kernel) (Or.inl ⟨by rfl, ?_⟩) ?_; rotate_left 1; (focus (intro W hW; have hcW := hW.at; (try dsimp only at hcW); go_simp; first | done | with_reducible rfl)); try simp only [Act.put, List.setIfInBounds_toArray, List.set_cons_zero, List.set_cons_succ]) | (refine takeW 16 (v := ?_) rfl (by decide +kernel) (by decide +kernel) (by decide +kernel) (fun _ _ _ h => h) (Or.inl ⟨by rfl, ?_⟩) ?_; rotate_left 1; (focus (intro W hW; go_simp; first | done | with_reducible rfl)); try simp only [Act.put, List.setIfInBounds_toArray, List.set_cons_zero, List.set_cons_succ]) | (refine takeW 16 rfl (by decide +kernel) (by decide +kernel) (by decide +kernel) (fun _ _ _ h => h) (Or.inr ⟨by rfl, rfl⟩) ?_; try simp only [Act.put, List.setIfInBounds_toArray, List.set_cons_zero, List.set_cons_succ]) | skip); (first | (refine takeT 17 (v := ?_) rfl (by decide +kernel) (by decide +kernel) (by decide +kernel) (fun _ _ _ h => h) (by decide +kernel) (Or.inl ⟨by rfl, ?_⟩) ?_; rotate_left 1; (focus (intro W hW; have hcW := hW.at; (try dsimp only at hcW); go_simp; first | done | with_reducible rfl)); try simp only [Act.put, List.setIfInBounds_toArray, List.set_cons_zero, List.set_cons_succ]) | (refine takeW 17 (v := ?_) rfl (by decide +kernel) (by decide +kernel) (by decide +kernel) (fun _ _ _ h => h) (Or.inl ⟨by rfl, ?_⟩) ?_; rotate_left 1; (focus (intro W hW; go_simp; first | done | with_reducible rfl)); try simp only [Act.put, List.setIfInBounds_toArray, List.set_cons_zero, List.set_cons_succ]) | (refine takeW 17 rfl (by decide +kernel) (by decide +kernel) (by decide +kernel) (fun _ _ _ h => h) (Or.inr ⟨by rfl, rfl⟩) ?_; try simp only [Act.put, List.setIfInBounds_toArray, List.set_cons_zero, List.set_cons_succ]) | skip); (first | (refine takeT 18 (v := ?_) rfl (by decide +kernel) (by decide +kernel) (by decide +kernel) (fun _ _ _ h => h) (by decide +kernel) (Or.inl ⟨by rfl, ?_⟩) ?_; rotate_left 1; (focus (intro W hW; have hcW := hW.at; (try dsimp only at hcW); go_simp; first | done | with_reducible rfl)); try simp only [Act.put, List.setIfInBounds_toArray, List.set_cons_zero, List.set_cons_succ]) | (refine takeW 18 (v := ?_) rfl (by decide +kernel) (by decide +kernel) (by decide +kernel) (fun _ _ _ h => h) (Or.inl ⟨by rfl, ?_⟩) ?_; rotate_left 1; (focus (intro W hW; go_simp; first | done | with_reducible rfl)); try simp only [Act.put, List.setIfInBounds_toArray, List.set_cons_zero, List.set_cons_succ]) | (refine takeW 18 rfl (by decide +kernel) (by decide +kernel) (by decide +kernel) (fun _ _ _ h => h) (Or.inr ⟨by rfl, rfl⟩) ?_; try simp only [Act.put, List.setIfInBounds_toArray, List.set_cons_zero, List.set_cons_succ]) | skip))
              refine doneT (by kernel_rfl) ?_
              have hLd : Ln w w8.drew b9 b9 gs t l qs _ cf := hL.out.to (Below.refl _ _).drew
              have e0 := block_at hLd.b (i := 0) (v := .bool t) rfl
              have e1 := block_at hLd.b (i := 1) (v := .slice (some ⟨gs, 0, none⟩) l.length l.length) rfl
              replace hLd := Lib.hid hLd
              clear hL cv1 cv2 hcq
              go_wp2_with fail
              have hac := acks_some _ t _ _ l (hLd.out.n.rds hsl) hl0 hsl
              obtain ⟨l2, hl3⟩ : ∃ l2, l.drop 1 = l2 := ⟨_, rfl⟩
              obtain ⟨t2, ht2⟩ : ∃ t2, (!t) = t2 := ⟨_, rfl⟩
              rw [hl3, ht2] at hac
              replace hl3 := Lib.hid hl3
              replace ht2 := Lib.hid ht2
              refine hac.mono ?_
              rintro e w9 ⟨g2, he, hn9, bb⟩
              replace he : e = .returned (.tuple #[.agg #[.bool t2, .slice (some ⟨g2, 0, none⟩) l2.length l2.length], .int .i64 0]) := he
              subst he
              have hL9 := hLd.out.to bb
              have d0 := block_at hL9.b (i := 0) (v := .bool t) rfl
              have d1 := block_at hL9.b (i := 1) (v := .slice (some ⟨gs, 0, none⟩) l.length l.length) rfl
              have f0 := block_free hL9.b 0
              have f1 := block_free hL9.b 1
              have hLs := Lib.hid (hL9.set (hn9.mono (base' := w.heap.size) hLd.out.below.size) t2)
              clear hL9 hLd hn9 bb e0 e1 hac ct0 ct1 ct2 ct3 ct4 hl0 hki hki0 hl2 hsl
              have tst : (storeVar 28 ⟨b9, 0, none⟩ (.agg #[.bool t2, .slice (some ⟨g2, 0, none⟩) l2.length l2.length])).run Try.prog w9 = .ok () ((w9.setCell ⟨b9, 0, none⟩ (.bool t2)).setCell ⟨b9, 1, none⟩ (.slice (some ⟨g2, 0, none⟩) l2.length l2.length)) := by
                go_simp
              go_wp2_with (refine wpList_storeT rfl 28 (.tmp 9) (.tmp 141) rfl b9 _ _ rfl rfl tst ?_)
              go_roundg (gk - 1)
              case measure => omega
              case rel => exact ⟨k + 1, g2, by omega, by go_num, by rw [ht1.out, ← hl1.out, hl3.out, ht2.out]; exact hLs.out⟩
            · have hkn : k = n := by omega
              rw [hkn, show qs.drop n = [] by rw [← hqn, List.drop_length]] at hL
              generalize (n % 2 == 1) = t at hL
              have e0 := block_at hL.b (i := 0) (v := .bool t) rfl
              have e1 := block_at hL.b (i := 1) (v := .slice (some ⟨gs, 0, none⟩) 0 0) rfl
              have hki : ¬ (k : Int) < (n : Int) := by omega
              replace hL := Lib.hid hL
              clear hkn
              go_wp2_with fail
              refine (offer_none wr t _ 0).mono ?_
              rintro e w8 ⟨rfl, bb⟩
              replace hL := Lib.hid (hL.out.to bb)
              have c0 := block_at hL.out.b (i := 0) (v := .bool t) rfl
              have c1 := block_at hL.out.b (i := 1) (v := .slice (some ⟨gs, 0, none⟩) 0 0) rfl
              clear e0 e1 bb
              go_wp2_with fail
              refine (acks_none w8 t _ 0).mono ?_
              rintro e w9 ⟨rfl, bb⟩
              replace hL := Lib.hid (hL.out.to bb)
              clear c0 c1 bb
              go_wp2_with fail
              refine (lives_any w9).mono ?_
              rintro e w10 ⟨rfl, bb⟩
              have hB9 := Lib.hid (hL.out.below.trans (bb.mono hL.out.below.size))
              go_wp2
              go_ret
              exact ⟨rfl, hB9.out⟩

theorem lawNew_any (w : World) (A : Option Addr) (c m l : Nat) (hm : m ≤ 65535) (hl : l ≤ 65535) (ps : List (List UInt8)) (h : Rds w w.heap.size A c ps) :
    Calls Try.prog 3 #[.slice A ps.length c, .int .u16 (m : Int), .int .u16 (l : Int)] w (ResB w true) := by
  by_cases hs : SmallP ps 40
  · exact lnew_good w A c m l hm hl ps h hs
  · exact lnew_small w A c m l ps h hs

end Go.Proofs.Ytodbjdpbigboiaa
