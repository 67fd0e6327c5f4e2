/-
  Helper text: the walk of the reference's Join; no statement is proved here.
-/
import Derived.Test.YtfaocndelibadaaJoW
namespace Go.Proofs.Ytfaocndelibadaa
open Go Go.RowKit

theorem clone_ne {w w1 : World} {e : Nat} {A : Option Addr} {c : Nat} {xs : List UInt8} {u : Option Nat} (h : w1.ownsRow w.heap.size e 1 (.slice A xs.length c) xs.length (xs.map bv)) {base : Nat} (hlt : ∀ k, u = some k → base ≤ k ∧ k < w.heap.size) :
    0 < xs.length → ∀ ad, A = some ad → some ad.block ≠ u := fun _ ad ha e => by
  subst ha
  have h1 := (h.lt ad.block rfl).1
  have h2 := (hlt ad.block e.symm).2
  omega


set_option maxHeartbeats 1600000 in
theorem refJ_any (w : World) (A : Option Addr) (c : Nat) (ps : List (List UInt8)) (max : Int) (hr : Rds w w.heap.size A c ps) (hn : ps.length ≤ 1000) (hs : ∀ j, j < ps.length → (ps.getD j []).length ≤ 1000) :
    Calls Try.prog 11 #[.slice A ps.length c, .int .i64 max] w fun e w' => ∃ A1 c1 A2 c2, e = .returned (.tuple #[.slice A1 (jS max ps ps.length).1.length c1, .slice A2 (jR max ps ps.length).length c2]) ∧ Rds w' w'.heap.size A1 c1 (jS max ps ps.length).1 ∧ Rd w' w'.heap.size A2 c2 (jR max ps ps.length) ∧ Below w.heap.size w w' := by
  have hr0 := Lib.hid hr
  have hss := Lib.hid hs
  clear hr hs
  go_enter Try.func11, Try.ntmps11
  go_wp2_with fail
  go_loopg [6, 7, 8] ps.length (fun g v x i wr => ∃ k : Nat, k + g = ps.length ∧ i = .int .i64 k ∧ (∃ A2 c2, x = .slice A2 (jR max ps k).length c2 ∧ Rd wr wr.heap.size A2 c2 (jR max ps k)) ∧ Pk wr w.heap.size 22 v (jS max ps k).1 ∧ Below w.heap.size w wr)
  case atStart => exact ⟨0, by omega, rfl, ⟨none, 0, rfl, Rd.nil _ _⟩, Pk.nil _ _ _, Below.refl _ _⟩
  case round =>
    obtain ⟨k, hkg, rfl, ⟨A2, c2, rfl, hrest⟩, hpk, hb⟩ := hrel
    have hrr := hr0.out.belowTop hb
    by_cases hk : k < ps.length
    · obtain ⟨b, off, A1, c1, rfl, hlt, hc1, hr1⟩ := hrr.at_ hk
      have hki : (k : Int) < (ps.length : Int) := by omega
      have hml := hss.out k hk
      have hzl : (jR max ps k).length ≤ 1000000 := Nat.le_trans (part_le hss.out k (jS max ps k).2) (Nat.mul_le_mul hn (Nat.le_refl 1000))
      have hdl := (jS_le max ps k).2
      have hnx := Lib.hid (jR_next max ps hk)
      have hbw : b < wr.heap.size := hlt
      have hJs := Lib.hid (fun h => jS_short (max := max) (ps := ps) (k := k) h)
      have hJf := Lib.hid (fun h => jS_full (max := max) (ps := ps) (k := k) h)
      have hRs := Lib.hid (fun h => jR_short (max := max) (ps := ps) (k := k) h)
      have hRf := Lib.hid (fun h => jR_full (max := max) (ps := ps) (k := k) hk h)
      generalize ps.getD k [] = ys at hc1 hr1 hml hnx hJs hJf hRs hRf
      generalize jR max ps k = z at hrest hzl hnx hRf
      obtain ⟨zz, hzz⟩ : ∃ zz, z ++ ys = zz := ⟨_, rfl⟩
      rw [hzz] at hnx hRf
      replace hzz := Lib.hid hzz
      have hown0 : (wr.drew.alloc (.cells #[] 5)).ownsRow wr.heap.size 5 1 (.slice (some ⟨wr.heap.size, 0, none⟩) 0 0) ([] : List UInt8).length (([] : List UInt8).map bv) := own_built wr.drew 5 [] (by simp)
      have hb0 : Below wr.heap.size wr.drew (wr.drew.alloc (.cells #[] 5)) := (Below.refl wr.drew.heap.size wr.drew).alloc (Nat.le_refl _) _
      have hrest0 := hrest.drew.below hb0
      have hr10 := hr1.drew.below hb0
      have Hlt := Lib.hid hpk.lt
      obtain ⟨Av, cv, rfl⟩ := hpk.shape
      replace hpk := Lib.hid hpk
      replace hrest := Lib.hid hrest
      go_wp2_with fail
      refine startT (S := fun a => a.block < wr.heap.size) (T := []) 9 (by kernel_rfl) rfl (l := #[false, false, false, false, false, false, false, false, false]) rfl ?_
      ((first | (refine takeT 1 (v := ?_) rfl (by decide +kernel) (by decide +kernel) (by decide +kernel) (fun _ _ _ h => h) (by decide +kernel) (Or.inl ⟨by rfl, ?_⟩) ?_; rotate_left 1; (focus (intro W hW; have hcW := hW.at; (try dsimp only at hcW); go_simp; first | done | with_reducible rfl)); try simp only [Act.put, List.setIfInBounds_toArray, List.set_cons_zero, List.set_cons_succ]) | (refine takeW 1 (v := ?_) rfl (by decide +kernel) (by decide +kernel) (by decide +kernel) (fun _ _ _ h => h) (Or.inl ⟨by rfl, ?_⟩) ?_; rotate_left 1; (focus (intro W hW; go_simp; first | done | with_reducible rfl)); try simp only [Act.put, List.setIfInBounds_toArray, List.set_cons_zero, List.set_cons_succ]) | (refine takeW 1 rfl (by decide +kernel) (by decide +kernel) (by decide +kernel) (fun _ _ _ h => h) (Or.inr ⟨by rfl, rfl⟩) ?_; try simp only [Act.put, List.setIfInBounds_toArray, List.set_cons_zero, List.set_cons_succ]) | skip); (first | (refine takeT 3 (v := ?_) rfl (by decide +kernel) (by decide +kernel) (by decide +kernel) (fun _ _ _ h => h) (by decide +kernel) (Or.inl ⟨by rfl, ?_⟩) ?_; rotate_left 1; (focus (intro W hW; have hcW := hW.at; (try dsimp only at hcW); go_simp; first | done | with_reducible rfl)); try simp only [Act.put, List.setIfInBounds_toArray, List.set_cons_zero, List.set_cons_succ]) | (refine takeW 3 (v := ?_) rfl (by decide +kernel) (by decide +kernel) (by decide +kernel) (fun _ _ _ h => h) (Or.inl ⟨by rfl, ?_⟩) ?_; rotate_left 1; (focus (intro W hW; go_simp; first | done | with_reducible rfl)); try simp only [Act.put, List.setIfInBounds_toArray, List.set_cons_zero, List.set_cons_succ]) | (refine takeW 3 rfl (by decide +kernel) (by decide +kernel) (by decide +kernel) (fun _ _ _ h => h) (Or.inr ⟨by rfl, rfl⟩) ?_; try simp only [Act.put, List.setIfInBounds_toArray, List.set_cons_zero, List.set_cons_succ]) | skip); (first | (refine takeT 4 (v := ?_) rfl (by decide +kernel) (by decide +kernel) (by decide +kernel) (fun _ _ _ h => h) (by decide +kernel) (Or.inl ⟨by rfl, ?_⟩) ?_; rotate_left 1; (focus (intro W hW; have hcW := hW.at; (try dsimp only at hcW); go_simp; first | done | with_reducible rfl)); try simp only [Act.put, List.setIfInBounds_toArray, List.set_cons_zero, List.set_cons_succ]) | (refine takeW 4 (v := ?_) rfl (by decide +kernel) (by decide +kernel) (by decide +kernel) (fun _ _ _ h => h) (Or.inl ⟨by rfl, ?_⟩) ?_; rotate_left 1; (focus (intro W hW; go_simp; first | done | with_reducible rfl)); try simp only [Act.put, List.setIfInBounds_toArray, List.set_cons_zero, List.set_cons_succ]) | (refine takeW 4 rfl (by decide +kernel) (by decide +kernel) (by decide +kernel) (fun _ _ _ h => h) (Or.inr ⟨by rfl, rfl⟩) ?_; try simp only [Act.put, List.setIfInBounds_toArray, List.set_cons_zero, List.set_cons_succ]) | skip); (first | (refine takeT 5 (v := ?_) rfl (by decide +kernel) (by decide +kernel) (by decide +kernel) (fun _ _ _ h => h) (by decide +kernel) (Or.inl ⟨by rfl, ?_⟩) ?_; rotate_left 1; (focus (intro W hW; have hcW := hW.at; (try dsimp only at hcW); go_simp; first | done | with_reducible rfl)); try simp only [Act.put, List.setIfInBounds_toArray, List.set_cons_zero, List.set_cons_succ]) | (refine takeW 5 (v := ?_) rfl (by decide +kernel) (by decide +kernel) (by decide +kernel) (fun _ _ _ h => h) (Or.inl ⟨by rfl, ?_⟩) ?_; rotate_left 1; (focus (intro W hW; go_simp; first | done | with_reducible rfl)); try simp only [Act.put, List.setIfInBounds_toArray, List.set_cons_zero, List.set_cons_succ]) | (refine takeW 5 rfl (by decide +kernel) (by decide +kernel) (by decide +kernel) (fun _ _ _ h => h) (Or.inr ⟨by rfl, rfl⟩) ?_; try simp only [Act.put, List.setIfInBounds_toArray, List.set_cons_zero, List.set_cons_succ]) | skip); (first | (refine takeT 6 (v := ?_) rfl (by decide +kernel) (by decide +kernel) (by decide +kernel) (fun _ _ _ h => h) (by decide +kernel) (Or.inl ⟨by rfl, ?_⟩) ?_; rotate_left 1; (focus (intro W hW; have hcW := hW.at; (try dsimp only at hcW); go_simp; first | done | with_reducible rfl)); try simp only [Act.put, List.setIfInBounds_toArray, List.set_cons_zero, List.set_cons_succ]) | (refine takeW 6 (v := ?_) rfl (by decide +kernel) (by decide +kernel) (by decide +kernel) (fun _ _ _ h => h) (Or.inl ⟨by rfl, ?_⟩) ?_; rotate_left 1; (focus (intro W hW; go_simp; first | done | with_reducible rfl)); try simp only [Act.put, List.setIfInBounds_toArray, List.set_cons_zero, List.set_cons_succ]) | (refine takeW 6 rfl (by decide +kernel) (by decide +kernel) (by decide +kernel) (fun _ _ _ h => h) (Or.inr ⟨by rfl, rfl⟩) ?_; try simp only [Act.put, List.setIfInBounds_toArray, List.set_cons_zero, List.set_cons_succ]) | skip))
      refine stepT 0 rfl (by decide +kernel) (by rfl) (fun K hK => ?_)
      go_simp
      refine hK _ _ (.inr fun a ha => hb0.cell ha) ?_
      clear hK K
      try simp only [Act.put, List.setIfInBounds_toArray, List.set_cons_zero, List.set_cons_succ]
      refine stepT 2 rfl (by decide +kernel) (by rfl) (fun K hK => ?_)
      refine wp_appendN Try.underlying22 Try.info5 (.tmp 15) (.tmp 16) rfl wr.heap.size _ [] rfl hown0 _ c2 A2 z hrest0 rfl (by simp; omega) (by simp) ?_
      intro v1 w1 hown1 hb1 hg1 hd1
      rw [List.nil_append] at hown1
      have hz1 := hb1.size
      refine hK _ _ (.inr fun a ha => hb1.cell ha) ?_
      clear hK K
      try simp only [Act.put, List.setIfInBounds_toArray, List.set_cons_zero, List.set_cons_succ]
      refine stepT 7 rfl (by decide +kernel) (by rfl) (fun K hK => ?_)
      refine wp_appendN Try.underlying22 Try.info5 (.tmp 17) (.tmp 21) rfl wr.heap.size _ z rfl hown1 _ c1 A1 ys (hr10.below hb1) rfl (by omega) (by simp at hz1; omega) ?_
      intro v2 w2 hown2 hb2 hg2 hd2
      rw [hzz.out] at hown2
      refine hK _ _ (.inr fun a ha => hb2.cell ha) ?_
      clear hK K
      obtain ⟨A5, c5, rfl, hr5⟩ := Rd.of_own hown2
      try simp only [Act.put, List.setIfInBounds_toArray, List.set_cons_zero, List.set_cons_succ]
      ((first | (refine takeT 8 (v := ?_) rfl (by decide +kernel) (by decide +kernel) (by decide +kernel) (fun _ _ _ h => h) (by decide +kernel) (Or.inl ⟨by rfl, ?_⟩) ?_; rotate_left 1; (focus (intro W hW; have hcW := hW.at; (try dsimp only at hcW); go_simp; first | done | with_reducible rfl)); try simp only [Act.put, List.setIfInBounds_toArray, List.set_cons_zero, List.set_cons_succ]) | (refine takeW 8 (v := ?_) rfl (by decide +kernel) (by decide +kernel) (by decide +kernel) (fun _ _ _ h => h) (Or.inl ⟨by rfl, ?_⟩) ?_; rotate_left 1; (focus (intro W hW; go_simp; first | done | with_reducible rfl)); try simp only [Act.put, List.setIfInBounds_toArray, List.set_cons_zero, List.set_cons_succ]) | (refine takeW 8 rfl (by decide +kernel) (by decide +kernel) (by decide +kernel) (fun _ _ _ h => h) (Or.inr ⟨by rfl, rfl⟩) ?_; try simp only [Act.put, List.setIfInBounds_toArray, List.set_cons_zero, List.set_cons_succ]) | skip))
      refine doneT (by kernel_rfl) ?_
      have hb5 : Below wr.heap.size wr w2 := below_undrew (hb0.trans (hb1.trans hb2))
      have hne5 := Lib.hid (clone_ne hown2 Hlt.out)
      have hpk5 := hpk.out.below hb5
      have hc15 := (hb5.cell hbw).trans hc1
      have hbA : Below w.heap.size w w2 := hb.trans (hb5.mono hb.size)
      clear hg1 hd1 hg2 hd2 hown1 hown2 hown0 hb0 hb1 hb2 hrest0 hr10 hr1
      replace hb5 := Lib.hid hb5
      by_cases hsh : (ys.length : Int) < max
      · have hJ := Lib.hid (hJs.out hsh)
        have hR := Lib.hid (hRs.out hsh)
        generalize (jS max ps k).1 = d at hpk5 hJ hdl hne5 ⊢
        go_wp2_with (at_builtin; refine wpl_appendPk Try.underlying23 Try.info22 rfl (.tmp 30) (.tmp 32) rfl w.heap.size _ d rfl hpk5 A5 c5 zz hr5 hne5.out rfl (by omega) hbA.size ?_; intro v3 w3 hpk3 hb3)
        go_roundg (gk - 1)
        case measure => omega
        case rel => exact ⟨k + 1, by omega, by go_num, ⟨none, 0, by rw [hR.out]; rfl, by rw [hR.out]; exact Rd.nil _ _⟩, by rw [hJ.out, hnx.out]; exact hpk3, hbA.trans hb3⟩
      · have hJ := Lib.hid (hJf.out (by omega))
        have hR := Lib.hid (hRf.out (by omega))
        go_wp2_with fail
        go_roundg (gk - 1)
        case measure => omega
        case rel => exact ⟨k + 1, by omega, by go_num, ⟨_, _, by rw [hR.out], by rw [hR.out]; exact hr5⟩, by rw [hJ.out]; exact hpk5, hbA⟩
    · obtain rfl : k = ps.length := by omega
      obtain ⟨Av2, cv2, hpe, hpr⟩ := hpk.rds
      subst hpe
      obtain ⟨z, hz⟩ : ∃ z, jR max ps ps.length = z := ⟨_, rfl⟩
      rw [hz] at hrest
      rw [hz]
      obtain ⟨d, hd⟩ : ∃ d, (jS max ps ps.length).1 = d := ⟨_, rfl⟩
      rw [hd] at hpr
      rw [hd]
      replace hz := Lib.hid hz
      replace hd := Lib.hid hd
      go_wp2_with fail
      go_ret2
      rw [hz.out, hd.out]
      exact ⟨_, _, _, _, rfl, hpr, hrest, hb⟩
end Go.Proofs.Ytfaocndelibadaa
