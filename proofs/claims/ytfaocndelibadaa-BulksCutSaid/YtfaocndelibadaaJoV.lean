/-
  Helper text: the walk of Join, for many packets; no statement is proved here.
-/
import Derived.Test.YtfaocndelibadaaCuP
namespace Go.Proofs.Ytfaocndelibadaa
open Go Go.RowKit

theorem part_fl {ps : List (List UInt8)} {m : Nat} (h : ps.flatten.length ≤ m) (a b : Nat) : ((ps.take a).drop b).flatten.length ≤ m := by
  have h1 : ((ps.take a).drop b).flatten.length ≤ (ps.take a).flatten.length := by
    conv => rhs; rw [← List.take_append_drop b (ps.take a), List.flatten_append, List.length_append]
    omega
  have h2 : (ps.take a).flatten.length ≤ ps.flatten.length := by
    conv => rhs; rw [← List.take_append_drop a ps, List.flatten_append, List.length_append]
    omega
  omega
set_option maxHeartbeats 1600000 in
theorem joinV_any (w : World) (A : Option Addr) (c : Nat) (ps : List (List UInt8)) (max : Int) (hr : Rds w w.heap.size A c ps) (hm1 : 1 ≤ max) (hm2 : max ≤ 1024) (ha : anyLong max ps = false) (hn : ps.length ≤ 1000000) (hs : ps.flatten.length ≤ 1000000) :
    Calls Try.prog 7 #[.slice A ps.length c, .int .i64 max] w fun e w' => ∃ A1 A2, e = .returned (.tuple #[.slice A1 (jS max ps ps.length).1.length (jS max ps ps.length).1.length, .slice A2 (jR max ps ps.length).length (jR max ps ps.length).length, .int .i64 0]) ∧ Rds w' w'.heap.size A1 (jS max ps ps.length).1.length (jS max ps ps.length).1 ∧ Rd w' w'.heap.size A2 (jR max ps ps.length).length (jR max ps ps.length) ∧ Below w.heap.size w w' := by
  have hb0 := (Below.refl w.heap.size w).alloc (Nat.le_refl _) (.cells #[.int .i64 max] 3)
  have hr0 := hr.belowTop hb0
  have hx0 := heap_alloc_new w (.cells #[.int .i64 max] 3)
  have hz0 : (w.alloc (.cells #[.int .i64 max] 3)).heap.size = w.heap.size + 1 := by simp
  have KC := contains_any _ w.heap.size max A c ps hr0 (block_at (i := 0) hx0 rfl)
  rw [ha] at KC
  have KP := possible_any (w.alloc (.cells #[.int .i64 max] 3)) max
  rw [decide_eq_true (show 1 ≤ max ∧ max ≤ 1024 from ⟨hm1, hm2⟩)] at KP
  replace KC := Lib.hid KC
  replace KP := Lib.hid KP
  replace hr0 := Lib.hid hr0
  replace hb0 := Lib.hid hb0
  replace hx0 := Lib.hid hx0
  have hss := Lib.hid hs
  clear hr hs ha
  go_enter Try.func7, Try.ntmps7
  go_wp2_with fail
  refine KP.out.mono ?_
  rintro e w' ⟨rfl, rfl⟩
  go_wp2_with fail
  refine KC.out.mono ?_
  rintro e w' ⟨rfl, e2⟩
  rw [e2]
  clear e2 KC KP
  generalize w.alloc (.cells #[.int .i64 max] 3) = W0 at hb0 hr0 hx0 hz0 ⊢
  go_wp2_with fail
  go_loopg [4, 8, 20] ps.length (fun g v f i wr => ∃ k : Nat, k + g = ps.length ∧ i = .int .i64 k ∧ f = .int .i64 ((jS max ps k).2 : Int) ∧ Pk wr W0.heap.size 22 v (jS max ps k).1 ∧ Below W0.heap.size W0 wr)
  case atStart => exact ⟨0, by omega, rfl, rfl, Pk.nil _ _ _, Below.refl _ _⟩
  case round =>
    obtain ⟨k, hkg, rfl, rfl, hpk, hb⟩ := hrel
    have hmx : wr.cell? ⟨w.heap.size, 0, none⟩ = some (.int .i64 max) := (hb.cell (by show w.heap.size < W0.heap.size; omega)).trans (block_at (i := 0) hx0.out rfl)
    have hrr := hr0.out.belowTop hb
    by_cases hk : k < ps.length
    · obtain ⟨b, off, A1, c1, rfl, hlt, hc1, hr1⟩ := hrr.at_ hk
      have hki : (k : Int) < (ps.length : Int) := by omega
      by_cases hsh : ((ps.getD k []).length : Int) < max
      · have hle := (jS_le max ps k).1
        have hdl := (jS_le max ps k).2
        obtain ⟨A2, c2, hsl, hrs⟩ := hrr.part (f := (jS max ps k).2) (k := k + 1) (by omega) (by omega)
        have hle2 : k + 1 ≤ c := by have := hrr.le; omega
        have hfl := part_fl hss.out (k + 1) (jS max ps k).2
        have hfn : ((ps.take (k + 1)).drop (jS max ps k).2).length ≤ 1000000 := by rw [List.length_drop, List.length_take]; omega
        have hJ := Lib.hid (jS_short hsh)
        generalize (jS max ps k).2 = f at hle hsl hrs hfl hfn hJ ⊢
        generalize (jS max ps k).1 = d at hpk hdl hJ
        generalize ((ps.take (k + 1)).drop f) = qs at hsl hrs hfl hfn hJ
        generalize (ps.getD k []).length = m at hc1 hsh
        have hqf : qs.flatten.length ≤ 1000000 := hfl
        have hsl2 : Value.slice (some ⟨b, off + f, none⟩) (k + 1 - f) (c - f) = .slice A2 qs.length c2 := by
          rw [← hsl]; simp [sliced, Go.WideShapes.add_plain, show ¬ c = f by omega]
        have hbw : b < wr.heap.size := World.block_lt_of_cell? _ _ hc1
        have hJn := Lib.hid (joined_any wr A2 c2 qs hrs (by omega) hqf)
        generalize qs.flatten = z at hfl hqf hJ hJn
        have Hlt := Lib.hid hpk.lt
        obtain ⟨Av, cv, rfl⟩ := hpk.shape
        replace hpk := Lib.hid hpk
        replace hr0 := hr0
        go_wp2_with fail
        refine hJn.out.mono ?_
        rintro e w1 ⟨v1, rfl, hfr, hb1⟩
        obtain ⟨A5, rfl, hr5, hne5⟩ := fresh_rd hfr hqf
        have hne5' : 0 < z.length → ∀ ad, A5 = some ad → some ad.block ≠ (Value.slice Av d.length cv).ownBlock := fun h0 ad e e2 => by
          have h1 := hne5 h0 ad e
          have h2 := (Hlt.out ad.block e2.symm).2
          omega
        have hpk5 := hpk.out.below hb1
        have hb5 := hb.trans (hb1.mono hb.size)
        have hmx5 := (hb1.cell (by show w.heap.size < wr.heap.size; have := hb.size; omega)).trans hmx
        go_wp2_with (at_builtin; refine wpl_appendPk Try.underlying23 Try.info22 rfl (.tmp 29) (.tmp 36) rfl W0.heap.size _ d rfl hpk5 A5 z.length z hr5 hne5' rfl (by omega) hb5.size ?_; intro v2 w2 hpk2 hb2)
        go_roundg (gk - 1)
        case measure => omega
        case rel => exact ⟨k + 1, by omega, by go_num, by rw [hJ.out]; go_num, by rw [hJ.out]; exact hpk2, hb5.trans hb2⟩
      · have hJ := Lib.hid (jS_full hsh)
        generalize (ps.getD k []).length = m at hc1 hsh
        obtain ⟨Av, cv, rfl⟩ := hpk.shape
        replace hpk := Lib.hid hpk
        go_wp2_with fail
        go_roundg (gk - 1)
        case measure => omega
        case rel => exact ⟨k + 1, by omega, by go_num, by rw [hJ.out], by rw [hJ.out]; exact hpk.out, hb⟩
    · obtain rfl : k = ps.length := by omega
      obtain ⟨Av, cv, rfl⟩ := hpk.shape
      go_wp2_with fail
      obtain ⟨Av2, cv2, hpe, hpr⟩ := hpk.rds
      injection hpe with hp1 hp2 hp3
      subst hp1 hp3
      have hle := (jS_le max ps ps.length).1
      obtain ⟨A2, c2, hsl, hrs⟩ := hrr.part (f := (jS max ps ps.length).2) (k := ps.length) hle (Nat.le_refl _)
      have hfl := part_fl hss.out ps.length (jS max ps ps.length).2
      have hqf : (jR max ps ps.length).length ≤ 1000000 := hfl
      have hfn : ((ps.take ps.length).drop (jS max ps ps.length).2).length ≤ 1000000 := by rw [List.length_drop, List.length_take]; omega
      have hJn := fun W => joined_any W A2 c2 ((ps.take ps.length).drop (jS max ps ps.length).2)
      rw [show ((ps.take ps.length).drop (jS max ps ps.length).2).flatten = jR max ps ps.length from rfl] at hJn
      obtain ⟨z, hz⟩ : ∃ z, jR max ps ps.length = z := ⟨_, rfl⟩
      rw [hz] at hqf hJn
      replace hz := Lib.hid hz
      generalize (jS max ps ps.length).2 = f at hle hsl hrs hJn hfn ⊢
      obtain ⟨d, hd⟩ : ∃ d, (jS max ps ps.length).1 = d := ⟨_, rfl⟩
      rw [hd] at hpr ⊢
      replace hd := Lib.hid hd
      generalize ((ps.take ps.length).drop f) = qs at hsl hrs hJn hfn
      replace hJn := Lib.hid hJn
      refine startT (S := fun _ => False) (T := []) 9 (by kernel_rfl) rfl (l := #[false, false, false, false, false, false, false, false, false]) rfl ?_
      ((first | (refine takeT 0 (v := ?_) rfl (by decide +kernel) (by decide +kernel) (by decide +kernel) (fun _ _ _ h => h) (by decide +kernel) (Or.inl ⟨by rfl, ?_⟩) ?_; rotate_left 1; (focus (intro W hW; have hcW := hW.at; (try dsimp only at hcW); go_simp; first | done | with_reducible rfl)); try simp only [Act.put, List.setIfInBounds_toArray, List.set_cons_zero, List.set_cons_succ]) | (refine takeW 0 (v := ?_) rfl (by decide +kernel) (by decide +kernel) (by decide +kernel) (fun _ _ _ h => h) (Or.inl ⟨by rfl, ?_⟩) ?_; rotate_left 1; (focus (intro W hW; go_simp; first | done | with_reducible rfl)); try simp only [Act.put, List.setIfInBounds_toArray, List.set_cons_zero, List.set_cons_succ]) | (refine takeW 0 rfl (by decide +kernel) (by decide +kernel) (by decide +kernel) (fun _ _ _ h => h) (Or.inr ⟨by rfl, rfl⟩) ?_; try simp only [Act.put, List.setIfInBounds_toArray, List.set_cons_zero, List.set_cons_succ]) | skip); (first | (refine takeT 2 (v := ?_) rfl (by decide +kernel) (by decide +kernel) (by decide +kernel) (fun _ _ _ h => h) (by decide +kernel) (Or.inl ⟨by rfl, ?_⟩) ?_; rotate_left 1; (focus (intro W hW; have hcW := hW.at; (try dsimp only at hcW); go_simp; first | done | with_reducible rfl)); try simp only [Act.put, List.setIfInBounds_toArray, List.set_cons_zero, List.set_cons_succ]) | (refine takeW 2 (v := ?_) rfl (by decide +kernel) (by decide +kernel) (by decide +kernel) (fun _ _ _ h => h) (Or.inl ⟨by rfl, ?_⟩) ?_; rotate_left 1; (focus (intro W hW; go_simp; first | done | with_reducible rfl)); try simp only [Act.put, List.setIfInBounds_toArray, List.set_cons_zero, List.set_cons_succ]) | (refine takeW 2 rfl (by decide +kernel) (by decide +kernel) (by decide +kernel) (fun _ _ _ h => h) (Or.inr ⟨by rfl, rfl⟩) ?_; try simp only [Act.put, List.setIfInBounds_toArray, List.set_cons_zero, List.set_cons_succ]) | skip); (first | (refine takeT 3 (v := ?_) rfl (by decide +kernel) (by decide +kernel) (by decide +kernel) (fun _ _ _ h => h) (by decide +kernel) (Or.inl ⟨by rfl, ?_⟩) ?_; rotate_left 1; (focus (intro W hW; have hcW := hW.at; (try dsimp only at hcW); go_simp; first | done | with_reducible rfl)); try simp only [Act.put, List.setIfInBounds_toArray, List.set_cons_zero, List.set_cons_succ]) | (refine takeW 3 (v := ?_) rfl (by decide +kernel) (by decide +kernel) (by decide +kernel) (fun _ _ _ h => h) (Or.inl ⟨by rfl, ?_⟩) ?_; rotate_left 1; (focus (intro W hW; go_simp; first | done | with_reducible rfl)); try simp only [Act.put, List.setIfInBounds_toArray, List.set_cons_zero, List.set_cons_succ]) | (refine takeW 3 rfl (by decide +kernel) (by decide +kernel) (by decide +kernel) (fun _ _ _ h => h) (Or.inr ⟨by rfl, rfl⟩) ?_; try simp only [Act.put, List.setIfInBounds_toArray, List.set_cons_zero, List.set_cons_succ]) | skip))
      refine takeT 4 (v := .slice A2 qs.length c2) rfl (by decide +kernel) (by decide +kernel) (by decide +kernel) (fun _ _ _ h => h) (by decide +kernel) (Or.inl ⟨by rfl, ?_⟩) ?_
      · intro W hW
        have q := hsl
        simp [sliced] at q
        go_simp
        first | done | exact ⟨q.1, q.2.1, q.2.2⟩ | exact ⟨q.1, q.2.2⟩
      try simp only [Act.put, List.setIfInBounds_toArray, List.set_cons_zero, List.set_cons_succ]
      refine stepT 1 rfl (by decide +kernel) (by rfl) (fun K hK => ?_)
      go_simp
      refine (clipL_any _ _ _ _ hpr.le hpr.cap).mono ?_
      rintro e w1 ⟨rfl, rfl⟩
      refine hK _ _ (.inr fun a ha => ha.elim) ?_
      clear hK K
      try simp only [Act.put, List.setIfInBounds_toArray, List.set_cons_zero, List.set_cons_succ]
      refine stepT 5 rfl (by decide +kernel) (by rfl) (fun K hK => ?_)
      go_simp
      refine (hJn.out _ hrs.drew (by omega) hqf).mono ?_
      rintro e w1 ⟨v1, rfl, hfr, hb1⟩
      obtain ⟨A5, rfl, hr5, hne5⟩ := fresh_rd hfr hqf
      replace hb1 : Below wr.heap.size wr w1 := below_undrew hb1
      refine hK _ _ (.inr fun a ha => ha.elim) ?_
      clear hK K
      try simp only [Act.put, List.setIfInBounds_toArray, List.set_cons_zero, List.set_cons_succ]
      ((first | (refine takeT 6 (v := ?_) rfl (by decide +kernel) (by decide +kernel) (by decide +kernel) (fun _ _ _ h => h) (by decide +kernel) (Or.inl ⟨by rfl, ?_⟩) ?_; rotate_left 1; (focus (intro W hW; have hcW := hW.at; (try dsimp only at hcW); go_simp; first | done | with_reducible rfl)); try simp only [Act.put, List.setIfInBounds_toArray, List.set_cons_zero, List.set_cons_succ]) | (refine takeW 6 (v := ?_) rfl (by decide +kernel) (by decide +kernel) (by decide +kernel) (fun _ _ _ h => h) (Or.inl ⟨by rfl, ?_⟩) ?_; rotate_left 1; (focus (intro W hW; go_simp; first | done | with_reducible rfl)); try simp only [Act.put, List.setIfInBounds_toArray, List.set_cons_zero, List.set_cons_succ]) | (refine takeW 6 rfl (by decide +kernel) (by decide +kernel) (by decide +kernel) (fun _ _ _ h => h) (Or.inr ⟨by rfl, rfl⟩) ?_; try simp only [Act.put, List.setIfInBounds_toArray, List.set_cons_zero, List.set_cons_succ]) | skip); (first | (refine takeT 7 (v := ?_) rfl (by decide +kernel) (by decide +kernel) (by decide +kernel) (fun _ _ _ h => h) (by decide +kernel) (Or.inl ⟨by rfl, ?_⟩) ?_; rotate_left 1; (focus (intro W hW; have hcW := hW.at; (try dsimp only at hcW); go_simp; first | done | with_reducible rfl)); try simp only [Act.put, List.setIfInBounds_toArray, List.set_cons_zero, List.set_cons_succ]) | (refine takeW 7 (v := ?_) rfl (by decide +kernel) (by decide +kernel) (by decide +kernel) (fun _ _ _ h => h) (Or.inl ⟨by rfl, ?_⟩) ?_; rotate_left 1; (focus (intro W hW; go_simp; first | done | with_reducible rfl)); try simp only [Act.put, List.setIfInBounds_toArray, List.set_cons_zero, List.set_cons_succ]) | (refine takeW 7 rfl (by decide +kernel) (by decide +kernel) (by decide +kernel) (fun _ _ _ h => h) (Or.inr ⟨by rfl, rfl⟩) ?_; try simp only [Act.put, List.setIfInBounds_toArray, List.set_cons_zero, List.set_cons_succ]) | skip); (first | (refine takeT 8 (v := ?_) rfl (by decide +kernel) (by decide +kernel) (by decide +kernel) (fun _ _ _ h => h) (by decide +kernel) (Or.inl ⟨by rfl, ?_⟩) ?_; rotate_left 1; (focus (intro W hW; have hcW := hW.at; (try dsimp only at hcW); go_simp; first | done | with_reducible rfl)); try simp only [Act.put, List.setIfInBounds_toArray, List.set_cons_zero, List.set_cons_succ]) | (refine takeW 8 (v := ?_) rfl (by decide +kernel) (by decide +kernel) (by decide +kernel) (fun _ _ _ h => h) (Or.inl ⟨by rfl, ?_⟩) ?_; rotate_left 1; (focus (intro W hW; go_simp; first | done | with_reducible rfl)); try simp only [Act.put, List.setIfInBounds_toArray, List.set_cons_zero, List.set_cons_succ]) | (refine takeW 8 rfl (by decide +kernel) (by decide +kernel) (by decide +kernel) (fun _ _ _ h => h) (Or.inr ⟨by rfl, rfl⟩) ?_; try simp only [Act.put, List.setIfInBounds_toArray, List.set_cons_zero, List.set_cons_succ]) | skip))
      refine doneT (by kernel_rfl) ?_
      go_wp2
      go_ret3
      rw [hz.out, hd.out]
      exact ⟨_, A5, rfl, hpr.clip.belowTop hb1, hr5, (hb0.out.trans (hb.mono (by omega))).trans (hb1.mono (by have := hb.size; omega))⟩
end Go.Proofs.Ytfaocndelibadaa
