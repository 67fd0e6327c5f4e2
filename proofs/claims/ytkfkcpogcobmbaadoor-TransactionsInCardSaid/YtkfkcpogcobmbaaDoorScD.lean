/-
  Helper text: the law file's device as the host holds it; lists of packets compared; no statement is proved here.
-/
import Derived.Test.YtkfkcpogcobmbaaDoorScr
import Derived.Test.YtkfkcpogcobmbaaDoorLvA
namespace Go.Proofs.YtkfkcpogcobmbaaDoor
open Go Go.RowKit

theorem sc_dev (N b : Nat) : DevOK (scA N b) hearS 50 (.pointer (some ⟨b, 0, none⟩)) 112 (.pointer (some ⟨b, 0, none⟩)) (fun s => s.2.length ≤ 1000000) where
  ahead := fun w => by kernel_rfl
  meth := fun w => by kernel_rfl
  enter := fun args w => by kernel_rfl
  call := fun w s F p A c hP hF ok hr hN => scr_any w N b s F hF p ok A c hr hP hN
/-- What was heard was sent. -/
def scJ (s : List Pkt × List Pkt) (l : List SentP) : Prop := s.2.length ≤ l.length
theorem hearS_len (s : List Pkt × List Pkt) (p : Pkt) : (hearS s p).1.2.length = s.2.length + 1 := by
  obtain ⟨al, hd⟩ := s
  cases al <;> simp [hearS]
theorem sc_askJ {τ : Type} (next : τ → τ × Nat) : AskJ (askR hearS next) scJ where
  add := fun s l y h => by show s.2.length ≤ (l ++ [y]).length; rw [List.length_append]; exact Nat.le_succ_of_le h
  ask := fun s t l y p h => by
    have h' : s.2.length ≤ l.length := h
    have hl := hearS_len s p
    unfold askR
    split
    · show (hearS s p).1.2.length ≤ ((l ++ [y]) ++ _).length
      simp; omega
    · show (hearS s p).1.2.length ≤ (l ++ [y]).length
      simp; omega
theorem sc_askC {N b0 τ} {W : τ → Asr N} {next : τ → τ × Nat} {wv : Value} (hW : WireOK W next wv) (b : Nat) (hLN : 0 < N) : AskC (scA N b0) W b (.iface 50 (.pointer (some ⟨b0, 0, none⟩))) wv (askR hearS next) scJ :=
  askC_dev (sc_dev N b0) hW (fun s l h hl => Nat.le_trans h hl) b hLN

theorem sameB_refl (a : Rg) (xs : List UInt8) : sameB a a xs xs = true := by simp [sameB]
theorem sameB_pk (p : Pkt) (u v : Value) : sameB (p.rg u) (p.rg v) p.data p.data = true := by simp [sameB, Pkt.rg]
theorem differ_same (X : World) (p : Pkt) (A1 A2 : Option Addr) (c1 c2 : Nat) (h1 : RdS (fun _ => True) X A1 c1 p.data) (h2 : RdS (fun _ => True) X A2 c2 p.data) :
    Calls Tryd.prog 22 #[pkV p A1 c1, pkV p A2 c2] X (ResV X (.int .i64 0)) := by
  have := differ_any X (p.rg (.slice A1 p.data.length c1)) (p.rg (.slice A2 p.data.length c2)) A1 A2 c1 c2 _ _ h1.rdT h2.rdT rfl rfl
  rw [sameB_pk] at this
  exact this
/-- The element number j of a list that is read. -/
theorem RdL.elem {ι : Type} {L : Lay ι} {F : Nat → Prop} {w : World} {A : Option Addr} {c : Nat} {l : List ι} (h : RdL L F w A c l) (j : Nat) (hj : j < l.length) :
    ∃ b off A1 c1, A = some ⟨b, off, none⟩ ∧ F b ∧ w.rangeAt b (off + j * L.sz) (L.fc l[j] A1 c1) ∧ RdS F w A1 c1 (L.fd l[j]) := by
  obtain ⟨b, off, vs, rfl, hb, hv, hc⟩ := h.cells (by omega)
  obtain ⟨A1, c1, h1, h2⟩ := hv.at_ j hj
  refine ⟨b, off, A1, c1, rfl, hb, fun i v hi => ?_, h2⟩
  have hil : i < L.sz := by have := (List.getElem?_eq_some_iff.1 hi).1; rwa [L.len] at this
  rw [Nat.add_assoc, hc _ (by have : (j + 1) * L.sz ≤ l.length * L.sz := Nat.mul_le_mul_right _ hj; rw [Nat.add_mul] at this; omega), h1 i hil]
  exact hi
theorem range_below {w W : World} {S : Addr → Prop} (h : Sm S w W) {b o : Nat} {cs : List Value} (hS : ∀ j, S ⟨b, o + j, none⟩) (hr : w.rangeAt b o cs) : W.rangeAt b o cs := fun j v hj => (h _ (hS j)).trans (hr j v hj)

theorem smBlk {w W : World} {b1 b2 : Nat} (hb : Below w.heap.size w W) (h1 : b1 < w.heap.size) (h2 : b2 < w.heap.size) : Sm (fun a => a.block = b1 ∨ a.block = b2) w W := fun a ha => hb.cell (by rcases ha with h | h <;> omega)

set_option maxHeartbeats 1600000 in
set_option maxRecDepth 100000 in
theorem differ_eq (w : World) (F G : Nat → Prop) (A A' : Option Addr) (c c' : Nat) (l : List Pkt) (h : RdL layPk F w A c l) (h' : RdL layPk G w A' c' l) (hl : l.length ≤ 1000000) :
    Calls Tryd.prog 24 #[.slice A l.length c, .slice A' l.length c'] w (ResV w (.int .i64 0)) := by
  go_enter Tryd.func24, Tryd.ntmps24
  go_wp2
  go_loopw [5] (fun i W => ∃ k : Nat, k ≤ l.length ∧ i = .int .i64 k ∧ Below w.heap.size w W) (fun i _ => l.length - (intOf i).toNat)
  case atStart => exact ⟨0, by omega, rfl, Below.refl _ _⟩
  case round =>
    obtain ⟨k, hk, rfl, hb⟩ := hrel
    by_cases hkl : k < l.length
    · obtain ⟨b1, o1, A1, c1, rfl, _, hr1, hd1⟩ := (h.below hb (by decide)).elem k hkl
      obtain ⟨b2, o2, A2, c2, rfl, _, hr2, hd2⟩ := (h'.below hb (by decide)).elem k hkl
      have hlt1 := World.block_lt_of_cell? _ _ (hr1 0 _ rfl)
      have hlt2 := World.block_lt_of_cell? _ _ (hr2 0 _ rfl)
      have KD := Lib.hid fun (X : World) (hx1 : RdS (fun _ => True) X A1 c1 l[k].data) (hx2 : RdS (fun _ => True) X A2 c2 l[k].data) => differ_same X l[k] A1 A2 c1 c2 hx1 hx2
      obtain ⟨p, hp⟩ : ∃ p, l[k] = p := ⟨_, rfl⟩
      have hr1' : wr.rangeAt b1 (o1 + k * 10) (pkL l[k] A1 c1) := hr1
      have hr2' : wr.rangeAt b2 (o2 + k * 10) (pkL l[k] A2 c2) := hr2
      have hd1' : RdS (fun _ => True) wr A1 c1 l[k].data := hd1.mono fun _ _ => trivial
      have hd2' : RdS (fun _ => True) wr A2 c2 l[k].data := hd2.mono fun _ _ => trivial
      rw [hp] at KD hr1' hr2' hd1' hd2'
      have Hb := Lib.hid hb
      have HR1 := Lib.hid hr1'
      have HR2 := Lib.hid hr2'
      have HD1 := Lib.hid hd1'
      have HD2 := Lib.hid hd2'
      clear hb hr1 hr2 hd1 hd2 hr1' hr2' hd1' hd2' hp
      go_wp2
      refine region_inv (fun a₀ act y => ∃ v20 v24 : Value, act = { tmps := #[.slice (some ⟨b1, o1, none⟩) l.length c, .slice (some ⟨b2, o2, none⟩) l.length c', undef, undef, u4, .int .i64 k, .slice (some ⟨b1, o1, none⟩) l.length c, .int .i64 l.length, .slice (some ⟨b2, o2, none⟩) l.length c', .int .i64 l.length, .bool false, .int .i64 k, .slice (some ⟨b1, o1, none⟩) l.length c, .int .i64 l.length, .bool true, u15, u16, .slice (some ⟨b1, o1, none⟩) l.length c, .int .i64 k, .pointer (some ⟨b1, o1 + k * 10, none⟩), v20, .slice (some ⟨b2, o2, none⟩) l.length c', .int .i64 k, .pointer (some ⟨b2, o2 + k * 10, none⟩), v24, .int .i64 0, .bool false], defers := [] } ∧ Below w.heap.size w y) ?_ ?_
      · refine startTP (S := fun a => a.block = b1 ∨ a.block = b2) (T := []) (fun X => Below w.heap.size w X ∧ Below wr.heap.size wr X) 10 (by kernel_rfl) rfl (l := #[false, false, false, false, false, false, false, false, false, false]) rfl ⟨Hb.out.drew, (Below.refl _ _).drew⟩ ?_
        rintro x0 ⟨q1, q2⟩
        have d1 := range_below (smBlk q2 hlt1 hlt2) (fun j => .inl rfl) HR1.out
        have d2 := range_below (smBlk q2 hlt1 hlt2) (fun j => .inr rfl) HR2.out
        ((first | (refine takeT 0 (v := ?_) rfl (by decide +kernel) (by decide +kernel) (by decide +kernel) (fun _ _ _ h => h) (by decide +kernel) (Or.inl ⟨by rfl, ?_⟩) ?_; rotate_left 1; (focus (intro W hW; have hcW := hW.at; (try dsimp only at hcW); go_simp; first | done | with_reducible rfl)); try simp only [Act.put, List.setIfInBounds_toArray, List.set_cons_zero, List.set_cons_succ]) | (refine takeW 0 (v := ?_) rfl (by decide +kernel) (by decide +kernel) (by decide +kernel) (fun _ _ _ h => h) (Or.inl ⟨by rfl, ?_⟩) ?_; rotate_left 1; (focus (intro W hW; go_simp; first | done | with_reducible rfl)); try simp only [Act.put, List.setIfInBounds_toArray, List.set_cons_zero, List.set_cons_succ]) | (refine takeW 0 rfl (by decide +kernel) (by decide +kernel) (by decide +kernel) (fun _ _ _ h => h) (Or.inr ⟨by rfl, rfl⟩) ?_; try simp only [Act.put, List.setIfInBounds_toArray, List.set_cons_zero, List.set_cons_succ]) | skip); (first | (refine takeT 1 (v := ?_) rfl (by decide +kernel) (by decide +kernel) (by decide +kernel) (fun _ _ _ h => h) (by decide +kernel) (Or.inl ⟨by rfl, ?_⟩) ?_; rotate_left 1; (focus (intro W hW; have hcW := hW.at; (try dsimp only at hcW); go_simp; first | done | with_reducible rfl)); try simp only [Act.put, List.setIfInBounds_toArray, List.set_cons_zero, List.set_cons_succ]) | (refine takeW 1 (v := ?_) rfl (by decide +kernel) (by decide +kernel) (by decide +kernel) (fun _ _ _ h => h) (Or.inl ⟨by rfl, ?_⟩) ?_; rotate_left 1; (focus (intro W hW; go_simp; first | done | with_reducible rfl)); try simp only [Act.put, List.setIfInBounds_toArray, List.set_cons_zero, List.set_cons_succ]) | (refine takeW 1 rfl (by decide +kernel) (by decide +kernel) (by decide +kernel) (fun _ _ _ h => h) (Or.inr ⟨by rfl, rfl⟩) ?_; try simp only [Act.put, List.setIfInBounds_toArray, List.set_cons_zero, List.set_cons_succ]) | skip); (first | (refine takeT 2 (v := ?_) rfl (by decide +kernel) (by decide +kernel) (by decide +kernel) (fun _ _ _ h => h) (by decide +kernel) (Or.inl ⟨by rfl, ?_⟩) ?_; rotate_left 1; (focus (intro W hW; have hcW := hW.at; (try dsimp only at hcW); go_simp; first | done | with_reducible rfl)); try simp only [Act.put, List.setIfInBounds_toArray, List.set_cons_zero, List.set_cons_succ]) | (refine takeW 2 (v := ?_) rfl (by decide +kernel) (by decide +kernel) (by decide +kernel) (fun _ _ _ h => h) (Or.inl ⟨by rfl, ?_⟩) ?_; rotate_left 1; (focus (intro W hW; go_simp; first | done | with_reducible rfl)); try simp only [Act.put, List.setIfInBounds_toArray, List.set_cons_zero, List.set_cons_succ]) | (refine takeW 2 rfl (by decide +kernel) (by decide +kernel) (by decide +kernel) (fun _ _ _ h => h) (Or.inr ⟨by rfl, rfl⟩) ?_; try simp only [Act.put, List.setIfInBounds_toArray, List.set_cons_zero, List.set_cons_succ]) | skip))
        refine takeT 3 (v := pkV p A1 c1) rfl (by decide +kernel) (by decide +kernel) (by decide +kernel) (fun _ _ _ h => h) (by decide +kernel) (yieldsIf_load_mid (by rfl) _ (.tmp 19) rfl b1 (o1 + k * 10) rfl (pkL p A1 c1) _ (fun W hW => range_below hW (fun j => .inl rfl) d1) Tryd.underlying40 rfl (by kernel_rfl)) ?_
        try simp only [Act.put, List.setIfInBounds_toArray, List.set_cons_zero, List.set_cons_succ]
        ((first | (refine takeT 4 (v := ?_) rfl (by decide +kernel) (by decide +kernel) (by decide +kernel) (fun _ _ _ h => h) (by decide +kernel) (Or.inl ⟨by rfl, ?_⟩) ?_; rotate_left 1; (focus (intro W hW; have hcW := hW.at; (try dsimp only at hcW); go_simp; first | done | with_reducible rfl)); try simp only [Act.put, List.setIfInBounds_toArray, List.set_cons_zero, List.set_cons_succ]) | (refine takeW 4 (v := ?_) rfl (by decide +kernel) (by decide +kernel) (by decide +kernel) (fun _ _ _ h => h) (Or.inl ⟨by rfl, ?_⟩) ?_; rotate_left 1; (focus (intro W hW; go_simp; first | done | with_reducible rfl)); try simp only [Act.put, List.setIfInBounds_toArray, List.set_cons_zero, List.set_cons_succ]) | (refine takeW 4 rfl (by decide +kernel) (by decide +kernel) (by decide +kernel) (fun _ _ _ h => h) (Or.inr ⟨by rfl, rfl⟩) ?_; try simp only [Act.put, List.setIfInBounds_toArray, List.set_cons_zero, List.set_cons_succ]) | skip); (first | (refine takeT 5 (v := ?_) rfl (by decide +kernel) (by decide +kernel) (by decide +kernel) (fun _ _ _ h => h) (by decide +kernel) (Or.inl ⟨by rfl, ?_⟩) ?_; rotate_left 1; (focus (intro W hW; have hcW := hW.at; (try dsimp only at hcW); go_simp; first | done | with_reducible rfl)); try simp only [Act.put, List.setIfInBounds_toArray, List.set_cons_zero, List.set_cons_succ]) | (refine takeW 5 (v := ?_) rfl (by decide +kernel) (by decide +kernel) (by decide +kernel) (fun _ _ _ h => h) (Or.inl ⟨by rfl, ?_⟩) ?_; rotate_left 1; (focus (intro W hW; go_simp; first | done | with_reducible rfl)); try simp only [Act.put, List.setIfInBounds_toArray, List.set_cons_zero, List.set_cons_succ]) | (refine takeW 5 rfl (by decide +kernel) (by decide +kernel) (by decide +kernel) (fun _ _ _ h => h) (Or.inr ⟨by rfl, rfl⟩) ?_; try simp only [Act.put, List.setIfInBounds_toArray, List.set_cons_zero, List.set_cons_succ]) | skip); (first | (refine takeT 6 (v := ?_) rfl (by decide +kernel) (by decide +kernel) (by decide +kernel) (fun _ _ _ h => h) (by decide +kernel) (Or.inl ⟨by rfl, ?_⟩) ?_; rotate_left 1; (focus (intro W hW; have hcW := hW.at; (try dsimp only at hcW); go_simp; first | done | with_reducible rfl)); try simp only [Act.put, List.setIfInBounds_toArray, List.set_cons_zero, List.set_cons_succ]) | (refine takeW 6 (v := ?_) rfl (by decide +kernel) (by decide +kernel) (by decide +kernel) (fun _ _ _ h => h) (Or.inl ⟨by rfl, ?_⟩) ?_; rotate_left 1; (focus (intro W hW; go_simp; first | done | with_reducible rfl)); try simp only [Act.put, List.setIfInBounds_toArray, List.set_cons_zero, List.set_cons_succ]) | (refine takeW 6 rfl (by decide +kernel) (by decide +kernel) (by decide +kernel) (fun _ _ _ h => h) (Or.inr ⟨by rfl, rfl⟩) ?_; try simp only [Act.put, List.setIfInBounds_toArray, List.set_cons_zero, List.set_cons_succ]) | skip))
        refine takeT 7 (v := pkV p A2 c2) rfl (by decide +kernel) (by decide +kernel) (by decide +kernel) (fun _ _ _ h => h) (by decide +kernel) (yieldsIf_load_mid (by rfl) _ (.tmp 23) rfl b2 (o2 + k * 10) rfl (pkL p A2 c2) _ (fun W hW => range_below hW (fun j => .inr rfl) d2) Tryd.underlying40 rfl (by kernel_rfl)) ?_
        try simp only [Act.put, List.setIfInBounds_toArray, List.set_cons_zero, List.set_cons_succ]
        clear d1 d2
        refine stepT 8 rfl (by decide +kernel) (by rfl) ?_
        intro K hK
        go_simp
        refine (KD.out x0 (HD1.out.below q2) (HD2.out.below q2)).mono ?_
        rintro e x1 ⟨rfl, bb⟩
        have hz := q2.size
        refine hK _ _ (.inr (smBlk bb (by omega) (by omega))) ?_
        clear hK K
        try simp only [Act.put, List.setIfInBounds_toArray, List.set_cons_zero, List.set_cons_succ]
        have Hq := Lib.hid (q1.trans (bb.mono q1.size))
        clear q1 q2 bb hz
        ((first | (refine takeT 9 (v := ?_) rfl (by decide +kernel) (by decide +kernel) (by decide +kernel) (fun _ _ _ h => h) (by decide +kernel) (Or.inl ⟨by rfl, ?_⟩) ?_; rotate_left 1; (focus (intro W hW; have hcW := hW.at; (try dsimp only at hcW); go_simp; first | done | with_reducible rfl)); try simp only [Act.put, List.setIfInBounds_toArray, List.set_cons_zero, List.set_cons_succ]) | (refine takeW 9 (v := ?_) rfl (by decide +kernel) (by decide +kernel) (by decide +kernel) (fun _ _ _ h => h) (Or.inl ⟨by rfl, ?_⟩) ?_; rotate_left 1; (focus (intro W hW; go_simp; first | done | with_reducible rfl)); try simp only [Act.put, List.setIfInBounds_toArray, List.set_cons_zero, List.set_cons_succ]) | (refine takeW 9 rfl (by decide +kernel) (by decide +kernel) (by decide +kernel) (fun _ _ _ h => h) (Or.inr ⟨by rfl, rfl⟩) ?_; try simp only [Act.put, List.setIfInBounds_toArray, List.set_cons_zero, List.set_cons_succ]) | skip))
        refine doneT (by kernel_rfl) ?_
        exact ⟨_, _, rfl, Hq.out⟩
      · rintro a' y ⟨v20, v24, rfl, hb⟩
        have Hb2 := Lib.hid hb
        clear hb Hb KD HR1 HR2 HD1 HD2
        go_wp2
        go_roundw
        case rel => exact ⟨k + 1, by omega, by go_num, Hb2.out⟩
        case measure => simp [intOf]; omega
    · have Hb := Lib.hid hb
      clear hb
      go_wp2
      go_ret
      exact ⟨rfl, Hb.out⟩

end Go.Proofs.YtkfkcpogcobmbaaDoor
