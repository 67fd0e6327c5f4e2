/-
  Helper text: the receiver as a device; the law file's few and lists; what a transaction makes of sender and receiver; no statement is proved here.
-/
import Derived.Test.YtkfkcpogcobmbaaDoorRec
import Derived.Test.YtkfkcpogcobmbaaDoorScD
namespace Go.Proofs.YtkfkcpogcobmbaaDoor
open Go Go.RowKit

theorem rec_dev (N b : Nat) : DevOK (recA N b) hearRec 85 (.pointer (some ⟨b, 0, none⟩)) 113 (.pointer (some ⟨b, 0, none⟩)) recP where
  ahead := fun w => by kernel_rfl
  meth := fun w => by kernel_rfl
  enter := fun args w => by kernel_rfl
  call := fun w s F p A c hP hF ok hr hN => rec_any w N b s F hF hP p ok A c hr hN
def recJ (s : RecS) (l : List SentP) : Prop := s.got.length ≤ 1000 + l.length ∧ ∀ x ∈ s.got, x.length ≤ 1000000
theorem hearRec_len (s : RecS) (p : Pkt) : (hearRec s p).1.got.length ≤ s.got.length + 1 := by
  unfold hearRec
  repeat' split
  all_goals (simp; try omega)
theorem hearRec_all (s : RecS) (p : Pkt) (h : ∀ x ∈ s.got, x.length ≤ 1000000) : ∀ x ∈ (hearRec s p).1.got, x.length ≤ 1000000 := by
  unfold hearRec
  split
  · exact h
  · split
    · rename_i h1 h2
      split
      · intro x hx
        rcases List.mem_append.1 hx with hx | hx
        · exact h x hx
        · obtain rfl : x = p.data := by simpa using hx
          exact h2.2.2
      · exact h
    · exact h
theorem rec_askJ {τ : Type} (next : τ → τ × Nat) : AskJ (askR hearRec next) recJ where
  add := fun s l y h => ⟨by rw [List.length_append]; exact Nat.le_trans h.1 (by omega), h.2⟩
  ask := fun s t l y p h => by
    have hl := hearRec_len s p
    have ha := hearRec_all s p h.2
    have h1 := h.1
    unfold askR
    split
    · refine ⟨?_, ha⟩
      show (hearRec s p).1.got.length ≤ 1000 + ((l ++ [y]) ++ _).length
      simp; omega
    · refine ⟨?_, ha⟩
      show (hearRec s p).1.got.length ≤ 1000 + (l ++ [y]).length
      simp; omega
theorem rec_askC {N b0 τ} {W : τ → Asr N} {next : τ → τ × Nat} {wv : Value} (hW : WireOK W next wv) (b : Nat) (hLN : 0 < N) : AskC (recA N b0) W b (.iface 85 (.pointer (some ⟨b0, 0, none⟩))) wv (askR hearRec next) recJ :=
  askC_dev (rec_dev N b0) hW (fun s l h hl => ⟨by have := h.1; omega, h.2⟩) b hLN

/-- Few packets, and short ones. -/
def FewP (ps : List (List UInt8)) : Prop := ps.length ≤ 20 ∧ ∀ j, j < ps.length → (ps.getD j []).length ≤ 64
def FewPost (w : World) (ps : List (List UInt8)) (e : Ending) (w' : World) : Prop := ∃ b : Bool, ResV w (.bool b) e w' ∧ (b = true → FewP ps)
set_option maxHeartbeats 1600000 in
set_option maxRecDepth 100000 in
theorem few_any (w : World) (A : Option Addr) (c : Nat) (ps : List (List UInt8)) (h : Tg.Rds w w.heap.size A c ps) :
    Calls Tryd.prog 27 #[.slice A ps.length c] w (FewPost w ps) := by
  by_cases hl : (20 : Int) < (ps.length : Int)
  · go_enter Tryd.func27, Tryd.ntmps27
    go_wp2
    go_ret
    exact ⟨false, ⟨rfl, Below.refl _ _⟩, fun e => by cases e⟩
  go_enter Tryd.func27, Tryd.ntmps27
  go_wp2
  go_loopw [3] (fun i W => ∃ k : Nat, k ≤ ps.length ∧ i = .int .i64 k ∧ W = w ∧ ∀ j, j < k → (ps.getD j []).length ≤ 64) (fun i _ => ps.length - (intOf i).toNat)
  case atStart => exact ⟨0, by omega, rfl, rfl, fun j h => by omega⟩
  case round =>
    obtain ⟨k, hk, rfl, rfl, hall⟩ := hrel
    have Hall := Lib.hid hall
    clear hall
    by_cases hkl : k < ps.length
    · obtain ⟨b1, o1, A1, c2, rfl, _, c9, _⟩ := h.at_ hkl
      obtain ⟨n, hn⟩ : ∃ n, (ps.getD k []).length = n := ⟨_, rfl⟩
      rw [hn] at c9
      have Hn := Lib.hid hn
      clear hn
      by_cases hd : (64 : Int) < (n : Int)
      · go_wp2
        go_ret
        exact ⟨false, ⟨rfl, Below.refl _ _⟩, fun e => by cases e⟩
      · go_wp2
        go_roundw
        case rel => exact ⟨k + 1, by omega, by go_num, (by first | trivial | rfl), fun j h => by
          by_cases e : j = k
          · subst e; rw [Hn.out]; omega
          · exact Hall.out j (by omega)⟩
        case measure => simp [intOf]; omega
    · go_wp2
      go_ret
      exact ⟨true, ⟨rfl, Below.refl _ _⟩, fun _ => ⟨by omega, fun j h => Hall.out j (by omega)⟩⟩

set_option maxHeartbeats 1600000 in
set_option maxRecDepth 100000 in
theorem lists_any (w : World) (A A' : Option Addr) (c c' m : Nat) (ps : List (List UInt8)) (h : Tg.Rds w w.heap.size A c ps) (qs : List (List UInt8)) (h' : Tg.Rds w w.heap.size A' c' qs) (hm : qs.length = m) (hq : ps.length ≤ qs.length) (he : ∀ k, k < ps.length → qs.getD k [] = ps.getD k []) (hl : ps.length ≤ 1000000) :
    Calls Tryd.prog 31 #[.slice A ps.length c, .slice A' m c'] w (ResV w (.int .i64 ps.length)) := by
  have hne : ¬ (m : Int) < (ps.length : Int) := by omega
  have He := Lib.hid he
  clear he
  go_enter Tryd.func31, Tryd.ntmps31
  go_wp2
  go_loopg [5] ps.length (fun g i wr => ∃ k : Nat, k + g = ps.length ∧ i = .int .i64 k ∧ Below w.heap.size w wr)
  case atStart => exact ⟨0, by omega, rfl, Below.refl _ _⟩
  case round =>
    obtain ⟨k, hkg, rfl, hb⟩ := hrel
    by_cases hk : k < ps.length
    · obtain ⟨b, off, A1, c1, rfl, hlt, hc1, hr1⟩ := (h.below hb).at_ hk
      obtain ⟨b', off', A2, c2, rfl, hlt', hc2, hr2⟩ := (h'.below hb).at_ (show k < qs.length by omega)
      rw [He.out k hk] at hc2 hr2
      have hki : (k : Int) < (ps.length : Int) := by omega
      have hkm : (k : Int) < (m : Int) := by omega
      have hki0 : (0 : Int) ≤ (k : Int) := by omega
      generalize ps.getD k [] = xs at hc1 hc2 hr1 hr2
      have cv1 := Lib.hid (fun W (hW : Sm (fun _ => True) wr.drew W) => ((hr1.keep (w' := W) fun p _ => hW p trivial).str Tryd.underlying22 Tryd.underlying5 Tryd.underlying9 : (convert 22 9 (.slice A1 xs.length c1)).run Tryd.prog W = .ok (.string ⟨xs.toArray⟩) W))
      have cv2 := Lib.hid (fun W (hW : Sm (fun _ => True) wr.drew W) => ((hr2.keep (w' := W) fun p _ => hW p trivial).str Tryd.underlying22 Tryd.underlying5 Tryd.underlying9 : (convert 22 9 (.slice A2 xs.length c2)).run Tryd.prog W = .ok (.string ⟨xs.toArray⟩) W))
      have hbd := hb.drew
      clear hr1 hr2
      go_wp2
      refine startT (S := fun _ => True) (T := []) 11 (by kernel_rfl) rfl (l := #[false, false, false, false, false, false, false, false, false, false, false]) rfl ?_
      ((first | (refine takeT 0 (v := ?_) rfl (by decide +kernel) (by decide +kernel) (by decide +kernel) (fun _ _ _ h => h) (by decide +kernel) (Or.inl ⟨by rfl, ?_⟩) ?_; rotate_left 1; (focus (intro W hW; have hcW := hW.at; (try dsimp only at hcW); go_simp; first | done | with_reducible rfl)); try simp only [Act.put, List.setIfInBounds_toArray, List.set_cons_zero, List.set_cons_succ]) | (refine takeW 0 (v := ?_) rfl (by decide +kernel) (by decide +kernel) (by decide +kernel) (fun _ _ _ h => h) (Or.inl ⟨by rfl, ?_⟩) ?_; rotate_left 1; (focus (intro W hW; go_simp; first | done | with_reducible rfl)); try simp only [Act.put, List.setIfInBounds_toArray, List.set_cons_zero, List.set_cons_succ]) | (refine takeW 0 rfl (by decide +kernel) (by decide +kernel) (by decide +kernel) (fun _ _ _ h => h) (Or.inr ⟨by rfl, rfl⟩) ?_; try simp only [Act.put, List.setIfInBounds_toArray, List.set_cons_zero, List.set_cons_succ]) | skip); (first | (refine takeT 1 (v := ?_) rfl (by decide +kernel) (by decide +kernel) (by decide +kernel) (fun _ _ _ h => h) (by decide +kernel) (Or.inl ⟨by rfl, ?_⟩) ?_; rotate_left 1; (focus (intro W hW; have hcW := hW.at; (try dsimp only at hcW); go_simp; first | done | with_reducible rfl)); try simp only [Act.put, List.setIfInBounds_toArray, List.set_cons_zero, List.set_cons_succ]) | (refine takeW 1 (v := ?_) rfl (by decide +kernel) (by decide +kernel) (by decide +kernel) (fun _ _ _ h => h) (Or.inl ⟨by rfl, ?_⟩) ?_; rotate_left 1; (focus (intro W hW; go_simp; first | done | with_reducible rfl)); try simp only [Act.put, List.setIfInBounds_toArray, List.set_cons_zero, List.set_cons_succ]) | (refine takeW 1 rfl (by decide +kernel) (by decide +kernel) (by decide +kernel) (fun _ _ _ h => h) (Or.inr ⟨by rfl, rfl⟩) ?_; try simp only [Act.put, List.setIfInBounds_toArray, List.set_cons_zero, List.set_cons_succ]) | skip); (first | (refine takeT 2 (v := ?_) rfl (by decide +kernel) (by decide +kernel) (by decide +kernel) (fun _ _ _ h => h) (by decide +kernel) (Or.inl ⟨by rfl, ?_⟩) ?_; rotate_left 1; (focus (intro W hW; have hcW := hW.at; (try dsimp only at hcW); go_simp; first | done | with_reducible rfl)); try simp only [Act.put, List.setIfInBounds_toArray, List.set_cons_zero, List.set_cons_succ]) | (refine takeW 2 (v := ?_) rfl (by decide +kernel) (by decide +kernel) (by decide +kernel) (fun _ _ _ h => h) (Or.inl ⟨by rfl, ?_⟩) ?_; rotate_left 1; (focus (intro W hW; go_simp; first | done | with_reducible rfl)); try simp only [Act.put, List.setIfInBounds_toArray, List.set_cons_zero, List.set_cons_succ]) | (refine takeW 2 rfl (by decide +kernel) (by decide +kernel) (by decide +kernel) (fun _ _ _ h => h) (Or.inr ⟨by rfl, rfl⟩) ?_; try simp only [Act.put, List.setIfInBounds_toArray, List.set_cons_zero, List.set_cons_succ]) | skip); (first | (refine takeT 3 (v := ?_) rfl (by decide +kernel) (by decide +kernel) (by decide +kernel) (fun _ _ _ h => h) (by decide +kernel) (Or.inl ⟨by rfl, ?_⟩) ?_; rotate_left 1; (focus (intro W hW; have hcW := hW.at; (try dsimp only at hcW); go_simp; first | done | with_reducible rfl)); try simp only [Act.put, List.setIfInBounds_toArray, List.set_cons_zero, List.set_cons_succ]) | (refine takeW 3 (v := ?_) rfl (by decide +kernel) (by decide +kernel) (by decide +kernel) (fun _ _ _ h => h) (Or.inl ⟨by rfl, ?_⟩) ?_; rotate_left 1; (focus (intro W hW; go_simp; first | done | with_reducible rfl)); try simp only [Act.put, List.setIfInBounds_toArray, List.set_cons_zero, List.set_cons_succ]) | (refine takeW 3 rfl (by decide +kernel) (by decide +kernel) (by decide +kernel) (fun _ _ _ h => h) (Or.inr ⟨by rfl, rfl⟩) ?_; try simp only [Act.put, List.setIfInBounds_toArray, List.set_cons_zero, List.set_cons_succ]) | skip); (first | (refine takeT 5 (v := ?_) rfl (by decide +kernel) (by decide +kernel) (by decide +kernel) (fun _ _ _ h => h) (by decide +kernel) (Or.inl ⟨by rfl, ?_⟩) ?_; rotate_left 1; (focus (intro W hW; have hcW := hW.at; (try dsimp only at hcW); go_simp; first | done | with_reducible rfl)); try simp only [Act.put, List.setIfInBounds_toArray, List.set_cons_zero, List.set_cons_succ]) | (refine takeW 5 (v := ?_) rfl (by decide +kernel) (by decide +kernel) (by decide +kernel) (fun _ _ _ h => h) (Or.inl ⟨by rfl, ?_⟩) ?_; rotate_left 1; (focus (intro W hW; go_simp; first | done | with_reducible rfl)); try simp only [Act.put, List.setIfInBounds_toArray, List.set_cons_zero, List.set_cons_succ]) | (refine takeW 5 rfl (by decide +kernel) (by decide +kernel) (by decide +kernel) (fun _ _ _ h => h) (Or.inr ⟨by rfl, rfl⟩) ?_; try simp only [Act.put, List.setIfInBounds_toArray, List.set_cons_zero, List.set_cons_succ]) | skip); (first | (refine takeT 6 (v := ?_) rfl (by decide +kernel) (by decide +kernel) (by decide +kernel) (fun _ _ _ h => h) (by decide +kernel) (Or.inl ⟨by rfl, ?_⟩) ?_; rotate_left 1; (focus (intro W hW; have hcW := hW.at; (try dsimp only at hcW); go_simp; first | done | with_reducible rfl)); try simp only [Act.put, List.setIfInBounds_toArray, List.set_cons_zero, List.set_cons_succ]) | (refine takeW 6 (v := ?_) rfl (by decide +kernel) (by decide +kernel) (by decide +kernel) (fun _ _ _ h => h) (Or.inl ⟨by rfl, ?_⟩) ?_; rotate_left 1; (focus (intro W hW; go_simp; first | done | with_reducible rfl)); try simp only [Act.put, List.setIfInBounds_toArray, List.set_cons_zero, List.set_cons_succ]) | (refine takeW 6 rfl (by decide +kernel) (by decide +kernel) (by decide +kernel) (fun _ _ _ h => h) (Or.inr ⟨by rfl, rfl⟩) ?_; try simp only [Act.put, List.setIfInBounds_toArray, List.set_cons_zero, List.set_cons_succ]) | skip); (first | (refine takeT 7 (v := ?_) rfl (by decide +kernel) (by decide +kernel) (by decide +kernel) (fun _ _ _ h => h) (by decide +kernel) (Or.inl ⟨by rfl, ?_⟩) ?_; rotate_left 1; (focus (intro W hW; have hcW := hW.at; (try dsimp only at hcW); go_simp; first | done | with_reducible rfl)); try simp only [Act.put, List.setIfInBounds_toArray, List.set_cons_zero, List.set_cons_succ]) | (refine takeW 7 (v := ?_) rfl (by decide +kernel) (by decide +kernel) (by decide +kernel) (fun _ _ _ h => h) (Or.inl ⟨by rfl, ?_⟩) ?_; rotate_left 1; (focus (intro W hW; go_simp; first | done | with_reducible rfl)); try simp only [Act.put, List.setIfInBounds_toArray, List.set_cons_zero, List.set_cons_succ]) | (refine takeW 7 rfl (by decide +kernel) (by decide +kernel) (by decide +kernel) (fun _ _ _ h => h) (Or.inr ⟨by rfl, rfl⟩) ?_; try simp only [Act.put, List.setIfInBounds_toArray, List.set_cons_zero, List.set_cons_succ]) | skip); (first | (refine takeT 8 (v := ?_) rfl (by decide +kernel) (by decide +kernel) (by decide +kernel) (fun _ _ _ h => h) (by decide +kernel) (Or.inl ⟨by rfl, ?_⟩) ?_; rotate_left 1; (focus (intro W hW; have hcW := hW.at; (try dsimp only at hcW); go_simp; first | done | with_reducible rfl)); try simp only [Act.put, List.setIfInBounds_toArray, List.set_cons_zero, List.set_cons_succ]) | (refine takeW 8 (v := ?_) rfl (by decide +kernel) (by decide +kernel) (by decide +kernel) (fun _ _ _ h => h) (Or.inl ⟨by rfl, ?_⟩) ?_; rotate_left 1; (focus (intro W hW; go_simp; first | done | with_reducible rfl)); try simp only [Act.put, List.setIfInBounds_toArray, List.set_cons_zero, List.set_cons_succ]) | (refine takeW 8 rfl (by decide +kernel) (by decide +kernel) (by decide +kernel) (fun _ _ _ h => h) (Or.inr ⟨by rfl, rfl⟩) ?_; try simp only [Act.put, List.setIfInBounds_toArray, List.set_cons_zero, List.set_cons_succ]) | skip))
      refine takeT 4 (v := .string ⟨xs.toArray⟩) rfl (by decide +kernel) (by decide +kernel) (by decide +kernel) (fun _ _ _ h => h) (by decide +kernel) (Or.inl ⟨by rfl, ?_⟩) ?_
      · intro W hW
        have q := cv1.out W hW
        go_simp
        first | done | with_reducible rfl
      try simp only [Act.put, List.setIfInBounds_toArray, List.set_cons_zero, List.set_cons_succ]
      refine takeT 9 (v := .string ⟨xs.toArray⟩) rfl (by decide +kernel) (by decide +kernel) (by decide +kernel) (fun _ _ _ h => h) (by decide +kernel) (Or.inl ⟨by rfl, ?_⟩) ?_
      · intro W hW
        have q := cv2.out W hW
        go_simp
        first | done | with_reducible rfl
      try simp only [Act.put, List.setIfInBounds_toArray, List.set_cons_zero, List.set_cons_succ]
      ((first | (refine takeT 10 (v := ?_) rfl (by decide +kernel) (by decide +kernel) (by decide +kernel) (fun _ _ _ h => h) (by decide +kernel) (Or.inl ⟨by rfl, ?_⟩) ?_; rotate_left 1; (focus (intro W hW; have hcW := hW.at; (try dsimp only at hcW); go_simp; first | done | with_reducible rfl)); try simp only [Act.put, List.setIfInBounds_toArray, List.set_cons_zero, List.set_cons_succ]) | (refine takeW 10 (v := ?_) rfl (by decide +kernel) (by decide +kernel) (by decide +kernel) (fun _ _ _ h => h) (Or.inl ⟨by rfl, ?_⟩) ?_; rotate_left 1; (focus (intro W hW; go_simp; first | done | with_reducible rfl)); try simp only [Act.put, List.setIfInBounds_toArray, List.set_cons_zero, List.set_cons_succ]) | (refine takeW 10 rfl (by decide +kernel) (by decide +kernel) (by decide +kernel) (fun _ _ _ h => h) (Or.inr ⟨by rfl, rfl⟩) ?_; try simp only [Act.put, List.setIfInBounds_toArray, List.set_cons_zero, List.set_cons_succ]) | skip))
      refine doneT (by kernel_rfl) ?_
      go_wp2
      go_roundg (gk - 1)
      case measure => omega
      case rel => exact ⟨k + 1, by omega, by go_num, hbd⟩
    · obtain rfl : k = ps.length := by omega
      go_wp2
      go_ret
      exact ⟨rfl, hb⟩

/-- A transaction that sends b: whether it was taken, whether that is known, and what is left of the faults. -/
def outTr (tg : Bool) (b : List UInt8) : Tr := ⟨0, 0, 1, tg, false, 0, b⟩
theorem outTr_ok (tg : Bool) (b : List UInt8) (h : b.length ≤ 64) : (outTr tg b).Ok := ⟨by show 0 < 256; omega, by show 0 < 256; omega, by show 1 < 256; omega, by show (-9223372036854775808 : Int) ≤ 0; omega, by show (0 : Int) ≤ 9223372036854775807; omega, by show b.length ≤ 1000000; omega⟩
theorem outTr_err (tg : Bool) (b : List UInt8) (h : b.length ≤ 64) : (outTr tg b).err = 0 := by
  unfold Tr.err
  rw [if_pos ⟨by show 0 ≤ 127; omega, by show 0 ≤ 15; omega, by simp [outTr], .inr (.inl ⟨rfl, rfl⟩)⟩, if_neg (by simp [outTr]), if_neg (by show ¬ 1024 < b.length; omega)]
/-- The three ways of it. -/
theorem out_ways (s : RecS) (fs : List UInt8) (tg : Bool) (b : List UInt8) (hb : b.length ≤ 64) :
    ∃ fs' l, fs'.length ≤ fs.length ∧ (
      (∃ tk, doR lineN (askR hearRec lineN) s fs (outTr tg b) = ((⟨s.tog, s.got, tk⟩, fs', l), 4, []) ∧ fs'.length < fs.length) ∨
      (doR lineN (askR hearRec lineN) s fs (outTr tg b) = ((⟨if tg = s.tog then !s.tog else s.tog, if tg = s.tog then s.got ++ [b] else s.got, false⟩, fs', l), 4, []) ∧ fs'.length < fs.length) ∨
      doR lineN (askR hearRec lineN) s fs (outTr tg b) = ((⟨if tg = s.tog then !s.tog else s.tog, if tg = s.tog then s.got ++ [b] else s.got, false⟩, fs', l), 1, [])) := by
  have hneg : ∀ l : List UInt8, ¬ (l.getD 0 0).toNat = 0 → 0 < l.length := fun l h => by
    cases l with
    | nil => exact absurd rfl h
    | cons a l => simp
  have hdo : doR lineN (askR hearRec lineN) s fs (outTr tg b) = ((writeR lineN (askR hearRec lineN) (s, fs, []) (outTr tg b)).1, (writeR lineN (askR hearRec lineN) (s, fs, []) (outTr tg b)).2, []) := by
    unfold doR
    rw [if_pos (outTr_err tg b hb)]
    unfold performR
    rw [if_neg (by show ¬ (1 : Nat) = 9; omega)]
  have ht : hearRec s (tokP (outTr tg b)) = (⟨s.tog, s.got, true⟩, zeroP, false) := by
    unfold hearRec; rw [if_pos (show (tokP (outTr tg b)).pid = 1 from rfl)]
  have hda : hearRec ⟨s.tog, s.got, true⟩ (datP (outTr tg b)) = (⟨if tg = s.tog then !s.tog else s.tog, if tg = s.tog then s.got ++ [b] else s.got, false⟩, ackP, true) := by
    have h1 : ¬ (datP (outTr tg b)).pid = 1 := by show ¬ dpid tg = 1; cases tg <;> decide
    have h3 : (datP (outTr tg b)).pid = 3 ∨ (datP (outTr tg b)).pid = 11 := by show dpid tg = 3 ∨ dpid tg = 11; cases tg <;> decide
    have h11 : ((datP (outTr tg b)).pid == 11) = tg := by cases tg <;> rfl
    unfold hearRec
    rw [if_neg h1, if_pos ⟨rfl, h3, by show b.length ≤ 1000000; omega⟩, h11]
    by_cases e : tg = s.tog
    · simp only [if_pos e]; rfl
    · simp only [if_neg e]
  have hack : ackP.err = 0 := by decide +kernel
  by_cases f0 : (fs.getD 0 0).toNat = 0
  · have hop : openR lineN (askR hearRec lineN) (s, fs, []) (outTr tg b) = (⟨s.tog, s.got, true⟩, fs.drop 1, [(tokP (outTr tg b), true, (fs.getD 0 0).toNat)]) := by
      unfold openR
      rw [if_pos (show (lineN fs).2 = 0 from f0)]
      unfold askR
      dsimp only
      rw [ht, if_neg (fun h => by cases h.1)]
      rfl
    by_cases f1 : ((fs.drop 1).getD 0 0).toNat = 0
    · have hdd : dataR lineN (askR hearRec lineN) ((lineN fs).2 == 0) (openR lineN (askR hearRec lineN) (s, fs, []) (outTr tg b)) (outTr tg b) =
          ((⟨if tg = s.tog then !s.tog else s.tog, if tg = s.tog then s.got ++ [b] else s.got, false⟩, ((fs.drop 1).drop 1).drop 1, ([(tokP (outTr tg b), true, (fs.getD 0 0).toNat)] ++ [(datP (outTr tg b), true, ((fs.drop 1).getD 0 0).toNat)]) ++ [(ackP, false, (((fs.drop 1).drop 1).getD 0 0).toNat)]), if (((fs.drop 1).drop 1).getD 0 0).toNat = 0 then (ackP, true) else (zeroP, false)) := by
        rw [hop]
        unfold dataR
        rw [if_pos ⟨f1, by show ((fs.getD 0 0).toNat == 0) = true; simpa using f0⟩]
        unfold askR
        dsimp only
        rw [hda, if_pos ⟨rfl, hack⟩]
        rfl
      by_cases f2 : (((fs.drop 1).drop 1).getD 0 0).toNat = 0
      · refine ⟨((fs.drop 1).drop 1).drop 1, ([(tokP (outTr tg b), true, (fs.getD 0 0).toNat)] ++ [(datP (outTr tg b), true, ((fs.drop 1).getD 0 0).toNat)]) ++ [(ackP, false, (((fs.drop 1).drop 1).getD 0 0).toNat)], by simp only [List.length_drop]; omega, .inr (.inr ?_)⟩
        rw [hdo]
        unfold writeR
        rw [show (lineN (s, fs, ([] : List SentP)).2.1) = lineN fs from rfl, hdd, if_pos f2]
        rfl
      · have h2 := hneg _ f2
        simp only [List.length_drop] at h2
        refine ⟨((fs.drop 1).drop 1).drop 1, ([(tokP (outTr tg b), true, (fs.getD 0 0).toNat)] ++ [(datP (outTr tg b), true, ((fs.drop 1).getD 0 0).toNat)]) ++ [(ackP, false, (((fs.drop 1).drop 1).getD 0 0).toNat)], by simp only [List.length_drop]; omega, .inr (.inl ⟨?_, by simp only [List.length_drop]; omega⟩)⟩
        rw [hdo]
        unfold writeR
        rw [show (lineN (s, fs, ([] : List SentP)).2.1) = lineN fs from rfl, hdd, if_neg f2]
        rfl
    · have h1 := hneg _ f1
      simp only [List.length_drop] at h1
      refine ⟨(fs.drop 1).drop 1, [(tokP (outTr tg b), true, (fs.getD 0 0).toNat)] ++ [(datP (outTr tg b), true, ((fs.drop 1).getD 0 0).toNat)], by simp only [List.length_drop]; omega, .inl ⟨true, ?_, by simp only [List.length_drop]; omega⟩⟩
      rw [hdo]
      unfold writeR
      rw [hop]
      unfold dataR
      rw [if_neg (fun h => f1 h.1)]
      rfl
  · have h0 := hneg _ f0
    have hop : openR lineN (askR hearRec lineN) (s, fs, []) (outTr tg b) = (s, fs.drop 1, [(tokP (outTr tg b), true, (fs.getD 0 0).toNat)]) := by
      unfold openR
      rw [if_neg (show ¬ (lineN fs).2 = 0 from f0)]
      rfl
    refine ⟨(fs.drop 1).drop 1, [(tokP (outTr tg b), true, (fs.getD 0 0).toNat)] ++ [(datP (outTr tg b), true, ((fs.drop 1).getD 0 0).toNat)], by simp only [List.length_drop]; omega, .inl ⟨s.tok, ?_, by simp only [List.length_drop]; omega⟩⟩
    rw [hdo]
    unfold writeR
    rw [hop]
    unfold dataR
    rw [if_neg (fun h => by have h2 : ((fs.getD 0 0).toNat == 0) = true := h.2; exact f0 (by simpa using h2))]
    rfl

end Go.Proofs.YtkfkcpogcobmbaaDoor
