/-
  Helper text: exchanges one after the other; no statement is proved here.
-/
import Derived.Test.YtjilbgdenolllaaPair
namespace Go.Proofs.Ytjilbgdenolllaa
open Go Go.RowKit

/-- A slice of exchanges that reads as xs. -/
structure RdX (w : World) (B : Nat) (A : Option Addr) (c : Nat) (xs : List (Bool × Bool)) : Prop where
  le : xs.length ≤ c
  cap : c ≤ 9223372036854775807
  cells : 0 < xs.length → ∃ b off, A = some ⟨b, off, none⟩ ∧ b < B ∧ ∀ j, j < xs.length → w.cell? ⟨b, off + j * 2, none⟩ = some (.bool (xs.getD j (false, false)).1) ∧ w.cell? ⟨b, off + j * 2 + 1, none⟩ = some (.bool (xs.getD j (false, false)).2)
theorem RdX.below {w w' : World} {B c : Nat} {A : Option Addr} {xs : List (Bool × Bool)} (h : RdX w B A c xs) (hb : Below B w w') : RdX w' B A c xs :=
  ⟨h.le, h.cap, fun hn => by
    obtain ⟨b, off, e, hlt, hc⟩ := h.cells hn
    exact ⟨b, off, e, hlt, fun j hj => ⟨(hb.cell hlt).trans (hc j hj).1, (hb.cell hlt).trans (hc j hj).2⟩⟩⟩
theorem RdX.more {w : World} {B B' c : Nat} {A : Option Addr} {xs : List (Bool × Bool)} (h : RdX w B A c xs) (hB : B ≤ B') : RdX w B' A c xs :=
  ⟨h.le, h.cap, fun hn => by
    obtain ⟨b, off, e, hlt, hc⟩ := h.cells hn
    exact ⟨b, off, e, by omega, hc⟩⟩

/-- Exchanges, one after the other. -/
def runP (x : PS) (xs : List (Bool × Bool)) : PS := xs.foldl exP x
theorem fold_snoc' {α β : Type} (f : β → α → β) (s : β) (xs : List α) (d : α) {k : Nat} (h : k < xs.length) : (xs.take (k + 1)).foldl f s = f ((xs.take k).foldl f s) (xs.getD k d) := by
  rw [List.take_add_one, List.getElem?_eq_getElem h, List.foldl_append]
  simp [List.getD, List.getElem?_eq_getElem h]
theorem hearP_got (x : PS) : (hearP x).got.length ≤ x.got.length + 1 := by
  unfold hearP; split <;> simp
theorem hearP_left (x : PS) : (hearP x).left = x.left := by
  unfold hearP; split <;> rfl
theorem exP_got (x : PS) (e : Bool × Bool) : (exP x e).got.length ≤ x.got.length + 1 := by
  have := hearP_got x
  unfold exP
  split
  · omega
  · split
    · exact this
    · exact this
theorem runP_got (xs : List (Bool × Bool)) : ∀ x : PS, (runP x xs).got.length ≤ x.got.length + xs.length := by
  induction xs with
  | nil => intro x; simp [runP]
  | cons e xs ih =>
    intro x
    have h1 := exP_got x e
    have h2 := ih (exP x e)
    show (runP (exP x e) xs).got.length ≤ _
    rw [List.length_cons]; omega
/-- Packets of a state are small. -/
def SmlP (x : PS) : Prop := (∀ j, (x.left.getD j []).length ≤ 100000) ∧ (∀ j, (x.got.getD j []).length ≤ 100000) ∧ x.left.length ≤ 100000
theorem SmlP.hear {x : PS} (h : SmlP x) : SmlP (hearP x) := by
  obtain ⟨h1, h2, h3⟩ := h
  unfold hearP
  split
  · refine ⟨h1, fun j => ?_, h3⟩
    show ((x.got ++ [x.left.getD 0 []]).getD j []).length ≤ _
    rcases Nat.lt_or_ge j x.got.length with hj | hj
    · rw [getD_append_lt hj]; exact h2 j
    · rw [getD_append_ge hj]
      cases j - x.got.length with
      | zero => exact h1 0
      | succ n => simp [List.getD]
  · exact ⟨h1, h2, h3⟩
theorem SmlP.ack {x : PS} (h : SmlP x) : SmlP (ackP x) := by
  obtain ⟨h1, h2, h3⟩ := h
  refine ⟨fun j => ?_, h2, ?_⟩
  · show ((x.left.drop 1).getD j []).length ≤ _
    have hg : (x.left.drop 1).getD j [] = x.left.getD (1 + j) [] := by simp [List.getD, Nat.add_comm]
    rw [hg]; exact h1 _
  · show (x.left.drop 1).length ≤ _
    rw [List.length_drop]; omega
theorem SmlP.ex {x : PS} (h : SmlP x) (e : Bool × Bool) : SmlP (exP x e) := by
  unfold exP
  split
  · exact h
  · split
    · exact h.hear
    · exact h.hear.ack
theorem SmlP.run (xs : List (Bool × Bool)) : ∀ {x : PS}, SmlP x → SmlP (runP x xs) := by
  induction xs with
  | nil => intro x h; exact h
  | cons e xs ih => intro x h; exact ih (h.ex e)

/-- A sender and a receiver in new memory are returned. -/
def ResR (w : World) (x : PS) (e : Ending) (w' : World) : Prop :=
  ∃ g g2, e = .returned (.tuple #[sv x.st (.slice (some ⟨g, 0, none⟩) x.left.length x.left.length), sv x.rt (.slice (some ⟨g2, 0, none⟩) x.got.length x.got.length)]) ∧ News w' w.heap.size g x.left ∧ News w' w.heap.size g2 x.got ∧ Below w.heap.size w w'

/-- Four new blocks. -/
theorem four_new {w W : World} {o1 o2 o3 o4 : Obj} (hW : W = (((w.alloc o1).alloc o2).alloc o3).alloc o4) :
    W.heap.size = w.heap.size + 4 ∧ W.heap[w.heap.size]? = some o1 ∧ W.heap[w.heap.size + 1]? = some o2 ∧ W.heap[w.heap.size + 1 + 1]? = some o3 ∧ W.heap[w.heap.size + 1 + 1 + 1]? = some o4 ∧ Below w.heap.size w W := by
  subst hW
  have hsz : ∀ (W : World) (o : Obj), (W.alloc o).heap.size = W.heap.size + 1 := fun W o => by simp
  have h0 : ∀ (W : World) (o o' : Obj) (k : Nat), W.heap[k]? = some o' → (W.alloc o).heap[k]? = some o' := fun W o o' k h => (Below.heap_alloc W o k (block_lt h)).trans h
  have e2 := heap_alloc_new (w.alloc o1) o2
  have e3 := heap_alloc_new ((w.alloc o1).alloc o2) o3
  have e4 := heap_alloc_new (((w.alloc o1).alloc o2).alloc o3) o4
  rw [hsz] at e2
  rw [hsz, hsz] at e3
  rw [hsz, hsz, hsz] at e4
  refine ⟨by simp, h0 _ _ _ _ (h0 _ _ _ _ (h0 _ _ _ _ (heap_alloc_new w o1))), h0 _ _ _ _ (h0 _ _ _ _ e2), h0 _ _ _ _ e3, e4, ?_⟩
  exact ((((Below.refl w.heap.size w).alloc (Nat.le_refl _) _).alloc (by simp) _).alloc (by simp; omega) _).alloc (by simp; omega) _

/-- The places of the results. -/
def Plc (w W : World) : Prop := W.heap[w.heap.size + 1 + 1]? = some (.cells #[.bool false, .slice none 0 0] 28 (0, 0)) ∧ W.heap[w.heap.size + 1 + 1 + 1]? = some (.cells #[.bool false, .slice none 0 0] 39 (0, 0))
theorem Plc.kept {w W W' : World} (h : Plc w W) (hk : Kept W W') : Plc w W' := ⟨hk _ _ _ h.1 (by decide) (by decide), hk _ _ _ h.2 (by decide) (by decide)⟩
theorem Plc.below {w W W' : World} (h : Plc w W) (hb : Below W.heap.size W W') : Plc w W' := h.kept (Kept.below hb)
/-- The pair behind the first k steps. -/
def stP (x : PS) (k : Nat) : PS := if k = 0 then x else if k = 1 then hearP x else ackP (hearP x)

set_option maxHeartbeats 3200000 in
set_option maxRecDepth 100000 in
theorem run_any (w : World) (x : PS) (A : Option Addr) (c : Nat) (A' : Option Addr) (c' : Nat) (A2 : Option Addr) (c2 : Nat) (xs : List (Bool × Bool)) (hl : Rds w w.heap.size A c x.left) (hg : Rds w w.heap.size A' c' x.got) (hx : RdX w w.heap.size A2 c2 xs)
    (hs : SmlP x) (hgl : x.got.length + xs.length ≤ 100000) :
    Calls Try.prog 19 #[sv x.st (.slice A x.left.length c), sv x.rt (.slice A' x.got.length c'), .slice A2 xs.length c2] w (ResR w (runP x xs)) := by
  have hgle := hg.le
  have hgcap := hg.cap
  go_enter Try.func19, Try.ntmps19
  go_wp2
  generalize hW4 : (((w.alloc (.cells #[.bool x.st, .slice A x.left.length c] 28)).alloc (.cells #[.bool x.rt, .slice A' x.got.length c'] 39)).alloc (.cells #[.bool false, .slice none 0 0] 28)).alloc (.cells #[.bool false, .slice none 0 0] 39) = w4
  obtain ⟨hz4, k1, k2, k3, k4, hb4⟩ := four_new hW4.symm
  have e10 := block_at k1 (i := 0) (v := .bool x.st) rfl
  have e11 := block_at k1 (i := 1) (v := .slice A x.left.length c) rfl
  have e20 := block_at k2 (i := 0) (v := .bool x.rt) rfl
  have e21 := block_at k2 (i := 1) (v := .slice A' x.got.length c') rfl
  replace k1 := Lib.hid k1
  replace k2 := Lib.hid k2
  replace k3 := Lib.hid k3
  replace k4 := Lib.hid k4
  replace hz4 := Lib.hid hz4
  clear hW4
  refine startT (S := fun a => a.block = w.heap.size ∨ a.block = w.heap.size + 1) (T := []) 6 (by kernel_rfl) rfl (l := #[false, false, false, false, false, false]) rfl ?_
  ((first | (refine takeT 0 (v := ?_) rfl (by decide +kernel) (by decide +kernel) (by decide +kernel) (fun _ _ _ h => h) (by decide +kernel) (Or.inl ⟨by rfl, ?_⟩) ?_; rotate_left 1; (focus (intro W hW; have hcW := hW.at; (try dsimp only at hcW); go_simp; first | done | with_reducible rfl)); try simp only [Act.put, List.setIfInBounds_toArray, List.set_cons_zero, List.set_cons_succ]) | (refine takeW 0 (v := ?_) rfl (by decide +kernel) (by decide +kernel) (by decide +kernel) (fun _ _ _ h => h) (Or.inl ⟨by rfl, ?_⟩) ?_; rotate_left 1; (focus (intro W hW; go_simp; first | done | with_reducible rfl)); try simp only [Act.put, List.setIfInBounds_toArray, List.set_cons_zero, List.set_cons_succ]) | (refine takeW 0 rfl (by decide +kernel) (by decide +kernel) (by decide +kernel) (fun _ _ _ h => h) (Or.inr ⟨by rfl, rfl⟩) ?_; try simp only [Act.put, List.setIfInBounds_toArray, List.set_cons_zero, List.set_cons_succ]) | skip); (first | (refine takeT 1 (v := ?_) rfl (by decide +kernel) (by decide +kernel) (by decide +kernel) (fun _ _ _ h => h) (by decide +kernel) (Or.inl ⟨by rfl, ?_⟩) ?_; rotate_left 1; (focus (intro W hW; have hcW := hW.at; (try dsimp only at hcW); go_simp; first | done | with_reducible rfl)); try simp only [Act.put, List.setIfInBounds_toArray, List.set_cons_zero, List.set_cons_succ]) | (refine takeW 1 (v := ?_) rfl (by decide +kernel) (by decide +kernel) (by decide +kernel) (fun _ _ _ h => h) (Or.inl ⟨by rfl, ?_⟩) ?_; rotate_left 1; (focus (intro W hW; go_simp; first | done | with_reducible rfl)); try simp only [Act.put, List.setIfInBounds_toArray, List.set_cons_zero, List.set_cons_succ]) | (refine takeW 1 rfl (by decide +kernel) (by decide +kernel) (by decide +kernel) (fun _ _ _ h => h) (Or.inr ⟨by rfl, rfl⟩) ?_; try simp only [Act.put, List.setIfInBounds_toArray, List.set_cons_zero, List.set_cons_succ]) | skip))
  refine stepT 2 rfl (by decide +kernel) (by rfl) ?_
  intro K hK
  go_simp
  refine (clipped_any _ x.rt A' x.got.length c' hgle hgcap).mono ?_
  rintro e w5 ⟨rfl, hb5⟩
  replace hb5 := hb5.drewl
  refine hK _ _ (.inr fun a ha => by rcases ha with h | h <;> exact hb5.cell (by rw [h]; first | exact block_lt k1.out | exact block_lt k2.out)) ?_
  clear hK K e10 e11 e20 e21
  try simp only [List.setIfInBounds_toArray, List.set_cons_zero, List.set_cons_succ]
  ((first | (refine takeT 3 (v := ?_) rfl (by decide +kernel) (by decide +kernel) (by decide +kernel) (fun _ _ _ h => h) (by decide +kernel) (Or.inl ⟨by rfl, ?_⟩) ?_; rotate_left 1; (focus (intro W hW; have hcW := hW.at; (try dsimp only at hcW); go_simp; first | done | with_reducible rfl)); try simp only [Act.put, List.setIfInBounds_toArray, List.set_cons_zero, List.set_cons_succ]) | (refine takeW 3 (v := ?_) rfl (by decide +kernel) (by decide +kernel) (by decide +kernel) (fun _ _ _ h => h) (Or.inl ⟨by rfl, ?_⟩) ?_; rotate_left 1; (focus (intro W hW; go_simp; first | done | with_reducible rfl)); try simp only [Act.put, List.setIfInBounds_toArray, List.set_cons_zero, List.set_cons_succ]) | (refine takeW 3 rfl (by decide +kernel) (by decide +kernel) (by decide +kernel) (fun _ _ _ h => h) (Or.inr ⟨by rfl, rfl⟩) ?_; try simp only [Act.put, List.setIfInBounds_toArray, List.set_cons_zero, List.set_cons_succ]) | skip))
  refine stepT 4 rfl (by decide +kernel) (by rfl) ?_
  intro K hK
  go_simp
  refine hK _ _ (.inr fun a ha => ?_) ?_
  · have := hb5.size
    rcases ha with h | h <;> exact World.cell?_alloc_lt w5 _ a (by have := hz4.out; rw [h]; omega)
  clear hK K
  try simp only [List.setIfInBounds_toArray, List.set_cons_zero, List.set_cons_succ]
  ((first | (refine takeT 5 (v := ?_) rfl (by decide +kernel) (by decide +kernel) (by decide +kernel) (fun _ _ _ h => h) (by decide +kernel) (Or.inl ⟨by rfl, ?_⟩) ?_; rotate_left 1; (focus (intro W hW; have hcW := hW.at; (try dsimp only at hcW); go_simp; first | done | with_reducible rfl)); try simp only [Act.put, List.setIfInBounds_toArray, List.set_cons_zero, List.set_cons_succ]) | (refine takeW 5 (v := ?_) rfl (by decide +kernel) (by decide +kernel) (by decide +kernel) (fun _ _ _ h => h) (Or.inl ⟨by rfl, ?_⟩) ?_; rotate_left 1; (focus (intro W hW; go_simp; first | done | with_reducible rfl)); try simp only [Act.put, List.setIfInBounds_toArray, List.set_cons_zero, List.set_cons_succ]) | (refine takeW 5 rfl (by decide +kernel) (by decide +kernel) (by decide +kernel) (fun _ _ _ h => h) (Or.inr ⟨by rfl, rfl⟩) ?_; try simp only [Act.put, List.setIfInBounds_toArray, List.set_cons_zero, List.set_cons_succ]) | skip))
  refine doneT (by kernel_rfl) ?_
  have hb6 := hb4.trans (hb5.mono hb4.size)
  have hp0 : Pair w (w5.alloc (.cells #[.bool x.st, .slice A x.left.length c, .bool x.rt, .slice A' x.got.length x.got.length] 62)) w5.heap.size x :=
    ⟨hb6.alloc hb6.size _, hb6.size, _, _, _, _, heap_alloc_new w5 _, hl, .inl ⟨_, rfl, hg.clip⟩⟩
  have hpl0 : Plc w (w5.alloc (.cells #[.bool x.st, .slice A x.left.length c, .bool x.rt, .slice A' x.got.length x.got.length] 62)) :=
    Plc.below (Plc.below (W := w4) ⟨k3.out, k4.out⟩ hb5) ((Below.refl w5.heap.size w5).alloc (Nat.le_refl _) _)
  clear hb6 hb5 hb4 k1 k2 k3 k4 hz4
  generalize w5.alloc (.cells #[.bool x.st, .slice A x.left.length c, .bool x.rt, .slice A' x.got.length x.got.length] 62) = w6 at hp0 hpl0 ⊢
  generalize w5.heap.size = p at hp0 ⊢
  clear w4 w5
  go_wp2
  go_loopg [20] xs.length (fun gh i wr => ∃ k : Nat, k + gh = xs.length ∧ i = .int .i64 k ∧ Pair w wr p (runP x (xs.take k)) ∧ Plc w wr)
  case atStart => exact ⟨0, by omega, rfl, hp0, hpl0⟩
  case round =>
    obtain ⟨k, hkg, rfl, hpr, hpl⟩ := hrel
    clear hp0 hpl0
    by_cases hk : k < xs.length
    · obtain ⟨b, off, rfl, hB, hcl⟩ := hx.cells (by omega)
      obtain ⟨q0, q1⟩ := hcl k hk
      have q0 := (hpr.bel.cell (p := ⟨b, off + k * 2, none⟩) hB).trans q0
      have q1 := (hpr.bel.cell (p := ⟨b, off + k * 2 + 1, none⟩) hB).trans q1
      have hst := fold_snoc' exP x xs (false, false) hk
      have hgb := runP_got (xs.take k) x
      rw [List.length_take] at hgb
      clear hcl
      obtain ⟨y, hy⟩ : ∃ y, runP x (xs.take k) = y := ⟨_, rfl⟩
      have hst : runP x (xs.take (k + 1)) = exP y (xs.getD k (false, false)) := by rw [← hy]; exact hst
      rw [hy] at hpr hgb
      clear hy
      replace hgb : y.got.length ≤ 100000 := by have := Nat.min_le_left k xs.length; omega
      generalize xs.getD k (false, false) = e at q0 q1 hst
      obtain ⟨d, a⟩ := e
      simp only at q0 q1
      have Hst := Lib.hid hst
      clear hst
      obtain ⟨wo, rfl⟩ : ∃ wo : World, wo = wr := ⟨_, rfl⟩
      obtain ⟨g1, rfl⟩ : ∃ g1 : Nat, g1 = gk := ⟨_, rfl⟩
      have hba := (Below.refl wo.heap.size wo).alloc (Nat.le_refl _) (.cells #[.bool d, .bool a] 56)
      go_wp2_with fail
      by_cases hny : 0 < y.left.length
      · cases d
        · cases a
          · have hex : exP y (false, false) = ackP (hearP y) := by unfold exP; rw [if_neg (fun h => by rcases h with h | h; omega; cases h), if_neg (fun h => by cases h)]
            have hex2 := hex
            refine (steps_two w _ p y (hpr.below hba) hny).mono ?_
            rintro e w7 ⟨gf, rfl, hf7, hb7⟩
            have hp7 := (hpr.below hba).below hb7
            have hl7 := (hpl.below hba).below hb7
            rw [hex] at Hst
            replace hf7 := Lib.hid hf7
            clear hpr hpl hba hb7 hex q0 q1
            go_wp2
            go_loopg [28] 2 (fun g i wi => ∃ m : Nat, m + g = 2 ∧ i = .int .i64 m ∧ Pair w wi p (stP y m) ∧ Kept w7 wi)
            case atStart => exact ⟨0, by omega, rfl, hp7, fun _ _ _ h _ _ => h⟩
            case round =>
              obtain ⟨m, hmg, rfl, hpm, hkm⟩ := hrel
              have hfm := hkm _ _ _ hf7.out (by decide) (by decide)
              rcases (show m = 0 ∨ m = 1 ∨ m = 2 by omega) with rfl | rfl | rfl
              · have c0 := block_at hfm (i := 0) (v := hearV p) rfl
                have hpm : Pair w wr p y := hpm
                clear hfm
                go_wp2_with fail
                refine (pairHear_any w _ p y hpm hny (by omega)).mono ?_
                rintro e w8 ⟨rfl, hp8, hk8⟩
                replace hk8 := Lib.hid (hkm.trans hk8)
                clear hpm hkm c0
                go_wp2
                go_roundg 1
                case measure => omega
                case rel => exact ⟨1, by omega, by go_num, hp8, hk8.out⟩
              · have c1 := block_at hfm (i := 1) (v := ackV p) rfl
                have hpm : Pair w wr p (hearP y) := hpm
                clear hfm
                go_wp2_with fail
                refine (pairAck_any w _ p (hearP y) hpm (by rw [hearP_left]; exact hny)).mono ?_
                rintro e w8 ⟨rfl, hp8, hk8⟩
                replace hk8 := Lib.hid (hkm.trans hk8)
                clear hpm hkm c1
                go_wp2
                go_roundg 0
                case measure => omega
                case rel => exact ⟨2, by omega, by go_num, hp8, hk8.out⟩
              · have hpm : Pair w wr p (exP y (false, false)) := by rw [hex2]; exact hpm
                have hl8 := hl7.kept hkm
                clear hfm
                go_wp2
                go_roundg (g1 - 1)
                case measure => omega
                case rel => exact ⟨k + 1, by omega, by go_num, by rw [Hst.out, ← hex2]; exact hpm, hl8⟩
          · have hex : exP y (false, true) = hearP y := by unfold exP; rw [if_neg (fun h => by rcases h with h | h; omega; cases h), if_pos rfl]
            have hex2 := hex
            refine (steps_one w _ p y (hpr.below hba) hny).mono ?_
            rintro e w7 ⟨gf, rfl, hf7, hb7⟩
            have hp7 := (hpr.below hba).below hb7
            have hl7 := (hpl.below hba).below hb7
            rw [hex] at Hst
            replace hf7 := Lib.hid hf7
            clear hpr hpl hba hb7 hex q0 q1
            go_wp2
            go_loopg [28] 1 (fun g i wi => ∃ m : Nat, m + g = 1 ∧ i = .int .i64 m ∧ Pair w wi p (stP y m) ∧ Kept w7 wi)
            case atStart => exact ⟨0, by omega, rfl, hp7, fun _ _ _ h _ _ => h⟩
            case round =>
              obtain ⟨m, hmg, rfl, hpm, hkm⟩ := hrel
              have hfm := hkm _ _ _ hf7.out (by decide) (by decide)
              rcases (show m = 0 ∨ m = 1 by omega) with rfl | rfl
              · have c0 := block_at hfm (i := 0) (v := hearV p) rfl
                have hpm : Pair w wr p y := hpm
                clear hfm
                go_wp2_with fail
                refine (pairHear_any w _ p y hpm hny (by omega)).mono ?_
                rintro e w8 ⟨rfl, hp8, hk8⟩
                replace hk8 := Lib.hid (hkm.trans hk8)
                clear hpm hkm c0
                go_wp2
                go_roundg 0
                case measure => omega
                case rel => exact ⟨1, by omega, by go_num, hp8, hk8.out⟩
              · have hpm : Pair w wr p (exP y (false, true)) := by rw [hex2]; exact hpm
                have hl8 := hl7.kept hkm
                clear hfm
                go_wp2
                go_roundg (g1 - 1)
                case measure => omega
                case rel => exact ⟨k + 1, by omega, by go_num, by rw [Hst.out, ← hex2]; exact hpm, hl8⟩
        · have hex : exP y (true, a) = y := by unfold exP; rw [if_pos (.inr rfl)]
          refine (steps_lost w _ p y (hpr.below hba) hny a).mono ?_
          rintro e w7 ⟨rfl, hb7⟩
          have hp7 := (hpr.below hba).below hb7
          have hl7 := (hpl.below hba).below hb7
          rw [hex] at Hst
          clear hpr hpl hba hb7 hex q0 q1
          go_wp2
          go_loopg [28] 0 (fun g i wi => i = .int .i64 0 ∧ w7 = wi)
          case atStart => exact ⟨rfl, rfl⟩
          case round =>
            obtain ⟨rfl, rfl⟩ := hrel
            go_wp2
            go_roundg (g1 - 1)
            case measure => omega
            case rel => exact ⟨k + 1, by omega, by go_num, by rw [Hst.out]; exact hp7, hl7⟩
      · have hex : exP y (d, a) = y := by unfold exP; rw [if_pos (.inl (by omega))]
        refine (steps_empty w _ p y (hpr.below hba) (by omega) d a).mono ?_
        rintro e w7 ⟨rfl, hb7⟩
        have hp7 := (hpr.below hba).below hb7
        have hl7 := (hpl.below hba).below hb7
        rw [hex] at Hst
        clear hpr hpl hba hb7 hex q0 q1
        go_wp2
        go_loopg [28] 0 (fun g i wi => i = .int .i64 0 ∧ w7 = wi)
        case atStart => exact ⟨rfl, rfl⟩
        case round =>
          obtain ⟨rfl, rfl⟩ := hrel
          go_wp2
          go_roundg (g1 - 1)
          case measure => omega
          case rel => exact ⟨k + 1, by omega, by go_num, by rw [Hst.out]; exact hp7, hl7⟩
    · obtain rfl : k = xs.length := by omega
      rw [List.take_length] at hpr
      have hsm := hs.run xs
      have hgb := runP_got xs x
      obtain ⟨y, hy⟩ : ∃ y, runP x xs = y := ⟨_, rfl⟩
      rw [hy] at hpr hsm hgb
      replace hy := Lib.hid hy
      obtain ⟨hbw, hge, A5, c5, A6, c6, hbk, hrl, hgt⟩ := hpr
      obtain ⟨A6', c6', e6, hrg⟩ := hgt.rds hbw
      obtain ⟨rfl, _, rfl⟩ : A6 = A6' ∧ True ∧ c6 = c6' := by injection e6 with e1 e2 e3; exact ⟨e1, trivial, e3⟩
      clear e6 hgt
      have hrl2 := (hrl.below hbw).more hbw.size
      have z0 := block_at hbk (i := 0) (v := .bool y.st) rfl
      have z1 := block_at hbk (i := 1) (v := .slice A5 y.left.length c5) rfl
      have z2 := block_at hbk (i := 2) (v := .bool y.rt) rfl
      have z3 := block_at hbk (i := 3) (v := .slice A6 y.got.length c6) rfl
      have hs1 : Sml y.left := ⟨hsm.2.2, hsm.1⟩
      have hs2 : Sml y.got := ⟨by omega, hsm.2.1⟩
      replace hbk := Lib.hid hbk
      replace hrg := Lib.hid hrg
      clear hrl hl hg hs hsm hgb hgl hgle
      go_wp2
      refine startT (S := fun a => a.block = p) (T := []) 12 (by kernel_rfl) rfl (l := #[false, false, false, false, false, false, false, false, false, false, false, false]) rfl ?_
      ((first | (refine takeT 0 (v := ?_) rfl (by decide +kernel) (by decide +kernel) (by decide +kernel) (fun _ _ _ h => h) (by decide +kernel) (Or.inl ⟨by rfl, ?_⟩) ?_; rotate_left 1; (focus (intro W hW; have hcW := hW.at; (try dsimp only at hcW); go_simp; first | done | with_reducible rfl)); try simp only [Act.put, List.setIfInBounds_toArray, List.set_cons_zero, List.set_cons_succ]) | (refine takeW 0 (v := ?_) rfl (by decide +kernel) (by decide +kernel) (by decide +kernel) (fun _ _ _ h => h) (Or.inl ⟨by rfl, ?_⟩) ?_; rotate_left 1; (focus (intro W hW; go_simp; first | done | with_reducible rfl)); try simp only [Act.put, List.setIfInBounds_toArray, List.set_cons_zero, List.set_cons_succ]) | (refine takeW 0 rfl (by decide +kernel) (by decide +kernel) (by decide +kernel) (fun _ _ _ h => h) (Or.inr ⟨by rfl, rfl⟩) ?_; try simp only [Act.put, List.setIfInBounds_toArray, List.set_cons_zero, List.set_cons_succ]) | skip); (first | (refine takeT 1 (v := ?_) rfl (by decide +kernel) (by decide +kernel) (by decide +kernel) (fun _ _ _ h => h) (by decide +kernel) (Or.inl ⟨by rfl, ?_⟩) ?_; rotate_left 1; (focus (intro W hW; have hcW := hW.at; (try dsimp only at hcW); go_simp; first | done | with_reducible rfl)); try simp only [Act.put, List.setIfInBounds_toArray, List.set_cons_zero, List.set_cons_succ]) | (refine takeW 1 (v := ?_) rfl (by decide +kernel) (by decide +kernel) (by decide +kernel) (fun _ _ _ h => h) (Or.inl ⟨by rfl, ?_⟩) ?_; rotate_left 1; (focus (intro W hW; go_simp; first | done | with_reducible rfl)); try simp only [Act.put, List.setIfInBounds_toArray, List.set_cons_zero, List.set_cons_succ]) | (refine takeW 1 rfl (by decide +kernel) (by decide +kernel) (by decide +kernel) (fun _ _ _ h => h) (Or.inr ⟨by rfl, rfl⟩) ?_; try simp only [Act.put, List.setIfInBounds_toArray, List.set_cons_zero, List.set_cons_succ]) | skip); (first | (refine takeT 2 (v := ?_) rfl (by decide +kernel) (by decide +kernel) (by decide +kernel) (fun _ _ _ h => h) (by decide +kernel) (Or.inl ⟨by rfl, ?_⟩) ?_; rotate_left 1; (focus (intro W hW; have hcW := hW.at; (try dsimp only at hcW); go_simp; first | done | with_reducible rfl)); try simp only [Act.put, List.setIfInBounds_toArray, List.set_cons_zero, List.set_cons_succ]) | (refine takeW 2 (v := ?_) rfl (by decide +kernel) (by decide +kernel) (by decide +kernel) (fun _ _ _ h => h) (Or.inl ⟨by rfl, ?_⟩) ?_; rotate_left 1; (focus (intro W hW; go_simp; first | done | with_reducible rfl)); try simp only [Act.put, List.setIfInBounds_toArray, List.set_cons_zero, List.set_cons_succ]) | (refine takeW 2 rfl (by decide +kernel) (by decide +kernel) (by decide +kernel) (fun _ _ _ h => h) (Or.inr ⟨by rfl, rfl⟩) ?_; try simp only [Act.put, List.setIfInBounds_toArray, List.set_cons_zero, List.set_cons_succ]) | skip); (first | (refine takeT 3 (v := ?_) rfl (by decide +kernel) (by decide +kernel) (by decide +kernel) (fun _ _ _ h => h) (by decide +kernel) (Or.inl ⟨by rfl, ?_⟩) ?_; rotate_left 1; (focus (intro W hW; have hcW := hW.at; (try dsimp only at hcW); go_simp; first | done | with_reducible rfl)); try simp only [Act.put, List.setIfInBounds_toArray, List.set_cons_zero, List.set_cons_succ]) | (refine takeW 3 (v := ?_) rfl (by decide +kernel) (by decide +kernel) (by decide +kernel) (fun _ _ _ h => h) (Or.inl ⟨by rfl, ?_⟩) ?_; rotate_left 1; (focus (intro W hW; go_simp; first | done | with_reducible rfl)); try simp only [Act.put, List.setIfInBounds_toArray, List.set_cons_zero, List.set_cons_succ]) | (refine takeW 3 rfl (by decide +kernel) (by decide +kernel) (by decide +kernel) (fun _ _ _ h => h) (Or.inr ⟨by rfl, rfl⟩) ?_; try simp only [Act.put, List.setIfInBounds_toArray, List.set_cons_zero, List.set_cons_succ]) | skip); (first | (refine takeT 5 (v := ?_) rfl (by decide +kernel) (by decide +kernel) (by decide +kernel) (fun _ _ _ h => h) (by decide +kernel) (Or.inl ⟨by rfl, ?_⟩) ?_; rotate_left 1; (focus (intro W hW; have hcW := hW.at; (try dsimp only at hcW); go_simp; first | done | with_reducible rfl)); try simp only [Act.put, List.setIfInBounds_toArray, List.set_cons_zero, List.set_cons_succ]) | (refine takeW 5 (v := ?_) rfl (by decide +kernel) (by decide +kernel) (by decide +kernel) (fun _ _ _ h => h) (Or.inl ⟨by rfl, ?_⟩) ?_; rotate_left 1; (focus (intro W hW; go_simp; first | done | with_reducible rfl)); try simp only [Act.put, List.setIfInBounds_toArray, List.set_cons_zero, List.set_cons_succ]) | (refine takeW 5 rfl (by decide +kernel) (by decide +kernel) (by decide +kernel) (fun _ _ _ h => h) (Or.inr ⟨by rfl, rfl⟩) ?_; try simp only [Act.put, List.setIfInBounds_toArray, List.set_cons_zero, List.set_cons_succ]) | skip); (first | (refine takeT 6 (v := ?_) rfl (by decide +kernel) (by decide +kernel) (by decide +kernel) (fun _ _ _ h => h) (by decide +kernel) (Or.inl ⟨by rfl, ?_⟩) ?_; rotate_left 1; (focus (intro W hW; have hcW := hW.at; (try dsimp only at hcW); go_simp; first | done | with_reducible rfl)); try simp only [Act.put, List.setIfInBounds_toArray, List.set_cons_zero, List.set_cons_succ]) | (refine takeW 6 (v := ?_) rfl (by decide +kernel) (by decide +kernel) (by decide +kernel) (fun _ _ _ h => h) (Or.inl ⟨by rfl, ?_⟩) ?_; rotate_left 1; (focus (intro W hW; go_simp; first | done | with_reducible rfl)); try simp only [Act.put, List.setIfInBounds_toArray, List.set_cons_zero, List.set_cons_succ]) | (refine takeW 6 rfl (by decide +kernel) (by decide +kernel) (by decide +kernel) (fun _ _ _ h => h) (Or.inr ⟨by rfl, rfl⟩) ?_; try simp only [Act.put, List.setIfInBounds_toArray, List.set_cons_zero, List.set_cons_succ]) | skip); (first | (refine takeT 7 (v := ?_) rfl (by decide +kernel) (by decide +kernel) (by decide +kernel) (fun _ _ _ h => h) (by decide +kernel) (Or.inl ⟨by rfl, ?_⟩) ?_; rotate_left 1; (focus (intro W hW; have hcW := hW.at; (try dsimp only at hcW); go_simp; first | done | with_reducible rfl)); try simp only [Act.put, List.setIfInBounds_toArray, List.set_cons_zero, List.set_cons_succ]) | (refine takeW 7 (v := ?_) rfl (by decide +kernel) (by decide +kernel) (by decide +kernel) (fun _ _ _ h => h) (Or.inl ⟨by rfl, ?_⟩) ?_; rotate_left 1; (focus (intro W hW; go_simp; first | done | with_reducible rfl)); try simp only [Act.put, List.setIfInBounds_toArray, List.set_cons_zero, List.set_cons_succ]) | (refine takeW 7 rfl (by decide +kernel) (by decide +kernel) (by decide +kernel) (fun _ _ _ h => h) (Or.inr ⟨by rfl, rfl⟩) ?_; try simp only [Act.put, List.setIfInBounds_toArray, List.set_cons_zero, List.set_cons_succ]) | skip); (first | (refine takeT 8 (v := ?_) rfl (by decide +kernel) (by decide +kernel) (by decide +kernel) (fun _ _ _ h => h) (by decide +kernel) (Or.inl ⟨by rfl, ?_⟩) ?_; rotate_left 1; (focus (intro W hW; have hcW := hW.at; (try dsimp only at hcW); go_simp; first | done | with_reducible rfl)); try simp only [Act.put, List.setIfInBounds_toArray, List.set_cons_zero, List.set_cons_succ]) | (refine takeW 8 (v := ?_) rfl (by decide +kernel) (by decide +kernel) (by decide +kernel) (fun _ _ _ h => h) (Or.inl ⟨by rfl, ?_⟩) ?_; rotate_left 1; (focus (intro W hW; go_simp; first | done | with_reducible rfl)); try simp only [Act.put, List.setIfInBounds_toArray, List.set_cons_zero, List.set_cons_succ]) | (refine takeW 8 rfl (by decide +kernel) (by decide +kernel) (by decide +kernel) (fun _ _ _ h => h) (Or.inr ⟨by rfl, rfl⟩) ?_; try simp only [Act.put, List.setIfInBounds_toArray, List.set_cons_zero, List.set_cons_succ]) | skip))
      refine stepT 4 rfl (by decide +kernel) (by rfl) ?_
      intro K hK
      go_simp
      refine (ownS_any _ y.st A5 c5 y.left hrl2.drew hs1).mono ?_
      rintro e w7 ⟨ga, rfl, hna, hb7⟩
      replace hb7 := hb7.drewl
      refine hK _ _ (.inr fun a ha => hb7.cell (by rw [ha]; exact block_lt hbk.out)) ?_
      replace hbk := Lib.hid ((hb7.block _ (block_lt hbk.out)).trans hbk.out)
      replace hrg := Lib.hid (hrg.out.belowTop hb7)
      replace hpl := hpl.below hb7
      replace hna := Lib.hid (hna.mono (base' := w.heap.size) hbw.size)
      replace hbw := hbw.trans (hb7.mono hbw.size)
      clear hK K z0 z1 z2 z3 hrl2 hb7
      try simp only [List.setIfInBounds_toArray, List.set_cons_zero, List.set_cons_succ]
      refine stepT 9 rfl (by decide +kernel) (by rfl) ?_
      intro K hK
      go_simp
      refine (ownR_any _ y.rt A6 c6 y.got hrg.out hs2).mono ?_
      rintro e w8 ⟨gb, rfl, hnb, hb8⟩
      refine hK _ _ (.inr fun a ha => hb8.cell (by rw [ha]; exact block_lt hbk.out)) ?_
      replace hbk := Lib.hid ((hb8.block _ (block_lt hbk.out)).trans hbk.out)
      replace hpl := hpl.below hb8
      replace hna := Lib.hid (hna.out.below hb8)
      replace hnb := Lib.hid (hnb.mono (base' := w.heap.size) hbw.size)
      replace hbw := hbw.trans (hb8.mono hbw.size)
      clear hK K hrg hb8
      try simp only [List.setIfInBounds_toArray, List.set_cons_zero, List.set_cons_succ]
      obtain ⟨p1, p2⟩ := hpl
      have d0 := block_at p1 (i := 0) (v := .bool false) rfl
      have d1 := block_at p1 (i := 1) (v := .slice none 0 0) rfl
      have f0 := block_free p1 0
      have f1 := block_free p1 1
      have nn : p ≠ w.heap.size + 1 + 1 := block_ne hbk.out p1 (by decide)
      have nn2 : w.heap.size + 1 + 1 + 1 ≠ w.heap.size + 1 + 1 := by omega
      have hg8 := grown_trans (grown_setCell w8 ⟨w.heap.size + 1 + 1, 0, none⟩ (.bool y.st)) (grown_setCell (w8.setCell ⟨w.heap.size + 1 + 1, 0, none⟩ (.bool y.st)) ⟨w.heap.size + 1 + 1, 1, none⟩ (.slice (some ⟨ga, 0, none⟩) y.left.length y.left.length))
      refine stepT 10 rfl (by decide +kernel) (by rfl) ?_
      intro K hK
      go_simp
      refine hK _ _ (.inr fun a ha => World.cell?_of_block (hg8.block _ (by rw [ha]; exact block_lt hbk.out) (by rw [ha]; exact fun e => nn (Option.some.inj e)))) ?_
      replace p2 := block_grown p2 hg8 (fun e => nn2 (Option.some.inj e))
      have p1' := set2 p1 (.bool y.st) (.slice (some ⟨ga, 0, none⟩) y.left.length y.left.length)
      replace hna := Lib.hid (hna.out.stores2 p1 (by decide) (by decide) (.bool y.st) (.slice (some ⟨ga, 0, none⟩) y.left.length y.left.length))
      replace hnb := Lib.hid (hnb.out.stores2 p1 (by decide) (by decide) (.bool y.st) (.slice (some ⟨ga, 0, none⟩) y.left.length y.left.length))
      replace hbw := below2 hbw (by omega : w.heap.size ≤ w.heap.size + 1 + 1) (.bool y.st) (.slice (some ⟨ga, 0, none⟩) y.left.length y.left.length)
      replace hbk := Lib.hid (block_grown hbk.out hg8 (fun e => nn (Option.some.inj e)))
      clear hK K d0 d1 f0 f1 p1 hg8 nn
      try simp only [List.setIfInBounds_toArray, List.set_cons_zero, List.set_cons_succ]
      generalize (w8.setCell ⟨w.heap.size + 1 + 1, 0, none⟩ (.bool y.st)).setCell ⟨w.heap.size + 1 + 1, 1, none⟩ (.slice (some ⟨ga, 0, none⟩) y.left.length y.left.length) = w9 at p2 p1' hna hnb hbw hbk ⊢
      have d0 := block_at p2 (i := 0) (v := .bool false) rfl
      have d1 := block_at p2 (i := 1) (v := .slice none 0 0) rfl
      have f0 := block_free p2 0
      have f1 := block_free p2 1
      have hg9 := grown_trans (grown_setCell w9 ⟨w.heap.size + 1 + 1 + 1, 0, none⟩ (.bool y.rt)) (grown_setCell (w9.setCell ⟨w.heap.size + 1 + 1 + 1, 0, none⟩ (.bool y.rt)) ⟨w.heap.size + 1 + 1 + 1, 1, none⟩ (.slice (some ⟨gb, 0, none⟩) y.got.length y.got.length))
      have nn : p ≠ w.heap.size + 1 + 1 + 1 := block_ne hbk.out p2 (by decide)
      refine stepT 11 rfl (by decide +kernel) (by rfl) ?_
      intro K hK
      go_simp
      refine hK _ _ (.inr fun a ha => World.cell?_of_block (hg9.block _ (by rw [ha]; exact block_lt hbk.out) (by rw [ha]; exact fun e => nn (Option.some.inj e)))) ?_
      have p2' := set2 p2 (.bool y.rt) (.slice (some ⟨gb, 0, none⟩) y.got.length y.got.length)
      replace p1' := block_grown p1' hg9 (fun e => nn2 (Option.some.inj e).symm)
      replace hna := Lib.hid (hna.out.stores2 p2 (by decide) (by decide) (.bool y.rt) (.slice (some ⟨gb, 0, none⟩) y.got.length y.got.length))
      replace hnb := Lib.hid (hnb.out.stores2 p2 (by decide) (by decide) (.bool y.rt) (.slice (some ⟨gb, 0, none⟩) y.got.length y.got.length))
      replace hbw := below2 hbw (by omega : w.heap.size ≤ w.heap.size + 1 + 1 + 1) (.bool y.rt) (.slice (some ⟨gb, 0, none⟩) y.got.length y.got.length)
      clear hK K d0 d1 f0 f1 p2 hg9 nn hbk
      refine doneT (by kernel_rfl) ?_
      go_wp2
      refine bodyPost_ret (results_row_row rfl _ _ _ _ _ _ _ _ _ _ _ _ rfl p1' Try.underlying28 rfl (by kernel_rfl) rfl p2' Try.underlying39 rfl (by kernel_rfl)) rfl ?_
      rw [hy.out]
      exact ⟨ga, gb, rfl, hna.out, hnb.out, hbw⟩

end Go.Proofs.Ytjilbgdenolllaa
