/-
  Helper text: Start, for plans that write; no statement is proved here.
-/
import Derived.Test.YtfaocndelibadaaStart
import Derived.Test.YtfaocndelibadaaPk
import Derived.Test.YtfaocndelibadaaCol
import Derived.Test.YtfaocndelibadaaRegT
namespace Go.Proofs.Ytfaocndelibadaa
open Go Go.RowKit Go.Shelf
attribute [local go_sem] Oper.semAt_some

theorem rd_bytesAt {n : Nat} {W : World} {v : Value} {ps : List UInt8} (h : BytesAt n W v ps) (hl : ps.length ≤ 1000000) : ∃ A, v = .slice A ps.length ps.length ∧ Rd W W.heap.size A ps.length ps ∧ ∀ a : Addr, A = some a → 0 < ps.length → n ≤ a.block := by
  obtain ⟨A, rfl, h⟩ := h
  refine ⟨A, rfl, ⟨Nat.le_refl _, by omega, fun hn => ?_⟩, fun a e hn => ?_⟩
  · obtain ⟨b, off, cs, e, _, hh, hc⟩ := h hn
    exact ⟨b, off, e, (Array.getElem?_eq_some_iff.1 hh).1, hc⟩
  · obtain ⟨b, off, cs, e', hb, _, _⟩ := h hn
    rw [e] at e'
    obtain rfl := Option.some.inj e'
    exact hb

theorem cutF_le {m : Nat} {z : Bool} : ∀ (f : Nat) (xs : List UInt8) (ps : List UInt8), ps ∈ cutF m z f xs → ps.length ≤ xs.length
  | 0, xs, ps, h => by simp [cutF] at h
  | f + 1, xs, ps, h => by
    simp only [cutF, List.mem_cons] at h
    rcases h with rfl | h
    · simp
      omega
    · split at h
      · simp at h
      · have := cutF_le f _ ps h
        simp at this
        omega

/-- What has been collected, as a list of lists of bytes. -/
theorem rds_col {W0 W' : World} {n : Nat} {bk : Nat → Prop} {base lo : Nat} {v : Value} {l : List (Pc W0 n bk)} (how : W'.ownsRow base 22 1 v l.length (l.map valPc)) (hn : n ≤ W'.heap.size) (hk : ∀ p : Addr, p.block < n → W'.cell? p = W0.cell? p)
    (hb : lo ≤ base) (hq : ∀ ps, ps ∈ bytesPc l → 0 < ps.length → ∀ k, bk k → lo ≤ k) :
    ∃ A k, v = .slice A (bytesPc l).length k ∧ ∀ W : World, (∀ p : Addr, lo ≤ p.block → p.block < W'.heap.size → W.cell? p = W'.cell? p) → W'.heap.size ≤ W.heap.size → Rds W W.heap.size A k (bytesPc l) := by
  have hlen : (bytesPc l).length = l.length := by simp [bytesPc]
  rcases how.2 with ⟨rfl, h0⟩ | ⟨g, cp, cur, rfl, hg, hh, hle, hcap, hcs, ht⟩
  · exact ⟨none, 0, by rw [hlen, h0], fun W _ _ => ⟨by rw [hlen, h0]; exact Nat.le_refl _, by omega, fun h => absurd h (by rw [hlen, h0]; exact Nat.lt_irrefl _)⟩⟩
  · have hgl := (Array.getElem?_eq_some_iff.1 hh).1
    refine ⟨_, cp, by rw [hlen], fun W hW hsz => ⟨by rw [hlen]; exact hle, by simpa [maxLen] using hcap, fun _ => ⟨g, 0, rfl, Nat.lt_of_lt_of_le hgl hsz, fun j hj => ?_⟩⟩⟩
    rw [hlen] at hj
    obtain ⟨pc, hpc⟩ : ∃ pc, l[j]? = some pc := ⟨l[j], List.getElem?_eq_getElem hj⟩
    obtain ⟨⟨A1, ps⟩, hrd, hx, hbk⟩ := pc
    have e1 : (bytesPc l)[j]? = some ps := by simp [bytesPc, hpc]
    rw [getD_some e1]
    refine ⟨A1, ps.length, ?_, hrd.le, hrd.cap, fun h0 => ?_⟩
    · have h2 : (cur.toList.take (l.length * 1))[j]? = some (.slice A1 ps.length ps.length) := by rw [ht]; simp [hpc, valPc]
      rw [List.getElem?_take, if_pos (by omega)] at h2
      rw [Nat.zero_add, hW ⟨g, j, none⟩ (Nat.le_trans hb hg) hgl, Ev.cell_row hh]
      exact h2
    · obtain ⟨b, off, e, hbn, hc⟩ := hrd.cells h0
      have hlo := hq ps (List.mem_of_getElem? e1) h0 b (hbk _ e)
      exact ⟨b, off, e, by omega, fun i hi => (hW ⟨b, off + i, none⟩ hlo (Nat.lt_of_lt_of_le hbn hn)).trans ((hk ⟨b, off + i, none⟩ hbn).trans (hc i hi))⟩

/-- Stores, one behind the other, into one block. -/
def putAll (W : World) (B : Nat) : Nat → List Value → World
  | _, [] => W
  | i, v :: l => putAll (W.setCell ⟨B, i, none⟩ v) B (i + 1) l
def setAll (cs : Array Value) : Nat → List Value → Array Value
  | _, [] => cs
  | i, v :: l => setAll (cs.setIfInBounds i v) (i + 1) l
theorem putAll_same {B : Nat} {t : TypeId} : ∀ (l : List Value) (i : Nat) (W : World) (cs : Array Value), W.heap[B]? = some (.cells cs t (0, 0)) → (putAll W B i l).heap[B]? = some (.cells (setAll cs i l) t (0, 0))
  | [], _, _, _, h => h
  | v :: l, i, W, cs, h => putAll_same l (i + 1) _ _ (heap_setCell_same W B i cs t v h)
theorem putAll_other {B k : Nat} (hk : k ≠ B) : ∀ (l : List Value) (i : Nat) (W : World), (putAll W B i l).heap[k]? = W.heap[k]?
  | [], _, _ => rfl
  | v :: l, i, W => (putAll_other hk l (i + 1) _).trans (heap_setCell_other W ⟨B, i, none⟩ k v hk)
theorem putAll_size {B : Nat} : ∀ (l : List Value) (i : Nat) (W : World), (putAll W B i l).heap.size = W.heap.size
  | [], _, _ => rfl
  | v :: l, i, W => (putAll_size l (i + 1) _).trans (by simp [World.setCell])
theorem putAll_below {n B : Nat} {w : World} (hB : n ≤ B) : ∀ (l : List Value) (i : Nat) (W : World), Below n w W → Below n w (putAll W B i l)
  | [], _, _, h => h
  | v :: l, i, W, h => putAll_below hB l (i + 1) _ (Below.setCell (p := ⟨B, i, none⟩) h hB v)

set_option maxHeartbeats 4000000 in
theorem start6 (w : World) (zero : Bool) (endp : Nat) (mm : Nat) (tog : Bool) (A : Option Addr) (c : Nat) (xs : List UInt8) (h1 : okP false endp mm xs.length zero 0 = true) (h2 : ¬ 65536 < (xs.length : Int)) (hr : Rd w w.heap.size A c xs) (hm : 1 ≤ mm) (hm2 : mm ≤ 1024) :
    Calls Try.prog 13 #[planV false endp mm tog A xs.length c zero 0] w fun r w' => ∃ A' k pss, r = .returned (.tuple #[trV false endp mm 0 A' pss.length k none tog 0 0 false 0, .int .i64 0]) ∧ pss = cutF mm zero (xs.length + 2) xs ∧ Rds w' w'.heap.size A' k pss ∧ Below w.heap.size w w' := by
  have hc := fun (W : World) => cons_any W false endp mm tog A xs.length c zero 0
  rw [h1] at hc
  have hc := Lib.hid hc
  clear h1
  go_enter Try.func13, Try.ntmps13
  go_wp2_with (first
    | (go_at_call 28; refine (hc.out _).mono ?_; rintro r w1 ⟨rfl, rfl⟩))
  have hB : Below w.heap.size w ((((w.alloc (.cells #[.bool false, .int .u8 endp, .int .i64 mm, .bool tog, .slice A xs.length c, .bool zero, .int .i64 0] 37)).alloc (.cells #[.bool false, .int .u8 0, .int .i64 0, .int .i64 0, .slice none 0 0, .pointer none, .bool false, .int .i64 0, .int .i64 0, .bool false, .int .i64 0] 42)).alloc (.cells #[.bool false, .int .u8 endp, .int .i64 mm, .bool tog, .slice A xs.length c, .bool zero, .int .i64 0] 37)).alloc (.cells #[.bool false, .int .u8 endp, .int .i64 mm, .int .i64 0, .slice none 0 0, .pointer none, .bool tog, .int .i64 0, .int .i64 0, .bool false, .int .i64 0] 42)) := ((((Below.refl _ w).alloc (Nat.le_refl _) _).alloc (by first | (simp; done) | (simp; omega)) _).alloc (by first | (simp; done) | (simp; omega)) _).alloc (by first | (simp; done) | (simp; omega)) _
  have hS : ((((w.alloc (.cells #[.bool false, .int .u8 endp, .int .i64 mm, .bool tog, .slice A xs.length c, .bool zero, .int .i64 0] 37)).alloc (.cells #[.bool false, .int .u8 0, .int .i64 0, .int .i64 0, .slice none 0 0, .pointer none, .bool false, .int .i64 0, .int .i64 0, .bool false, .int .i64 0] 42)).alloc (.cells #[.bool false, .int .u8 endp, .int .i64 mm, .bool tog, .slice A xs.length c, .bool zero, .int .i64 0] 37)).alloc (.cells #[.bool false, .int .u8 endp, .int .i64 mm, .int .i64 0, .slice none 0 0, .pointer none, .bool tog, .int .i64 0, .int .i64 0, .bool false, .int .i64 0] 42)).heap.size = w.heap.size + 4 := by simp
  have hR : ((((w.alloc (.cells #[.bool false, .int .u8 endp, .int .i64 mm, .bool tog, .slice A xs.length c, .bool zero, .int .i64 0] 37)).alloc (.cells #[.bool false, .int .u8 0, .int .i64 0, .int .i64 0, .slice none 0 0, .pointer none, .bool false, .int .i64 0, .int .i64 0, .bool false, .int .i64 0] 42)).alloc (.cells #[.bool false, .int .u8 endp, .int .i64 mm, .bool tog, .slice A xs.length c, .bool zero, .int .i64 0] 37)).alloc (.cells #[.bool false, .int .u8 endp, .int .i64 mm, .int .i64 0, .slice none 0 0, .pointer none, .bool tog, .int .i64 0, .int .i64 0, .bool false, .int .i64 0] 42)).heap[w.heap.size + 1]? = some (.cells #[.bool false, .int .u8 0, .int .i64 0, .int .i64 0, .slice none 0 0, .pointer none, .bool false, .int .i64 0, .int .i64 0, .bool false, .int .i64 0] 42 (0, 0)) := heapN (heap3 w _ _ _) _ (by first | (simp; done) | (simp; omega))
  have hT : ((((w.alloc (.cells #[.bool false, .int .u8 endp, .int .i64 mm, .bool tog, .slice A xs.length c, .bool zero, .int .i64 0] 37)).alloc (.cells #[.bool false, .int .u8 0, .int .i64 0, .int .i64 0, .slice none 0 0, .pointer none, .bool false, .int .i64 0, .int .i64 0, .bool false, .int .i64 0] 42)).alloc (.cells #[.bool false, .int .u8 endp, .int .i64 mm, .bool tog, .slice A xs.length c, .bool zero, .int .i64 0] 37)).alloc (.cells #[.bool false, .int .u8 endp, .int .i64 mm, .int .i64 0, .slice none 0 0, .pointer none, .bool tog, .int .i64 0, .int .i64 0, .bool false, .int .i64 0] 42)).heap[w.heap.size + 3]? = some (.cells #[.bool false, .int .u8 endp, .int .i64 mm, .int .i64 0, .slice none 0 0, .pointer none, .bool tog, .int .i64 0, .int .i64 0, .bool false, .int .i64 0] 42 (0, 0)) := by
    have := heap_alloc_new (((w.alloc (.cells #[.bool false, .int .u8 endp, .int .i64 mm, .bool tog, .slice A xs.length c, .bool zero, .int .i64 0] 37)).alloc (.cells #[.bool false, .int .u8 0, .int .i64 0, .int .i64 0, .slice none 0 0, .pointer none, .bool false, .int .i64 0, .int .i64 0, .bool false, .int .i64 0] 42)).alloc (.cells #[.bool false, .int .u8 endp, .int .i64 mm, .bool tog, .slice A xs.length c, .bool zero, .int .i64 0] 37)) (.cells #[.bool false, .int .u8 endp, .int .i64 mm, .int .i64 0, .slice none 0 0, .pointer none, .bool tog, .int .i64 0, .int .i64 0, .bool false, .int .i64 0] 42)
    simpa using this
  have hP : ((((w.alloc (.cells #[.bool false, .int .u8 endp, .int .i64 mm, .bool tog, .slice A xs.length c, .bool zero, .int .i64 0] 37)).alloc (.cells #[.bool false, .int .u8 0, .int .i64 0, .int .i64 0, .slice none 0 0, .pointer none, .bool false, .int .i64 0, .int .i64 0, .bool false, .int .i64 0] 42)).alloc (.cells #[.bool false, .int .u8 endp, .int .i64 mm, .bool tog, .slice A xs.length c, .bool zero, .int .i64 0] 37)).alloc (.cells #[.bool false, .int .u8 endp, .int .i64 mm, .int .i64 0, .slice none 0 0, .pointer none, .bool tog, .int .i64 0, .int .i64 0, .bool false, .int .i64 0] 42)).heap[w.heap.size]? = some (.cells #[.bool false, .int .u8 endp, .int .i64 mm, .bool tog, .slice A xs.length c, .bool zero, .int .i64 0] 37 (0, 0)) := heapN (heapN (heapN (heap_alloc_new w _) _ (by first | (simp; done) | (simp; omega))) _ (by first | (simp; done) | (simp; omega))) _ (by first | (simp; done) | (simp; omega))
  have hr1 : Rd ((((w.alloc (.cells #[.bool false, .int .u8 endp, .int .i64 mm, .bool tog, .slice A xs.length c, .bool zero, .int .i64 0] 37)).alloc (.cells #[.bool false, .int .u8 0, .int .i64 0, .int .i64 0, .slice none 0 0, .pointer none, .bool false, .int .i64 0, .int .i64 0, .bool false, .int .i64 0] 42)).alloc (.cells #[.bool false, .int .u8 endp, .int .i64 mm, .bool tog, .slice A xs.length c, .bool zero, .int .i64 0] 37)).alloc (.cells #[.bool false, .int .u8 endp, .int .i64 mm, .int .i64 0, .slice none 0 0, .pointer none, .bool tog, .int .i64 0, .int .i64 0, .bool false, .int .i64 0] 42)) (w.heap.size + 4) A c xs := (hr.below hB).more (by omega)
  generalize (((w.alloc (.cells #[.bool false, .int .u8 endp, .int .i64 mm, .bool tog, .slice A xs.length c, .bool zero, .int .i64 0] 37)).alloc (.cells #[.bool false, .int .u8 0, .int .i64 0, .int .i64 0, .slice none 0 0, .pointer none, .bool false, .int .i64 0, .int .i64 0, .bool false, .int .i64 0] 42)).alloc (.cells #[.bool false, .int .u8 endp, .int .i64 mm, .bool tog, .slice A xs.length c, .bool zero, .int .i64 0] 37)).alloc (.cells #[.bool false, .int .u8 endp, .int .i64 mm, .int .i64 0, .slice none 0 0, .pointer none, .bool tog, .int .i64 0, .int .i64 0, .bool false, .int .i64 0] 42) = W0 at *
  have hB := Lib.hid hB
  have hr1 := Lib.hid hr1
  refine startT (S := fun a => a.block = w.heap.size) (T := [10]) 11 (l := #[false, false, false, false, false, false, false, false, false, false, false]) (by kernel_rfl) rfl rfl ?_
  have c4 : W0.drew.cell? ⟨w.heap.size, 4, none⟩ = some (.slice A xs.length c) := Ev.cell_row hP 4
  have c2 : W0.drew.cell? ⟨w.heap.size, 2, none⟩ = some (.int .i64 mm) := Ev.cell_row hP 2
  have c5 : W0.drew.cell? ⟨w.heap.size, 5, none⟩ = some (.bool zero) := Ev.cell_row hP 5
  ((first | (refine takeT 0 (v := ?_) rfl (by decide +kernel) (by decide +kernel) (by decide +kernel) (fun _ _ _ h => h) (by decide +kernel) (Or.inl ⟨by rfl, ?_⟩) ?_; rotate_left 1; (focus (intro W hW; have hcW := hW.at; (try dsimp only at hcW); go_simp; first | done | with_reducible rfl)); try simp only [Act.put, List.setIfInBounds_toArray, List.set_cons_zero, List.set_cons_succ]) | (refine takeW 0 (v := ?_) rfl (by decide +kernel) (by decide +kernel) (by decide +kernel) (fun _ _ _ h => h) (Or.inl ⟨by rfl, ?_⟩) ?_; rotate_left 1; (focus (intro W hW; go_simp; first | done | with_reducible rfl)); try simp only [Act.put, List.setIfInBounds_toArray, List.set_cons_zero, List.set_cons_succ]) | (refine takeW 0 rfl (by decide +kernel) (by decide +kernel) (by decide +kernel) (fun _ _ _ h => h) (Or.inr ⟨by rfl, rfl⟩) ?_; try simp only [Act.put, List.setIfInBounds_toArray, List.set_cons_zero, List.set_cons_succ]) | skip); (first | (refine takeT 1 (v := ?_) rfl (by decide +kernel) (by decide +kernel) (by decide +kernel) (fun _ _ _ h => h) (by decide +kernel) (Or.inl ⟨by rfl, ?_⟩) ?_; rotate_left 1; (focus (intro W hW; have hcW := hW.at; (try dsimp only at hcW); go_simp; first | done | with_reducible rfl)); try simp only [Act.put, List.setIfInBounds_toArray, List.set_cons_zero, List.set_cons_succ]) | (refine takeW 1 (v := ?_) rfl (by decide +kernel) (by decide +kernel) (by decide +kernel) (fun _ _ _ h => h) (Or.inl ⟨by rfl, ?_⟩) ?_; rotate_left 1; (focus (intro W hW; go_simp; first | done | with_reducible rfl)); try simp only [Act.put, List.setIfInBounds_toArray, List.set_cons_zero, List.set_cons_succ]) | (refine takeW 1 rfl (by decide +kernel) (by decide +kernel) (by decide +kernel) (fun _ _ _ h => h) (Or.inr ⟨by rfl, rfl⟩) ?_; try simp only [Act.put, List.setIfInBounds_toArray, List.set_cons_zero, List.set_cons_succ]) | skip); (first | (refine takeT 3 (v := ?_) rfl (by decide +kernel) (by decide +kernel) (by decide +kernel) (fun _ _ _ h => h) (by decide +kernel) (Or.inl ⟨by rfl, ?_⟩) ?_; rotate_left 1; (focus (intro W hW; have hcW := hW.at; (try dsimp only at hcW); go_simp; first | done | with_reducible rfl)); try simp only [Act.put, List.setIfInBounds_toArray, List.set_cons_zero, List.set_cons_succ]) | (refine takeW 3 (v := ?_) rfl (by decide +kernel) (by decide +kernel) (by decide +kernel) (fun _ _ _ h => h) (Or.inl ⟨by rfl, ?_⟩) ?_; rotate_left 1; (focus (intro W hW; go_simp; first | done | with_reducible rfl)); try simp only [Act.put, List.setIfInBounds_toArray, List.set_cons_zero, List.set_cons_succ]) | (refine takeW 3 rfl (by decide +kernel) (by decide +kernel) (by decide +kernel) (fun _ _ _ h => h) (Or.inr ⟨by rfl, rfl⟩) ?_; try simp only [Act.put, List.setIfInBounds_toArray, List.set_cons_zero, List.set_cons_succ]) | skip); (first | (refine takeT 4 (v := ?_) rfl (by decide +kernel) (by decide +kernel) (by decide +kernel) (fun _ _ _ h => h) (by decide +kernel) (Or.inl ⟨by rfl, ?_⟩) ?_; rotate_left 1; (focus (intro W hW; have hcW := hW.at; (try dsimp only at hcW); go_simp; first | done | with_reducible rfl)); try simp only [Act.put, List.setIfInBounds_toArray, List.set_cons_zero, List.set_cons_succ]) | (refine takeW 4 (v := ?_) rfl (by decide +kernel) (by decide +kernel) (by decide +kernel) (fun _ _ _ h => h) (Or.inl ⟨by rfl, ?_⟩) ?_; rotate_left 1; (focus (intro W hW; go_simp; first | done | with_reducible rfl)); try simp only [Act.put, List.setIfInBounds_toArray, List.set_cons_zero, List.set_cons_succ]) | (refine takeW 4 rfl (by decide +kernel) (by decide +kernel) (by decide +kernel) (fun _ _ _ h => h) (Or.inr ⟨by rfl, rfl⟩) ?_; try simp only [Act.put, List.setIfInBounds_toArray, List.set_cons_zero, List.set_cons_succ]) | skip); (first | (refine takeT 5 (v := ?_) rfl (by decide +kernel) (by decide +kernel) (by decide +kernel) (fun _ _ _ h => h) (by decide +kernel) (Or.inl ⟨by rfl, ?_⟩) ?_; rotate_left 1; (focus (intro W hW; have hcW := hW.at; (try dsimp only at hcW); go_simp; first | done | with_reducible rfl)); try simp only [Act.put, List.setIfInBounds_toArray, List.set_cons_zero, List.set_cons_succ]) | (refine takeW 5 (v := ?_) rfl (by decide +kernel) (by decide +kernel) (by decide +kernel) (fun _ _ _ h => h) (Or.inl ⟨by rfl, ?_⟩) ?_; rotate_left 1; (focus (intro W hW; go_simp; first | done | with_reducible rfl)); try simp only [Act.put, List.setIfInBounds_toArray, List.set_cons_zero, List.set_cons_succ]) | (refine takeW 5 rfl (by decide +kernel) (by decide +kernel) (by decide +kernel) (fun _ _ _ h => h) (Or.inr ⟨by rfl, rfl⟩) ?_; try simp only [Act.put, List.setIfInBounds_toArray, List.set_cons_zero, List.set_cons_succ]) | skip); (first | (refine takeT 6 (v := ?_) rfl (by decide +kernel) (by decide +kernel) (by decide +kernel) (fun _ _ _ h => h) (by decide +kernel) (Or.inl ⟨by rfl, ?_⟩) ?_; rotate_left 1; (focus (intro W hW; have hcW := hW.at; (try dsimp only at hcW); go_simp; first | done | with_reducible rfl)); try simp only [Act.put, List.setIfInBounds_toArray, List.set_cons_zero, List.set_cons_succ]) | (refine takeW 6 (v := ?_) rfl (by decide +kernel) (by decide +kernel) (by decide +kernel) (fun _ _ _ h => h) (Or.inl ⟨by rfl, ?_⟩) ?_; rotate_left 1; (focus (intro W hW; go_simp; first | done | with_reducible rfl)); try simp only [Act.put, List.setIfInBounds_toArray, List.set_cons_zero, List.set_cons_succ]) | (refine takeW 6 rfl (by decide +kernel) (by decide +kernel) (by decide +kernel) (fun _ _ _ h => h) (Or.inr ⟨by rfl, rfl⟩) ?_; try simp only [Act.put, List.setIfInBounds_toArray, List.set_cons_zero, List.set_cons_succ]) | skip))
  clear c4 c2 c5
  refine stepT 2 rfl (by decide +kernel) (by rfl) (fun K hK => ?_)
  go_simp
  refine (own_any W0.drew A c xs (hr1.out.more (Nat.le_of_eq hS.symm)).drew (by omega)).mono ?_
  rintro e w2 ⟨v, rfl, hba, b2⟩
  obtain ⟨A1, rfl, hr2, ha2⟩ := rd_bytesAt hba (by omega)
  have b2 : Below W0.heap.size W0 w2 := below_undrew b2
  have hr2 := Lib.hid hr2
  have hz2 : w.heap.size + 4 ≤ w2.heap.size := by have := b2.size; omega
  refine hK _ _ (.inr fun a ha => b2.cell (by have : a.block = w.heap.size := ha; omega)) ?_
  clear hK K hba
  replace ha2 : ∀ a : Addr, A1 = some a → 0 < xs.length → W0.heap.size ≤ a.block := ha2
  replace ha2 := Lib.hid ha2
  try simp only [Act.put, List.setIfInBounds_toArray, List.set_cons_zero, List.set_cons_succ]
  have b2 := Lib.hid b2
  refine stepT 7 rfl (by decide +kernel) (by rfl) (fun K hK => ?_)
  go_simp
  refine (callsIn_wide.1 (packets_in Fence.wide 5 trivial rfl A1 xs.length xs.length mm zero w2)).mono ?_
  rintro e w3 ⟨rfl, rfl⟩
  have b3 : Below w2.heap.size w2 (((w2.alloc (.cells #[.slice A1 xs.length xs.length] 22)).alloc (.cells #[.int .i64 mm] 3)).alloc (.cells #[.bool zero] 4)) := (((Below.refl _ w2).alloc (Nat.le_refl _) _).alloc (by simp) _).alloc (by simp; omega) _
  have bB := (((Boxed.new w2 22 (.slice A1 xs.length xs.length)).alloc (.cells #[.int .i64 mm] 3)).alloc (.cells #[.bool zero] 4)).cell
  have bM := ((Boxed.new (w2.alloc (.cells #[.slice A1 xs.length xs.length] 22)) 3 (.int .i64 mm)).alloc (.cells #[.bool zero] 4)).cell
  have bZ := (Boxed.new ((w2.alloc (.cells #[.slice A1 xs.length xs.length] 22)).alloc (.cells #[.int .i64 mm] 3)) 4 (.bool zero)).cell
  simp only [World.size_alloc] at bM bZ
  have hz3 : (((w2.alloc (.cells #[.slice A1 xs.length xs.length] 22)).alloc (.cells #[.int .i64 mm] 3)).alloc (.cells #[.bool zero] 4)).heap.size = w2.heap.size + 3 := by simp
  refine hK _ _ (.inr fun a ha => b3.cell (by have : a.block = w.heap.size := ha; omega)) ?_
  clear hK K
  try simp only [Act.put, List.setIfInBounds_toArray, List.set_cons_zero, List.set_cons_succ]
  generalize (((w2.alloc (.cells #[.slice A1 xs.length xs.length] 22)).alloc (.cells #[.int .i64 mm] 3)).alloc (.cells #[.bool zero] 4)) = w3 at b3 bB bM bZ hz3 ⊢
  have b3 := Lib.hid b3
  refine stepT 8 rfl (by decide +kernel) (by rfl) (fun K hK => ?_)
  go_simp
  refine (collect_any w3 w2.heap.size (w2.heap.size + 1) (w2.heap.size + 2) (fun k => 0 < xs.length → W0.heap.size ≤ k) A1 xs.length mm zero xs hm hm2 (by omega) ⟨by omega, by omega, by omega⟩ bB bM bZ (hr2.out.belowTop b3.out) (fun a e h0 => ha2.out a e h0)).mono ?_
  rintro e w4 ⟨v, l, rfl, hl, how, b4⟩
  obtain ⟨A2, k2, rfl, hrds⟩ := rds_col how b4.size (fun p hp => by
    rw [b4.cell (p := p) hp]
    exact (World.cell?_alloc_lt w3 _ p hp).symm) (lo := w.heap.size + 4) (by omega) (fun ps hp h0 k hk => by rw [hl] at hp; have := cutF_le _ _ _ hp; have := hk (by omega); omega)
  refine hK _ _ (.inr fun a ha => b4.cell (by have : a.block = w.heap.size := ha; omega)) ?_
  clear hK K how bB bM bZ
  try simp only [Act.put, List.setIfInBounds_toArray, List.set_cons_zero, List.set_cons_succ]
  generalize bytesPc l = pss at hl hrds ⊢
  replace hl := Lib.hid hl
  have e4 : ∀ k, k < w.heap.size + 4 → w4.heap[k]? = W0.heap[k]? := fun k hk => by rw [b4.block k (by omega), b3.out.block k (by omega), b2.out.block k (by omega)]
  have hT4 : w4.heap[w.heap.size + 1 + 1 + 1]? = some (.cells #[.bool false, .int .u8 endp, .int .i64 mm, .int .i64 0, .slice none 0 0, .pointer none, .bool tog, .int .i64 0, .int .i64 0, .bool false, .int .i64 0] 42 (0, 0)) := (e4 _ (by omega)).trans hT
  have hR4 : w4.heap[w.heap.size + 1]? = some (.cells #[.bool false, .int .u8 0, .int .i64 0, .int .i64 0, .slice none 0 0, .pointer none, .bool false, .int .i64 0, .int .i64 0, .bool false, .int .i64 0] 42 (0, 0)) := (e4 _ (by omega)).trans hR
  have hb4 : Below w.heap.size w w4 := hB.out.trans ((b2.out.mono (by omega)).trans ((b3.out.mono (by omega)).trans (b4.mono (by omega))))
  have hz4 : w.heap.size + 4 ≤ w4.heap.size := by have := b4.size; omega
  replace hrds := Lib.hid hrds
  replace hb4 := Lib.hid hb4
  have hT4h := Lib.hid hT4
  have hR4h := Lib.hid hR4
  have u4 : w4.cell? ⟨w.heap.size + 1 + 1 + 1, 4, none⟩ = some (.slice none 0 0) := Ev.cell_row hT4 4
  have f4 : w4.frozen? ⟨w.heap.size + 1 + 1 + 1, 4, none⟩ = false := by simp [World.frozen?, hT4]
  clear hT hR hP hT4 hR4 e4 b4 b3 b2 hr1 hr2 hB
  ((first | (refine takeT 9 (v := ?_) rfl (by decide +kernel) (by decide +kernel) (by decide +kernel) (fun _ _ _ h => h) (by decide +kernel) (Or.inl ⟨by rfl, ?_⟩) ?_; rotate_left 1; (focus (intro W hW; have hcW := hW.at; (try dsimp only at hcW); go_simp; first | done | with_reducible rfl)); try simp only [Act.put, List.setIfInBounds_toArray, List.set_cons_zero, List.set_cons_succ]) | (refine takeW 9 (v := ?_) rfl (by decide +kernel) (by decide +kernel) (by decide +kernel) (fun _ _ _ h => h) (Or.inl ⟨by rfl, ?_⟩) ?_; rotate_left 1; (focus (intro W hW; go_simp; first | done | with_reducible rfl)); try simp only [Act.put, List.setIfInBounds_toArray, List.set_cons_zero, List.set_cons_succ]) | (refine takeW 9 rfl (by decide +kernel) (by decide +kernel) (by decide +kernel) (fun _ _ _ h => h) (Or.inr ⟨by rfl, rfl⟩) ?_; try simp only [Act.put, List.setIfInBounds_toArray, List.set_cons_zero, List.set_cons_succ]) | skip))
  refine stepT 10 rfl (by decide +kernel) (by rfl) (fun K hK => ?_)
  go_simp
  refine hK _ _ (.inl (by simp)) ?_
  clear hK K u4 f4
  try simp only [Act.put, List.setIfInBounds_toArray, List.set_cons_zero, List.set_cons_succ]
  have hT5 := heap_setCell_same w4 (w.heap.size + 1 + 1 + 1) 4 _ _ (.slice A2 pss.length k2) hT4h.out
  have hR5 := (Below.heap_setCell w4 ⟨w.heap.size + 1 + 1 + 1, 4, none⟩ (.slice A2 pss.length k2) (w.heap.size + 1) (fun e => by simp at e)).trans hR4h.out
  have hb5 := Below.setCell (p := ⟨w.heap.size + 1 + 1 + 1, 4, none⟩) hb4.out (by simp; omega) (.slice A2 pss.length k2)
  simp only [List.setIfInBounds_toArray, List.set_cons_zero, List.set_cons_succ] at hT5
  have hrds5 : ∀ W : World, (∀ p : Addr, w.heap.size + 4 ≤ p.block → p.block < w4.heap.size → W.cell? p = (w4.setCell ⟨w.heap.size + 1 + 1 + 1, 4, none⟩ (.slice A2 pss.length k2)).cell? p) → w4.heap.size ≤ W.heap.size → Rds W W.heap.size A2 k2 pss := fun W h1 h2 => hrds.out W (fun p q1 q2 => (h1 p q1 q2).trans (World.cell?_of_block (heap_setCell_other w4 _ _ _ (by simp; omega)))) h2
  have hz5 : (w4.setCell ⟨w.heap.size + 1 + 1 + 1, 4, none⟩ (.slice A2 pss.length k2)).heap.size = w4.heap.size := by simp [World.setCell]
  refine doneT (by kernel_rfl) ?_
  generalize w4.setCell ⟨w.heap.size + 1 + 1 + 1, 4, none⟩ (.slice A2 pss.length k2) = w5 at hT5 hR5 hb5 hrds5 hz5 ⊢
  replace hrds5 := Lib.hid hrds5
  replace hb5 := Lib.hid hb5
  have l0 : w5.cell? ⟨w.heap.size + 1 + 1 + 1, 0, none⟩ = some (.bool false) := Ev.cell_row hT5 0
  have l1 : w5.cell? ⟨w.heap.size + 1 + 1 + 1, 1, none⟩ = some (.int .u8 endp) := Ev.cell_row hT5 1
  have l2 : w5.cell? ⟨w.heap.size + 1 + 1 + 1, 2, none⟩ = some (.int .i64 mm) := Ev.cell_row hT5 2
  have l3 : w5.cell? ⟨w.heap.size + 1 + 1 + 1, 3, none⟩ = some (.int .i64 0) := Ev.cell_row hT5 3
  have l4 : w5.cell? ⟨w.heap.size + 1 + 1 + 1, 4, none⟩ = some (.slice A2 pss.length k2) := Ev.cell_row hT5 4
  have l5 : w5.cell? ⟨w.heap.size + 1 + 1 + 1, 5, none⟩ = some (.pointer none) := Ev.cell_row hT5 5
  have l6 : w5.cell? ⟨w.heap.size + 1 + 1 + 1, 6, none⟩ = some (.bool tog) := Ev.cell_row hT5 6
  have l7 : w5.cell? ⟨w.heap.size + 1 + 1 + 1, 7, none⟩ = some (.int .i64 0) := Ev.cell_row hT5 7
  have l8 : w5.cell? ⟨w.heap.size + 1 + 1 + 1, 8, none⟩ = some (.int .i64 0) := Ev.cell_row hT5 8
  have l9 : w5.cell? ⟨w.heap.size + 1 + 1 + 1, 9, none⟩ = some (.bool false) := Ev.cell_row hT5 9
  have l10 : w5.cell? ⟨w.heap.size + 1 + 1 + 1, 10, none⟩ = some (.int .i64 0) := Ev.cell_row hT5 10
  have r0 : w5.cell? ⟨w.heap.size + 1, 0, none⟩ = some (.bool false) := Ev.cell_row hR5 0
  have r1 : w5.cell? ⟨w.heap.size + 1, 1, none⟩ = some (.int .u8 0) := Ev.cell_row hR5 1
  have r2 : w5.cell? ⟨w.heap.size + 1, 2, none⟩ = some (.int .i64 0) := Ev.cell_row hR5 2
  have r3 : w5.cell? ⟨w.heap.size + 1, 3, none⟩ = some (.int .i64 0) := Ev.cell_row hR5 3
  have r4 : w5.cell? ⟨w.heap.size + 1, 4, none⟩ = some (.slice none 0 0) := Ev.cell_row hR5 4
  have r5 : w5.cell? ⟨w.heap.size + 1, 5, none⟩ = some (.pointer none) := Ev.cell_row hR5 5
  have r6 : w5.cell? ⟨w.heap.size + 1, 6, none⟩ = some (.bool false) := Ev.cell_row hR5 6
  have r7 : w5.cell? ⟨w.heap.size + 1, 7, none⟩ = some (.int .i64 0) := Ev.cell_row hR5 7
  have r8 : w5.cell? ⟨w.heap.size + 1, 8, none⟩ = some (.int .i64 0) := Ev.cell_row hR5 8
  have r9 : w5.cell? ⟨w.heap.size + 1, 9, none⟩ = some (.bool false) := Ev.cell_row hR5 9
  have r10 : w5.cell? ⟨w.heap.size + 1, 10, none⟩ = some (.int .i64 0) := Ev.cell_row hR5 10
  have fR : ∀ i, w5.frozen? ⟨w.heap.size + 1, i, none⟩ = false := fun i => by simp [World.frozen?, hR5]
  replace hR5 := Lib.hid hR5
  clear hT5 hT4h hR4h hrds hb4
  have hF := putAll_same [.bool false, .int .u8 endp, .int .i64 mm, .int .i64 0, .slice A2 pss.length k2, .pointer none, .bool tog, .int .i64 0, .int .i64 0, .bool false, .int .i64 0] 0 w5 _ hR5.out
  have hG := putAll_below (B := w.heap.size + 1) (by omega) [.bool false, .int .u8 endp, .int .i64 mm, .int .i64 0, .slice A2 pss.length k2, .pointer none, .bool tog, .int .i64 0, .int .i64 0, .bool false, .int .i64 0] 0 w5 hb5.out
  have hO : ∀ k, k ≠ w.heap.size + 1 → (putAll w5 (w.heap.size + 1) 0 [.bool false, .int .u8 endp, .int .i64 mm, .int .i64 0, .slice A2 pss.length k2, .pointer none, .bool tog, .int .i64 0, .int .i64 0, .bool false, .int .i64 0]).heap[k]? = w5.heap[k]? := fun k hk => putAll_other hk _ 0 w5
  have hZ := (putAll_size (B := w.heap.size + 1) [.bool false, .int .u8 endp, .int .i64 mm, .int .i64 0, .slice A2 pss.length k2, .pointer none, .bool tog, .int .i64 0, .int .i64 0, .bool false, .int .i64 0] 0 w5).trans hz5
  simp only [putAll, setAll, Nat.zero_add, Nat.reduceAdd, List.setIfInBounds_toArray, List.set_cons_zero, List.set_cons_succ] at hF hG hO hZ
  replace hF := Lib.hid hF
  replace hG := Lib.hid hG
  replace hO := Lib.hid hO
  replace hZ := Lib.hid hZ
  go_wp2
  refine bodyPost_ret (results_cell_row_tmp rfl _ _ (w.heap.size + 1) _ _ _ _ rfl hF.out Try.underlying42 rfl (by kernel_rfl)) rfl ?_
  refine ⟨A2, k2, pss, rfl, hl.out, ?_, hG.out⟩
  refine hrds5.out _ (fun p q1 q2 => World.cell?_of_block (hO.out _ (by omega))) ?_
  rw [hZ.out]
  exact Nat.le_refl _
end Go.Proofs.Ytfaocndelibadaa
