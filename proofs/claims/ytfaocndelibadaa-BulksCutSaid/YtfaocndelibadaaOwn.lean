/-
  Helper text: bytes in memory of their own; no statement is proved here.
-/
import Derived.Lib.SliceRun
import Derived.Test.YtfaocndelibadaaCol
namespace Go.Proofs.Ytfaocndelibadaa
open Go Go.RowKit Go.Shelf

theorem Try.infoU : (Try.prog.info? 5).map (fun i => (i.zero, i.size, i.bytes)) = some (some (.int .u8 0), 1, 1) := by kernel_rfl

/-- A value that is a slice of the bytes, in a block of bytes alone that lies at or beyond n₁. -/
def BytesAt (n₁ : Nat) (W : World) (v : Value) (ps : List UInt8) : Prop :=
  ∃ A, v = .slice A ps.length ps.length ∧ (0 < ps.length → ∃ b off cs, A = some ⟨b, off, none⟩ ∧ n₁ ≤ b ∧ W.heap[b]? = some (.cells cs 5 (0, 0)) ∧ ∀ j, j < ps.length → W.cell? ⟨b, off + j, none⟩ = some (bv (ps.getD j 0)))
theorem BytesAt.keep {n₁ : Nat} {W W' : World} {v : Value} {ps : List UInt8} (h : BytesAt n₁ W v ps) (hk : ∀ b cs, n₁ ≤ b → W.heap[b]? = some (.cells cs 5 (0, 0)) → W'.heap[b]? = W.heap[b]?) : BytesAt n₁ W' v ps := by
  obtain ⟨A, rfl, h⟩ := h
  refine ⟨A, rfl, fun hn => ?_⟩
  obtain ⟨b, off, cs, e, hb, hh, hc⟩ := h hn
  have := hk b cs hb hh
  exact ⟨b, off, cs, e, hb, this.trans hh, fun j hj => (World.cell?_of_block this).trans (hc j hj)⟩
theorem BytesAt.less {n n₁ : Nat} {W : World} {v : Value} {ps : List UInt8} (h : BytesAt n₁ W v ps) (hn : n ≤ n₁) : BytesAt n W v ps := by
  obtain ⟨A, rfl, h⟩ := h
  refine ⟨A, rfl, fun hl => ?_⟩
  obtain ⟨b, off, cs, e, hb, hh, hc⟩ := h hl
  exact ⟨b, off, cs, e, by omega, hh, hc⟩
theorem BytesAt.one {n₁ : Nat} {W : World} {v : Value} {ps : List UInt8} (h : BytesAt n₁ W v ps) : v.oneCell' = true := by
  obtain ⟨A, rfl, _⟩ := h; rfl

/-- The bytes again, in memory that is new since w. -/
def ResO2 (w : World) (xs : List UInt8) (e : Ending) (w' : World) : Prop := ∃ v, e = .returned v ∧ w'.ownsRow w.heap.size 5 1 v xs.length (xs.map bv) ∧ Below w.heap.size w w'
def ResB2 (w : World) (xs : List UInt8) (e : Ending) (w' : World) : Prop := ∃ v, e = .returned v ∧ BytesAt w.heap.size w' v xs ∧ Below w.heap.size w w'

set_option maxHeartbeats 400000 in
set_option maxRecDepth 100000 in
theorem bclone_any (w : World) (A : Option Addr) (c : Nat) (xs : List UInt8) (hx : Rd w w.heap.size A c xs) (hl : xs.length ≤ 1000000) :
    Calls Try.prog 38 #[.slice A xs.length c] w (ResO2 w xs) := by
  have qT : ∀ (w : World) (a : Option Addr) (n c n' c' : Nat), (binOp .eql 22 (.slice a n c) (.slice none n' c')).run Try.prog w = .ok (.bool a.isNone) w := fun w a n c n' c' => Lib.run_eql_slice_nil w _ _ a n c n' c' Try.underlying22
  rcases A with _ | ad
  · have h0 : xs = [] := by
      rcases Nat.eq_zero_or_pos xs.length with h0 | h0
      · exact List.eq_nil_of_length_eq_zero h0
      · obtain ⟨b, off, e, _⟩ := hx.cells h0
        cases e
    subst h0
    rw [List.length_nil]
    go_enter Try.func38, Try.ntmps38
    go_wp2
    go_ret
    exact ⟨_, rfl, World.ownsRow_nil _ _ _ _, Below.refl _ _⟩
  · have hown := Lib.hid (own_built w 5 [] (by simp))
    have hx1 := Lib.hid (hx.alloc (Nat.le_refl _) (.cells (List.map bv []).toArray 5))
    have hl' := Lib.hid hl
    clear hx hl
    go_enter Try.func38, Try.ntmps38
    go_wp2_with (at_builtin; refine wpl_appendN Try.underlying22 Try.infoU rfl (.tmp 5) (.tmp 6) rfl w.heap.size _ [] rfl hown.out _ c (some ad) xs hx1.out rfl (by have := hl'.out; simp; omega) (by simp) ?_; intro v' w' ho hbb)
    go_ret
    exact ⟨v', rfl, by simpa using ho, ((Below.refl _ w).alloc (Nat.le_refl _) _).trans hbb⟩

theorem bclip_any (w : World) (A : Option Addr) (n c : Nat) (hle : n ≤ c) (hcap : c ≤ 9223372036854775807) : Calls Try.prog 37 #[.slice A n c] w fun e w' => e = .returned (.slice A n n) ∧ w = w' := by
  go_enter Try.func37, Try.ntmps37
  go_wp2
  go_ret
  exact ⟨rfl, rfl⟩

theorem bytesAt_own {w w' : World} {v : Value} {xs : List UInt8} (h : w'.ownsRow w.heap.size 5 1 v xs.length (xs.map bv)) : ∃ A c, v = .slice A xs.length c ∧ xs.length ≤ c ∧ c ≤ 9223372036854775807 ∧ BytesAt w.heap.size w' (.slice A xs.length xs.length) xs := by
  obtain ⟨A, c, rfl, hr⟩ := Rd.of_own h
  refine ⟨A, c, rfl, hr.le, hr.cap, A, rfl, fun hn => ?_⟩
  obtain ⟨b, off, rfl, hb, hc⟩ := hr.cells hn
  rcases h.2 with ⟨h1, h2⟩ | ⟨g, cap, cur, hv, hg, hh, _⟩
  · cases h1
  · injection hv with h1
    injection h1 with h1
    injection h1 with h1 h2
    subst h1
    exact ⟨b, off, cur, rfl, hg, hh, hc⟩

set_option maxHeartbeats 400000 in
set_option maxRecDepth 100000 in
/-- own. -/
theorem own_any (w : World) (A : Option Addr) (c : Nat) (xs : List UInt8) (hx : Rd w w.heap.size A c xs) (hl : xs.length ≤ 1000000) :
    Calls Try.prog 22 #[.slice A xs.length c] w (ResB2 w xs) := by
  have h1 := Lib.hid (bclone_any w A c xs hx hl)
  clear hx
  go_enter Try.func22, Try.ntmps22
  go_wp2_with (first
    | (go_at_call 38; refine (h1.out).mono ?_; rintro e w1 ⟨v, rfl, ho, hb⟩; obtain ⟨A1, c1, rfl, hle, hcap, hba⟩ := bytesAt_own ho; have hba' := Lib.hid hba; have hb' := Lib.hid hb; clear ho hba hb)
    | (go_at_call 37; refine (bclip_any _ _ _ _ hle hcap).mono ?_; rintro e w2 ⟨rfl, rfl⟩))
  go_ret
  exact ⟨_, rfl, hba'.out, hb'.out⟩
end Go.Proofs.Ytfaocndelibadaa
