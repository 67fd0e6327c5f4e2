/-
  Helper text: a list of packets of the call's own, whose bytes may change; no statement is proved here.
-/
import Derived.Test.YtjilbgdenolllaaLw5
import Derived.Laws.IdiomStrings
namespace Go.Proofs.Ytjilbgdenolllaa
open Go Go.RowKit

/-- A slice whose cells hold these values, in a block that lies at or beyond n₁. -/
def CellsOf (n₁ : Nat) (W : World) (A : Option Addr) (vs : List Value) : Prop := 0 < vs.length → ∃ b cur, A = some ⟨b, 0, none⟩ ∧ n₁ ≤ b ∧ W.heap[b]? = some (.cells cur 26 (0, 0)) ∧ vs.length ≤ cur.size ∧ cur.toList.take vs.length = vs
theorem cells_own {n₁ k : Nat} {W : World} {A : Option Addr} {n c : Nat} {vs : List Value} (h : W.ownsRow n₁ 26 1 (.slice A n c) k vs) (hk : k = vs.length) : CellsOf n₁ W A vs := fun hn => by
  rcases h.2 with ⟨h1, h2⟩ | ⟨g, cp, cur, hv, hg, hh, hle, _, hcs, ht⟩
  · omega
  · injection hv with e1
    subst e1
    refine ⟨g, cur, rfl, hg, hh, by omega, by rw [← hk]; simpa using ht⟩
theorem CellsOf.keep {n₁ : Nat} {W W' : World} {A : Option Addr} {vs : List Value} (h : CellsOf n₁ W A vs) (hk : ∀ b cs, n₁ ≤ b → W.heap[b]? = some (.cells cs 26 (0, 0)) → W'.heap[b]? = W.heap[b]?) : CellsOf n₁ W' A vs := fun hn => by
  obtain ⟨b, cur, e, hb, hh, h1, h2⟩ := h hn
  exact ⟨b, cur, e, hb, (hk b cur hb hh).trans hh, h1, h2⟩

/-- A list of packets that the call owns: the bytes may be any. -/
structure Mod (n₁ : Nat) (W : World) (A : Option Addr) (vs : List Value) : Prop where
  cells : CellsOf n₁ W A vs
  each : ∀ i, i < vs.length → ∃ (Ai : Option Addr) (len : Nat), vs[i]? = some (.slice Ai len len) ∧ len ≤ 1000000 ∧ (0 < len → ∃ b off cs, Ai = some ⟨b, off, none⟩ ∧ n₁ ≤ b ∧ W.heap[b]? = some (.cells cs 5 (0, 0)) ∧ ∀ j, j < len → ∃ z : Int, W.cell? ⟨b, off + j, none⟩ = some (.int .u8 z))
namespace Mod
variable {n₁ : Nat} {W W' : World} {A : Option Addr} {vs : List Value}
theorem ofNews {base g : Nat} {ps : List (List UInt8)} (h : News W base g ps) (hs : Sml ps) : ∃ vs : List Value, vs.length = ps.length ∧ Mod base W (some ⟨g, 0, none⟩) vs ∧ ∀ j, j < ps.length → ∃ Aj, vs[j]? = some (.slice Aj (ps.getD j []).length (ps.getD j []).length) := by
  obtain ⟨hge, vs, h1, h2, h3⟩ := h
  refine ⟨vs, h2, ⟨fun hn => ⟨g, vs.toArray, rfl, hge, h1, by simp, by simp⟩, fun i hi => ?_⟩, fun j hj => ?_⟩
  · obtain ⟨q, e1, e2, e3⟩ := h3 i (by omega)
    refine ⟨_, _, e1, by have := hs.2 i; omega, fun h0 => ⟨q, 0, _, rfl, e2, e3, fun j hj => ?_⟩⟩
    obtain ⟨b, off, e, _, hc⟩ := (e3.rd (by have := hs.2 i; omega)).cells h0
    injection e with e
    injection e with e4 e5 _
    subst e4 e5
    exact ⟨_, hc j hj⟩
  · obtain ⟨q, e1, _⟩ := h3 j hj
    exact ⟨_, e1⟩
theorem below (h : Mod n₁ W A vs) (hb : Below W.heap.size W W') : Mod n₁ W' A vs :=
  ⟨h.cells.keep fun b cs _ hh => hb.block b (block_lt hh), fun i hi => by
    obtain ⟨Ai, len, e1, e2, e3⟩ := h.each i hi
    refine ⟨Ai, len, e1, e2, fun h0 => ?_⟩
    obtain ⟨b, off, cs, f1, f2, f3, f4⟩ := e3 h0
    refine ⟨b, off, cs, f1, f2, (hb.block b (block_lt f3)).trans f3, fun j hj => ?_⟩
    obtain ⟨z, hz⟩ := f4 j hj
    exact ⟨z, (hb.cell (block_lt f3)).trans hz⟩⟩
theorem cell (h : Mod n₁ W A vs) {i : Nat} (hi : i < vs.length) : ∃ g, A = some ⟨g, 0, none⟩ ∧ g < W.heap.size ∧ W.cell? ⟨g, i, none⟩ = vs[i]? := by
  obtain ⟨g, cur, e1, e2, e3, e4, e5⟩ := h.cells (by omega)
  refine ⟨g, e1, block_lt e3, ?_⟩
  rw [cell_of_row W g i cur _ (0, 0) e3, ← e5, List.getElem?_take, if_pos hi, Array.getElem?_toList]
theorem set (h : Mod n₁ W A vs) {b o : Nat} {cs : Array Value} (hb : W.heap[b]? = some (.cells cs 5 (0, 0))) (z : Int) : Mod n₁ (W.setCell ⟨b, o, none⟩ (.int .u8 z)) A vs :=
  ⟨h.cells.keep fun b' cs' _ hh => Below.heap_setCell _ _ _ _ (fun e => block_ne hh hb (by decide) e), fun i hi => by
    obtain ⟨Ai, len, e1, e2, e3⟩ := h.each i hi
    refine ⟨Ai, len, e1, e2, fun h0 => ?_⟩
    obtain ⟨b', off, cs', f1, f2, f3, f4⟩ := e3 h0
    by_cases hbb : b' = b
    · subst hbb
      have hset := block_set hb o (.int .u8 z)
      refine ⟨b', off, _, f1, f2, hset, fun j hj => ?_⟩
      obtain ⟨y, hy⟩ := f4 j hj
      rw [cell_of_row W b' (off + j) cs _ (0, 0) hb] at hy
      rw [cell_of_row _ b' (off + j) _ _ (0, 0) hset, Array.getElem?_setIfInBounds]
      have hlt : off + j < cs.size := (Array.getElem?_eq_some_iff.1 hy).1
      by_cases ho : o = off + j
      · rw [if_pos ho, if_pos (by omega)]; exact ⟨z, rfl⟩
      · rw [if_neg ho]; exact ⟨y, hy⟩
    · have hk : (W.setCell ⟨b, o, none⟩ (.int .u8 z)).heap[b']? = W.heap[b']? := Below.heap_setCell _ _ _ _ hbb
      refine ⟨b', off, cs', f1, f2, hk.trans f3, fun j hj => ?_⟩
      obtain ⟨y, hy⟩ := f4 j hj
      exact ⟨y, (World.cell?_of_block hk).trans hy⟩⟩
end Mod
theorem conv_bytes (w : World) (xs : List UInt8) (hl : xs.length ≤ 100000) : ∃ cap w', (convert 9 26 (.string ⟨xs.toArray⟩)).run Try.prog w = .ok (.slice (some ⟨w.heap.size, 0, none⟩) xs.length cap) w' ∧ Rd w' w'.heap.size (some ⟨w.heap.size, 0, none⟩) cap xs ∧ Below w.heap.size w w' := by
  have hs : (⟨xs.toArray⟩ : ByteArray).size = xs.length := by simp [ByteArray.size]
  have h := run_bytes_of_string w 9 26 5 ⟨xs.toArray⟩ Try.underlying9 Try.underlying26 Try.underlying5
  rw [hs] at h
  refine ⟨_, _, h, ⟨grownCap_ge _ _ _ _, by have := grownCap_le_maxLen w xs.length 0 5 (by unfold maxLen; omega); simpa [maxLen] using this, fun hn => ⟨w.heap.size, 0, rfl, by rw [World.size_alloc]; exact Nat.lt_succ_self _, fun j hj => ?_⟩⟩, ((Below.refl w.heap.size w).drew).alloc (Nat.le_refl _) _⟩
  rw [Nat.zero_add]
  have e := World.cell?_alloc_mark w.drew (bytesRow ⟨xs.toArray⟩ (grownCap w xs.length 0 5)) 5 ((bytesRow ⟨xs.toArray⟩ (grownCap w xs.length 0 5)).size, (bytesRow ⟨xs.toArray⟩ (grownCap w xs.length 0 5)).size + 1) j
  refine Eq.trans e ?_
  rw [bytesRow_at _ _ _ (by simpa using hj)]
  simp [bv, List.getD, List.getElem?_eq_getElem hj]
/-- A literal's bytes, converted: the row bears a mark behind its end. -/
theorem conv_lit (w : World) (C : Array Value) (n : Nat) (hn : C.size = n) : (convert 26 26 (.slice (some ⟨w.heap.size, 0, none⟩) n n)).run Try.prog (w.alloc (.cells C 5)) = .ok (.slice (some ⟨w.heap.size, 0, none⟩) n n) (w.alloc (.cells C 5 (n, n + 1))) := by
  have hsh : (w.alloc (.cells C 5)).shape? w.heap.size = some (5, n) := by
    have : (w.alloc (.cells C 5)).heap[w.heap.size]? = some (.cells C 5) := by
      show (w.heap.push (.cells C 5))[w.heap.size]? = _
      simp
    unfold World.shape?
    rw [this]
    simp [hn]
  have hfr : (w.alloc (.cells C 5)).freeze ⟨w.heap.size, n, none⟩ 1 = w.alloc (.cells C 5 (n, n + 1)) := by
    have hm : ∀ (a : Array Obj) (x : Obj) (f : Obj → Obj), (a.push x).modify a.size f = a.push (f x) := by
      intro a x f
      apply Array.ext
      · simp
      · intro i h1 h2
        simp only [Array.getElem_modify, Array.getElem_push]
        by_cases h : a.size = i
        · subst h
          simp
        · have hi : i < a.size := by simp at h1; omega
          simp [h, hi]
    unfold World.freeze
    rw [if_neg (by decide)]
    show ({ w.alloc (.cells C 5) with heap := (w.heap.push (.cells C 5)).modify w.heap.size _ } : World) = _
    rw [hm]
    rfl
  simp [convert, run_underlying Try.underlying26, run_underlying Try.underlying5, markStringish, hsh]
  exact hfr
theorem lit_rd (w : World) (xs : List UInt8) (hl : xs.length ≤ 100000) : Rd (w.alloc (.cells (xs.map bv).toArray 5 (xs.length, xs.length + 1))) (w.heap.size + 1) (some ⟨w.heap.size, 0, none⟩) xs.length xs := by
  refine ⟨Nat.le_refl _, by omega, fun hn => ⟨w.heap.size, 0, rfl, Nat.lt_succ_self _, fun j hj => ?_⟩⟩
  rw [Nat.zero_add, World.cell?_alloc_mark]
  simp [List.getD, List.getElem?_eq_getElem hj, bv]
/-- "beyond" -/
def bey : List UInt8 := [98, 101, 121, 111, 110, 100]
theorem bey_conv (w : World) : (convert 26 26 (.slice (some ⟨w.heap.size, 0, none⟩) 6 6)).run Try.prog (w.alloc (.cells #[.int .u8 98, .int .u8 101, .int .u8 121, .int .u8 111, .int .u8 110, .int .u8 100] 5)) = .ok (.slice (some ⟨w.heap.size, 0, none⟩) 6 6) (w.alloc (.cells #[.int .u8 98, .int .u8 101, .int .u8 121, .int .u8 111, .int .u8 110, .int .u8 100] 5 (6, 7))) := conv_lit w _ 6 rfl
theorem bey_rd (w : World) : Rd (w.alloc (.cells #[.int .u8 98, .int .u8 101, .int .u8 121, .int .u8 111, .int .u8 110, .int .u8 100] 5 (6, 7))) (w.alloc (.cells #[.int .u8 98, .int .u8 101, .int .u8 121, .int .u8 111, .int .u8 110, .int .u8 100] 5 (6, 7))).heap.size (some ⟨w.heap.size, 0, none⟩) 6 bey := by
  have h := lit_rd w bey (by decide)
  exact Rd.more h (by rw [World.size_alloc]; exact Nat.le_refl _)
theorem bey_all (w : World) : ∃ w', (convert 26 26 (.slice (some ⟨w.heap.size, 0, none⟩) 6 6)).run Try.prog (w.alloc (.cells #[.int .u8 98, .int .u8 101, .int .u8 121, .int .u8 111, .int .u8 110, .int .u8 100] 5)) = .ok (.slice (some ⟨w.heap.size, 0, none⟩) 6 6) w' ∧ Rd w' w'.heap.size (some ⟨w.heap.size, 0, none⟩) 6 bey ∧ Below w.heap.size w w' :=
  ⟨_, bey_conv w, bey_rd w, (Below.refl w.heap.size w).alloc (Nat.le_refl _) _⟩
theorem wpl_appendPkN {P : Program} {ops : Array Oper} {rest : List Oper} {o : Oper} {a : Act} {Q : Exit → Act → World → Prop} {w : World} {t e : TypeId} (ht : P.underlying t = some (.slice e))
    (hinf : (P.info? e).map (fun i => (i.zero, i.size, i.bytes)) = some (some (.slice none 0 0), 1, 24)) (hgd : o.guard = none) (s x : Operand)
    (ho : o.op = .call { callee := .builtin .append, args := #[s, x], argTypes := #[t, t] })
    (base : Nat) (v : Value) (ps : List (List UInt8)) (hs : a.eval s = v) (hown : Pk w base e v ps) (A : Option Addr) (c n : Nat) (ys : List UInt8) (hn : ys.length = n) (hr : Rd w w.heap.size A c ys)
    (hf : 0 < ys.length → ∀ ad, A = some ad → some ad.block ≠ v.ownBlock)
    (hx : a.eval x = .slice (some ⟨w.heap.size, 0, none⟩) 1 1) (hl : ps.length ≤ 1000000) (hbase : base ≤ w.heap.size)
    (h : ∀ v' w', Pk w' base e v' (ps ++ [ys]) → Below base w w' → wpList P ops Q rest (a.put o.dst v') w') :
    wpList P ops Q (o :: rest) a (w.alloc (.cells #[.slice A n c] e)) := by
  subst hn
  exact wpl_appendPk ht hinf hgd s x ho base v ps hs hown A c ys hr hf hx hl hbase h
/-- A row of bytes that may be any. -/
structure Mob (W : World) (q len : Nat) : Prop where
  row : ∃ cs, W.heap[q]? = some (.cells cs 5 (0, 0)) ∧ ∀ j, j < len → ∃ z : Int, cs[j]? = some (.int .u8 z)
theorem Mob.set {W : World} {q len : Nat} (h : Mob W q len) (o : Nat) (z : Int) : Mob (W.setCell ⟨q, o, none⟩ (.int .u8 z)) q len := by
  obtain ⟨cs, h1, h2⟩ := h.row
  refine ⟨_, block_set h1 o (.int .u8 z), fun j hj => ?_⟩
  obtain ⟨y, hy⟩ := h2 j hj
  rw [Array.getElem?_setIfInBounds]
  have hlt : j < cs.size := (Array.getElem?_eq_some_iff.1 hy).1
  by_cases ho : o = j
  · rw [if_pos ho, if_pos (by omega)]; exact ⟨z, rfl⟩
  · rw [if_neg ho]; exact ⟨y, hy⟩
theorem Mob.cell {W : World} {q len : Nat} (h : Mob W q len) {j : Nat} (hj : j < len) : ∃ z : Int, W.cell? ⟨q, j, none⟩ = some (.int .u8 z) ∧ W.frozen? ⟨q, j, none⟩ = false := by
  obtain ⟨cs, h1, h2⟩ := h.row
  obtain ⟨z, hz⟩ := h2 j hj
  exact ⟨z, block_at h1 hz, block_free h1 j⟩
theorem Mob.ofRow {W : World} {q : Nat} {xs : List UInt8} (h : Row W q 5 xs) : Mob W q xs.length :=
  ⟨_, h, fun j hj => ⟨_, by simp [List.getElem?_eq_getElem hj]; rfl⟩⟩
end Go.Proofs.Ytjilbgdenolllaa
