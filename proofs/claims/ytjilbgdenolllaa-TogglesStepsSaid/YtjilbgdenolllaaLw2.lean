/-
  Helper text: lists of packets that the statements themselves build; no statement is proved here.
-/
import Derived.Test.YtjilbgdenolllaaLw1
namespace Go.Proofs.Ytjilbgdenolllaa
open Go Go.RowKit

theorem Rd.grownNe {w w' : World} {c : Nat} {A : Option Addr} {xs : List UInt8} {row : Option Nat} (h : Rd w w.heap.size A c xs) (hg : w.grownBy w' row) (hne : 0 < xs.length → ∀ ad, A = some ad → some ad.block ≠ row) : Rd w' w'.heap.size A c xs :=
  ⟨h.le, h.cap, fun hn => by
    obtain ⟨b, off, e, hb, hc⟩ := h.cells hn
    exact ⟨b, off, e, Nat.lt_of_lt_of_le hb hg.size, fun j hj => (World.cell?_of_block (hg.block b hb (hne hn _ e))).trans (hc j hj)⟩⟩

/-- The slice v of packets that the call itself made holds the packets ps. -/
def Pk (w : World) (base e : Nat) (v : Value) (ps : List (List UInt8)) : Prop :=
  ∃ vs, w.ownsRow base e 1 v ps.length vs ∧ ∀ j, j < ps.length → ∃ A c, vs[j]? = some (.slice A (ps.getD j []).length c) ∧ Rd w w.heap.size A c (ps.getD j []) ∧ (0 < (ps.getD j []).length → ∀ ad, A = some ad → some ad.block ≠ v.ownBlock)
theorem Pk.nil (w : World) (base e : Nat) : Pk w base e (.slice none 0 0) [] := ⟨[], World.ownsRow_nil _ _ _ _, fun j hj => absurd hj (by simp)⟩
theorem Pk.below {w w' : World} {base e : Nat} {v : Value} {ps : List (List UInt8)} (h : Pk w base e v ps) (hb : Below w.heap.size w w') : Pk w' base e v ps := by
  obtain ⟨vs, ho, hv⟩ := h
  refine ⟨vs, ho.kept (grown_of_below hb none) (by cases hv : v.ownBlock <;> simp), fun j hj => ?_⟩
  obtain ⟨A, c, h1, h2, h3⟩ := hv j hj
  exact ⟨A, c, h1, h2.belowTop hb, h3⟩
theorem Pk.lt {w : World} {base e : Nat} {v : Value} {ps : List (List UInt8)} (h : Pk w base e v ps) : ∀ k, v.ownBlock = some k → base ≤ k ∧ k < w.heap.size := by
  obtain ⟨vs, ho, _⟩ := h
  exact ho.lt

/-- append of one packet. -/
theorem wpl_appendPk {P : Program} {ops : Array Oper} {rest : List Oper} {o : Oper} {a : Act} {Q : Exit → Act → World → Prop} {w : World} {t e : TypeId} (ht : P.underlying t = some (.slice e))
    (hinf : (P.info? e).map (fun i => (i.zero, i.size, i.bytes)) = some (some (.slice none 0 0), 1, 24)) (hgd : o.guard = none) (s x : Operand)
    (ho : o.op = .call { callee := .builtin .append, args := #[s, x], argTypes := #[t, t] })
    (base : Nat) (v : Value) (ps : List (List UInt8)) (hs : a.eval s = v) (hown : Pk w base e v ps) (A : Option Addr) (c : Nat) (ys : List UInt8) (hr : Rd w w.heap.size A c ys)
    (hf : 0 < ys.length → ∀ ad, A = some ad → some ad.block ≠ v.ownBlock)
    (hx : a.eval x = .slice (some ⟨w.heap.size, 0, none⟩) 1 1) (hl : ps.length ≤ 1000000) (hbase : base ≤ w.heap.size)
    (h : ∀ v' w', Pk w' base e v' (ps ++ [ys]) → Below base w w' → wpList P ops Q rest (a.put o.dst v') w') :
    wpList P ops Q (o :: rest) a (w.alloc (.cells #[.slice A ys.length c] e)) := by
  obtain ⟨i0, hi, hz0, hz1, hz2⟩ := info_parts hinf
  obtain ⟨vs, hown, hv⟩ := hown
  refine wpList_append_own_at _ hgd s x t ho base e i0 (.slice none 0 0) 1 24 ht hi hz0 hz1 hz2 rfl (by decide) v ps.length vs hs (hown.alloc _) ⟨w.heap.size, 0, none⟩ 1 1 [.slice A ys.length c] hx rfl (cell_one_new _ _ _)
    (fun z hz => by simp at hz; subst hz; rfl) (by unfold maxLen; omega) (by omega) (by simp; omega) fun v' w' h1 h2 _ h4 => h v' w' ?_ ?_
  · have hsz : (w.alloc (.cells #[.slice A ys.length c] e)).heap.size = w.heap.size + 1 := by simp
    have hne' : ∀ (ad : Addr), ad.block < w.heap.size → some ad.block ≠ v.ownBlock → some ad.block ≠ v'.ownBlock := by
      intro ad hlt hne
      rcases h4 with h4 | h4
      · rw [h4]; exact hne
      · rw [h4, hsz]
        intro e
        have := Option.some.inj e
        omega
    have hkeep : ∀ {A' : Option Addr} {c' : Nat} {zs : List UInt8}, Rd w w.heap.size A' c' zs → (0 < zs.length → ∀ ad, A' = some ad → some ad.block ≠ v.ownBlock) → Rd w' w'.heap.size A' c' zs ∧ (0 < zs.length → ∀ ad, A' = some ad → some ad.block ≠ v'.ownBlock) := fun {A'} {c'} {zs} hr' hn' =>
      ⟨((hr'.alloc (Nat.le_refl _) (.cells #[.slice A ys.length c] e)).more (by rw [hsz]; omega)).grownNe h2 hn', fun h0 ad e => by
        obtain ⟨b, off, e2, hb, _⟩ := hr'.cells h0
        have e3 := e2.symm.trans e
        obtain rfl := Option.some.inj e3
        exact hne' _ hb (hn' h0 _ e)⟩
    have hvl : vs.length = ps.length := by have := hown.1; omega
    refine ⟨vs ++ [.slice A ys.length c], by simpa using h1, fun j hj => ?_⟩
    rw [List.length_append, List.length_cons, List.length_nil] at hj
    rcases Nat.lt_or_ge j ps.length with hjl | hjl
    · obtain ⟨A', c', e1, e2, e3⟩ := hv j hjl
      obtain ⟨k1, k2⟩ := hkeep e2 e3
      have hg : (ps ++ [ys]).getD j [] = ps.getD j [] := by simp [List.getD, List.getElem?_append, hjl]
      rw [hg]
      exact ⟨A', c', by rw [List.getElem?_append, if_pos (by omega)]; exact e1, k1, k2⟩
    · have hj2 : j = ps.length := by omega
      subst hj2
      obtain ⟨k1, k2⟩ := hkeep hr hf
      have hg : (ps ++ [ys]).getD ps.length [] = ys := by simp [List.getD]
      rw [hg]
      exact ⟨A, c, by rw [List.getElem?_append, if_neg (by omega), hvl]; simp, k1, k2⟩
  · exact ((Below.refl base w).alloc hbase _).grown h2 (by simp; omega) fun k hk => (hown.lt k hk).1

theorem Pk.rds {w : World} {base e : Nat} {v : Value} {ps : List (List UInt8)} (h : Pk w base e v ps) : ∃ A c, v = .slice A ps.length c ∧ Rds w w.heap.size A c ps := by
  obtain ⟨vs, ⟨_, h2⟩, hv⟩ := h
  rcases h2 with ⟨rfl, hn⟩ | ⟨g, cap, cur, rfl, _, hh, hle, hm, hcs, ht⟩
  · exact ⟨none, 0, by rw [hn], by rw [List.eq_nil_of_length_eq_zero hn]; exact ⟨Nat.le_refl _, by omega, fun h => absurd h (by simp)⟩⟩
  · refine ⟨_, _, rfl, hle, by simpa [maxLen] using hm, fun _ => ⟨g, 0, rfl, (Array.getElem?_eq_some_iff.1 hh).1, fun j hj => ?_⟩⟩
    obtain ⟨A', c', e1, e2, _⟩ := hv j hj
    refine ⟨A', c', ?_, e2⟩
    rw [cell_of_row w g (0 + j) cur e (0, 0) hh]
    rw [← ht, List.getElem?_take, if_pos (by omega)] at e1
    rw [Nat.zero_add, ← Array.getElem?_toList, e1]


theorem Pk.shape {w : World} {base e : Nat} {v : Value} {ps : List (List UInt8)} (h : Pk w base e v ps) : ∃ A c, v = .slice A ps.length c := by
  obtain ⟨A, c, e, _⟩ := h.rds
  exact ⟨A, c, e⟩

theorem clone_ne {w w1 : World} {e : Nat} {A : Option Addr} {c : Nat} {xs : List UInt8} {u : Option Nat} (h : w1.ownsRow w.heap.size e 1 (.slice A xs.length c) xs.length (xs.map bv)) {base : Nat} (hlt : ∀ k, u = some k → base ≤ k ∧ k < w.heap.size) :
    0 < xs.length → ∀ ad, A = some ad → some ad.block ≠ u := fun _ ad ha e => by
  subst ha
  have h1 := (h.lt ad.block rfl).1
  have h2 := (hlt ad.block e.symm).2
  omega

set_option maxHeartbeats 1600000 in
set_option maxRecDepth 100000 in
theorem clone_any (w : World) (A : Option Addr) (c : Nat) (ps : List (List UInt8)) (h : Rds w w.heap.size A c ps) (hs : Sml ps) :
    Calls Try.prog 9 #[.slice A ps.length c] w fun e w' => ∃ v, e = .returned v ∧ Pk w' w.heap.size 26 v ps ∧ Below w.heap.size w w' := by
  have hl := hs.1
  go_enter Try.func9, Try.ntmps9
  go_wp2
  go_loopg [3, 4] ps.length (fun g v i wr => ∃ k : Nat, k + g = ps.length ∧ i = .int .i64 k ∧ Pk wr w.heap.size 26 v (ps.take k) ∧ Below w.heap.size w wr)
  case atStart => exact ⟨0, by omega, rfl, Pk.nil _ _ _, Below.refl _ _⟩
  case round =>
    obtain ⟨k, hkg, rfl, hpk, hb⟩ := hrel
    by_cases hk : k < ps.length
    · obtain ⟨b, off, A1, c1, rfl, hlt, hc1, hr1⟩ := (h.below hb).at_ hk
      have hx := hs.at_ k
      have htk : ps.take (k + 1) = ps.take k ++ [ps.getD k []] := by
        rw [List.take_add_one, List.getElem?_eq_getElem hk]
        simp [List.getD, List.getElem?_eq_getElem hk]
      have htl : (ps.take k).length ≤ 1000000 := by rw [List.length_take]; omega
      generalize ps.getD k [] = xs at hc1 hr1 hx htk
      obtain ⟨qs, hq⟩ : ∃ qs, ps.take k = qs := ⟨_, rfl⟩
      rw [hq] at hpk htk htl
      clear hq
      have Htk := Lib.hid htk
      clear htk
      have hki : (k : Int) < (ps.length : Int) := by omega
      have hown0 := own_built wr 5 [] (by simp)
      have hb0 := (Below.refl wr.heap.size wr).alloc (Nat.le_refl _) (.cells ([].map bv).toArray 5)
      have hr1' := hr1.below (hb0.mono hb.size)
      obtain ⟨Av, cv, rfl⟩ := hpk.shape
      have Hpl := Lib.hid hpk.lt
      have hbw : b < wr.heap.size := World.block_lt_of_cell? _ _ hc1
      go_wp2_with (first | (at_builtin; refine wpl_appendN Try.underlying26 Try.info5 rfl (.tmp 12) (.tmp 16) rfl wr.heap.size _ [] rfl hown0 w.heap.size c1 A1 xs hr1' rfl (by simp; omega) hb0.size ?_; intro v1 w1 hown1 hb1; rw [List.nil_append] at hown1; obtain ⟨A5, c5, e5, hr5⟩ := Rd.of_own hown1; subst e5; have hne5 := Lib.hid (clone_ne hown1 Hpl.out); have hpk5 := hpk.below (hb0.trans hb1); have hb5 := hb.trans ((hb0.trans hb1).mono hb.size)) | (at_builtin; refine wpl_appendPk Try.underlying22 Try.info26 rfl (.tmp 11) (.tmp 18) rfl w.heap.size _ qs rfl hpk5 A5 c5 xs hr5 hne5.out rfl htl hb5.size ?_; intro v2 w2 hpk2 hb2))
      go_roundg (gk - 1)
      case measure => omega
      case rel => exact ⟨k + 1, by omega, by go_num, by rw [Htk.out]; exact hpk2, hb5.trans hb2⟩
    · obtain rfl : k = ps.length := by omega
      rw [List.take_length] at hpk
      obtain ⟨Av, cv, rfl⟩ := hpk.shape
      go_wp2
      go_ret
      exact ⟨_, rfl, hpk, hb⟩

end Go.Proofs.Ytjilbgdenolllaa
