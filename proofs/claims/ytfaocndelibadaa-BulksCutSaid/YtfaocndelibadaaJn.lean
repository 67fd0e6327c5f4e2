/-
  Helper text: joined: the bytes of packets in memory of their own; no statement is proved here.
-/
import Derived.Test.YtfaocndelibadaaPk
import Derived.Test.YtfaocndelibadaaShelf
import Derived.Test.YtfaocndelibadaaCut
namespace Go.Proofs.Ytfaocndelibadaa
open Go Go.RowKit

theorem getD_some {α : Type} {l : List α} {i : Nat} {x d : α} (h : l[i]? = some x) : l.getD i d = x := by simp [List.getD, h]
theorem holds_of_rd {w : World} {B : Nat} {A : Option Addr} {c : Nat} {xs : List UInt8} (h : Rd w B A c xs) : Lib.HoldsBytes w (.slice A xs.length c) xs := by
  refine ⟨A, c, rfl, fun e => ?_, fun a e i x hi => ?_⟩
  · subst e
    rcases Nat.eq_zero_or_pos xs.length with h0 | h0
    · exact List.eq_nil_of_length_eq_zero h0
    · obtain ⟨b, off, e, _⟩ := h.cells h0
      cases e
  · have hl := (List.getElem?_eq_some_iff.1 hi).1
    obtain ⟨b, off, e', _, hc⟩ := h.cells (by omega)
    rw [e] at e'; obtain rfl := Option.some.inj e'
    have := hc i hl
    rw [getD_some hi] at this
    simpa [Go.WideShapes.add_plain] using this
theorem parts_of {w : World} {B b off c : Nat} {ps : List (List UInt8)} (h : Rds w B (some ⟨b, off, none⟩) c ps) (h0 : 0 < ps.length) : ∃ vs, Lib.PartsAt w ⟨b, off, none⟩ vs ps := by
  have key : ∀ j, j < ps.length → ∃ v, w.cell? ⟨b, off + j, none⟩ = some v ∧ Lib.HoldsBytes w v (ps.getD j []) := fun j hj => by
    obtain ⟨b', off', A', c', e, _, h1, h2⟩ := h.at_ hj
    injection e with e; injection e with e1 e2
    subst e1; subst e2
    exact ⟨_, h1, holds_of_rd h2⟩
  refine ⟨(List.range ps.length).map fun j => (w.cell? ⟨b, off + j, none⟩).getD undef, by simp, fun i v hi => ?_, fun i v l hi hl => ?_⟩
  · rw [List.getElem?_map, Option.map_eq_some_iff] at hi
    obtain ⟨j, hj, rfl⟩ := hi
    obtain ⟨hji, rfl⟩ := List.getElem?_eq_some_iff.1 hj
    simp at hji
    obtain ⟨v, hv, _⟩ := key i hji
    simp [Go.WideShapes.add_plain, hv]
  · rw [List.getElem?_map, Option.map_eq_some_iff] at hi
    obtain ⟨j, hj, rfl⟩ := hi
    obtain ⟨hji, rfl⟩ := List.getElem?_eq_some_iff.1 hj
    simp at hji
    obtain ⟨v, hv, hh⟩ := key i hji
    rw [getD_some hl] at hh
    simpa [hv] using hh
theorem lens_flat (ls : List (List UInt8)) : Lib.lens ls = ls.flatten.length := by
  induction ls with
  | nil => rfl
  | cons a l ih => simp [Lib.lens] at ih ⊢
theorem join_nil : ∀ ls : List (List UInt8), Lib.join ls [] = ls.flatten := fun ls => by
  unfold Lib.join
  induction ls with
  | nil => rfl
  | cons a l ih => cases l <;> simp_all [List.intercalate, List.intersperse]

/-- A slice of the bytes in a block that lies at or beyond n₁. -/
def FreshB (n₁ : Nat) (w : World) (v : Value) (ps : List UInt8) : Prop := ∃ A, v = .slice A ps.length ps.length ∧ (0 < ps.length → ∃ b off, A = some ⟨b, off, none⟩ ∧ n₁ ≤ b ∧ ∀ j, j < ps.length → w.cell? ⟨b, off + j, none⟩ = some (bv (ps.getD j 0)))

theorem fresh_of {w : World} {n : Nat} {v : Value} {l : List UInt8} (h : Lib.FreshBytes n w v l) : ∃ A c, v = .slice A l.length c ∧ l.length ≤ c ∧ c ≤ 9223372036854775807 ∧ FreshB n w (.slice A l.length l.length) l := by
  obtain ⟨g, cap, zs, rfl, hg, hle, hcap, hz, hr, hb, hc, hf⟩ := h
  refine ⟨_, cap, rfl, hle, by simpa [maxLen] using hcap, _, rfl, fun hn => ⟨g, 0, rfl, hg, fun j hj => ?_⟩⟩
  rw [Nat.zero_add, hc j (by omega)]
  have hjz : j < zs.length := by omega
  have e : l.getD j 0 = UInt8.ofNat (zs.getD j 0).toNat := by
    have h1 : (Lib.bytesOf (zs.take l.length))[j]? = l[j]? := by rw [hb]
    rw [List.getD_eq_getElem?_getD, ← h1]
    simp [Lib.bytesOf, List.getElem?_take, hj, List.getD, List.getElem?_eq_getElem hjz]
  rw [e]
  have hb2 := hr (zs.getD j 0) (by rw [List.getD_eq_getElem?_getD, List.getElem?_eq_getElem hjz]; exact List.getElem_mem hjz)
  have e2 : ((UInt8.ofNat (zs.getD j 0).toNat).toNat : Int) = zs.getD j 0 := by
    rw [UInt8.toNat_ofNat']; omega
  show _ = some (Value.int .u8 _)
  rw [e2]

/-- What bytes.Join returns. -/
def ResJ (w : World) (xs : List UInt8) (e : Ending) (w' : World) : Prop := ∃ A c, e = .returned (.slice A xs.length c) ∧ xs.length ≤ c ∧ c ≤ 9223372036854775807 ∧ FreshB w.heap.size w' (.slice A xs.length xs.length) xs ∧ Below w.heap.size w w'
theorem join0 (w : World) (A : Option Addr) (c : Nat) : Calls Try.prog 40 #[.slice A 0 c, .slice none 0 0] w (ResJ w []) := by
  refine (Try.bytes_Join_none A c (.slice none 0 0) w).mono ?_
  rintro e w' ⟨h1, h2⟩
  exact ⟨_, 0, h1, Nat.le_refl _, by omega, ⟨_, rfl, fun h => absurd h (by simp)⟩, h2 ▸ (Below.refl _ w).alloc (Nat.le_refl _) _⟩
theorem join1 (w : World) (A : Option Addr) (c : Nat) (p : List UInt8) (h : Rds w w.heap.size A c [p]) (hl : p.length ≤ 1000000) : Calls Try.prog 40 #[.slice A 1 c, .slice none 0 0] w (ResJ w p) := by
  obtain ⟨b, off, A', c', e, _, h1, h2⟩ := h.at_ (k := 0) (by simp)
  subst e
  simp only [Nat.add_zero, List.getD_cons_zero] at h1 h2
  rcases Nat.eq_zero_or_pos p.length with h0 | h0
  · have e0 : p = [] := List.eq_nil_of_length_eq_zero h0
    subst e0
    refine (Try.bytes_Join_one_empty b off c A' c' (.slice none 0 0) w h1).mono ?_
    rintro e w' ⟨h3, h4⟩
    subst h4
    exact ⟨none, 0, h3, Nat.le_refl _, by omega, ⟨_, rfl, fun h => absurd h (by simp)⟩, Below.refl _ _⟩
  · obtain ⟨b1, o1, e1, _, hc1⟩ := h2.cells h0
    subst e1
    refine (Try.bytes_Join_one b off c ⟨b1, o1, none⟩ c' p (.slice none 0 0) w h1 (fun i x hi => ?_) h0 (by omega)).mono ?_
    · have hlt := (List.getElem?_eq_some_iff.1 hi).1
      have := hc1 i hlt
      rw [getD_some hi] at this
      simpa [Go.WideShapes.add_plain] using this
    · rintro e w' ⟨v', h3, hf, hb⟩
      obtain ⟨A2, c2, e2, k1, k2, k3⟩ := fresh_of hf
      subst e2
      exact ⟨A2, c2, h3, k1, k2, k3, hb⟩
theorem join2 (w : World) (A : Option Addr) (c : Nat) (ps : List (List UInt8)) (h2 : 2 ≤ ps.length) (h : Rds w w.heap.size A c ps) (hn : ps.length ≤ 1000000) (hl : ps.flatten.length ≤ 1000000) : Calls Try.prog 40 #[.slice A ps.length c, .slice none 0 0] w (ResJ w ps.flatten) := by
  obtain ⟨b, off, A', c', e, _, _, _⟩ := h.at_ (k := 0) (by omega)
  subst e
  obtain ⟨vs, hp⟩ := parts_of h (by omega)
  refine (Try.bytes_Join_many b off _ c vs ps (.slice none 0 0) [] w rfl h2 hp h.le ⟨none, 0, rfl, fun _ => rfl, fun a e => by cases e⟩ (by omega) (by rw [lens_flat]; simp only [List.length_nil, Nat.zero_mul]; omega)).mono ?_
  rintro e w' ⟨v', h3, hf, hb⟩
  rw [join_nil] at hf
  obtain ⟨A2, c2, e2, k1, k2, k3⟩ := fresh_of hf
  subst e2
  exact ⟨A2, c2, h3, k1, k2, k3, hb⟩
theorem join_any (w : World) (A : Option Addr) (c : Nat) (ps : List (List UInt8)) (h : Rds w w.heap.size A c ps) (hn : ps.length ≤ 1000000) (hl : ps.flatten.length ≤ 1000000) : Calls Try.prog 40 #[.slice A ps.length c, .slice none 0 0] w (ResJ w ps.flatten) := by
  rcases Nat.lt_or_ge ps.length 2 with h2 | h2
  · cases ps with
    | nil => exact join0 w A c
    | cons p r =>
      have : r = [] := List.eq_nil_of_length_eq_zero (by simp at h2; omega)
      subst this
      have hfl : [p].flatten = p := by simp
      rw [hfl] at hl ⊢
      exact join1 w A c p h hl
  · exact join2 w A c ps h2 h hn hl

set_option maxHeartbeats 800000 in
/-- joined. -/
theorem joined_any (w : World) (A : Option Addr) (c : Nat) (ps : List (List UInt8)) (h : Rds w w.heap.size A c ps) (hn : ps.length ≤ 1000000) (hl : ps.flatten.length ≤ 1000000) :
    Calls Try.prog 26 #[.slice A ps.length c] w fun e w' => ∃ v, e = .returned v ∧ FreshB w.heap.size w' v ps.flatten ∧ Below w.heap.size w w' := by
  have hj := Lib.hid (join_any w A c ps h hn hl)
  clear h hl
  generalize ps.flatten = xs at hj ⊢
  generalize ps.length = n at hj ⊢
  go_enter Try.func26, Try.ntmps26
  go_wp2_with (first
    | (go_at_call 40; refine (hj.out).mono ?_; rintro e w1 ⟨A1, c1, rfl, hle, hcap, hba, hb⟩; have hba' := Lib.hid hba; have hb' := Lib.hid hb; clear hba hb)
    | (go_at_call 37; refine (bclip_any _ _ _ _ hle hcap).mono ?_; rintro e w2 ⟨rfl, rfl⟩))
  go_ret
  exact ⟨_, rfl, hba'.out, hb'.out⟩
end Go.Proofs.Ytfaocndelibadaa
