/-
  Helper text: lists of packets in memory, and the contract of Listen; no statement is proved here.
-/
import Derived.Test.YtbeghnpdmcmdmaaDoorSend
import Derived.Deep.LoopGhost
namespace Go.Proofs.YtbeghnpdmcmdmaaDoor
open Go Go.RowKit

theorem Rd.grownNe {w w' : World} {c : Nat} {A : Option Addr} {xs : List UInt8} {row : Option Nat} (h : Rd w w.heap.size A c xs) (hg : w.grownBy w' row) (hne : 0 < xs.length → ∀ ad, A = some ad → some ad.block ≠ row) : Rd w' w'.heap.size A c xs :=
  ⟨h.le, h.cap, fun hn => by
    obtain ⟨b, off, e, hb, hc⟩ := h.cells hn
    exact ⟨b, off, e, Nat.lt_of_lt_of_le hb hg.size, fun j hj => (World.cell?_of_block (hg.block b hb (hne hn _ e))).trans (hc j hj)⟩⟩

/-- The slice v of packets that the call itself made holds the packets ps. -/
def Pk (w : World) (base e : Nat) (v : Value) (ps : List (List UInt8)) : Prop :=
  ∃ vs, w.ownsRow base e 1 v ps.length vs ∧ ∀ j, j < ps.length → ∃ A c, vs[j]? = some (.slice A (ps.getD j []).length c) ∧ Rd w w.heap.size A c (ps.getD j []) ∧ (0 < (ps.getD j []).length → ∀ ad, A = some ad → some ad.block ≠ v.ownBlock)
theorem Pk.nil (w : World) (base e : Nat) : Pk w base e (.slice none 0 0) [] := ⟨[], World.ownsRow_nil _ _ _ _, fun j hj => absurd hj (by simp)⟩
theorem grown_of_below {w w' : World} (h : Below w.heap.size w w') : w.grownBy w' none := ⟨h.os, h.tape, h.output, h.size, fun k hk _ => h.block k hk⟩
theorem Pk.below {w w' : World} {base e : Nat} {v : Value} {ps : List (List UInt8)} (h : Pk w base e v ps) (hb : Below w.heap.size w w') : Pk w' base e v ps := by
  obtain ⟨vs, ho, hv⟩ := h
  refine ⟨vs, ho.kept (grown_of_below hb) (by cases hv : v.ownBlock <;> simp), fun j hj => ?_⟩
  obtain ⟨A, c, h1, h2, h3⟩ := hv j hj
  exact ⟨A, c, h1, h2.belowTop hb, h3⟩
theorem Pk.lt {w : World} {base e : Nat} {v : Value} {ps : List (List UInt8)} (h : Pk w base e v ps) : ∀ k, v.ownBlock = some k → base ≤ k ∧ k < w.heap.size := by
  obtain ⟨vs, ho, _⟩ := h
  exact ho.lt

/-- append of one packet. -/
theorem wpl_appendPk {P : Program} {ops : Array Oper} {rest : List Oper} {o : Oper} {a : Act} {Q : Exit → Act → World → Prop} {w : World} {t e : TypeId} (ht : P.underlying t = some (.slice e))
    (hinf : (P.info? e).map (fun i => (i.zero, i.size, i.bytes)) = some (some (.slice none 0 0), 1, 24)) (hgd : o.guard = none) (s x : Operand)
    (ho : o.op = .call { callee := .builtin .append, args := #[s, x], argTypes := #[t, t] })
    (base : Nat) (v : Value) (ps : List (List UInt8)) (hs : a.eval s = v) (hown : Pk w base e v ps) (A : Option Addr) (c : Nat) (ys : List UInt8) (hr : Rd w w.heap.size A c ys)
    (hf : 0 < ys.length → ∀ ad, A = some ad → some ad.block ≠ v.ownBlock)
    (hx : a.eval x = .slice (some ⟨w.heap.size, 0, none⟩) 1 1) (hl : ps.length ≤ 1000000) (hbase : base ≤ w.heap.size)
    (h : ∀ v' w', Pk w' base e v' (ps ++ [ys]) → Below base w w' → wpList P ops Q rest (a.put o.dst v') w') :
    wpList P ops Q (o :: rest) a (w.alloc (.cells #[.slice A ys.length c] e)) := by
  obtain ⟨i0, hi, hz0, hz1, hz2⟩ := info_parts hinf
  obtain ⟨vs, hown, hv⟩ := hown
  refine wpList_append_own_at _ hgd s x t ho base e i0 (.slice none 0 0) 1 24 ht hi hz0 hz1 hz2 rfl (by decide) v ps.length vs hs (hown.alloc _) ⟨w.heap.size, 0, none⟩ 1 1 [.slice A ys.length c] hx rfl (cell_one_new _ _ _)
    (fun z hz => by simp at hz; subst hz; rfl) (by unfold maxLen; omega) (by omega) (by simp; omega) fun v' w' h1 h2 _ h4 => h v' w' ?_ ?_
  · have hsz : (w.alloc (.cells #[.slice A ys.length c] e)).heap.size = w.heap.size + 1 := by simp
    have hne' : ∀ (ad : Addr), ad.block < w.heap.size → some ad.block ≠ v.ownBlock → some ad.block ≠ v'.ownBlock := by
      intro ad hlt hne
      rcases h4 with h4 | h4
      · rw [h4]; exact hne
      · rw [h4, hsz]
        intro e
        have := Option.some.inj e
        omega
    have hkeep : ∀ {A' : Option Addr} {c' : Nat} {zs : List UInt8}, Rd w w.heap.size A' c' zs → (0 < zs.length → ∀ ad, A' = some ad → some ad.block ≠ v.ownBlock) → Rd w' w'.heap.size A' c' zs ∧ (0 < zs.length → ∀ ad, A' = some ad → some ad.block ≠ v'.ownBlock) := fun {A'} {c'} {zs} hr' hn' =>
      ⟨((hr'.alloc (Nat.le_refl _) (.cells #[.slice A ys.length c] e)).more (by rw [hsz]; omega)).grownNe h2 hn', fun h0 ad e => by
        obtain ⟨b, off, e2, hb, _⟩ := hr'.cells h0
        have e3 := e2.symm.trans e
        obtain rfl := Option.some.inj e3
        exact hne' _ hb (hn' h0 _ e)⟩
    have hvl : vs.length = ps.length := by have := hown.1; omega
    refine ⟨vs ++ [.slice A ys.length c], by simpa using h1, fun j hj => ?_⟩
    rw [List.length_append, List.length_cons, List.length_nil] at hj
    rcases Nat.lt_or_ge j ps.length with hjl | hjl
    · obtain ⟨A', c', e1, e2, e3⟩ := hv j hjl
      obtain ⟨k1, k2⟩ := hkeep e2 e3
      have hg : (ps ++ [ys]).getD j [] = ps.getD j [] := by simp [List.getD, List.getElem?_append, hjl]
      rw [hg]
      exact ⟨A', c', by rw [List.getElem?_append, if_pos (by omega)]; exact e1, k1, k2⟩
    · have hj2 : j = ps.length := by omega
      subst hj2
      obtain ⟨k1, k2⟩ := hkeep hr hf
      have hg : (ps ++ [ys]).getD ps.length [] = ys := by simp [List.getD]
      rw [hg]
      exact ⟨A, c, by rw [List.getElem?_append, if_neg (by omega), hvl]; simp, k1, k2⟩
  · exact ((Below.refl base w).alloc hbase _).grown h2 (by simp; omega) fun k hk => (hown.lt k hk).1

theorem Tryd.info22 : (Tryd.prog.info? 22).map (fun i => (i.zero, i.size, i.bytes)) = some (some (.slice none 0 0), 1, 24) := by kernel_rfl

/-- A slice of slices that reads as ps. -/
structure Rds (w : World) (B : Nat) (A : Option Addr) (c : Nat) (ps : List (List UInt8)) : Prop where
  le : ps.length ≤ c
  cap : c ≤ 9223372036854775807
  cells : 0 < ps.length → ∃ b off, A = some ⟨b, off, none⟩ ∧ b < B ∧ ∀ j, j < ps.length → ∃ A' c', w.cell? ⟨b, off + j, none⟩ = some (.slice A' (ps.getD j []).length c') ∧ Rd w B A' c' (ps.getD j [])
theorem Rds.at_ {w : World} {B : Nat} {A : Option Addr} {c : Nat} {ps : List (List UInt8)} (h : Rds w B A c ps) {k : Nat} (hk : k < ps.length) :
    ∃ b off A' c', A = some ⟨b, off, none⟩ ∧ b < B ∧ w.cell? ⟨b, off + k, none⟩ = some (.slice A' (ps.getD k []).length c') ∧ Rd w B A' c' (ps.getD k []) := by
  obtain ⟨b, off, e, hb, hc⟩ := h.cells (by omega)
  obtain ⟨A', c', h1, h2⟩ := hc k hk
  exact ⟨b, off, A', c', e, hb, h1, h2⟩
theorem Rds.below {w w' : World} {B : Nat} {A : Option Addr} {c : Nat} {ps : List (List UInt8)} (h : Rds w B A c ps) (hb : Below B w w') : Rds w' B A c ps :=
  ⟨h.le, h.cap, fun hn => by
    obtain ⟨b, off, e, hlt, hc⟩ := h.cells hn
    refine ⟨b, off, e, hlt, fun j hj => ?_⟩
    obtain ⟨A', c', h1, h2⟩ := hc j hj
    exact ⟨A', c', (hb.cell hlt).trans h1, h2.below hb⟩⟩
theorem Rds.more {w : World} {B B' : Nat} {A : Option Addr} {c : Nat} {ps : List (List UInt8)} (h : Rds w B A c ps) (hB : B ≤ B') : Rds w B' A c ps :=
  ⟨h.le, h.cap, fun hn => by
    obtain ⟨b, off, e, hlt, hc⟩ := h.cells hn
    refine ⟨b, off, e, by omega, fun j hj => ?_⟩
    obtain ⟨A', c', h1, h2⟩ := hc j hj
    exact ⟨A', c', h1, h2.more hB⟩⟩
theorem Rds.clip {w : World} {B : Nat} {A : Option Addr} {c : Nat} {ps : List (List UInt8)} (h : Rds w B A c ps) : Rds w B A ps.length ps := ⟨Nat.le_refl _, by have := h.le; have := h.cap; omega, h.cells⟩
theorem Pk.rds {w : World} {base e : Nat} {v : Value} {ps : List (List UInt8)} (h : Pk w base e v ps) : ∃ A c, v = .slice A ps.length c ∧ Rds w w.heap.size A c ps := by
  obtain ⟨vs, ⟨_, h2⟩, hv⟩ := h
  rcases h2 with ⟨rfl, hn⟩ | ⟨g, cap, cur, rfl, _, hh, hle, hm, hcs, ht⟩
  · exact ⟨none, 0, by rw [hn], by rw [List.eq_nil_of_length_eq_zero hn]; exact ⟨Nat.le_refl _, by omega, fun h => absurd h (by simp)⟩⟩
  · refine ⟨_, _, rfl, hle, by simpa [maxLen] using hm, fun _ => ⟨g, 0, rfl, (Array.getElem?_eq_some_iff.1 hh).1, fun j hj => ?_⟩⟩
    obtain ⟨A', c', e1, e2, _⟩ := hv j hj
    refine ⟨A', c', ?_, e2⟩
    rw [cell_of_row w g (0 + j) cur e (0, 0) hh]
    rw [← ht, List.getElem?_take, if_pos (by omega)] at e1
    rw [Nat.zero_add, ← Array.getElem?_toList, e1]

theorem clips_any (w : World) (A : Option Addr) (n c : Nat) (hle : n ≤ c) (hcap : c ≤ 9223372036854775807) : Calls Tryd.prog 45 #[.slice A n c] w fun e w' => e = .returned (.slice A n n) ∧ w = w' := by
  go_enter Tryd.func45, Tryd.ntmps45
  go_wp2
  go_ret
  exact ⟨rfl, rfl⟩

/-- The listener, one state on. -/
def stepLs (s : Option (List UInt8) × List (List UInt8) × Nat) (x : UInt8) : Option (List UInt8) × List (List UInt8) × Nat :=
  match s with
  | (none, ps, d) => if x = 0 then (none, ps, d) else (some [x], ps, d)
  | (some p, ps, d) => if x = 0 ∧ p.getLast? = some 2 then (if (recvL (p ++ [x])).2 = 0 then (none, ps ++ [(recvL (p ++ [x])).1], d) else (none, ps, d + 1)) else (some (p ++ [x]), ps, d)
def lsS (xs : List UInt8) : Option (List UInt8) × List (List UInt8) × Nat := xs.foldl stepLs (none, [], 0)
theorem lsS_snoc (xs : List UInt8) {k : Nat} (h : k < xs.length) : lsS (xs.take (k + 1)) = stepLs (lsS (xs.take k)) (xs.getD k 0) := fold_snoc _ _ xs h
def listenL (xs : List UInt8) : List (List UInt8) × Nat := ((lsS xs).2.1, if (lsS xs).1.isSome then (lsS xs).2.2 + 1 else (lsS xs).2.2)
theorem seg_snoc (xs : List UInt8) {f k : Nat} (h : k < xs.length) (hf : f ≤ k) : (xs.take (k + 1)).drop f = (xs.take k).drop f ++ [xs.getD k 0] := by
  rw [take_snoc xs h, List.drop_append_of_le_length (by rw [List.length_take]; omega)]
theorem seg_last (xs : List UInt8) {f k : Nat} (h : k ≤ xs.length) (hf : f < k) : ((xs.take k).drop f).getLast? = some (xs.getD (k - 1) 0) := by
  rw [List.getLast?_eq_getElem?, List.getElem?_drop, List.getElem?_take, List.length_drop, List.length_take]
  have h1 : f + (min k xs.length - f - 1) = k - 1 := by omega
  rw [h1, if_pos (by omega), List.getElem?_eq_getElem (by omega)]
  simp [List.getD, List.getElem?_eq_getElem (show k - 1 < xs.length by omega)]
theorem seg_len (xs : List UInt8) {f k : Nat} (h : k ≤ xs.length) : ((xs.take k).drop f).length = k - f := by
  rw [List.length_drop, List.length_take]; omega
theorem lsS_more (xs : List UInt8) {k : Nat} {p : List UInt8} {ps : List (List UInt8)} {d : Nat} (h : k < xs.length) (hs : lsS (xs.take k) = (some p, ps, d)) (hx : ¬ (xs.getD k 0 = 0 ∧ p.getLast? = some 2)) :
    lsS (xs.take (k + 1)) = (some (p ++ [xs.getD k 0]), ps, d) := by
  rw [lsS_snoc xs h, hs]
  simp only [stepLs]
  rw [if_neg hx]

/-- Packets and a number are returned. -/
def ResL (w : World) (ps : List (List UInt8)) (d : Nat) (e : Ending) (w' : World) : Prop :=
  ∃ A c, e = .returned (.tuple #[.slice A ps.length c, .int .i64 ((d : Nat) : Int)]) ∧ Rds w' w'.heap.size A c ps ∧ Below w.heap.size w w'

/-- What holds at the head of the outer loop of Listen. -/
def LsRel (xs : List UInt8) (w wo : World) (v : Value) (ps : List (List UInt8)) (d f : Nat) : Prop :=
  lsS (xs.take f) = (none, ps, d) ∧ Pk wo w.heap.size 22 v ps ∧ Below w.heap.size w wo ∧ ps.length ≤ f ∧ d ≤ f

set_option maxHeartbeats 3200000 in
set_option maxRecDepth 100000 in
theorem listen_any (w : World) (hL : Laid w) (A : Option Addr) (c : Nat) (xs : List UInt8) (h : Rd w w.heap.size A c xs) (hl : xs.length ≤ 100000) :
    Calls Tryd.prog 30 #[.slice A xs.length c] w (ResL w (listenL xs).1 (listenL xs).2) := by
  have hle := h.le
  have hcap := h.cap
  go_enter Tryd.func30, Tryd.ntmps30
  go_wp2
  go_step3
  go_wp2
  go_step3
  go_wp2
  go_loopg [2, 3, 4] xs.length (fun g v d f wo => ∃ (fn : Nat) (ps : List (List UInt8)) (dn : Nat), fn + g = xs.length ∧ f = .int .i64 fn ∧ d = .int .i64 dn ∧ LsRel xs w wo v ps dn fn)
  case atStart => exact ⟨0, [], 0, by omega, rfl, rfl, rfl, Pk.nil _ _ _, Below.refl _ _, by simp, by omega⟩
  case round =>
    obtain ⟨fn, ps, dn, hfg, rfl, rfl, hls, hpk, hb, hpl, hdl⟩ := hrel
    have Hls := Lib.hid hls
    clear hls
    by_cases hlt : fn < xs.length
    · obtain ⟨b, off, rfl, hbB, hcell⟩ := (h.below hb).at_ hlt
      by_cases hx : xs.getD fn 0 = 0
      · have hn : lsS (xs.take (fn + 1)) = (none, ps, dn) := by
          rw [lsS_snoc xs hlt, Hls.out]
          simp only [stepLs]
          rw [if_pos hx]
        rw [hx] at hcell
        have Hn := Lib.hid hn
        clear hn hx
        go_wp2
        go_roundg (gk - 1)
        case measure => omega
        case rel => exact ⟨fn + 1, ps, dn, by omega, by go_num, rfl, Hn.out, hpk, hb, by omega, by omega⟩
      · have hn : lsS (xs.take (fn + 1)) = (some ((xs.take (fn + 1)).drop fn), ps, dn) := by
          rw [lsS_snoc xs hlt, Hls.out, seg_snoc xs hlt (Nat.le_refl _)]
          simp only [stepLs]
          rw [if_neg hx]
          simp
        have t0 : (((xs.getD fn 0).toNat : Int) == 0) = false := by
          rw [beq_eq_false_iff_ne]
          exact fun h => hx ((u8_eq_zero _).2 h)
        have Hn := Lib.hid hn
        clear hn hx
        generalize xs.getD fn 0 = x0 at hcell t0
        obtain ⟨wo, rfl⟩ : ∃ wo : World, wo = wr := ⟨_, rfl⟩
        obtain ⟨g1, rfl⟩ : ∃ g1 : Nat, g1 = gk := ⟨_, rfl⟩
        obtain ⟨v1, rfl⟩ : ∃ v1 : Value, v1 = u2 := ⟨_, rfl⟩
        go_wp2
        go_loopg [2, 3, 4, 5] (xs.length - fn - 1) (fun g v d f i wi => ∃ k : Nat, k + g = xs.length ∧ fn < k ∧ i = .int .i64 k ∧ v1 = v ∧ d = .int .i64 dn ∧ f = .int .i64 fn ∧ Hid (lsS (xs.take k) = (some ((xs.take k).drop fn), ps, dn)) ∧ wo = wi)
        case atStart => exact ⟨fn + 1, by omega, by omega, by go_num, rfl, rfl, rfl, Hn.out, rfl⟩
        case round =>
          obtain ⟨k, hkg, hfk, rfl, rfl, rfl, rfl, Hk, rfl⟩ := hrel
          clear Hn Hls hcell
          by_cases hkl : k < xs.length
          · obtain ⟨b', off', hbo, hbB', hcell⟩ := (h.below hb).at_ hkl
            obtain ⟨rfl, rfl⟩ : b = b' ∧ off = off' := by simpa using hbo
            obtain ⟨b', off', hbo, _, hcelly⟩ := (h.below hb).at_ (k := k - 1) (by omega)
            obtain ⟨rfl, rfl⟩ : b = b' ∧ off = off' := by simpa using hbo
            clear hbo
            have hmore := lsS_more xs hkl Hk.out
            have hsn := lsS_snoc xs hkl
            have hlast := seg_last xs (f := fn) (k := k) (by omega) hfk
            have hseg := seg_snoc xs (f := fn) hkl (by omega)
            rw [hlast] at hmore
            rw [Hk.out] at hsn
            simp only [stepLs] at hsn
            rw [hlast] at hsn
            rw [← hseg] at hsn hmore
            have hsl := seg_len xs (f := fn) (k := k + 1) (by omega)
            have Hmore := Lib.hid hmore
            have Hsn := Lib.hid hsn
            clear hmore hsn hlast hseg
            by_cases hx : xs.getD k 0 = 0
            · by_cases hy : xs.getD (k - 1) 0 = 2
              · have hs2 := Hsn.out
                rw [if_pos ⟨hx, by rw [hy]⟩] at hs2
                rw [hx] at hcell
                rw [hy] at hcelly
                clear hx hy Hmore Hsn Hk
                obtain ⟨A1, c1, hcut, hr1⟩ := (h.below hb).more hb.size |>.cut (lo := fn) (hi := k + 1) (by omega) (by omega)
                have hsx := fun (W : World) => sliceS_lh (some ⟨b, off, none⟩) xs.length c (fn : Int) ((k : Int) + 1) W (by omega) (by omega) (by omega)
                rw [show ((fn : Int)).toNat = fn from by omega, show ((k : Int) + 1).toNat = k + 1 from by omega, hcut] at hsx
                have hR := receive_any wo (hL.below hb) A1 c1 _ hr1 (by omega)
                rw [hsl] at hR
                generalize (xs.take (k + 1)).drop fn = q at hs2 hsl hr1 hR
                generalize recvL q = r at hs2 hR
                obtain ⟨ys, en⟩ := r
                simp only at hs2 hR
                have Hsx := Lib.hid hsx
                clear hcut hsl
                by_cases he : en = 0
                · subst he
                  rw [if_pos rfl] at hs2
                  have Hs2 := Lib.hid hs2
                  have HR := Lib.hid hR
                  clear hs2 hR Hsx
                  go_wp2_with fail
                  refine HR.out.mono ?_
                  rintro e w1 ⟨A2, c2, rfl, hr2, hb2, hf2⟩
                  have hpk1 := hpk.below hb2
                  have hb1 := hb.trans (hb2.mono hb.size)
                  have hne : 0 < ys.length → ∀ ad, A2 = some ad → some ad.block ≠ v1.ownBlock := fun _ ad ha e => by
                    have h1 := hf2 ad ha
                    have h2 := (hpk.lt ad.block e.symm).2
                    omega
                  have Hne := Lib.hid hne
                  clear hne hf2 hsx
                  go_wp2_with (at_builtin; refine wpl_appendPk Tryd.underlying45 Tryd.info22 rfl (.tmp 51) (.tmp 53) rfl w.heap.size v1 ps rfl hpk1 A2 c2 ys hr2 Hne.out rfl (by omega) hb1.size ?_; intro v3 w3 hpk3 hb3)
                  go_roundg (xs.length - (k + 1))
                  case measure => omega
                  case rel => exact ⟨k + 1, ps ++ [ys], dn, by omega, by go_num, rfl, Hs2.out, hpk3, hb1.trans hb3, by rw [List.length_append]; simp; omega, by omega⟩
                · rw [if_neg he] at hs2
                  have te : (en == 0) = false := by rw [beq_eq_false_iff_ne]; exact he
                  have Hs2 := Lib.hid hs2
                  have HR := Lib.hid hR
                  clear hs2 hR Hsx he
                  go_wp2_with fail
                  refine HR.out.mono ?_
                  rintro e w1 ⟨A2, c2, rfl, hr2, hb2, hf2⟩
                  have hpk1 := hpk.below hb2
                  have hb1 := hb.trans (hb2.mono hb.size)
                  clear hf2 hsx
                  go_wp2
                  go_roundg (xs.length - (k + 1))
                  case measure => omega
                  case rel => exact ⟨k + 1, ps, dn + 1, by omega, by go_num, by go_num, Hs2.out, hpk1, hb1, by omega, by omega⟩
              · have hm2 := Hmore.out (fun hh => hy (by simpa using hh.2))
                rw [hx] at hcell
                have ty : (((xs.getD (k - 1) 0).toNat : Int) != 2) = true := by
                  rw [bne_iff_ne]
                  intro hh
                  exact hy (UInt8.toNat_inj.1 (by show _ = 2; omega))
                have Hm2 := Lib.hid hm2
                clear hx hy hm2 Hmore Hsn Hk
                generalize xs.getD (k - 1) 0 = y at hcelly ty
                go_wp2
                go_roundg (gk - 1)
                case measure => omega
                case rel => exact ⟨k + 1, by omega, by omega, by go_num, rfl, rfl, rfl, Hm2.out, rfl⟩
            · have hm2 := Hmore.out (fun hh => hx hh.1)
              have tx : (((xs.getD k 0).toNat : Int) != 0) = true := by
                rw [bne_iff_ne]
                exact fun hh => hx ((u8_eq_zero _).2 hh)
              have Hm2 := Lib.hid hm2
              clear hx hm2 Hmore Hsn Hk
              generalize xs.getD k 0 = x at hcell tx
              generalize xs.getD (k - 1) 0 = y at hcelly
              go_wp2
              go_roundg (gk - 1)
              case measure => omega
              case rel => exact ⟨k + 1, by omega, by omega, by go_num, rfl, rfl, rfl, Hm2.out, rfl⟩
          · have hk9 : k = xs.length := by omega
            subst hk9
            have hk2 := Hk.out
            rw [List.take_length] at hk2
            have hfin : listenL xs = (ps, dn + 1) := by
              unfold listenL
              rw [hk2]
              rfl
            have Hf := Lib.hid hfin
            clear hk2 hfin Hk
            obtain ⟨A', c', rfl, hr⟩ := hpk.rds
            go_wp2_with (go_at_call 45; refine (clips_any _ _ _ _ hr.le hr.cap).mono ?_; rintro e w' ⟨rfl, rfl⟩)
            rw [Hf.out]
            try rw [Exit.noGoto_ret]
            go_ret2
            exact ⟨_, _, rfl, hr.clip, hb⟩
    · have hk9 : fn = xs.length := by omega
      subst hk9
      have hk2 := Hls.out
      rw [List.take_length] at hk2
      have hfin : listenL xs = (ps, dn) := by
        unfold listenL
        rw [hk2]
        rfl
      have Hf := Lib.hid hfin
      clear hk2 hfin Hls
      obtain ⟨A', c', rfl, hr⟩ := hpk.rds
      go_wp2_with (go_at_call 45; refine (clips_any _ _ _ _ hr.le hr.cap).mono ?_; rintro e w' ⟨rfl, rfl⟩)
      rw [Hf.out]
      try rw [Exit.noGoto_ret]
      go_ret2
      exact ⟨_, _, rfl, hr.clip, hb⟩

end Go.Proofs.YtbeghnpdmcmdmaaDoor
