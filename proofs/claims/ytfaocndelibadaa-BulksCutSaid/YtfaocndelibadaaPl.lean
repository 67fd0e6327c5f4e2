/-
  Helper text: Cut, joined and slices.Collect as callees that are known by their contracts; no statement is proved here.
-/
import Derived.Test.YtfaocndelibadaaEvB9
import Derived.Test.YtfaocndelibadaaJn
import Derived.Test.YtfaocndelibadaaCol
open Go Go.Proofs.Ytfaocndelibadaa.Ev Go.RowKit
namespace Go.Proofs.Ytfaocndelibadaa
noncomputable section

/-- Memory of ours over which rows were laid that lie in blocks of F. -/
theorem over_stp {F : Nat → Prop} {σ τ : Sg} {h h' : Hp} {w w' : World} {a b : Nat} (hb : Below w.heap.size w w') (o : Over F σ h τ h' a b) (hF : ∀ k, F k → k < w.heap.size → lives σ h k) : Stp σ h w τ h' w' :=
  ⟨hb.os, hb.tape, hb.output, hb.size, fun k hk _ => hb.block k hk,
   fun k hk ⟨id, blk, p, hi, hw, hp, he⟩ => by
    rcases o.rows id blk hi with ⟨h1, h2⟩ | ⟨h1, _⟩
    · rw [h2] at hp; exact ⟨id, blk, p, h1, hw, hp, he⟩
    · rw [h1] at hw; simp at hw,
   fun k hk ⟨id, blk, p, hi, hp, he⟩ => by
    rcases o.rows id blk hi with ⟨h1, h2⟩ | ⟨_, q, hq, hFq⟩
    · rw [h2] at hp; exact ⟨id, blk, p, h1, hp, he⟩
    · rw [hp] at hq; obtain rfl := Option.some.inj hq
      rw [he] at hFq
      exact hF k hFq hk⟩

/-- The bytes of a slice that is known. -/
def bytesSl (h : Hp) : AV → Option (List UInt8)
  | .nilsl => some []
  | .sl id off n (.known c) => bif Nat.ble n c && Nat.ble c 1000000 then (match loadC h id off n with
    | some l => Ev.bytesOf l
    | none => none) else none
  | _ => none
theorem bytesOf_cells : ∀ {l : List AV} {xs : List UInt8}, Ev.bytesOf l = some xs → xs.length = l.length ∧ ∀ (j : Nat) (a : AV), l[j]? = some a → ∃ n : Int, a = .int .u8 n ∧ xs[j]? = some (UInt8.ofNat n.toNat)
  | [], xs, h => by simp only [Ev.bytesOf, Option.some.injEq] at h; subst h; exact ⟨rfl, fun j a ha => by simp at ha⟩
  | a :: l, xs, h => by
    unfold Ev.bytesOf at h
    split at h
    · rename_i e; cases e
    · rename_i n l' e
      rw [Option.map_eq_some_iff] at h
      obtain ⟨ys, hy, rfl⟩ := h
      injection e with e1 e2
      subst e1; subst e2
      obtain ⟨k1, k2⟩ := bytesOf_cells hy
      refine ⟨by simp [k1], fun j b hb => ?_⟩
      cases j with
      | zero => simp at hb; subst hb; exact ⟨n, rfl, rfl⟩
      | succ j => exact k2 j b (by simpa using hb)
    · simp at h
def inU8 : List AV → Bool
  | [] => true
  | .int _ n :: l => decide (0 ≤ n) && (decide (n < 256) && inU8 l)
  | _ :: l => inU8 l
theorem inU8_ok : ∀ {l : List AV} {j : Nat} {k : IntKind} {n : Int}, inU8 l = true → l[j]? = some (.int k n) → 0 ≤ n ∧ n < 256
  | [], j, k, n, _, h => by simp at h
  | a :: l, 0, k, n, h, e => by
    simp at e; subst e
    simp only [inU8, Bool.and_eq_true, decide_eq_true_eq] at h
    exact ⟨h.1, h.2.1⟩
  | a :: l, j + 1, k, n, h, e => by
    refine inU8_ok (l := l) (j := j) ?_ (by simpa using e)
    cases a <;> simp_all [inU8]
/-- .. whose numbers are bytes. -/
def sureB (h : Hp) : AV → Bool
  | .sl id off n _ => match loadC h id off n with
    | some l => inU8 l
    | none => false
  | _ => true
theorem bytesSl_ok {σ : Sg} {h : Hp} {w : World} (x : HR σ h w) {a : AV} {v : Value} {xs : List UInt8} (ha : V σ a v) (hb : bytesSl h a = some xs) (hs : sureB h a = true) :
    ∃ A c, v = .slice A xs.length c ∧ Rd w w.heap.size A c xs ∧ (∀ ad, A = some ad → ∃ id off n cp q, a = .sl id off n cp ∧ σ id = some q ∧ ad.block = q.1 ∧ ∃ cs ty opn md, h.get id = some (.row cs ty opn md)) := by
  unfold bytesSl at hb
  split at hb
  · obtain rfl := Option.some.inj hb
    obtain rfl := ha
    exact ⟨none, 0, rfl, Rd.nil _ _, fun ad e => by cases e⟩
  · rename_i id off n c
    cases hc : (Nat.ble n c && Nat.ble c 1000000) with
    | false => simp [hc] at hb
    | true =>
      simp only [hc, cond_true] at hb
      simp only [Bool.and_eq_true] at hc
      have c1 := Nat.le_of_ble_eq_true hc.1
      have c2 := Nat.le_of_ble_eq_true hc.2
      split at hb
      · rename_i l hl
        simp only [sureB, hl] at hs
        obtain ⟨k1, k2⟩ := bytesOf_cells hb
        obtain ⟨b, o, m, g1, k, rfl, hk⟩ := ha
        simp only at hk; subst hk
        have hl' := hl
        unfold loadC row? at hl
        split at hl
        · rename_i cs hrow
          split at hrow
          · rename_i cs' ty opn md hget
            obtain rfl := Option.some.inj hrow
            cases hbl : Nat.beq ((cs'.drop off).take n).length n with
            | false => simp only [hbl, cond_false] at hl; simp at hl
            | true =>
              simp only [hbl, cond_true] at hl
              have hl := Option.some.inj hl
              have hlen := Nat.eq_of_beq_eq_true hbl
              obtain ⟨b', o', m', cells, fz, tv, q1, q2, q3, q4, q5, q6, _⟩ := x.has _ _ hget
              rw [g1] at q1; simp at q1; obtain ⟨rfl, rfl, rfl⟩ := q1
              have hxl : xs.length = n := by rw [k1, ← hl]; exact hlen
              refine ⟨_, k, by rw [hxl], ⟨by omega, by omega, fun hn => ⟨b, o + off, rfl, (Array.getElem?_eq_some_iff.1 q2).1, fun j hj => ?_⟩⟩, fun ad e => ⟨id, off, n, _, _, rfl, g1, by cases e; rfl, _, _, _, _, hget⟩⟩
              obtain ⟨a, haj⟩ : ∃ a, l[j]? = some a := ⟨l[j]'(by rw [← k1]; exact hj), List.getElem?_eq_getElem _⟩
              obtain ⟨z, rfl, hz⟩ := k2 j a haj
              have hz2 := inU8_ok hs haj
              have hcs : cs'[off + j]? = some (.int .u8 z) := by
                rw [← hl, List.getElem?_take] at haj
                split at haj
                · rw [List.getElem?_drop] at haj; exact haj
                · simp at haj
              obtain ⟨v, hv1, hv2⟩ := VL.get q6 hcs
              simp only [V] at hv2; subst hv2
              rw [List.getElem?_take] at hv1
              split at hv1
              · rw [List.getElem?_drop] at hv1
                rw [Nat.add_assoc, cell_row q2, hv1, getD_some hz]
                show some _ = some (Value.int .u8 _)
                rw [UInt8.toNat_ofNat']
                congr 2
                omega
              · simp at hv1
          · simp at hrow
        · simp at hl
      · simp at hb
  · simp at hb

/-- What Cut and the others leave: rows for the packets, and one for the slice of them. -/
def layOut (pss : List (List UInt8)) (nx : Nat) (h : Hp) : Hp := (layPk 5 pss (nx + 1) h).set fuelT nx (some (.row (pkCells pss (nx + 1)) 0 true 2))

theorem layOut_ok {F : Nat → Prop} {σ : Sg} {h : Hp} {w : World} (x : HR σ h w) {pss : List (List UInt8)} {vs : List Value} {nx : Nat} (hl : vs.length = pss.length) (hv : ∀ (i : Nat) v ps, vs[i]? = some v → pss[i]? = some ps → SlB F w v ps) (hf : Fresh σ nx (nx + 1 + pss.length))
    (hw : ∀ j bj q, h.get j = some bj → σ j = some q → F q.1 → wr bj = false) {b : Nat} {cur : Array Value} {t : TypeId} (hh : w.heap[b]? = some (.cells cur t (0, 0))) (hle : vs.length ≤ cur.size) (ht : cur.toList.take vs.length = vs)
    (hwb : ∀ j bj q, h.get j = some bj → σ j = some q → q.1 = b → wr bj = false) :
    ∃ τ, HR τ (layOut pss nx h) w ∧ τ nx = some (b, 0, cur.size) ∧ Over (fun k => F k ∨ k = b) σ h τ (layOut pss nx h) nx (nx + 1 + pss.length) := by
  obtain ⟨τ, k1, k2, k3⟩ := lay_ok (ty := 5) (id := nx + 1) x hl hv (fun j h1 h2 => hf j (by omega) (by omega)) hw
  have hn : τ nx = none := by rw [k3.ext nx (by omega)]; exact hf nx (Nat.le_refl _) (by omega)
  have hle' : Le τ (upd τ nx (b, 0, cur.size)) := upd_le hn
  have hbr : BR (upd τ nx (b, 0, cur.size)) w nx (.row (pkCells pss (nx + 1)) 0 true 2) := by
    refine ⟨b, 0, cur.size, cur, (0, 0), t, upd_same _ _ _, hh, rfl, by rw [pkCells_length]; omega, fun e => by simp at e, ?_, fun e => by simp at e, fun e => by simp at e⟩
    rw [List.drop_zero, pkCells_length, ← hl, ht]
    exact VL.mono hle' _ _ k2
  have x1 := k1.addRO hn hbr fun j bj q hj hq e => by
    rcases k3.rows j bj hj with ⟨h1, h2⟩ | ⟨h1, _⟩
    · rw [h2] at hq; exact hwb j bj q h1 hq e
    · exact h1
  refine ⟨_, x1, upd_same _ _ _, k3.le.trans hle', fun j hj => ?_, fun j bj hj => ?_⟩
  · simp only [upd]; rw [if_neg (by omega)]; exact k3.ext j (by omega)
  · rcases Tr.get_set _ _ _ _ _ _ hj with ⟨rfl, e⟩ | ⟨hne, hj⟩
    · obtain rfl := Option.some.inj e
      exact .inr ⟨rfl, _, upd_same _ _ _, .inr rfl⟩
    · rcases k3.rows j bj hj with ⟨h1, h2⟩ | ⟨h1, q, hq, hF⟩
      · exact .inl ⟨h1, by simp only [upd]; rw [if_neg hne]; exact h2⟩
      · exact .inr ⟨h1, q, hle' _ _ hq, .inl hF⟩

/-- No row of ours lies in a block that the world has not had. -/
theorem no_new {σ : Sg} {h : Hp} {w : World} (x : HR σ h w) {j : Nat} {bj : Blk} {q : Nat × Nat × Nat} (hj : h.get j = some bj) (hq : σ j = some q) (hb : w.heap.size ≤ q.1) : wr bj = false := by
  obtain ⟨p, hp, hlt⟩ := (x.has j bj hj).lt
  rw [hq] at hp; obtain rfl := Option.some.inj hp
  omega

def shortCut (g : FuncId) (call : Ev.Callee) : Ev.Callee := fun f args h nx =>
  bif Nat.beq f g then (match args with
    | [x, .int .i64 m, .bool z] => match bytesSl h x with
      | some xs => bif sureB h x && (decide (1 ≤ m) && (decide (m ≤ 1024) && Nat.ble xs.length 1000)) then
          some (.tup [.sl nx 0 (cutF m.toNat z (xs.length + 2) xs).length (.known (cutF m.toNat z (xs.length + 2) xs).length), .int .i64 0], layOut (cutF m.toNat z (xs.length + 2) xs) nx h, nx + 1 + (cutF m.toNat z (xs.length + 2) xs).length)
        else none
      | none => none
    | _ => none)
  else call f args h nx
theorem cutF_pos (m : Nat) (z : Bool) (f : Nat) (xs : List UInt8) : 0 < (cutF m z (f + 1) xs).length := by simp [cutF]

theorem slB_of {n₁ : Nat} {W : World} {v : Value} {ps : List UInt8} (h : BytesAt n₁ W v ps) : SlB (fun k => n₁ ≤ k) W v ps := by
  obtain ⟨A, rfl, h⟩ := h
  refine ⟨A, rfl, fun hn => ?_⟩
  obtain ⟨b, off, cs, e, hb, _, hc⟩ := h hn
  exact ⟨b, off, e, hb, hc⟩

theorem shortCut_ok {call : Ev.Callee} (hcal : CalOK Try.prog call) : CalOK Try.prog (shortCut 6 call) := by
  intro f args h nx v h' nx' ha
  unfold shortCut at ha
  cases hf : Nat.beq f 6 with
  | false => simp only [hf, cond_false] at ha; exact hcal _ _ _ _ _ _ _ ha
  | true =>
    simp only [hf, cond_true] at ha
    obtain rfl := Nat.eq_of_beq_eq_true hf
    split at ha
    · rename_i a m z
      split at ha
      · rename_i xs hb
        cases hc : (sureB h a && (decide (1 ≤ m) && (decide (m ≤ 1024) && Nat.ble xs.length 1000))) with
        | false => simp only [hc, cond_false] at ha; simp at ha
        | true =>
          simp only [hc, cond_true] at ha
          simp only [Option.some.injEq, Prod.mk.injEq] at ha
          obtain ⟨rfl, rfl, rfl⟩ := ha
          simp only [Bool.and_eq_true, decide_eq_true_eq] at hc
          obtain ⟨hs, h1, h2, h3⟩ := hc
          have h3 := Nat.le_of_ble_eq_true h3
          obtain ⟨mm, rfl⟩ : ∃ mm : Nat, m = mm := ⟨m.toNat, by omega⟩
          simp only [Int.toNat_natCast]
          refine ⟨⟨_, Try.func6, rfl⟩, by omega, fun σ w ys x hv hfr hge hg => ?_⟩
          obtain ⟨y1, l1, rfl, hy1, y2, l2, rfl, hy2, y3, l3, rfl, hy3, rfl⟩ := hv
          obtain rfl := hy2
          obtain rfl := hy3
          obtain ⟨A, c, rfl, hr, _⟩ := bytesSl_ok x hy1 hb hs
          have hpos := cutF_pos mm z (xs.length + 1) xs
          refine (cut_any w A c mm z xs (by omega) (by omega) (by omega) hr).mono ?_
          rintro e w' ⟨A', vs, rfl, hcl, hea, hbe⟩
          generalize cutF mm z (xs.length + 2) xs = pss at hpos hea hfr ⊢
          obtain ⟨b, cur, rfl, hn, hh, hle, ht⟩ := hcl (by rw [hea.1]; exact hpos)
          obtain ⟨x', _⟩ := x.below hbe
          obtain ⟨τ, k1, k2, k3⟩ := layOut_ok (F := fun k => w.heap.size ≤ k) x' hea.1 (fun i v ps h1 h2 => slB_of (hea.2 i v ps h1 h2)) hfr
            (fun j bj q hj hq hF => no_new x hj hq hF) hh hle ht (fun j bj q hj hq e => no_new x hj hq (by omega))
          refine ⟨_, τ, rfl, ?_, k1, over_stp hbe k3 (fun k hF hk => by rcases hF with h | h <;> omega), k3.ext⟩
          refine ⟨_, VL.cons (v := .slice (some ⟨b, 0, none⟩) vs.length vs.length) ?_ (VL.cons (v := .int .i64 0) ?_ rfl), rfl⟩
          · exact ⟨b, 0, cur.size, k2, vs.length, by simp [hea.1], hea.1⟩
          · rfl
      · simp at ha
    · simp at ha
/-- A row of ours as the world shows it. -/
theorem row_ok {σ : Sg} {h : Hp} {w : World} (x : HR σ h w) {id off n : Nat} {l : List AV} (hl : loadC h id off n = some l) {b o m : Nat} (g1 : σ id = some (b, o, m)) :
    b < w.heap.size ∧ l.length = n ∧ ∀ (j : Nat) (a : AV), l[j]? = some a → ∃ v, w.cell? ⟨b, o + off + j, none⟩ = some v ∧ V σ a v := by
  unfold loadC row? at hl
  split at hl
  · rename_i cs hrow
    split at hrow
    · rename_i cs' ty opn md hget
      obtain rfl := Option.some.inj hrow
      cases hbl : Nat.beq ((cs'.drop off).take n).length n with
      | false => simp only [hbl, cond_false] at hl; simp at hl
      | true =>
        simp only [hbl, cond_true] at hl
        have hl := Option.some.inj hl
        have hlen := Nat.eq_of_beq_eq_true hbl
        obtain ⟨b', o', m', cells, fz, tv, q1, q2, q3, q4, q5, q6, _⟩ := x.has _ _ hget
        rw [g1] at q1; simp at q1; obtain ⟨rfl, rfl, rfl⟩ := q1
        refine ⟨(Array.getElem?_eq_some_iff.1 q2).1, by rw [← hl]; exact hlen, fun j a haj => ?_⟩
        have hcs : cs'[off + j]? = some a := by
          rw [← hl, List.getElem?_take] at haj
          split at haj
          · rw [List.getElem?_drop] at haj; exact haj
          · simp at haj
        obtain ⟨v, hv1, hv2⟩ := VL.get q6 hcs
        refine ⟨v, ?_, hv2⟩
        rw [List.getElem?_take] at hv1
        split at hv1
        · rw [List.getElem?_drop] at hv1
          rw [Nat.add_assoc, cell_row q2, hv1]
        · simp at hv1
    · simp at hrow
  · simp at hl

/-- The lists of bytes of a slice of slices that is known. -/
def bytess (h : Hp) : List AV → Option (List (List UInt8))
  | [] => some []
  | a :: l => match bytesSl h a with
    | none => none
    | some x => bif sureB h a then (match bytess h l with
      | none => none
      | some y => some (x :: y)) else none
theorem bytess_ok {h : Hp} : ∀ {l : List AV} {pss : List (List UInt8)}, bytess h l = some pss → pss.length = l.length ∧ ∀ (j : Nat) (a : AV), l[j]? = some a → ∃ ps, pss[j]? = some ps ∧ bytesSl h a = some ps ∧ sureB h a = true
  | [], pss, e => by simp only [bytess, Option.some.injEq] at e; subst e; exact ⟨rfl, fun j a ha => by simp at ha⟩
  | a :: l, pss, e => by
    unfold bytess at e
    split at e
    · simp at e
    · rename_i x hx
      cases hs : sureB h a with
      | false => simp [hs] at e
      | true =>
        simp only [hs, cond_true] at e
        split at e
        · simp at e
        · rename_i y hy
          obtain rfl := Option.some.inj e
          obtain ⟨k1, k2⟩ := bytess_ok hy
          refine ⟨by simp [k1], fun j b hb => ?_⟩
          cases j with
          | zero => simp at hb; subst hb; exact ⟨x, rfl, hx, hs⟩
          | succ j => exact k2 j b (by simpa using hb)

def shortJn (g : FuncId) (call : Ev.Callee) : Ev.Callee := fun f args h nx =>
  bif Nat.beq f g then (match args with
    | [.sl id off n (.known c)] => match loadC h id off n with
      | some l => match bytess h l with
        | some pss => bif Nat.ble n c && (Nat.ble c 1000000 && Nat.ble pss.flatten.length 1000000) then
            some ((pkCells [pss.flatten] nx).headD .nilsl, layPk 5 [pss.flatten] nx h, nx + 1) else none
        | none => none
      | none => none
    | _ => none)
  else call f args h nx

theorem slB_fresh {n₁ : Nat} {W : World} {v : Value} {ps : List UInt8} (h : FreshB n₁ W v ps) : SlB (fun k => n₁ ≤ k) W v ps := h

theorem shortJn_ok {call : Ev.Callee} (hcal : CalOK Try.prog call) : CalOK Try.prog (shortJn 26 call) := by
  intro f args h nx v h' nx' ha
  unfold shortJn at ha
  cases hf : Nat.beq f 26 with
  | false => simp only [hf, cond_false] at ha; exact hcal _ _ _ _ _ _ _ ha
  | true =>
    simp only [hf, cond_true] at ha
    obtain rfl := Nat.eq_of_beq_eq_true hf
    split at ha
    · rename_i id off n c
      split at ha
      · rename_i l hl
        split at ha
        · rename_i pss hp
          cases hc : (Nat.ble n c && (Nat.ble c 1000000 && Nat.ble pss.flatten.length 1000000)) with
          | false => simp only [hc, cond_false] at ha; simp at ha
          | true =>
            simp only [hc, cond_true] at ha
            simp only [Option.some.injEq, Prod.mk.injEq] at ha
            obtain ⟨rfl, rfl, rfl⟩ := ha
            simp only [Bool.and_eq_true] at hc
            have h1 := Nat.le_of_ble_eq_true hc.1
            have h2 := Nat.le_of_ble_eq_true hc.2.1
            have h3 := Nat.le_of_ble_eq_true hc.2.2
            refine ⟨⟨_, Try.func26, rfl⟩, by omega, fun σ w ys x hv hfr hge hg => ?_⟩
            obtain ⟨y1, l1, rfl, hy1, rfl⟩ := hv
            obtain ⟨b, o, m, g1, k, rfl, hk⟩ := hy1
            simp only at hk; subst hk
            obtain ⟨r1, r2, r3⟩ := row_ok x hl g1
            obtain ⟨b1, b2⟩ := bytess_ok hp
            have hlen : pss.length = n := by rw [b1, r2]
            have hrds : Rds w w.heap.size (some ⟨b, o + off, none⟩) k pss := by
              refine ⟨by omega, by omega, fun hn => ⟨b, o + off, rfl, r1, fun j hj => ?_⟩⟩
              obtain ⟨a, haj⟩ : ∃ a, l[j]? = some a := ⟨l[j]'(by rw [← b1]; exact hj), List.getElem?_eq_getElem _⟩
              obtain ⟨ps, e1, e2, e3⟩ := b2 j a haj
              obtain ⟨v, c1, c2⟩ := r3 j a haj
              obtain ⟨A', c', rfl, d1, _⟩ := bytesSl_ok x c2 e2 e3
              exact ⟨A', c', by rw [c1, getD_some e1], by rw [getD_some e1]; exact d1⟩
            subst hlen
            refine (joined_any w _ k pss hrds (by omega) h3).mono ?_
            rintro e w' ⟨v, rfl, hfb, hbe⟩
            generalize pss.flatten = fl at hfb
            obtain ⟨x', _⟩ := x.below hbe
            obtain ⟨τ, k1, k2, k3⟩ := lay_ok (F := fun k => w.heap.size ≤ k) (ty := 5) (id := nx) (pss := [fl]) (vs := [v]) x' rfl (fun i u ps q1 q2 => by
              cases i with
              | zero => simp at q1 q2; subst q1; subst q2; exact slB_fresh hfb
              | succ i => simp at q1) hfr (fun j bj q hj hq hF => no_new x hj hq hF)
            refine ⟨_, τ, rfl, ?_, k1, over_stp hbe k3 (fun k hF hk => by omega), k3.ext⟩
            obtain ⟨v', l', e1, e2, e3⟩ := k2
            simp at e1
            obtain ⟨rfl, rfl⟩ := e1
            exact e2
        · simp at ha
      · simp at ha
    · simp at ha
/-- A row that is only read from now on. -/
def ro (h : Hp) (id : Nat) : Hp := match h.get id with
  | some (.row cs ty opn _) => h.set fuelT id (some (.row cs ty opn 2))
  | _ => h
theorem ro_ok {σ : Sg} {h : Hp} {w : World} (x : HR σ h w) (id : Nat) : HR σ (ro h id) w ∧ Stp σ h w σ (ro h id) w ∧ ∀ {b o m : Nat}, σ id = some (b, o, m) → (∃ cs ty opn md, h.get id = some (.row cs ty opn md)) → ∀ j bj q, (ro h id).get j = some bj → σ j = some q → q.1 = b → wr bj = false := by
  unfold ro
  split
  · rename_i cs ty opn md hg
    have old : ∀ j bj, (h.set fuelT id (some (.row cs ty opn 2))).get j = some bj → (j = id ∧ bj = .row cs ty opn 2) ∨ (j ≠ id ∧ h.get j = some bj) := fun j bj hj => by
      rcases Tr.get_set _ _ _ _ _ _ hj with ⟨rfl, e⟩ | ⟨hne, hj⟩
      · obtain rfl := Option.some.inj e; exact .inl ⟨rfl, rfl⟩
      · exact .inr ⟨hne, hj⟩
    refine ⟨⟨fun j bj hj => ?_, fun i j bi bj p q hi hj hp hq he hw => ?_⟩, ⟨rfl, rfl, rfl, Nat.le_refl _, fun _ _ _ => rfl, fun b hb ⟨j, bj, p, hj, hw, hp, he⟩ => ?_, fun b hb ⟨j, bj, p, hj, hp, he⟩ => ?_⟩, fun {b o m} hσ _ j bj q hj hq he => ?_⟩
    · rcases old j bj hj with ⟨rfl, rfl⟩ | ⟨_, h1⟩
      · obtain ⟨b, o, n, cells, fz, tv, q1, q2, q3, q4, q5, q6, _⟩ := x.has _ _ hg
        exact ⟨b, o, n, cells, fz, tv, q1, q2, q3, q4, q5, q6, fun e => by simp at e, fun e => by simp at e⟩
      · exact x.has j bj h1
    · rcases old i bi hi with ⟨rfl, rfl⟩ | ⟨n1, h1⟩ <;> rcases old j bj hj with ⟨rfl, rfl⟩ | ⟨n2, h2⟩
      · rfl
      · exact x.inj _ j _ bj p q hg h2 hp hq he (by rcases hw with h | h; (simp [wr] at h); exact .inr h)
      · exact x.inj i _ bi _ p q h1 hg hp hq he (by rcases hw with h | h; exact .inl h; simp [wr] at h)
      · exact x.inj i j bi bj p q h1 h2 hp hq he hw
    · rcases old j bj hj with ⟨rfl, rfl⟩ | ⟨_, h1⟩
      · simp [wr] at hw
      · exact ⟨j, bj, p, h1, hw, hp, he⟩
    · rcases old j bj hj with ⟨rfl, rfl⟩ | ⟨_, h1⟩
      · exact ⟨j, _, p, hg, hp, he⟩
      · exact ⟨j, bj, p, h1, hp, he⟩
    · rcases old j bj hj with ⟨rfl, rfl⟩ | ⟨hne, h1⟩
      · rfl
      · cases hw : wr bj with
        | false => rfl
        | true => exact absurd (x.inj j id bj _ q _ h1 hg hq hσ he (.inl hw)) hne
  · rename_i hno
    refine ⟨x, Stp.refl _ _ _, fun {b o m} _ ⟨cs, ty, opn, md, hg⟩ => absurd hg (hno _ _ _ _)⟩

def slId : AV → Nat
  | .sl id _ _ _ => id
  | _ => 0
/-- What is collected: the slice, its bytes, the most, and whether a last empty one is due. -/
def colArgs (it : FuncId) (h : Hp) : List AV → Option (AV × List UInt8 × Nat × Bool)
  | [.func (.func f) [] [.ptr i1 o1, .ptr i2 o2, .ptr i3 o3]] => bif Nat.beq f it then (match loadC h i1 o1 1, loadC h i2 o2 1, loadC h i3 o3 1 with
    | some [x], some [.int .i64 m], some [.bool z] => match bytesSl h x with
      | some xs => bif sureB h x && (decide (1 ≤ m) && (decide (m ≤ 1024) && Nat.ble xs.length 1000)) then some (x, xs, m.toNat, z) else none
      | none => none
    | _, _, _ => none) else none
  | _ => none
def shortCol (g it : FuncId) (call : Ev.Callee) : Ev.Callee := fun f args h nx =>
  bif Nat.beq f g then (match colArgs it h args with
    | some (x, xs, m, z) => some (.sl nx 0 (cutF m z (xs.length + 2) xs).length (.opn 1), layOut (cutF m z (xs.length + 2) xs) nx (ro h (slId x)), nx + 1 + (cutF m z (xs.length + 2) xs).length)
    | none => none)
  else call f args h nx
theorem over_stp2 {F : Nat → Prop} {σ τ : Sg} {h h1 h' : Hp} {w w' : World} {a b : Nat} (hb : Below w.heap.size w w') (y : Stp σ h w σ h1 w) (o : Over F σ h1 τ h' a b) (hF : ∀ k, F k → k < w.heap.size → lives σ h k) : Stp σ h w τ h' w' :=
  ⟨hb.os, hb.tape, hb.output, hb.size, fun k hk _ => hb.block k hk,
   fun k hk ⟨id, blk, p, hi, hw, hp, he⟩ => by
    rcases o.rows id blk hi with ⟨q1, q2⟩ | ⟨q1, _⟩
    · rw [q2] at hp; exact y.own k hk ⟨id, blk, p, q1, hw, hp, he⟩
    · rw [q1] at hw; simp at hw,
   fun k hk ⟨id, blk, p, hi, hp, he⟩ => by
    rcases o.rows id blk hi with ⟨q1, q2⟩ | ⟨_, q, hq, hFq⟩
    · rw [q2] at hp; exact y.lvs k hk ⟨id, blk, p, q1, hp, he⟩
    · rw [hp] at hq; obtain rfl := Option.some.inj hq
      rw [he] at hFq
      exact hF k hFq hk⟩

theorem slB_pc {w W' : World} {o : Obj} {A : Option Addr} (hbe : Below w.heap.size w W') (pc : Pc (w.alloc o) w.heap.size (fun k => ∃ ad, A = some ad ∧ k = ad.block)) :
    SlB (fun k => ∃ ad, A = some ad ∧ k = ad.block) W' (valPc pc) pc.1.2 := by
  obtain ⟨⟨A1, ps⟩, hrd, hle, hbk⟩ := pc
  refine ⟨A1, rfl, fun hn => ?_⟩
  obtain ⟨b, off, rfl, hb, hc⟩ := hrd.cells hn
  refine ⟨b, off, rfl, hbk _ rfl, fun j hj => ?_⟩
  rw [hbe.cell (p := ⟨b, off + j, none⟩) hb, ← World.cell?_alloc_lt w o ⟨b, off + j, none⟩ hb]
  exact hc j hj

theorem shortCol_ok {call : Ev.Callee} (hcal : CalOK Try.prog call) : CalOK Try.prog (shortCol 29 36 call) := by
  intro f args h nx v h' nx' ha
  unfold shortCol at ha
  cases hf : Nat.beq f 29 with
  | false => simp only [hf, cond_false] at ha; exact hcal _ _ _ _ _ _ _ ha
  | true =>
    simp only [hf, cond_true] at ha
    obtain rfl := Nat.eq_of_beq_eq_true hf
    split at ha
    · rename_i a xs m z hcol
      simp only [Option.some.injEq, Prod.mk.injEq] at ha
      obtain ⟨rfl, rfl, rfl⟩ := ha
      unfold colArgs at hcol
      split at hcol
      · rename_i g i1 o1 i2 o2 i3 o3
        cases hg : Nat.beq g 36 with
        | false => simp only [hg, cond_false] at hcol; simp at hcol
        | true =>
          simp only [hg, cond_true] at hcol
          obtain rfl := Nat.eq_of_beq_eq_true hg
          split at hcol
          · rename_i a' m' z' l1 l2 l3
            split at hcol
            · rename_i xs' hb
              cases hc : (sureB h a' && (decide (1 ≤ m') && (decide (m' ≤ 1024) && Nat.ble xs'.length 1000))) with
              | false => simp only [hc, cond_false] at hcol; simp at hcol
              | true =>
                simp only [hc, cond_true, Option.some.injEq, Prod.mk.injEq] at hcol
                obtain ⟨rfl, rfl, rfl, rfl⟩ := hcol
                simp only [Bool.and_eq_true, decide_eq_true_eq] at hc
                obtain ⟨hs, h1, h2, h3⟩ := hc
                have h3 := Nat.le_of_ble_eq_true h3
                obtain ⟨mm, rfl⟩ : ∃ mm : Nat, m' = mm := ⟨m'.toNat, by omega⟩
                simp only [Int.toNat_natCast]
                refine ⟨⟨_, Try.func29, rfl⟩, by omega, fun σ w ys x hv hfr hge hg => ?_⟩
                obtain ⟨y1, r1, rfl, hy1, rfl⟩ := hv
                obtain ⟨q1, q2, rfl, hq2, rfl⟩ := hy1
                obtain ⟨p1, r1, rfl, ⟨b1, p1', n1, s1, rfl⟩, p2, r2, rfl, ⟨b2, p2', n2, s2, rfl⟩, p3, r3, rfl, ⟨b3, p3', n3, s3, rfl⟩, rfl⟩ := hq2
                obtain ⟨t1, _, u1⟩ := row_ok x l1 s1
                obtain ⟨t2, _, u2⟩ := row_ok x l2 s2
                obtain ⟨t3, _, u3⟩ := row_ok x l3 s3
                obtain ⟨v1, c1, d1⟩ := u1 0 _ rfl
                obtain ⟨v2, c2, d2⟩ := u2 0 _ rfl
                obtain ⟨v3, c3, d3⟩ := u3 0 _ rfl
                obtain rfl := d2
                obtain rfl := d3
                obtain ⟨A, c, rfl, hr, hA⟩ := bytesSl_ok x d1 hb hs
                have hpos := cutF_pos mm z' (xs'.length + 1) xs'
                refine (collect_any w b1 b2 b3 (fun k => ∃ ad, A = some ad ∧ k = ad.block) A c mm z' xs' (by omega) (by omega) (by omega) ⟨t1, t2, t3⟩ c1 c2 c3 hr (fun ad e => ⟨ad, e, rfl⟩)).mono ?_
                rintro e w' ⟨v, l, rfl, hl, how, hbe⟩
                generalize cutF mm z' (xs'.length + 2) xs' = pss at hpos hl hfr ⊢
                subst hl
                have hl0 : 0 < l.length := by simpa [bytesPc] using hpos
                rcases how.2 with ⟨_, h0⟩ | ⟨g, cp, cur, rfl, hg, hh, hle, _, hcs, ht⟩
                · omega
                · obtain ⟨x1, y1⟩ := x.below hbe
                  obtain ⟨x2, _, x3⟩ := ro_ok x1 (slId a')
                  obtain ⟨x4, y4, _⟩ := ro_ok x (slId a')
                  have hfree : ∀ j bj q, (ro h (slId a')).get j = some bj → σ j = some q → (∃ ad, A = some ad ∧ q.1 = ad.block) → wr bj = false := by
                    rintro j bj q hj hq ⟨ad, e1, e2⟩
                    obtain ⟨id, off, n, cp, q', rfl, k1, k2, k3⟩ := hA ad e1
                    obtain ⟨qa, qb, qc⟩ := q'
                    exact x3 k1 k3 j bj q hj hq (e2.trans k2)
                  obtain ⟨τ, k1, k2, k3⟩ := layOut_ok (F := fun k => ∃ ad, A = some ad ∧ k = ad.block) (vs := l.map valPc) (pss := bytesPc l) x2 (by simp [bytesPc]) (fun i v ps q1 q2 => by
                      simp only [bytesPc, List.getElem?_map, Option.map_eq_some_iff] at q1 q2
                      obtain ⟨pc, e1, rfl⟩ := q1
                      obtain ⟨pc', e2, rfl⟩ := q2
                      rw [e1] at e2
                      obtain rfl := Option.some.inj e2
                      exact slB_pc hbe pc) hfr hfree hh (by simp; omega) (by simpa using ht) (fun j bj q hj hq e => no_new x4 hj hq (by omega))
                  refine ⟨_, τ, rfl, ?_, k1, over_stp2 hbe y4 k3 (fun k hF hk => ?_), k3.ext⟩
                  · exact ⟨g, 0, cur.size, k2, cp, by simp [bytesPc], by simp [bytesPc]; omega⟩
                  · rcases hF with ⟨ad, e1, e2⟩ | h
                    · obtain ⟨id, off, n, cp, q', rfl, k1, k2, cs, ty, opn, md, k3⟩ := hA ad e1
                      exact ⟨id, _, q', k3, k1, by rw [← k2, e2]⟩
                    · omega
            · simp at hcol
          · simp at hcol
      · simp at hcol
    · simp at ha
end
end Go.Proofs.Ytfaocndelibadaa
