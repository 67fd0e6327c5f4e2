/-
  Helper text: append, of our own machine, the second part; no statement is proved here.
-/
import Derived.Test.YtochkonjfhhiiaaEvF
namespace Go.Proofs.Ytochkonjfhhiiaa.Ev
noncomputable section
open Go Go.RowKit

theorem HR.kill {σ : Sg} {h : Hp} {w : World} (x : HR σ h w) (id : Nat) : HR σ (h.set fuelT id none) w ∧ Stp σ h w σ (h.set fuelT id none) w := by
  have back : ∀ i bi, (h.set fuelT id none).get i = some bi → h.get i = some bi := fun i bi hi => by
    rcases Tr.get_set _ _ _ _ _ _ hi with ⟨_, e⟩ | ⟨_, hi⟩
    · simp at e
    · exact hi
  exact ⟨⟨fun i b hi => x.has i b (back i b hi), fun i j bi bj p q hi hj => x.inj i j bi bj p q (back _ _ hi) (back _ _ hj)⟩,
    rfl, rfl, rfl, Nat.le_refl _, fun _ _ _ => rfl, fun b _ ⟨i, bi, p, hi, r⟩ => ⟨i, bi, p, back _ _ hi, r⟩, fun b _ ⟨i, bi, p, hi, r⟩ => ⟨i, bi, p, back _ _ hi, r⟩⟩

/-- The block of one number goes over to another one. -/
theorem HR.move {σ : Sg} {h : Hp} {w w' : World} (x : HR σ h w) {id nx : Nat} (hn : σ nx = none) {blk0 blk : Blk} (h0 : h.get id = some blk0) (hw0 : wr blk0 = true) {b o o' n n' : Nat} (hp : σ id = some (b, o, n))
    (hos : w'.os = w.os) (ht : w'.tape = w.tape) (hout : w'.output = w.output) (hsz : w'.heap.size = w.heap.size)
    (hk : ∀ c, c ≠ b → w'.heap[c]? = w.heap[c]?) (hb : BR (upd σ nx (b, o', n')) w' nx blk) :
    HR (upd σ nx (b, o', n')) ((h.set fuelT id none).set fuelT nx (some blk)) w' ∧ Stp σ h w (upd σ nx (b, o', n')) ((h.set fuelT id none).set fuelT nx (some blk)) w' := by
  have hle : Le σ (upd σ nx (b, o', n')) := upd_le hn
  have back : ∀ i bi, ((h.set fuelT id none).set fuelT nx (some blk)).get i = some bi → (i = nx ∧ blk = bi) ∨ (i ≠ nx ∧ i ≠ id ∧ h.get i = some bi ∧ ∃ p, σ i = some p ∧ upd σ nx (b, o', n') i = some p ∧ p.1 ≠ b) := fun i bi hi => by
    rcases Tr.get_set _ _ _ _ _ _ hi with ⟨e, e2⟩ | ⟨hne, hi2⟩
    · exact .inl ⟨e, Option.some.inj e2⟩
    · rcases Tr.get_set _ _ _ _ _ _ hi2 with ⟨_, e⟩ | ⟨hne2, hi3⟩
      · simp at e
      · obtain ⟨p, hp', _⟩ := (x.has i bi hi3).lt
        exact .inr ⟨hne, hne2, hi3, p, hp', hle _ _ hp', fun e => hne2 (x.inj i id bi blk0 p _ hi3 h0 hp' hp e (.inr hw0))⟩
  refine ⟨⟨fun i bi hi => ?_, fun i j bi bj p q hi hj hp' hq he hwr => ?_⟩, hos, ht, hout, by omega, fun c _ ho => hk c fun e => ho ⟨id, blk0, _, h0, hw0, hp, e.symm⟩, fun c _ ho => ?_, fun c _ ho => ?_⟩
  · rcases back i bi hi with ⟨rfl, rfl⟩ | ⟨_, _, hi, p, hp', _, hpb⟩
    · exact hb
    · exact (x.has i bi hi).mono hle fun q hq => by
        rw [hp'] at hq; obtain rfl := Option.some.inj hq
        exact hk _ hpb
  · rcases back i bi hi with ⟨e1, _⟩ | ⟨_, _, hi, p', hp1, hp2, hpb⟩ <;> rcases back j bj hj with ⟨e2, _⟩ | ⟨_, _, hj, q', hq1, hq2, hqb⟩
    · rw [e1, e2]
    · rw [e1, upd_same] at hp'; obtain rfl := Option.some.inj hp'
      rw [hq2] at hq; obtain rfl := Option.some.inj hq
      exact absurd he.symm hqb
    · rw [e2, upd_same] at hq; obtain rfl := Option.some.inj hq
      rw [hp2] at hp'; obtain rfl := Option.some.inj hp'
      exact absurd he hpb
    · rw [hp2] at hp'; obtain rfl := Option.some.inj hp'
      rw [hq2] at hq; obtain rfl := Option.some.inj hq
      exact x.inj i j bi bj _ _ hi hj hp1 hq1 he hwr
  · obtain ⟨i, bi, p, hi, hw, hp', he⟩ := ho
    rcases back i bi hi with ⟨e1, _⟩ | ⟨_, _, hi, p', hp1, hp2, _⟩
    · rw [e1, upd_same] at hp'; obtain rfl := Option.some.inj hp'
      exact ⟨id, blk0, _, h0, hw0, hp, he⟩
    · rw [hp2] at hp'; obtain rfl := Option.some.inj hp'
      exact ⟨i, bi, _, hi, hw, hp1, he⟩
  · obtain ⟨i, bi, p, hi, hp', he⟩ := ho
    rcases back i bi hi with ⟨e1, _⟩ | ⟨_, _, hi, p', hp1, hp2, _⟩
    · rw [e1, upd_same] at hp'; obtain rfl := Option.some.inj hp'
      exact ⟨id, blk0, _, h0, hp, he⟩
    · rw [hp2] at hp'; obtain rfl := Option.some.inj hp'
      exact ⟨i, bi, _, hi, hp1, he⟩

theorem newO_ok {σ : Sg} {h : Hp} {nx : Nat} {w : World} (x : HR σ h w) (hf : σ nx = none) (ty : TypeId) {cs : List AV} {vs : List Value} {rest : List Value} (hv : VL σ cs vs) :
    ∃ τ, τ nx = some (w.heap.size, 0, vs.length + rest.length) ∧ HR τ (newR h nx ty cs true 0) (w.alloc (.cells ⟨vs ++ rest⟩ ty)) ∧ Stp σ h w τ (newR h nx ty cs true 0) (w.alloc (.cells ⟨vs ++ rest⟩ ty)) ∧ Ext σ τ nx (nx + 1) := by
  have hlen := hv.length
  obtain ⟨a, b⟩ := x.new hf (blk := .row cs ty true 0) (obj := .cells ⟨vs ++ rest⟩ ty) 0 (vs.length + rest.length) (by
    refine ⟨w.heap.size, 0, vs.length + rest.length, ⟨vs ++ rest⟩, (0, 0), ty, upd_same _ _ _, alloc_at _ _, by simp, by omega, fun e => by simp at e, ?_, fun _ => ?_, fun _ => ⟨rfl, rfl⟩⟩
    · simp [hlen]; exact VL.mono (upd_le hf) _ _ hv
    · intro i _ hi; simp at hi)
  exact ⟨_, upd_same _ _ _, a, b, upd_ext _ _ _⟩

theorem VL.bytes {σ : Sg} (s : List UInt8) : VL σ (s.map fun b => .int .u8 b.toNat) (s.map fun b => .int .u8 b.toNat) := by
  induction s with
  | nil => rfl
  | cons b s ih => exact VL.cons rfl ih

theorem srcOf_ok {P : Program} {σ : Sg} {h : Hp} {w : World} (x : HR σ h w) {size n : Nat} {a : AV} {new : List AV} {v : Value} (hs : srcOf h size a = some (n, new)) (hv : V σ a v) :
    ∃ ys, (Builtin.lenOf v).run P w = .ok n w ∧ (Builtin.firstCells size n v).run P w = .ok ⟨ys⟩ w ∧ VL σ new ys := by
  unfold srcOf at hs
  split at hs
  · rename_i s
    cases hb : Nat.beq size 1 with
    | false => simp [hb] at hs
    | true =>
      simp [hb] at hs
      obtain ⟨rfl, rfl⟩ := hs
      simp only [V] at hv; subst hv
      refine ⟨s.map fun b => .int .u8 b.toNat, by simp [Builtin.lenOf, ByteArray.size], ?_, VL.bytes s⟩
      simp [Builtin.firstCells, ByteArray.data_extract]
  · simp at hs
    obtain ⟨rfl, rfl⟩ := hs
    simp only [V] at hv; subst hv
    exact ⟨[], by simp [Builtin.lenOf], by simp [Builtin.firstCells], rfl⟩
  · simp at hs
    obtain ⟨rfl, rfl⟩ := hs
    obtain ⟨a, k, rfl⟩ := hv
    exact ⟨[], by simp [Builtin.lenOf], by cases a <;> simp [Builtin.firstCells, loadCells, loadCellsFrom], rfl⟩
  · rename_i id off len c
    split at hs
    · rename_i l hl
      simp at hs
      obtain ⟨rfl, rfl⟩ := hs
      obtain ⟨b, o, m, ys, h1, h2, h3, h4⟩ := loadC_ok x (P := P) hl
      obtain ⟨b', o', m', h1', k, rfl, _⟩ := hv
      rw [h1] at h1'; simp at h1'; obtain ⟨rfl, rfl, rfl⟩ := h1'
      exact ⟨ys, by simp [Builtin.lenOf], by simpa [Builtin.firstCells] using h2, h3⟩
    · simp at hs
  · simp at hs

theorem loadC_eq {h : Hp} {id off n : Nat} {cs l : List AV} {ty : TypeId} {opn : Bool} {md : Nat} (hg : h.get id = some (.row cs ty opn md)) (hl : loadC h id off n = some l) : l = (cs.drop off).take n ∧ l.length = n := by
  unfold loadC row? at hl
  simp only [hg] at hl
  cases hb : Nat.beq ((cs.drop off).take n).length n with
  | false => simp only [hb, cond_false] at hl; simp at hl
  | true =>
    simp only [hb, cond_true] at hl
    obtain rfl := Option.some.inj hl
    exact ⟨rfl, Nat.eq_of_beq_eq_true hb⟩

theorem append_ok {P : Program} {σ : Sg} {h : Hp} {nx : Nat} {w : World} {argTypes : Array TypeId} {ty : TypeId} {s xx : AV} {sv xv : Value} {out : Out} (x : HR σ h w) (hs : V σ s sv) (hx : V σ xx xv)
    (hc : appendCase P argTypes s xx h nx = some out) (hf : Fresh σ nx (out.nx nx)) :
    nx ≤ out.nx nx ∧ OutOK P σ h nx w (((Builtin.append_ argTypes ty #[sv, xv]).run P w).andThen fun a w' => .ok (.value a) w') out := by
  unfold appendCase at hc
  split at hc
  · rename_i st xt h0 h1
    split at hc
    · rename_i e xd hst hxt
      split at hc
      · rename_i i z hi hz
        split at hc
        · rename_i n new hsrc
          cases hb : (Nat.ble 1 i.size && Nat.beq z.cells.length i.size && Nat.beq new.length (n * i.size) && Nat.ble i.bytes 1048576 && Nat.ble (lenA s + n) 1048576 && !isInt xd) with
          | false => simp only [hb, cond_false] at hc; simp at hc
          | true =>
            simp only [hb, cond_true] at hc
            simp only [Bool.and_eq_true, Bool.not_eq_true'] at hb
            obtain ⟨⟨⟨⟨⟨b1, b2⟩, b3⟩, b4⟩, b5⟩, hxd⟩ := hb
            replace b1 := Nat.le_of_ble_eq_true b1
            replace b2 := Nat.eq_of_beq_eq_true b2
            replace b3 := Nat.eq_of_beq_eq_true b3
            replace b4 := Nat.le_of_ble_eq_true b4
            replace b5 := Nat.le_of_ble_eq_true b5
            obtain ⟨zv, hz1, hz2, j, hj, hjz⟩ := run_zeroValue hz w σ
            rw [hi] at hj; obtain rfl := Option.some.inj hj
            have hzl : zv.cells.size = i.size := by rw [← Array.length_toList, ← hz2.cells.length, b2]
            obtain ⟨ys, l1, l2, l3⟩ := srcOf_ok (P := P) x hsrc hx
            obtain ⟨ys', l1', l2', l3'⟩ := srcOf_ok (P := P) x.drew hsrc hx
            have hyl := l3.length
            have hyl' := l3'.length
            have grow : ∀ {a : Option Addr} {sLen sCap : Nat} {old : List AV} {os : List Value} {k : Hp}, HR σ k w → Stp σ h w σ k w → sLen + n ≤ 1048576 → ¬ sLen + n ≤ sCap → VL σ old os → os.length = sLen * i.size →
                (Builtin.firstCells i.size sLen (.slice a sLen sCap)).run P w.drew = .ok ⟨os⟩ w.drew → σ nx = none →
                OutOK P σ h nx w (((Builtin.append_ argTypes ty #[.slice a sLen sCap, xv]).run P w).andThen fun a w' => .ok (.value a) w') (.val (.sl nx 0 (sLen + n) (.opn i.size)) (newR k nx e (old ++ new) true 0) (nx + 1)) := by
              intro a sLen sCap old os k hk hstp hm hle hold hol hload hfx
              obtain ⟨cap, hcap, hr⟩ := run_append_grow (ty := ty) h0 h1 hst hxt hxd hi hjz b4 hm l1 hle hload l2'
              have harr : (⟨os⟩ ++ (⟨ys'⟩ ++ Builtin.zeroCells zv.cells (cap - (sLen + n))) : Array Value) = ⟨(os ++ ys') ++ (Builtin.zeroCells zv.cells (cap - (sLen + n))).toList⟩ := by
                apply Array.ext'; simp
              rw [harr] at hr
              obtain ⟨τ, t1, t2, t3, t4⟩ := newO_ok hk.drew hfx e (rest := (Builtin.zeroCells zv.cells (cap - (sLen + n))).toList) (hold.append l3')
              refine out_map ⟨_, _, τ, hr, ?_, t2, hstp.trans ((Stp.drew w).trans t3), t4⟩
              refine ⟨w.heap.size, 0, _, t1, cap, rfl, hcap, ?_⟩
              simp [hol, ← hyl', b3, size_zeroCells, hzl]
              obtain ⟨d, rfl⟩ : ∃ d, cap = sLen + n + d := ⟨cap - (sLen + n), by omega⟩
              rw [show sLen + n + d - (sLen + n) = d by omega, Nat.add_mul, Nat.add_mul]
            cases s with
            | nilsl =>
              simp only [appendTo] at hc
              simp only [V] at hs; subst hs
              cases hn : Nat.beq n 0 with
              | true =>
                simp only [hn, cond_true] at hc
                obtain rfl := Option.some.inj hc
                obtain rfl := Nat.eq_of_beq_eq_true hn
                refine ⟨Nat.le_refl _, out_same x ?_ rfl⟩
                rw [run_append_nil h0 h1 hst hxt hxd hi l1 l2]; rfl
              | false =>
                simp only [hn, cond_false] at hc
                obtain rfl := Option.some.inj hc
                have hn' := Nat.ne_of_beq_eq_false hn
                refine ⟨by simp [Out.nx], ?_⟩
                have := grow (a := none) (sLen := 0) (sCap := 0) (old := []) (os := []) x (Stp.refl _ _ _) (by simp [lenA] at b5; omega) (by omega) (VL.nil _) (by simp) (by simp [Builtin.firstCells]) (hf nx (Nat.le_refl _) (by simp [Out.nx]))
                simpa using this
            | sl id off len c =>
              obtain ⟨b, o, m, g1, kc, rfl, g2⟩ := hs
              simp only [lenA] at b5
              simp only [appendTo] at hc
              cases c with
              | known c =>
                simp only at g2; subst g2
                simp only at hc
                cases hle : Nat.ble (len + n) kc with
                | true =>
                  simp only [hle, cond_true] at hc
                  have hle' := Nat.le_of_ble_eq_true hle
                  split at hc
                  · rename_i h' hst'
                    obtain rfl := Option.some.inj hc
                    obtain ⟨b', o', m', w', s1, s2, s3, s4⟩ := storeC_ok (P := P) x hst' l3
                    rw [g1] at s1; simp at s1; obtain ⟨rfl, rfl, rfl⟩ := s1
                    refine ⟨Nat.le_refl _, out_map ⟨_, w', σ, ?_, ⟨b, o, m, g1, kc, rfl, rfl⟩, s3, s4, Ext.refl _ _ _⟩⟩
                    rw [run_append_in h0 h1 hst hxt hxd hi l1 hle' l2, addr_add, Nat.add_assoc, s2]
                    rfl
                  · simp at hc
                | false =>
                  simp only [hle, cond_false] at hc
                  have hle' : ¬ len + n ≤ kc := fun e => by rw [Nat.ble_eq_true_of_le e] at hle; simp at hle
                  split at hc
                  · rename_i old hold
                    obtain rfl := Option.some.inj hc
                    obtain ⟨b', o', m', os, s1, s2, s3, s4⟩ := loadC_ok x.drew (P := P) hold
                    rw [g1] at s1; simp at s1; obtain ⟨rfl, rfl, rfl⟩ := s1
                    refine ⟨by simp [Out.nx], grow x (Stp.refl _ _ _) b5 hle' s3 s4 ?_ (hf nx (Nat.le_refl _) (by simp [Out.nx]))⟩
                    simpa [Builtin.firstCells] using s2
                  · simp at hc
              | opn k =>
                simp only at g2
                simp only at hc
                cases hk : Nat.beq k i.size with
                | false => simp only [hk, cond_false] at hc; simp at hc
                | true =>
                  simp only [hk, cond_true] at hc
                  obtain rfl := Nat.eq_of_beq_eq_true hk
                  split at hc
                  · rename_i cs tyy opn md hg
                    obtain ⟨b', o', m', cells, fz, tv, q1, q2, q3, q4, q5, q6, q7, q8⟩ := x.has _ _ hg
                    rw [g1] at q1; simp at q1; obtain ⟨rfl, rfl, rfl⟩ := q1
                    cases hle : Nat.ble (off + (len + n) * i.size) cs.length with
                    | true =>
                      simp only [hle, cond_true] at hc
                      have hle' := Nat.le_of_ble_eq_true hle
                      have hcap : len + n ≤ kc := by
                        have : (len + n) * i.size ≤ kc * i.size := by omega
                        exact Nat.le_of_mul_le_mul_right this b1
                      split at hc
                      · rename_i h' hst'
                        obtain rfl := Option.some.inj hc
                        obtain ⟨b', o', m', w', s1, s2, s3, s4⟩ := storeC_ok (P := P) x hst' l3
                        rw [g1] at s1; simp at s1; obtain ⟨rfl, rfl, rfl⟩ := s1
                        refine ⟨Nat.le_refl _, out_map ⟨_, w', σ, ?_, ⟨b, o, _, g1, kc, rfl, hcap, g2.2⟩, s3, s4, Ext.refl _ _ _⟩⟩
                        rw [run_append_in h0 h1 hst hxt hxd hi l1 hcap l2, addr_add, Nat.add_assoc, s2]
                        rfl
                      · simp at hc
                    | false =>
                      simp only [hle, cond_false] at hc
                      split at hc
                      · rename_i old hold
                        cases hbb : (Nat.beq md 0 && Nat.beq tyy e && new.all scal) with
                        | false => simp only [hbb, cond_false] at hc; simp at hc
                        | true =>
                          simp only [hbb, cond_true] at hc
                          obtain rfl := Option.some.inj hc
                          simp only [Bool.and_eq_true] at hbb
                          obtain ⟨⟨c1, c2⟩, c3⟩ := hbb
                          obtain rfl := Nat.eq_of_beq_eq_true c1
                          obtain rfl := Nat.eq_of_beq_eq_true c2
                          have hfx := hf nx (Nat.le_refl _) (by simp [Out.nx])
                          refine ⟨by simp [Out.nx], ?_⟩
                          obtain ⟨kh, ks⟩ := x.kill id
                          by_cases hcap : len + n ≤ kc
                          · obtain ⟨ho1, ho2⟩ := loadC_eq hg hold
                            have hmul := Nat.mul_le_mul_right i.size hcap
                            rw [Nat.add_mul] at hmul
                            have hge := g2.2
                            have hcsl : len * i.size ≤ cs.length - off := by
                              have := ho2; rw [ho1, List.length_take, List.length_drop] at this; omega
                            obtain ⟨w', cells', r1, r2, r3, r4, r5, r6, r7, r8⟩ := run_storeRow P tv fz b (o + off + len * i.size) ys 0 w cells q2 (by rw [q3]; exact q7 (by omega)) (VL.one c3 l3) (by omega)
                            have hsl : (splice cells.toList (o + off + len * i.size + 0) ys).length = cells.toList.length := splice_length _ _ _ (by simp; omega)
                            have hsz : cells'.size = cells.size := by rw [← Array.length_toList, r3, hsl, Array.length_toList]
                            obtain ⟨y1, y2⟩ := x.move hfx hg (by rfl) g1 (o' := o + off) (n' := m) r4 r5 r6 r7 r8 (blk := .row (old ++ new) tyy true 0) (by
                              refine ⟨b, o + off, m, cells', fz, tv, upd_same _ _ _, r2, by omega, by simp [ho2]; omega, fun e => by simp at e, ?_, q7, q8⟩
                              refine VL.mono (upd_le hfx) _ _ ?_
                              refine (VL_iff _ _).2 ⟨?_, fun k a v ha hv => ?_⟩
                              · rw [List.length_take, List.length_drop, r3, hsl]; simp [ho2]; omega
                              · rw [List.getElem?_take, List.getElem?_drop, r3, splice_get _ _ _ _ (by simp; omega)] at hv
                                split at hv
                                · rw [List.getElem?_append] at ha
                                  split at ha
                                  · rename_i hk1 hk2
                                    rw [ho2] at hk2
                                    rw [if_neg (by omega)] at hv
                                    rw [ho1, List.getElem?_take, List.getElem?_drop, if_pos hk2] at ha
                                    refine ((VL_iff _ _).1 q6).2 (off + k) a v ha ?_
                                    rw [List.getElem?_take, List.getElem?_drop, if_pos (by omega), ← hv]; congr 1; omega
                                  · rename_i hk1 hk2
                                    rw [ho2] at hk2 ha
                                    simp [ho2] at hk1
                                    rw [if_pos (by omega)] at hv
                                    refine ((VL_iff _ _).1 l3).2 _ a v ha ?_
                                    rw [← hv]; congr 1; omega
                                · simp at hv)
                            refine out_map ⟨_, w', _, ?_, ⟨b, o + off, m, upd_same _ _ _, kc, rfl, hcap, by omega⟩, y1, y2, upd_ext _ _ _⟩
                            rw [run_append_in h0 h1 hst hxt hxd hi l1 hcap l2, addr_add, r1]
                            rfl
                          · obtain ⟨b', o', m', os, s1, s2, s3, s4⟩ := loadC_ok x.drew (P := P) hold
                            rw [g1] at s1; simp at s1; obtain ⟨rfl, rfl, rfl⟩ := s1
                            exact grow kh ks b5 hcap s3 s4 (by simpa [Builtin.firstCells] using s2) hfx
                      · simp at hc
                  · simp at hc
            | _ => simp [appendTo] at hc
        · simp at hc
      · simp at hc
    · simp at hc
  · simp at hc
end
end Go.Proofs.Ytochkonjfhhiiaa.Ev
