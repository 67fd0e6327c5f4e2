/-
  Helper text, several in one; no statement is proved here.
-/
import Derived.Test.YtgihpgdjkanodaaGreatDoorEvE
import Derived.IntWalk
import Derived.Test.YtgihpgdjkanodaaGreatDoorEvF
import Derived.Laws.Tables
namespace Go.Proofs.YtgihpgdjkanodaaGreatDoor.Ev
noncomputable section
open Go Go.RowKit

theorem slice?_ok {P : Program} {t e : TypeId} (h : slice? P t = some e) : P.underlying t = some (.slice e) := by
  unfold slice? at h
  split at h
  · rename_i he; simp at h; subst h; exact he
  · simp at h

section
variable {P : Program} {σ : Sg} {h : Hp} {nx : Nat} {w : World}

theorem indexAddr_ok {t : TypeId} {a b : AV} {u v : Value} {out : Out} (x : HR σ h w) (hu : V σ a u) (hv : V σ b v) (hc : indexAddrCase P t a b h nx = some out) :
    nx ≤ out.nx nx ∧ OutOK P σ h nx w (((Instr.indexAt t u v).run P w).andThen fun a w' => .ok (.value a) w') out := by
  unfold indexAddrCase at hc
  split at hc
  · rename_i n e id off i ht hi
    obtain ⟨k, rfl⟩ := intOf_ok hi hv
    split at hc
    · rename_i s hs
      cases hb : (decide (0 ≤ i) && decide (i < n)) with
      | false => simp only [hb, cond_false] at hc; simp at hc
      | true =>
        simp only [hb, cond_true] at hc
        obtain rfl := Option.some.inj hc
        simp at hb
        obtain ⟨b, o, m, h1, rfl⟩ := hu
        refine ⟨Nat.le_refl _, out_map ⟨_, w, σ, ?_, ⟨b, o, m, h1, rfl⟩, x, Stp.refl _ _ _, Ext.refl _ _ _⟩⟩
        simp [Instr.indexAt, run_asIntOf, run_under ht, Instr.sureAddr, hb, run_sizeOf hs, addr_add, Nat.add_assoc]
    · simp at hc
  · rename_i e id off len c i ht hi
    obtain ⟨k, rfl⟩ := intOf_ok hi hv
    split at hc
    · rename_i s hs
      cases hb : (decide (0 ≤ i) && decide (i < len)) with
      | false => simp only [hb, cond_false] at hc; simp at hc
      | true =>
        simp only [hb, cond_true] at hc
        obtain rfl := Option.some.inj hc
        simp at hb
        obtain ⟨b, o, m, h1, kk, rfl, _⟩ := hu
        refine ⟨Nat.le_refl _, out_map ⟨_, w, σ, ?_, ⟨b, o, m, h1, rfl⟩, x, Stp.refl _ _ _, Ext.refl _ _ _⟩⟩
        simp [Instr.indexAt, run_asIntOf, run_under ht, hb, run_sizeOf hs, addr_add, Nat.add_assoc]
    · simp at hc
  · simp at hc

theorem rep_get {α : Type} (l : List α) : ∀ (c j : Nat), (List.replicate c l).flatten[j]? = if j < c * l.length then l[j % l.length]? else none
  | 0, j => by simp
  | c + 1, j => by
    rw [List.replicate_succ, List.flatten_cons, List.getElem?_append]
    by_cases hj : j < l.length
    · rw [if_pos hj, if_pos (by rw [Nat.add_mul]; omega), Nat.mod_eq_of_lt hj]
    · rw [if_neg hj, rep_get l c]
      have hm : (j - l.length) % l.length = j % l.length := by
        conv => rhs; rw [show j = j - l.length + l.length by omega, Nat.add_mod_right]
      rw [hm]
      by_cases hc : j - l.length < c * l.length
      · rw [if_pos hc, if_pos (by rw [Nat.add_mul]; omega)]
      · rw [if_neg hc, if_neg (by rw [Nat.add_mul]; omega)]

theorem madeRow (c s : Nat) (z : Array Value) (hz : z.size = s) : (Array.range (c * s)).map (z[· % z.size]!) = ⟨(List.replicate c z.toList).flatten⟩ := by
  subst hz
  apply Array.ext'
  apply List.ext_getElem?
  intro j
  rw [rep_get]
  simp only [Array.toList_map, Array.toList_range, List.getElem?_map, List.getElem?_range, Array.length_toList]
  by_cases hj : j < c * z.size
  · have hs : 0 < z.size := by
      rcases Nat.eq_zero_or_pos z.size with h | h
      · rw [h] at hj; simp at hj
      · exact h
    have hm : j % z.size < z.size := Nat.mod_lt _ hs
    simp [hj, hm]
  · simp [hj]

theorem makeSlice_ok {t : TypeId} {a b : AV} {u v : Value} {out : Out} (x : HR σ h w) (hu : V σ a u) (hv : V σ b v) (hc : makeSliceCase P t a b h nx = some out) (hf : Fresh σ nx (out.nx nx)) :
    nx ≤ out.nx nx ∧ OutOK P σ h nx w (((Instr.makeSlice t u v).run P w).andThen fun a w' => .ok (.value a) w') out := by
  unfold makeSliceCase at hc
  split at hc
  · rename_i e l c he hl hcc
    split at hc
    · rename_i i z hi hz
      have he := slice?_ok he
      obtain ⟨k1, rfl⟩ := intOf_ok hl hu
      obtain ⟨k2, rfl⟩ := intOf_ok hcc hv
      cases hb : (decide (0 ≤ l) && decide (l ≤ c) && decide (c < 1048576) && decide (i.bytes < 1048576) && Nat.beq z.cells.length i.size) with
      | false => simp only [hb, cond_false] at hc; simp at hc
      | true =>
        simp only [hb, cond_true] at hc
        obtain rfl := Option.some.inj hc
        simp only [Bool.and_eq_true, decide_eq_true_eq] at hb
        obtain ⟨⟨⟨⟨hb1, hb2⟩, hb3⟩, hb4⟩, hb5⟩ := hb
        have hb5 := Nat.eq_of_beq_eq_true hb5
        have hfx : σ nx = none := hf nx (Nat.le_refl _) (by simp [Out.nx])
        obtain ⟨zv, hz1, hz2, j, hj, hjz⟩ := run_zeroValue hz w σ
        rw [hi] at hj; obtain rfl := Option.some.inj hj
        have hzl := hz2.cells.length
        have hw1 : IntKind.i64.wrap l = l := IntWalk.i64_in _ (by omega)
        have hw2 : IntKind.i64.wrap c = c := IntWalk.i64_in _ (by omega)
        have hsz : size? P e = some i.size := by simp [size?, hi]
        have hbig : ¬ ((i.bytes : Int) * c > 281474976710656) := by
          have : (i.bytes : Int) * c ≤ 1048576 * 1048576 := Int.mul_le_mul (by omega) (by omega) (by omega) (by omega)
          omega
        have hrun : ∃ vs, VL σ (rep c.toNat z.cells) vs ∧ vs.length = c.toNat * i.size ∧ (Instr.makeSlice t (.int k1 l) (.int k2 c)).run P w = .ok (.slice (some ⟨w.heap.size, 0, none⟩) l.toNat c.toNat) (w.alloc (.cells ⟨vs⟩ e)) := by
          refine ⟨(List.replicate c.toNat zv.cells.toList).flatten, VL.rep hz2.cells _, by simp [← hzl, hb5], ?_⟩
          have hl0 : ¬ l < 0 := by omega
          have hlc : ¬ l > c := by omega
          have hc0 : ¬ c < 0 := by omega
          by_cases hn : c.toNat * i.size = 0
          · have hemp : (List.replicate c.toNat zv.cells.toList).flatten = [] := by
              apply List.eq_nil_of_length_eq_zero; simp [← hzl, hb5]; simpa using hn
            simp [Instr.makeSlice, run_under he, asInt, run_asIntOf, run_typeInfo hi, hw1, hw2, hl0, hlc, hc0, hbig, run_sizeOf hsz, hn, newRow, hemp]
            rw [show Array.map (fun _ => (default : Value)) (Array.range 0) = ⟨[]⟩ from by apply Array.ext'; simp]
          · have hsz0 : zv.cells.size = i.size := by rw [← Array.length_toList, ← hzl, hb5]
            have := madeRow c.toNat i.size zv.cells hsz0
            simp [Instr.makeSlice, run_under he, asInt, run_asIntOf, run_typeInfo hi, hw1, hw2, hl0, hlc, hc0, hbig, run_sizeOf hsz, hn, newRow, hz1, this]
        obtain ⟨vs, hvs, hvl, hr⟩ := hrun
        obtain ⟨τ, t1, t2, t3, t4⟩ := newR_ok x hfx e hvs
        exact ⟨by simp [Out.nx], out_map ⟨_, _, τ, hr, ⟨w.heap.size, 0, vs.length, t1, c.toNat, rfl, rfl⟩, t2, t3, t4⟩⟩
    · simp at hc
  · simp at hc

end
end
end Go.Proofs.YtgihpgdjkanodaaGreatDoor.Ev

namespace Go.Proofs.YtgihpgdjkanodaaGreatDoor.Ev
noncomputable section
open Go Go.RowKit

theorem HR.kill {σ : Sg} {h : Hp} {w : World} (x : HR σ h w) (id : Nat) : HR σ (h.set fuelT id none) w ∧ Stp σ h w σ (h.set fuelT id none) w := by
  have back : ∀ i bi, (h.set fuelT id none).get i = some bi → h.get i = some bi := fun i bi hi => by
    rcases Tr.get_set _ _ _ _ _ _ hi with ⟨_, e⟩ | ⟨_, hi⟩
    · simp at e
    · exact hi
  exact ⟨⟨fun i b hi => x.has i b (back i b hi), fun i j bi bj p q hi hj => x.inj i j bi bj p q (back _ _ hi) (back _ _ hj)⟩,
    rfl, rfl, rfl, Nat.le_refl _, fun _ _ _ => rfl, fun b _ ⟨i, bi, p, hi, r⟩ => ⟨i, bi, p, back _ _ hi, r⟩, fun b _ ⟨i, bi, p, hi, r⟩ => ⟨i, bi, p, back _ _ hi, r⟩⟩

/-- The block of one number goes over to another one. -/
theorem HR.move {σ : Sg} {h : Hp} {w w' : World} (x : HR σ h w) {id nx : Nat} (hn : σ nx = none) {blk0 blk : Blk} (h0 : h.get id = some blk0) (hw0 : wr blk0 = true) {b o o' n n' : Nat} (hp : σ id = some (b, o, n))
    (hos : w'.os = w.os) (ht : w'.tape = w.tape) (hout : w'.output = w.output) (hsz : w'.heap.size = w.heap.size)
    (hk : ∀ c, c ≠ b → w'.heap[c]? = w.heap[c]?) (hb : BR (upd σ nx (b, o', n')) w' nx blk) :
    HR (upd σ nx (b, o', n')) ((h.set fuelT id none).set fuelT nx (some blk)) w' ∧ Stp σ h w (upd σ nx (b, o', n')) ((h.set fuelT id none).set fuelT nx (some blk)) w' := by
  have hle : Le σ (upd σ nx (b, o', n')) := upd_le hn
  have back : ∀ i bi, ((h.set fuelT id none).set fuelT nx (some blk)).get i = some bi → (i = nx ∧ blk = bi) ∨ (i ≠ nx ∧ i ≠ id ∧ h.get i = some bi ∧ ∃ p, σ i = some p ∧ upd σ nx (b, o', n') i = some p ∧ p.1 ≠ b) := fun i bi hi => by
    rcases Tr.get_set _ _ _ _ _ _ hi with ⟨e, e2⟩ | ⟨hne, hi2⟩
    · exact .inl ⟨e, Option.some.inj e2⟩
    · rcases Tr.get_set _ _ _ _ _ _ hi2 with ⟨_, e⟩ | ⟨hne2, hi3⟩
      · simp at e
      · obtain ⟨p, hp', _⟩ := (x.has i bi hi3).lt
        exact .inr ⟨hne, hne2, hi3, p, hp', hle _ _ hp', fun e => hne2 (x.inj i id bi blk0 p _ hi3 h0 hp' hp e (.inr hw0))⟩
  refine ⟨⟨fun i bi hi => ?_, fun i j bi bj p q hi hj hp' hq he hwr => ?_⟩, hos, ht, hout, by omega, fun c _ ho => hk c fun e => ho ⟨id, blk0, _, h0, hw0, hp, e.symm⟩, fun c _ ho => ?_, fun c _ ho => ?_⟩
  · rcases back i bi hi with ⟨rfl, rfl⟩ | ⟨_, _, hi, p, hp', _, hpb⟩
    · exact hb
    · exact (x.has i bi hi).mono hle fun q hq => by
        rw [hp'] at hq; obtain rfl := Option.some.inj hq
        exact hk _ hpb
  · rcases back i bi hi with ⟨e1, _⟩ | ⟨_, _, hi, p', hp1, hp2, hpb⟩ <;> rcases back j bj hj with ⟨e2, _⟩ | ⟨_, _, hj, q', hq1, hq2, hqb⟩
    · rw [e1, e2]
    · rw [e1, upd_same] at hp'; obtain rfl := Option.some.inj hp'
      rw [hq2] at hq; obtain rfl := Option.some.inj hq
      exact absurd he.symm hqb
    · rw [e2, upd_same] at hq; obtain rfl := Option.some.inj hq
      rw [hp2] at hp'; obtain rfl := Option.some.inj hp'
      exact absurd he hpb
    · rw [hp2] at hp'; obtain rfl := Option.some.inj hp'
      rw [hq2] at hq; obtain rfl := Option.some.inj hq
      exact x.inj i j bi bj _ _ hi hj hp1 hq1 he hwr
  · obtain ⟨i, bi, p, hi, hw, hp', he⟩ := ho
    rcases back i bi hi with ⟨e1, _⟩ | ⟨_, _, hi, p', hp1, hp2, _⟩
    · rw [e1, upd_same] at hp'; obtain rfl := Option.some.inj hp'
      exact ⟨id, blk0, _, h0, hw0, hp, he⟩
    · rw [hp2] at hp'; obtain rfl := Option.some.inj hp'
      exact ⟨i, bi, _, hi, hw, hp1, he⟩
  · obtain ⟨i, bi, p, hi, hp', he⟩ := ho
    rcases back i bi hi with ⟨e1, _⟩ | ⟨_, _, hi, p', hp1, hp2, _⟩
    · rw [e1, upd_same] at hp'; obtain rfl := Option.some.inj hp'
      exact ⟨id, blk0, _, h0, hp, he⟩
    · rw [hp2] at hp'; obtain rfl := Option.some.inj hp'
      exact ⟨i, bi, _, hi, hp1, he⟩

theorem newO_ok {σ : Sg} {h : Hp} {nx : Nat} {w : World} (x : HR σ h w) (hf : σ nx = none) (ty : TypeId) {cs : List AV} {vs : List Value} {rest : List Value} (hv : VL σ cs vs) :
    ∃ τ, τ nx = some (w.heap.size, 0, vs.length + rest.length) ∧ HR τ (newR h nx ty cs true 0) (w.alloc (.cells ⟨vs ++ rest⟩ ty)) ∧ Stp σ h w τ (newR h nx ty cs true 0) (w.alloc (.cells ⟨vs ++ rest⟩ ty)) ∧ Ext σ τ nx (nx + 1) := by
  have hlen := hv.length
  obtain ⟨a, b⟩ := x.new hf (blk := .row cs ty true 0) (obj := .cells ⟨vs ++ rest⟩ ty) 0 (vs.length + rest.length) (by
    refine ⟨w.heap.size, 0, vs.length + rest.length, ⟨vs ++ rest⟩, (0, 0), ty, upd_same _ _ _, alloc_at _ _, by simp, by omega, fun e => by simp at e, ?_, fun _ => ?_, fun _ => ⟨rfl, rfl⟩⟩
    · simp [hlen]; exact VL.mono (upd_le hf) _ _ hv
    · intro i _ hi; simp at hi)
  exact ⟨_, upd_same _ _ _, a, b, upd_ext _ _ _⟩

theorem VL.bytes {σ : Sg} (s : List UInt8) : VL σ (s.map fun b => .int .u8 b.toNat) (s.map fun b => .int .u8 b.toNat) := by
  induction s with
  | nil => rfl
  | cons b s ih => exact VL.cons rfl ih

theorem srcOf_ok {P : Program} {σ : Sg} {h : Hp} {w : World} (x : HR σ h w) {size n : Nat} {a : AV} {new : List AV} {v : Value} (hs : srcOf h size a = some (n, new)) (hv : V σ a v) :
    ∃ ys, (Builtin.lenOf v).run P w = .ok n w ∧ (Builtin.firstCells size n v).run P w = .ok ⟨ys⟩ w ∧ VL σ new ys := by
  unfold srcOf at hs
  split at hs
  · rename_i s
    cases hb : Nat.beq size 1 with
    | false => simp [hb] at hs
    | true =>
      simp [hb] at hs
      obtain ⟨rfl, rfl⟩ := hs
      simp only [V] at hv; subst hv
      refine ⟨s.map fun b => .int .u8 b.toNat, by simp [Builtin.lenOf, ByteArray.size], ?_, VL.bytes s⟩
      simp [Builtin.firstCells, ByteArray.data_extract]
  · simp at hs
    obtain ⟨rfl, rfl⟩ := hs
    simp only [V] at hv; subst hv
    exact ⟨[], by simp [Builtin.lenOf], by simp [Builtin.firstCells], rfl⟩
  · simp at hs
    obtain ⟨rfl, rfl⟩ := hs
    obtain ⟨a, k, rfl⟩ := hv
    exact ⟨[], by simp [Builtin.lenOf], by cases a <;> simp [Builtin.firstCells, loadCells, loadCellsFrom], rfl⟩
  · rename_i id off len c
    split at hs
    · rename_i l hl
      simp at hs
      obtain ⟨rfl, rfl⟩ := hs
      obtain ⟨b, o, m, ys, h1, h2, h3, h4⟩ := loadC_ok x (P := P) hl
      obtain ⟨b', o', m', h1', k, rfl, _⟩ := hv
      rw [h1] at h1'; simp at h1'; obtain ⟨rfl, rfl, rfl⟩ := h1'
      exact ⟨ys, by simp [Builtin.lenOf], by simpa [Builtin.firstCells] using h2, h3⟩
    · simp at hs
  · simp at hs

theorem loadC_eq {h : Hp} {id off n : Nat} {cs l : List AV} {ty : TypeId} {opn : Bool} {md : Nat} (hg : h.get id = some (.row cs ty opn md)) (hl : loadC h id off n = some l) : l = (cs.drop off).take n ∧ l.length = n := by
  unfold loadC row? at hl
  simp only [hg] at hl
  cases hb : Nat.beq ((cs.drop off).take n).length n with
  | false => simp only [hb, cond_false] at hl; simp at hl
  | true =>
    simp only [hb, cond_true] at hl
    obtain rfl := Option.some.inj hl
    exact ⟨rfl, Nat.eq_of_beq_eq_true hb⟩

theorem append_ok {P : Program} {σ : Sg} {h : Hp} {nx : Nat} {w : World} {argTypes : Array TypeId} {ty : TypeId} {s xx : AV} {sv xv : Value} {out : Out} (x : HR σ h w) (hs : V σ s sv) (hx : V σ xx xv)
    (hc : appendCase P argTypes s xx h nx = some out) (hf : Fresh σ nx (out.nx nx)) :
    nx ≤ out.nx nx ∧ OutOK P σ h nx w (((Builtin.append_ argTypes ty #[sv, xv]).run P w).andThen fun a w' => .ok (.value a) w') out := by
  unfold appendCase at hc
  split at hc
  · rename_i st xt h0 h1
    split at hc
    · rename_i e xd hst hxt
      split at hc
      · rename_i i z hi hz
        split at hc
        · rename_i n new hsrc
          cases hb : (Nat.ble 1 i.size && Nat.beq z.cells.length i.size && Nat.beq new.length (n * i.size) && Nat.ble i.bytes 1048576 && Nat.ble (lenA s + n) 1048576 && !isInt xd) with
          | false => simp only [hb, cond_false] at hc; simp at hc
          | true =>
            simp only [hb, cond_true] at hc
            simp only [Bool.and_eq_true, Bool.not_eq_true'] at hb
            obtain ⟨⟨⟨⟨⟨b1, b2⟩, b3⟩, b4⟩, b5⟩, hxd⟩ := hb
            replace b1 := Nat.le_of_ble_eq_true b1
            replace b2 := Nat.eq_of_beq_eq_true b2
            replace b3 := Nat.eq_of_beq_eq_true b3
            replace b4 := Nat.le_of_ble_eq_true b4
            replace b5 := Nat.le_of_ble_eq_true b5
            obtain ⟨zv, hz1, hz2, j, hj, hjz⟩ := run_zeroValue hz w σ
            rw [hi] at hj; obtain rfl := Option.some.inj hj
            have hzl : zv.cells.size = i.size := by rw [← Array.length_toList, ← hz2.cells.length, b2]
            obtain ⟨ys, l1, l2, l3⟩ := srcOf_ok (P := P) x hsrc hx
            obtain ⟨ys', l1', l2', l3'⟩ := srcOf_ok (P := P) x.drew hsrc hx
            have hyl := l3.length
            have hyl' := l3'.length
            have grow : ∀ {a : Option Addr} {sLen sCap : Nat} {old : List AV} {os : List Value} {k : Hp}, HR σ k w → Stp σ h w σ k w → sLen + n ≤ 1048576 → ¬ sLen + n ≤ sCap → VL σ old os → os.length = sLen * i.size →
                (Builtin.firstCells i.size sLen (.slice a sLen sCap)).run P w.drew = .ok ⟨os⟩ w.drew → σ nx = none →
                OutOK P σ h nx w (((Builtin.append_ argTypes ty #[.slice a sLen sCap, xv]).run P w).andThen fun a w' => .ok (.value a) w') (.val (.sl nx 0 (sLen + n) (.opn i.size)) (newR k nx e (old ++ new) true 0) (nx + 1)) := by
              intro a sLen sCap old os k hk hstp hm hle hold hol hload hfx
              obtain ⟨cap, hcap, hr⟩ := run_append_grow (ty := ty) h0 h1 hst hxt hxd hi hjz b4 hm l1 hle hload l2'
              have harr : (⟨os⟩ ++ (⟨ys'⟩ ++ Builtin.zeroCells zv.cells (cap - (sLen + n))) : Array Value) = ⟨(os ++ ys') ++ (Builtin.zeroCells zv.cells (cap - (sLen + n))).toList⟩ := by
                apply Array.ext'; simp
              rw [harr] at hr
              obtain ⟨τ, t1, t2, t3, t4⟩ := newO_ok hk.drew hfx e (rest := (Builtin.zeroCells zv.cells (cap - (sLen + n))).toList) (hold.append l3')
              refine out_map ⟨_, _, τ, hr, ?_, t2, hstp.trans ((Stp.drew w).trans t3), t4⟩
              refine ⟨w.heap.size, 0, _, t1, cap, rfl, hcap, ?_⟩
              simp [hol, ← hyl', b3, size_zeroCells, hzl]
              obtain ⟨d, rfl⟩ : ∃ d, cap = sLen + n + d := ⟨cap - (sLen + n), by omega⟩
              rw [show sLen + n + d - (sLen + n) = d by omega, Nat.add_mul, Nat.add_mul]
            cases s with
            | nilsl =>
              simp only [appendTo] at hc
              simp only [V] at hs; subst hs
              cases hn : Nat.beq n 0 with
              | true =>
                simp only [hn, cond_true] at hc
                obtain rfl := Option.some.inj hc
                obtain rfl := Nat.eq_of_beq_eq_true hn
                refine ⟨Nat.le_refl _, out_same x ?_ rfl⟩
                rw [run_append_nil h0 h1 hst hxt hxd hi l1 l2]; rfl
              | false =>
                simp only [hn, cond_false] at hc
                obtain rfl := Option.some.inj hc
                have hn' := Nat.ne_of_beq_eq_false hn
                refine ⟨by simp [Out.nx], ?_⟩
                have := grow (a := none) (sLen := 0) (sCap := 0) (old := []) (os := []) x (Stp.refl _ _ _) (by simp [lenA] at b5; omega) (by omega) (VL.nil _) (by simp) (by simp [Builtin.firstCells]) (hf nx (Nat.le_refl _) (by simp [Out.nx]))
                simpa using this
            | sl id off len c =>
              obtain ⟨b, o, m, g1, kc, rfl, g2⟩ := hs
              simp only [lenA] at b5
              simp only [appendTo] at hc
              cases c with
              | known c =>
                simp only at g2; subst g2
                simp only at hc
                cases hle : Nat.ble (len + n) kc with
                | true =>
                  simp only [hle, cond_true] at hc
                  have hle' := Nat.le_of_ble_eq_true hle
                  split at hc
                  · rename_i h' hst'
                    obtain rfl := Option.some.inj hc
                    obtain ⟨b', o', m', w', s1, s2, s3, s4⟩ := storeC_ok (P := P) x hst' l3
                    rw [g1] at s1; simp at s1; obtain ⟨rfl, rfl, rfl⟩ := s1
                    refine ⟨Nat.le_refl _, out_map ⟨_, w', σ, ?_, ⟨b, o, m, g1, kc, rfl, rfl⟩, s3, s4, Ext.refl _ _ _⟩⟩
                    rw [run_append_in h0 h1 hst hxt hxd hi l1 hle' l2, addr_add, Nat.add_assoc, s2]
                    rfl
                  · simp at hc
                | false =>
                  simp only [hle, cond_false] at hc
                  have hle' : ¬ len + n ≤ kc := fun e => by rw [Nat.ble_eq_true_of_le e] at hle; simp at hle
                  split at hc
                  · rename_i old hold
                    obtain rfl := Option.some.inj hc
                    obtain ⟨b', o', m', os, s1, s2, s3, s4⟩ := loadC_ok x.drew (P := P) hold
                    rw [g1] at s1; simp at s1; obtain ⟨rfl, rfl, rfl⟩ := s1
                    refine ⟨by simp [Out.nx], grow x (Stp.refl _ _ _) b5 hle' s3 s4 ?_ (hf nx (Nat.le_refl _) (by simp [Out.nx]))⟩
                    simpa [Builtin.firstCells] using s2
                  · simp at hc
              | opn k =>
                simp only at g2
                simp only at hc
                cases hk : Nat.beq k i.size with
                | false => simp only [hk, cond_false] at hc; simp at hc
                | true =>
                  simp only [hk, cond_true] at hc
                  obtain rfl := Nat.eq_of_beq_eq_true hk
                  split at hc
                  · rename_i cs tyy opn md hg
                    obtain ⟨b', o', m', cells, fz, tv, q1, q2, q3, q4, q5, q6, q7, q8⟩ := x.has _ _ hg
                    rw [g1] at q1; simp at q1; obtain ⟨rfl, rfl, rfl⟩ := q1
                    cases hle : Nat.ble (off + (len + n) * i.size) cs.length with
                    | true =>
                      simp only [hle, cond_true] at hc
                      have hle' := Nat.le_of_ble_eq_true hle
                      have hcap : len + n ≤ kc := by
                        have : (len + n) * i.size ≤ kc * i.size := by omega
                        exact Nat.le_of_mul_le_mul_right this b1
                      split at hc
                      · rename_i h' hst'
                        obtain rfl := Option.some.inj hc
                        obtain ⟨b', o', m', w', s1, s2, s3, s4⟩ := storeC_ok (P := P) x hst' l3
                        rw [g1] at s1; simp at s1; obtain ⟨rfl, rfl, rfl⟩ := s1
                        refine ⟨Nat.le_refl _, out_map ⟨_, w', σ, ?_, ⟨b, o, _, g1, kc, rfl, hcap, g2.2⟩, s3, s4, Ext.refl _ _ _⟩⟩
                        rw [run_append_in h0 h1 hst hxt hxd hi l1 hcap l2, addr_add, Nat.add_assoc, s2]
                        rfl
                      · simp at hc
                    | false =>
                      simp only [hle, cond_false] at hc
                      split at hc
                      · rename_i old hold
                        cases hbb : (Nat.beq md 0 && Nat.beq tyy e && new.all scal) with
                        | false => simp only [hbb, cond_false] at hc; simp at hc
                        | true =>
                          simp only [hbb, cond_true] at hc
                          obtain rfl := Option.some.inj hc
                          simp only [Bool.and_eq_true] at hbb
                          obtain ⟨⟨c1, c2⟩, c3⟩ := hbb
                          obtain rfl := Nat.eq_of_beq_eq_true c1
                          obtain rfl := Nat.eq_of_beq_eq_true c2
                          have hfx := hf nx (Nat.le_refl _) (by simp [Out.nx])
                          refine ⟨by simp [Out.nx], ?_⟩
                          obtain ⟨kh, ks⟩ := x.kill id
                          by_cases hcap : len + n ≤ kc
                          · obtain ⟨ho1, ho2⟩ := loadC_eq hg hold
                            have hmul := Nat.mul_le_mul_right i.size hcap
                            rw [Nat.add_mul] at hmul
                            have hge := g2.2
                            have hcsl : len * i.size ≤ cs.length - off := by
                              have := ho2; rw [ho1, List.length_take, List.length_drop] at this; omega
                            obtain ⟨w', cells', r1, r2, r3, r4, r5, r6, r7, r8⟩ := run_storeRow P tv fz b (o + off + len * i.size) ys 0 w cells q2 (by rw [q3]; exact q7 (by omega)) (VL.one c3 l3) (by omega)
                            have hsl : (splice cells.toList (o + off + len * i.size + 0) ys).length = cells.toList.length := splice_length _ _ _ (by simp; omega)
                            have hsz : cells'.size = cells.size := by rw [← Array.length_toList, r3, hsl, Array.length_toList]
                            obtain ⟨y1, y2⟩ := x.move hfx hg (by rfl) g1 (o' := o + off) (n' := m) r4 r5 r6 r7 r8 (blk := .row (old ++ new) tyy true 0) (by
                              refine ⟨b, o + off, m, cells', fz, tv, upd_same _ _ _, r2, by omega, by simp [ho2]; omega, fun e => by simp at e, ?_, q7, q8⟩
                              refine VL.mono (upd_le hfx) _ _ ?_
                              refine (VL_iff _ _).2 ⟨?_, fun k a v ha hv => ?_⟩
                              · rw [List.length_take, List.length_drop, r3, hsl]; simp [ho2]; omega
                              · rw [List.getElem?_take, List.getElem?_drop, r3, splice_get _ _ _ _ (by simp; omega)] at hv
                                split at hv
                                · rw [List.getElem?_append] at ha
                                  split at ha
                                  · rename_i hk1 hk2
                                    rw [ho2] at hk2
                                    rw [if_neg (by omega)] at hv
                                    rw [ho1, List.getElem?_take, List.getElem?_drop, if_pos hk2] at ha
                                    refine ((VL_iff _ _).1 q6).2 (off + k) a v ha ?_
                                    rw [List.getElem?_take, List.getElem?_drop, if_pos (by omega), ← hv]; congr 1; omega
                                  · rename_i hk1 hk2
                                    rw [ho2] at hk2 ha
                                    simp [ho2] at hk1
                                    rw [if_pos (by omega)] at hv
                                    refine ((VL_iff _ _).1 l3).2 _ a v ha ?_
                                    rw [← hv]; congr 1; omega
                                · simp at hv)
                            refine out_map ⟨_, w', _, ?_, ⟨b, o + off, m, upd_same _ _ _, kc, rfl, hcap, by omega⟩, y1, y2, upd_ext _ _ _⟩
                            rw [run_append_in h0 h1 hst hxt hxd hi l1 hcap l2, addr_add, r1]
                            rfl
                          · obtain ⟨b', o', m', os, s1, s2, s3, s4⟩ := loadC_ok x.drew (P := P) hold
                            rw [g1] at s1; simp at s1; obtain ⟨rfl, rfl, rfl⟩ := s1
                            exact grow kh ks b5 hcap s3 s4 (by simpa [Builtin.firstCells] using s2) hfx
                      · simp at hc
                  · simp at hc
            | _ => simp [appendTo] at hc
        · simp at hc
      · simp at hc
    · simp at hc
  · simp at hc
end
end Go.Proofs.YtgihpgdjkanodaaGreatDoor.Ev

namespace Go.Proofs.YtgihpgdjkanodaaGreatDoor.Ev
noncomputable section
open Go Go.RowKit

section
variable {P : Program} {σ : Sg} {h : Hp} {nx : Nat} {w : World}

theorem lenS_ok {a : AV} {n : Nat} {v : Value} (hl : lenS a = some n) (hv : V σ a v) : (Builtin.lenOf v).run P w = .ok n w := by
  unfold lenS at hl
  split at hl
  · simp at hl; subst hl; simp only [V] at hv; subst hv; simp [Builtin.lenOf, ByteArray.size]
  · simp at hl; subst hl; simp only [V] at hv; subst hv; simp [Builtin.lenOf]
  · simp at hl; subst hl; obtain ⟨_, _, rfl⟩ := hv; simp [Builtin.lenOf]
  · simp at hl; subst hl; obtain ⟨_, _, _, _, _, rfl, _⟩ := hv; simp [Builtin.lenOf]
  · simp at hl

theorem firstC_ok (x : HR σ h w) {size n : Nat} {a : AV} {l : List AV} {v : Value} (hs : firstC h size n a = some l) (hv : V σ a v) :
    ∃ ys, (Builtin.firstCells size n v).run P w = .ok ⟨ys⟩ w ∧ VL σ l ys := by
  unfold firstC at hs
  split at hs
  · rename_i s
    cases hb : Nat.beq size 1 with
    | false => simp [hb] at hs
    | true =>
      simp only [hb, cond_true] at hs
      obtain rfl := Option.some.inj hs
      simp only [V] at hv; subst hv
      refine ⟨(s.take n).map fun b => .int .u8 b.toNat, ?_, VL.bytes _⟩
      simp only [Builtin.firstCells, ByteArray.data_extract]
      simp [List.extract_eq_take_drop, List.map_take]
  · simp at hs; subst hs; simp only [V] at hv; subst hv
    exact ⟨[], by simp [Builtin.firstCells], rfl⟩
  · cases hn : Nat.beq n 0 with
    | false => simp [hn] at hs
    | true =>
      simp [hn] at hs; subst hs
      obtain rfl := Nat.eq_of_beq_eq_true hn
      obtain ⟨a, k, rfl⟩ := hv
      exact ⟨[], by cases a <;> simp [Builtin.firstCells, loadCells, loadCellsFrom], rfl⟩
  · rename_i id off len c
    obtain ⟨b, o, m, ys, h1, h2, h3, h4⟩ := loadC_ok x (P := P) hs
    obtain ⟨b', o', m', h1', k, rfl, _⟩ := hv
    rw [h1] at h1'; simp at h1'; obtain ⟨rfl, rfl, rfl⟩ := h1'
    exact ⟨ys, by simpa [Builtin.firstCells] using h2, h3⟩
  · simp at hs

theorem copy_ok {argTypes : Array TypeId} {ty : TypeId} {d s : AV} {dv sv : Value} {out : Out} (x : HR σ h w) (hd : V σ d dv) (hs : V σ s sv) (hc : copyCase P argTypes d s h nx = some out) :
    nx ≤ out.nx nx ∧ OutOK P σ h nx w (((Builtin.copy_ argTypes ty #[dv, sv]).run P w).andThen fun a w' => .ok (.value a) w') out := by
  unfold copyCase at hc
  split at hc
  · rename_i dt h0
    split at hc
    · rename_i e he
      have he := slice?_ok he
      split at hc
      · rename_i size ls ld hsz hls hld
        have h1 := lenS_ok (P := P) (w := w) hls hs
        split at hc
        · rename_i l id off len c hl
          split at hc
          · rename_i h' hst
            obtain rfl := Option.some.inj hc
            obtain ⟨ys, f1, f2⟩ := firstC_ok (P := P) x hl hs
            obtain ⟨b, o, m, w', s1, s2, s3, s4⟩ := storeC_ok (P := P) x hst f2
            obtain ⟨b', o', m', g1, k, rfl, _⟩ := hd
            rw [s1] at g1; simp at g1; obtain ⟨rfl, rfl, rfl⟩ := g1
            simp [lenS] at hld; subst hld
            refine ⟨Nat.le_refl _, out_map ⟨_, w', σ, ?_, rfl, s3, s4, Ext.refl _ _ _⟩⟩
            simp [Builtin.copy_, h0, run_under he, h1, run_sizeOf hsz, f1, s2, goInt]
          · simp at hc
        · rename_i l hl
          obtain rfl := Option.some.inj hc
          obtain ⟨ys, f1, f2⟩ := firstC_ok (P := P) x hl hs
          simp only [V] at hd; subst hd
          simp [lenS] at hld; subst hld
          refine ⟨Nat.le_refl _, out_map ⟨_, w, σ, ?_, rfl, x, Stp.refl _ _ _, Ext.refl _ _ _⟩⟩
          rw [show ls.min 0 = 0 from Nat.min_zero ls] at f1 ⊢
          simp [Builtin.copy_, h0, run_under he, h1, run_sizeOf hsz, goInt, f1]
        · simp at hc
      · simp at hc
    · simp at hc
  · simp at hc

def OV (σ : Sg) (o : Option AV) (v : Option Value) : Prop := match o, v with | none, none => True | some a, some u => V σ a u | _, _ => False

/-- A bound, as the model is given it. -/
def BndV (d : Nat) (n : Int) : Option Value → Prop
  | none => n = d
  | some v => ∃ k, v = .int k n

theorem bndA_ok {d : Nat} {o : Option AV} {n : Int} {v : Option Value} (hb : bndA d o = some n) (hv : OV σ o v) : BndV d n v := by
  unfold bndA at hb
  cases o with
  | none => cases v with
    | none => simp at hb; exact hb.symm
    | some u => exact hv.elim
  | some a => cases v with
    | none => exact hv.elim
    | some u => obtain ⟨k, rfl⟩ := intOf_ok hb hv; exact ⟨k, rfl⟩

theorem run_bounds (isS : Bool) {len cap : Nat} {l u m : Int} {lo hi mx : Option Value} (hl : BndV 0 l lo) (hu : BndV len u hi) (hm : BndV cap m mx) (hx : mx = none ∨ hi ≠ none) (hb : okB l u m cap = true) :
    (Instr.sliceBounds isS len cap lo hi mx).run P w = .ok (l.toNat, u.toNat, m.toNat) w := by
  simp only [okB, Bool.and_eq_true, decide_eq_true_eq] at hb
  obtain ⟨⟨⟨h1, h2⟩, h3⟩, h4⟩ := hb
  have e1 : 0 ≤ m := by omega
  have e2 : 0 ≤ u := by omega
  have mm : max m 0 = m := by omega
  have mu : max u 0 = u := by omega
  have hx' : hi = none → mx = none := fun e => hx.resolve_right (fun k => k e)
  cases lo <;> cases hi <;> cases mx
  all_goals (try (have := hx' rfl; simp at this; done))
  all_goals simp only [BndV] at hl hu hm
  all_goals (try (obtain ⟨k1, rfl⟩ := hl)); (try (obtain ⟨k2, rfl⟩ := hu)); (try (obtain ⟨k3, rfl⟩ := hm))
  all_goals (try subst hl); (try subst hu); (try subst hm)
  all_goals simp_all [Instr.sliceBounds, Instr.sliceBound, asIntOf]

theorem OV.isNone {o : Option AV} {v : Option Value} (h : OV σ o v) : o.isNone = v.isNone := by
  cases o <;> cases v <;> simp_all [OV]

theorem cut_ok {s l u m id off : Nat} {c : Cap} {b o n k : Nat} (h1 : σ id = some (b, o, n)) (hc : match c with | .known c => k = c | .opn e => u - l ≤ k ∧ o + (bif Nat.beq m l then off else off + l * s) + k * e = n) :
    V σ (cutA s l u m id off c) (.slice (some (if m = l then ⟨b, o + off, none⟩ else (⟨b, o + off, none⟩ : Addr).add (l * s))) (u - l) k) := by
  refine ⟨b, o, n, h1, k, ?_, hc⟩
  by_cases hm : m = l
  · subst hm; simp
  · have : Nat.beq m l = false := by
      cases hb : Nat.beq m l with
      | false => rfl
      | true => exact absurd (Nat.eq_of_beq_eq_true hb) hm
    simp [hm, this, addr_add, Nat.add_assoc]

theorem slice_ok {t : TypeId} {a : AV} {v : Value} {lo hi mx : Option AV} {lv hv mv : Option Value} {out : Out} (x : HR σ h w) (ha : V σ a v) (hl : OV σ lo lv) (hh : OV σ hi hv) (hm : OV σ mx mv)
    (hc : sliceCase P t a lo hi mx h nx = some out) :
    nx ≤ out.nx nx ∧ OutOK P σ h nx w (((Instr.sliceAt t v lv hv mv).run P w).andThen fun a w' => .ok (.value a) w') out := by
  unfold sliceCase at hc
  split at hc
  · rename_i n e ht
    split at hc
    · rename_i id off
      split at hc
      · rename_i s l u hs hl' hu'
        cases hb : okB l u n n with
        | false => simp [hb] at hc
        | true =>
          simp only [hb, cond_true] at hc
          obtain rfl := Option.some.inj hc
          obtain ⟨b, o, m, g1, rfl⟩ := ha
          have hmv : mv = none := by cases mv with | none => rfl | some _ => exact hm.elim
          subst hmv
          have hr := run_bounds (P := P) (w := w) false (len := n) (cap := n) (lo := lv) (hi := hv) (mx := none) (bndA_ok hl' hl) (bndA_ok hu' hh) rfl (.inl rfl) hb
          refine ⟨Nat.le_refl _, out_map ⟨_, w, σ, ?_, cut_ok g1 rfl, x, Stp.refl _ _ _, Ext.refl _ _ _⟩⟩
          simp [Instr.sliceAt, run_under ht, Instr.sureAddr, hr, run_sizeOf hs]
      · simp at hc
    · simp at hc
  · rename_i e ht
    have hat : ∀ v', (Instr.sliceAt t v' lv hv mv).run P w = (Instr.slice t v' lv hv mv).run P w := fun v' => by simp [Instr.sliceAt, run_under ht]
    rw [hat]
    split at hc
    · rename_i id off len c
      split at hc
      · rename_i s l u m hs hl' hu' hm'
        cases hb : (okB l u m c && (mx.isNone || hi.isSome)) with
        | false => simp [hb] at hc
        | true =>
          simp only [hb, cond_true] at hc
          obtain rfl := Option.some.inj hc
          simp only [Bool.and_eq_true] at hb
          obtain ⟨b, o, k, g1, kk, rfl, g2⟩ := ha
          simp only at g2; subst g2
          have hx : mv = none ∨ hv ≠ none := by
            have := hb.2
            rw [hm.isNone] at this
            cases mv with
            | none => exact .inl rfl
            | some _ => cases hi with
              | none => simp at this
              | some _ => cases hv with
                | none => exact hh.elim
                | some _ => exact .inr (by simp)
          have hr := run_bounds (P := P) (w := w) true (len := len) (cap := kk) (bndA_ok hl' hl) (bndA_ok hu' hh) (bndA_ok hm' hm) hx hb.1
          refine ⟨Nat.le_refl _, out_map ⟨_, w, σ, ?_, cut_ok g1 rfl, x, Stp.refl _ _ _, Ext.refl _ _ _⟩⟩
          simp only [Instr.slice, Sem.run_bind, run_under ht, Result.andThen_ok, hr, run_sizeOf hs]
          simp only [Sem.run_pure]
          congr 2
          split <;> simp_all
      · simp at hc
    · rename_i id off len k
      split at hc
      · rename_i s l u hs hl' hu'
        cases hb : (okB l u len len && (decide (l < len) || decide (l = 0)) && Nat.beq s k) with
        | false =>
          simp only [hb, cond_false] at hc
          cases hb' : (okB l u len len && decide (l = u)) with
          | false => simp [hb'] at hc
          | true =>
            simp only [hb', cond_true] at hc
            obtain rfl := Option.some.inj hc
            simp only [Bool.and_eq_true, decide_eq_true_eq] at hb'
            obtain ⟨hb1, rfl⟩ := hb'
            obtain ⟨b, o, n, g1, kc, rfl, g2, g3⟩ := ha
            have hmv : mv = none := by cases mv with | none => rfl | some _ => exact hm.elim
            subst hmv
            have hb1' : okB l l kc kc = true := by
              simp only [okB, Bool.and_eq_true, decide_eq_true_eq] at hb1 ⊢; omega
            have hr := run_bounds (P := P) (w := w) true (len := len) (cap := kc) (lo := lv) (hi := hv) (mx := none) (bndA_ok hl' hl) (bndA_ok hu' hh) rfl (.inl rfl) hb1'
            refine ⟨Nat.le_refl _, out_map ⟨.slice (some (if kc = l.toNat then ⟨b, o + off, none⟩ else (⟨b, o + off, none⟩ : Addr).add (l.toNat * s))) 0 (kc - l.toNat), w, σ, ?_, ⟨_, _, rfl⟩, x, Stp.refl _ _ _, Ext.refl _ _ _⟩⟩
            simp only [Instr.slice, Sem.run_bind, run_under ht, Result.andThen_ok, hr, run_sizeOf hs]
            simp only [Sem.run_pure, Int.toNat_natCast, Nat.sub_self]
            congr 3
            split <;> simp_all
        | true =>
          simp only [hb, cond_true] at hc
          obtain rfl := Option.some.inj hc
          simp only [Bool.and_eq_true] at hb
          obtain ⟨⟨hb1, hb2⟩, hb3⟩ := hb
          obtain rfl := Nat.eq_of_beq_eq_true hb3
          obtain ⟨b, o, n, g1, kc, rfl, g2, g3⟩ := ha
          have hmv : mv = none := by cases mv with | none => rfl | some _ => exact hm.elim
          subst hmv
          have hb1' : okB l u kc kc = true := by
            simp only [okB, Bool.and_eq_true, decide_eq_true_eq] at hb1 ⊢; omega
          have hr := run_bounds (P := P) (w := w) true (len := len) (cap := kc) (lo := lv) (hi := hv) (mx := none) (bndA_ok hl' hl) (bndA_ok hu' hh) rfl (.inl rfl) hb1'
          simp only [okB, Bool.and_eq_true, decide_eq_true_eq] at hb1
          simp only [Bool.or_eq_true, decide_eq_true_eq] at hb2
          obtain ⟨l', rfl⟩ : ∃ l' : Nat, l = l' := ⟨l.toNat, by omega⟩
          obtain ⟨u', rfl⟩ : ∃ u' : Nat, u = u' := ⟨u.toNat, by omega⟩
          have hmul : l' * s + (kc - l') * s = kc * s := by rw [← Nat.add_mul]; congr 1; omega
          refine ⟨Nat.le_refl _, out_map ⟨_, w, σ, ?_, ⟨b, o, n, g1, kc - l', rfl, by simp; omega, by simp; omega⟩, x, Stp.refl _ _ _, Ext.refl _ _ _⟩⟩
          simp only [Instr.slice, Sem.run_bind, run_under ht, Result.andThen_ok, hr, run_sizeOf hs]
          simp only [Sem.run_pure, Int.toNat_natCast]
          congr 3
          by_cases hk : kc = l'
          · have : l' = 0 := by omega
            subst this; simp [hk]
          · simp [hk, addr_add, Nat.add_assoc]
      · rename_i s l u mm hs hl' hu' 
        split at hc
        · rename_i m hm'
          cases hb : (okB l u m len && hi.isSome) with
          | false => simp [hb] at hc
          | true =>
            simp only [hb, cond_true] at hc
            obtain rfl := Option.some.inj hc
            simp only [Bool.and_eq_true] at hb
            obtain ⟨hb1, hb2⟩ := hb
            obtain ⟨b, o, n, g1, kc, rfl, g2, g3⟩ := ha
            have hb1' : okB l u m kc = true := by
              simp only [okB, Bool.and_eq_true, decide_eq_true_eq] at hb1 ⊢; omega
            have hx : mv = none ∨ hv ≠ none := by
              cases hi with
              | none => simp at hb2
              | some _ => cases hv with
                | none => exact hh.elim
                | some _ => exact .inr (by simp)
            have hr := run_bounds (P := P) (w := w) true (len := len) (cap := kc) (lo := lv) (hi := hv) (mx := mv) (bndA_ok hl' hl) (bndA_ok hu' hh) (bndA_ok (o := some mm) hm' hm) hx hb1'
            refine ⟨Nat.le_refl _, out_map ⟨_, w, σ, ?_, cut_ok g1 rfl, x, Stp.refl _ _ _, Ext.refl _ _ _⟩⟩
            simp only [Instr.slice, Sem.run_bind, run_under ht, Result.andThen_ok, hr, run_sizeOf hs]
            simp only [Sem.run_pure]
            congr 2
            split <;> simp_all
        · simp at hc
      · simp at hc
    · split at hc
      · rename_i l u m hl' hu' hm'
        cases hb : (okB l u m 0 && (mx.isNone || hi.isSome)) with
        | false => simp [hb] at hc
        | true =>
          simp only [hb, cond_true] at hc
          split at hc
          · rename_i s hs
            obtain rfl := Option.some.inj hc
            simp only [Bool.and_eq_true] at hb
            simp only [V] at ha; subst ha
            have hx : mv = none ∨ hv ≠ none := by
              have := hb.2
              rw [hm.isNone] at this
              cases mv with
              | none => exact .inl rfl
              | some _ => cases hi with
                | none => simp at this
                | some _ => cases hv with
                  | none => exact hh.elim
                  | some _ => exact .inr (by simp)
            have hr := run_bounds (P := P) (w := w) true (len := 0) (cap := 0) (bndA_ok hl' hl) (bndA_ok hu' hh) (bndA_ok hm' hm) hx hb.1
            have hb1 := hb.1
            simp only [okB, Bool.and_eq_true, decide_eq_true_eq] at hb1
            have e1 : l = 0 := by omega
            have e2 : u = 0 := by omega
            have e3 : m = 0 := by omega
            subst e1 e2 e3
            refine ⟨Nat.le_refl _, out_map ⟨_, w, σ, ?_, rfl, x, Stp.refl _ _ _, Ext.refl _ _ _⟩⟩
            simp [Instr.slice, run_under ht, hr, run_sizeOf hs]
          · simp at hc
      · simp at hc
    · simp at hc
  · simp at hc
end
end
end Go.Proofs.YtgihpgdjkanodaaGreatDoor.Ev

