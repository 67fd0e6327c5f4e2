/-
  Helper text: slices and such, of our own machine; no statement is proved here.
-/
import Derived.Test.YtochkonjfhhiiaaEvE
import Derived.IntWalk
namespace Go.Proofs.Ytochkonjfhhiiaa.Ev
noncomputable section
open Go Go.RowKit

theorem slice?_ok {P : Program} {t e : TypeId} (h : slice? P t = some e) : P.underlying t = some (.slice e) := by
  unfold slice? at h
  split at h
  · rename_i he; simp at h; subst h; exact he
  · simp at h

section
variable {P : Program} {σ : Sg} {h : Hp} {nx : Nat} {w : World}

theorem indexAddr_ok {t : TypeId} {a b : AV} {u v : Value} {out : Out} (x : HR σ h w) (hu : V σ a u) (hv : V σ b v) (hc : indexAddrCase P t a b h nx = some out) :
    nx ≤ out.nx nx ∧ OutOK P σ h nx w (((Instr.indexAt t u v).run P w).andThen fun a w' => .ok (.value a) w') out := by
  unfold indexAddrCase at hc
  split at hc
  · rename_i n e id off i ht hi
    obtain ⟨k, rfl⟩ := intOf_ok hi hv
    split at hc
    · rename_i s hs
      cases hb : (decide (0 ≤ i) && decide (i < n)) with
      | false => simp only [hb, cond_false] at hc; simp at hc
      | true =>
        simp only [hb, cond_true] at hc
        obtain rfl := Option.some.inj hc
        simp at hb
        obtain ⟨b, o, m, h1, rfl⟩ := hu
        refine ⟨Nat.le_refl _, out_map ⟨_, w, σ, ?_, ⟨b, o, m, h1, rfl⟩, x, Stp.refl _ _ _, Ext.refl _ _ _⟩⟩
        simp [Instr.indexAt, run_asIntOf, run_under ht, Instr.sureAddr, hb, run_sizeOf hs, addr_add, Nat.add_assoc]
    · simp at hc
  · rename_i e id off len c i ht hi
    obtain ⟨k, rfl⟩ := intOf_ok hi hv
    split at hc
    · rename_i s hs
      cases hb : (decide (0 ≤ i) && decide (i < len)) with
      | false => simp only [hb, cond_false] at hc; simp at hc
      | true =>
        simp only [hb, cond_true] at hc
        obtain rfl := Option.some.inj hc
        simp at hb
        obtain ⟨b, o, m, h1, kk, rfl, _⟩ := hu
        refine ⟨Nat.le_refl _, out_map ⟨_, w, σ, ?_, ⟨b, o, m, h1, rfl⟩, x, Stp.refl _ _ _, Ext.refl _ _ _⟩⟩
        simp [Instr.indexAt, run_asIntOf, run_under ht, hb, run_sizeOf hs, addr_add, Nat.add_assoc]
    · simp at hc
  · simp at hc

theorem rep_get {α : Type} (l : List α) : ∀ (c j : Nat), (List.replicate c l).flatten[j]? = if j < c * l.length then l[j % l.length]? else none
  | 0, j => by simp
  | c + 1, j => by
    rw [List.replicate_succ, List.flatten_cons, List.getElem?_append]
    by_cases hj : j < l.length
    · rw [if_pos hj, if_pos (by rw [Nat.add_mul]; omega), Nat.mod_eq_of_lt hj]
    · rw [if_neg hj, rep_get l c]
      have hm : (j - l.length) % l.length = j % l.length := by
        conv => rhs; rw [show j = j - l.length + l.length by omega, Nat.add_mod_right]
      rw [hm]
      by_cases hc : j - l.length < c * l.length
      · rw [if_pos hc, if_pos (by rw [Nat.add_mul]; omega)]
      · rw [if_neg hc, if_neg (by rw [Nat.add_mul]; omega)]

theorem madeRow (c s : Nat) (z : Array Value) (hz : z.size = s) : (Array.range (c * s)).map (z[· % z.size]!) = ⟨(List.replicate c z.toList).flatten⟩ := by
  subst hz
  apply Array.ext'
  apply List.ext_getElem?
  intro j
  rw [rep_get]
  simp only [Array.toList_map, Array.toList_range, List.getElem?_map, List.getElem?_range, Array.length_toList]
  by_cases hj : j < c * z.size
  · have hs : 0 < z.size := by
      rcases Nat.eq_zero_or_pos z.size with h | h
      · rw [h] at hj; simp at hj
      · exact h
    have hm : j % z.size < z.size := Nat.mod_lt _ hs
    simp [hj, hm]
  · simp [hj]

theorem makeSlice_ok {t : TypeId} {a b : AV} {u v : Value} {out : Out} (x : HR σ h w) (hu : V σ a u) (hv : V σ b v) (hc : makeSliceCase P t a b h nx = some out) (hf : Fresh σ nx (out.nx nx)) :
    nx ≤ out.nx nx ∧ OutOK P σ h nx w (((Instr.makeSlice t u v).run P w).andThen fun a w' => .ok (.value a) w') out := by
  unfold makeSliceCase at hc
  split at hc
  · rename_i e l c he hl hcc
    split at hc
    · rename_i i z hi hz
      have he := slice?_ok he
      obtain ⟨k1, rfl⟩ := intOf_ok hl hu
      obtain ⟨k2, rfl⟩ := intOf_ok hcc hv
      cases hb : (decide (0 ≤ l) && decide (l ≤ c) && decide (c < 1048576) && decide (i.bytes < 1048576) && Nat.beq z.cells.length i.size) with
      | false => simp only [hb, cond_false] at hc; simp at hc
      | true =>
        simp only [hb, cond_true] at hc
        obtain rfl := Option.some.inj hc
        simp only [Bool.and_eq_true, decide_eq_true_eq] at hb
        obtain ⟨⟨⟨⟨hb1, hb2⟩, hb3⟩, hb4⟩, hb5⟩ := hb
        have hb5 := Nat.eq_of_beq_eq_true hb5
        have hfx : σ nx = none := hf nx (Nat.le_refl _) (by simp [Out.nx])
        obtain ⟨zv, hz1, hz2, j, hj, hjz⟩ := run_zeroValue hz w σ
        rw [hi] at hj; obtain rfl := Option.some.inj hj
        have hzl := hz2.cells.length
        have hw1 : IntKind.i64.wrap l = l := IntWalk.i64_in _ (by omega)
        have hw2 : IntKind.i64.wrap c = c := IntWalk.i64_in _ (by omega)
        have hsz : size? P e = some i.size := by simp [size?, hi]
        have hbig : ¬ ((i.bytes : Int) * c > 281474976710656) := by
          have : (i.bytes : Int) * c ≤ 1048576 * 1048576 := Int.mul_le_mul (by omega) (by omega) (by omega) (by omega)
          omega
        have hrun : ∃ vs, VL σ (rep c.toNat z.cells) vs ∧ vs.length = c.toNat * i.size ∧ (Instr.makeSlice t (.int k1 l) (.int k2 c)).run P w = .ok (.slice (some ⟨w.heap.size, 0, none⟩) l.toNat c.toNat) (w.alloc (.cells ⟨vs⟩ e)) := by
          refine ⟨(List.replicate c.toNat zv.cells.toList).flatten, VL.rep hz2.cells _, by simp [← hzl, hb5], ?_⟩
          have hl0 : ¬ l < 0 := by omega
          have hlc : ¬ l > c := by omega
          have hc0 : ¬ c < 0 := by omega
          by_cases hn : c.toNat * i.size = 0
          · have hemp : (List.replicate c.toNat zv.cells.toList).flatten = [] := by
              apply List.eq_nil_of_length_eq_zero; simp [← hzl, hb5]; simpa using hn
            simp [Instr.makeSlice, run_under he, asInt, run_asIntOf, run_typeInfo hi, hw1, hw2, hl0, hlc, hc0, hbig, run_sizeOf hsz, hn, newRow, hemp]
            rw [show Array.map (fun _ => (default : Value)) (Array.range 0) = ⟨[]⟩ from by apply Array.ext'; simp]
          · have hsz0 : zv.cells.size = i.size := by rw [← Array.length_toList, ← hzl, hb5]
            have := madeRow c.toNat i.size zv.cells hsz0
            simp [Instr.makeSlice, run_under he, asInt, run_asIntOf, run_typeInfo hi, hw1, hw2, hl0, hlc, hc0, hbig, run_sizeOf hsz, hn, newRow, hz1, this]
        obtain ⟨vs, hvs, hvl, hr⟩ := hrun
        obtain ⟨τ, t1, t2, t3, t4⟩ := newR_ok x hfx e hvs
        exact ⟨by simp [Out.nx], out_map ⟨_, _, τ, hr, ⟨w.heap.size, 0, vs.length, t1, c.toNat, rfl, rfl⟩, t2, t3, t4⟩⟩
    · simp at hc
  · simp at hc

end
end
end Go.Proofs.Ytochkonjfhhiiaa.Ev
