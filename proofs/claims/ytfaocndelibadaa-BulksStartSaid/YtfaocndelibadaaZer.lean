/-
  Helper text: append of zeros to a slice of the call's own; no statement is proved here.
-/
import Derived.Test.YtfaocndelibadaaRegB
import Derived.Lib.AppendZerosOnto
namespace Go.Proofs.Ytfaocndelibadaa
open Go Go.RowKit

theorem zeros_map (k : Nat) : Builtin.zeroCells (Value.int .u8 0).cells k = ((List.replicate k (0 : UInt8)).map bv).toArray := by
  apply Array.ext
  · simp [Builtin.zeroCells, Value.cells]
  · intro i h1 h2
    simp [Builtin.zeroCells, Value.cells, Nat.mod_one]

theorem run_append_own_zeros {P : Program} (w : World) (base : Nat) (t tn ty e : TypeId) (i : TypeInfo) (ht : P.underlying t = some (.slice e)) (htn : P.underlying tn = some (.int .i64)) (hi : P.info? e = some i) (hz : i.zero = some (.int .u8 0))
    (hsize : i.size = 1) (hby : i.bytes = 1) (v : Value) (zs : List UInt8) (hown : w.ownsRow base e 1 v zs.length (zs.map bv)) (k : Nat) (hl : zs.length + k ≤ 1000000000) (hbase : base ≤ w.heap.size) :
    ∃ v' w', (Builtin.append_ #[t, tn] ty #[v, .int .i64 (k : Int)]).run P w = .ok v' w' ∧ w'.ownsRow base e 1 v' (zs ++ List.replicate k 0).length ((zs ++ List.replicate k 0).map bv) ∧ w.grownBy w' v.ownBlock := by
  have hw : IntKind.i64.wrap (k : Int) = k := by rw [IntKind.wrap_i64]; omega
  have hw0 : IntKind.i64.wrap 0 = 0 := by decide
  have hneg : ¬ ((k : Int) < 0) := by omega
  have h48i : ¬ (281474976710656 < (k : Int)) := by omega
  have hlen : (zs ++ List.replicate k (0 : UInt8)).length = zs.length + k := by simp
  rw [hlen]
  have grown : ∀ (old : Nat), old < zs.length + k → ∀ (row : Option Nat) (cs : Array Value), cs.toList = (zs.map bv) →
      (w.drew.alloc (.cells (cs ++ Builtin.zeroCells (Value.int .u8 0).cells k ++ Builtin.zeroCells (Value.int .u8 0).cells (grownCap w (zs.length + k) old e - (zs.length + k))) e)).ownsRow base e 1
        (.slice (some ⟨w.heap.size, 0, none⟩) (zs.length + k) (grownCap w (zs.length + k) old e)) (zs.length + k) ((zs ++ List.replicate k 0).map bv) ∧
      w.grownBy (w.drew.alloc (.cells (cs ++ Builtin.zeroCells (Value.int .u8 0).cells k ++ Builtin.zeroCells (Value.int .u8 0).cells (grownCap w (zs.length + k) old e - (zs.length + k))) e)) row := by
    intro old ho row cs hcs
    have hge := grownCap_ge w (zs.length + k) old e
    have hcm : grownCap w (zs.length + k) old e ≤ maxLen := grownCap_le_maxLen w (zs.length + k) old e (by simp only [maxLen]; omega)
    have hsz : cs.size = zs.length := by rw [← Array.length_toList, hcs, List.length_map]
    refine ⟨⟨by simp, .inr ⟨w.heap.size, _, _, rfl, hbase, heap_alloc_new w.drew _, hge, hcm, ?_, ?_⟩⟩, ⟨rfl, rfl, rfl, by simp, fun k hk _ => heap_alloc_old w.drew _ hk⟩⟩
    · simp only [Array.size_append, size_zeroCells, hsz]
      simp only [Value.cells, List.size_toArray, List.length_cons, List.length_nil]
      omega
    · simp only [Array.toList_append, hcs]
      rw [zeros_map k, ← List.map_append, List.map_append]
      apply List.take_left'
      simp
  rcases hown.2 with ⟨rfl, h0⟩ | ⟨g, cap, cur, rfl, hbg, hg, hnc, hcm, hcs, htake⟩
  · obtain rfl : zs = [] := List.eq_nil_of_length_eq_zero h0
    rcases Nat.eq_zero_or_pos k with rfl | hk
    · refine ⟨.slice none 0 0, w, ?_, World.ownsRow_nil w base e 1, ⟨rfl, rfl, rfl, Nat.le_refl _, fun _ _ _ => rfl⟩⟩
      simp [Builtin.append_, run_underlying ht, run_underlying htn, sizeOf, typeInfo, hi, asInt, asIntOf, hw0]
    · have hr := Lib.run_append_nil_zeros (P := P) w t tn ty e i (.int .u8 0) .i64 .i64 ht htn hi hz k hk (by omega) (by omega) (by rw [hby]; omega)
      have hgr := grown 0 (by simp; omega) (Value.ownBlock (.slice none 0 0)) #[] rfl
      simp only [Nat.zero_add, List.nil_append, Array.empty_append, List.length_nil] at hgr ⊢
      exact ⟨_, _, hr, hgr.1, hgr.2⟩
  · by_cases hroom : zs.length + k ≤ cap
    · have hcz : cur.size = cap := by omega
      have hst := run_storeCells_at P g zs.length e ((List.replicate k (0 : UInt8)).map bv) 0 cur w hg (by simp; omega) (by intro u hu; obtain ⟨x, _, rfl⟩ := List.mem_map.1 hu; rfl)
      have htk : List.take zs.length cur.toList = zs.map bv := by rw [← htake, Nat.mul_one]
      refine ⟨.slice (some ⟨g, 0, none⟩) (zs.length + k) cap, w.setRow g (cur.toList.take zs.length ++ ((List.replicate k (0 : UInt8)).map bv) ++ cur.toList.drop (zs.length + k)).toArray, ?_, ⟨by simp, .inr ⟨g, cap, _, rfl, hbg, setRow_heap w g cur _ e _ hg, hroom, hcm, ?_, ?_⟩⟩, ⟨rfl, rfl, rfl, by simp, fun k _ hk => setRow_other w g k _ (fun e => hk (by simp [Value.ownBlock, e]))⟩⟩
      · simp only [Nat.add_zero, List.length_map, List.length_replicate] at hst
        rcases Nat.eq_zero_or_pos k with rfl | hk
        · simp only [List.replicate_zero, List.map_nil] at hst
          simp [Builtin.append_, run_underlying ht, run_underlying htn, sizeOf, typeInfo, zeroValue, hi, hz, asInt, asIntOf, hw0, hsize, hnc, Addr.add_lit, hst]
        · have hkn : ¬ (k = 0) := by omega
          have hzm := zeros_map k
          simp only [List.map_replicate, List.append_assoc] at hst
          simp [Builtin.append_, run_underlying ht, run_underlying htn, sizeOf, typeInfo, zeroValue, hi, hz, asInt, asIntOf, hw, hneg, h48i, hby, hsize, hkn, hroom, Addr.add_lit, hzm, hst]
      · simp only [List.size_toArray, List.length_append, List.length_take, List.length_drop, Array.length_toList, List.length_map, List.length_replicate]
        omega
      · rw [htk, List.map_append]
        apply List.take_left'
        simp
    · have hold : (Builtin.firstCells i.size zs.length (.slice (some ⟨g, 0, none⟩) zs.length cap)).run P w.drew = .ok (zs.map bv).toArray w.drew :=
        run_firstCells_some (P := P) w.drew i.size zs.length ⟨g, 0, none⟩ zs.length cap (zs.map bv) (by rw [hsize]; simp) (fun j u hj => (hown.cells (g := g) rfl) j u hj)
      have hk : 0 < k := by omega
      have hr := Lib.run_append_grow_zeros (P := P) w t tn ty e i (.int .u8 0) .i64 .i64 ht htn hi hz (some ⟨g, 0, none⟩) zs.length cap (zs.map bv) hold k hk (by omega) (by omega) (by omega) (by rw [hby]; omega) (growslice_fits (by omega) (by rw [hby]; omega))
      have hgr := grown cap (by omega) (Value.ownBlock (.slice (some ⟨g, 0, none⟩) zs.length cap)) (zs.map bv).toArray (by simp)
      exact ⟨_, _, hr, hgr.1, hgr.2⟩

/-- append of k zeros, for the walk. -/
theorem wpl_appendZeros {P : Program} {ops : Array Oper} {rest : List Oper} {o : Oper} {a : Act} {Q : Exit → Act → World → Prop} {w : World} {t tn e : TypeId} (ht : P.underlying t = some (.slice e)) (htn : P.underlying tn = some (.int .i64))
    (hinf : (P.info? e).map (fun i => (i.zero, i.size, i.bytes)) = some (some (.int .u8 0), 1, 1)) (hgd : o.guard = none) (s x : Operand)
    (ho : o.op = .call { callee := .builtin .append, args := #[s, x], argTypes := #[t, tn] })
    (base : Nat) (v : Value) (zs : List UInt8) (hs : a.eval s = v) (hown : w.ownsRow base e 1 v zs.length (zs.map bv)) (k : Nat) (hx : a.eval x = .int .i64 (k : Int)) (hl : zs.length + k ≤ 1000000000) (hbase : base ≤ w.heap.size)
    (h : ∀ v' w', w'.ownsRow base e 1 v' (zs ++ List.replicate k 0).length ((zs ++ List.replicate k 0).map bv) → Below base w w' → wpList P ops Q rest (a.put o.dst v') w') :
    wpList P ops Q (o :: rest) a w := by
  obtain ⟨i0, hi, hz0, hz1, hz2⟩ := info_parts hinf
  obtain ⟨v', w', hr, h1, h2⟩ := run_append_own_zeros (P := P) w base t tn o.type e i0 ht htn hi hz0 hz1 hz2 v zs hown k hl hbase
  exact Lib.wpList_append_run w hgd s x t tn ho _ _ hs hx v' w' hr (h v' w' h1 ((Below.refl base w).grown h2 hbase fun k hk => (hown.lt k hk).1))

end Go.Proofs.Ytfaocndelibadaa
