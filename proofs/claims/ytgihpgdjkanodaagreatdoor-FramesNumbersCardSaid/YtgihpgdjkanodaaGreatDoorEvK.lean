/-
  Helper text, several in one; no statement is proved here.
-/
import Derived.Test.YtgihpgdjkanodaaGreatDoorEvI
import Derived.Laws.BytesString
import Derived.Lib.ConvBytes
namespace Go.Proofs.YtgihpgdjkanodaaGreatDoor.Ev
noncomputable section
open Go Go.RowKit

section
variable {P : Program} {σ : Sg} {h : Hp} {nx : Nat} {w : World}

theorem assert_ok {xt t : TypeId} {a : AV} {v : Value} {ok : Bool} {out : Out} (x : HR σ h w) (ha : V σ a v) (hc : assertCase P a t ok h nx = some out) :
    nx ≤ out.nx nx ∧ OutOK P σ h nx w (((Instr.typeAssert v xt t ok).run P w).andThen fun a w' => .ok (.value a) w') out := by
  unfold assertCase at hc
  split at hc
  · rename_i want tt y ht
    obtain ⟨yv, hy, rfl⟩ := ha
    split at hc
    · rename_i i hi
      split at hc
      · rename_i hm
        obtain rfl := Option.some.inj hc
        refine ⟨Nat.le_refl _, ?_⟩
        cases ok
        · exact out_map ⟨.iface tt yv, w, σ, by simp [Instr.typeAssert, run_under ht, run_typeInfo hi, hm], ⟨yv, hy, rfl⟩, x, Stp.refl _ _ _, Ext.refl _ _ _⟩
        · refine out_map ⟨.tuple #[.iface tt yv, .bool true], w, σ, by simp [Instr.typeAssert, run_under ht, run_typeInfo hi, hm], ?_, x, Stp.refl _ _ _, Ext.refl _ _ _⟩
          exact ⟨[.iface tt yv, .bool true], VL.cons ⟨yv, hy, rfl⟩ (VL.cons rfl rfl), rfl⟩
      · rename_i m hm
        cases ok
        · simp at hc
        · simp at hc
          obtain ⟨z, hz, rfl⟩ := hc
          obtain ⟨zv, z1, z2, _⟩ := run_zeroValue hz w σ
          refine ⟨Nat.le_refl _, out_map ⟨.tuple #[zv, .bool false], w, σ, by simp [Instr.typeAssert, run_under ht, run_typeInfo hi, hm, z1], ?_, x, Stp.refl _ _ _, Ext.refl _ _ _⟩⟩
          exact ⟨[zv, .bool false], VL.cons z2 (VL.cons rfl rfl), rfl⟩
    · simp at hc
  · rename_i d ht
    simp only [V] at ha; subst ha
    cases ok
    · simp at hc
    · simp at hc
      obtain ⟨z, hz, rfl⟩ := hc
      obtain ⟨zv, z1, z2, _⟩ := run_zeroValue hz w σ
      refine ⟨Nat.le_refl _, out_map ⟨.tuple #[zv, .bool false], w, σ, ?_, ?_, x, Stp.refl _ _ _, Ext.refl _ _ _⟩⟩
      · cases d <;> simp [Instr.typeAssert, run_under ht, z1]
      · exact ⟨[zv, .bool false], VL.cons z2 (VL.cons rfl rfl), rfl⟩
  · rename_i d tt y hn ht
    obtain ⟨yv, hy, rfl⟩ := ha
    have hni : ∀ ms, d ≠ .interface ms := fun ms e => hn ms e
    cases hb : Nat.beq tt t with
    | true =>
      simp only [hb, cond_true] at hc
      obtain rfl := Option.some.inj hc
      obtain rfl := Nat.eq_of_beq_eq_true hb
      refine ⟨Nat.le_refl _, ?_⟩
      cases ok
      · refine out_map ⟨yv, w, σ, ?_, hy, x, Stp.refl _ _ _, Ext.refl _ _ _⟩
        cases d <;> first | (exact absurd rfl (hni _)) | simp [Instr.typeAssert, run_under ht]
      · refine out_map ⟨.tuple #[yv, .bool true], w, σ, ?_, ⟨[yv, .bool true], VL.cons hy (VL.cons rfl rfl), rfl⟩, x, Stp.refl _ _ _, Ext.refl _ _ _⟩
        cases d <;> first | (exact absurd rfl (hni _)) | simp [Instr.typeAssert, run_under ht]
    | false =>
      simp only [hb, cond_false] at hc
      have hne := Nat.ne_of_beq_eq_false hb
      cases ok
      · simp at hc
      · simp at hc
        obtain ⟨z, hz, rfl⟩ := hc
        obtain ⟨zv, z1, z2, _⟩ := run_zeroValue hz w σ
        refine ⟨Nat.le_refl _, out_map ⟨.tuple #[zv, .bool false], w, σ, ?_, ?_, x, Stp.refl _ _ _, Ext.refl _ _ _⟩⟩
        · cases d <;> first | (exact absurd rfl (hni _)) | simp [Instr.typeAssert, run_under ht, z1, hne]
        · exact ⟨[zv, .bool false], VL.cons z2 (VL.cons rfl rfl), rfl⟩
  · simp at hc

/-- The method behind a dynamic type. -/
theorem method_ok {t : TypeId} {name : String} {f : FuncId} (hm : methodOf P t name = some f) (v : Value) (n : Nat) : (method (n + 1) t v name).run P w = .ok (f, v) w := by
  unfold methodOf at hm
  split at hm
  · rename_i i hi
    split at hm
    · rename_i m hfind
      cases hp : m.path.isEmpty with
      | false => simp [hp] at hm
      | true =>
        simp only [hp, cond_true] at hm
        have hpath : m.path = #[] := by simpa using hp
        split at hm
        · rename_i f' e hf ht
          simp at hm; subst hm
          simp [method, run_typeInfo hi, hfind, hpath, follow, hf, receiverAt, run_under ht, Place.get]
        · simp at hm
        · rename_i f' d hne hf ht
          simp at hm; subst hm
          have hni : ∀ e, d ≠ .pointer e := fun e he => by
            subst he
            exact hne e rfl
          cases d <;> first
            | (exact absurd rfl (hni _))
            | simp [method, run_typeInfo hi, hfind, hpath, follow, hf, receiverAt, run_under ht, Place.get]
        · simp at hm
    · simp at hm
  · simp at hm

theorem fuel_pos (P : Program) : ∃ n, P.types.size + Made.depth = n + 1 := ⟨P.types.size + 99, rfl⟩

theorem callFunc_ok (hN : ∀ (f : FuncId) (fn : Func), P.funcs[f]? = some fn → (fn.name == "runtime.NumGoroutine") = false) {f : FuncId} (hf : ∃ fn, P.funcs[f]? = some fn ∧ fn.body.isSome = true) (args : Array Value) : (callFunc f args).run P w = .ok (.enter f args) w := by
  obtain ⟨fn, h1, h2⟩ := hf
  have h3 : fn.name ≠ "runtime.NumGoroutine" := by simpa using hN f fn h1
  have h4 : fn.body ≠ none := fun e => by simp [e] at h2
  simp [callFunc, h1, h3, h4]

theorem fold_splice (off : Nat) : ∀ (l : List Value) (k : Nat) (cells : Array Value), off + k + l.length ≤ cells.size →
    ((l.zipIdx k).foldl (fun cs p => cs.setIfInBounds (off + p.2) p.1) cells).toList = splice cells.toList (off + k) l
  | [], k, cells, hb => by
    apply List.ext_getElem?
    intro j
    rw [splice_get _ _ _ _ (by simpa using hb)]
    simp
    intro a b; omega
  | v :: l, k, cells, hb => by
    simp only [List.length_cons] at hb
    rw [List.zipIdx_cons, List.foldl_cons, fold_splice off l (k + 1) _ (by simp; omega), splice_cons _ _ _ _ (by simp; omega)]
    simp [Nat.add_assoc]

theorem fill_ok {place : Nat → Option (Nat × Nat)} : ∀ {ps : List (Nat × AV)} {qs : List (Nat × Value)} {cs cs' : List AV} {vs : List Value}, fillC place cs ps = some cs' → VL σ cs vs →
    ps.map (·.1) = qs.map (·.1) → VL σ (ps.map (·.2)) (qs.map (·.2)) → ∃ vs', Instr.fill place ⟨vs⟩ qs = some ⟨vs'⟩ ∧ VL σ cs' vs'
  | [], qs, cs, cs', vs, hf, hv, h1, h2 => by
    simp [fillC] at hf; subst hf
    obtain rfl : qs = [] := by simpa using h1.symm
    exact ⟨vs, rfl, hv⟩
  | (i, a) :: ps, [], cs, cs', vs, hf, hv, h1, h2 => by simp at h1
  | (i, a) :: ps, (j, v) :: qs, cs, cs', vs, hf, hv, h1, h2 => by
    simp at h1
    obtain ⟨rfl, h1⟩ := h1
    obtain ⟨y, ys, e, p, q⟩ := h2
    simp at e
    obtain ⟨rfl, rfl⟩ := e
    change V σ a v at p
    simp only [fillC] at hf
    split at hf
    · simp at hf
    · rename_i off size hpl
      cases hb : (Nat.beq a.cells.length size && Nat.ble (off + size) cs.length) with
      | false => simp only [hb, cond_false] at hf; simp at hf
      | true =>
        simp only [hb, cond_true] at hf
        simp only [Bool.and_eq_true] at hb
        have b1 := Nat.eq_of_beq_eq_true hb.1
        have b2 := Nat.le_of_ble_eq_true hb.2
        have hc := p.cells
        have hl := hc.length
        have hvl := hv.length
        have hsp : v.cells.toList.length = size := by omega
        obtain ⟨vs', r1, r2⟩ := fill_ok hf (VL.splice hv hc off (by omega)) h1 q
        refine ⟨vs', ?_, r2⟩
        simp only [Instr.fill, hpl]
        have e1 : v.cells.size = size := by rw [← Array.length_toList]; exact hsp
        rw [if_neg (by simp [e1]; omega)]
        rw [← r1]
        congr 1
        apply Array.ext'
        have := fold_splice off v.cells.toList 0 ⟨vs⟩ (by simp; omega)
        simp only [Nat.add_zero] at this
        rw [← this]
        rw [show v.cells.toList.zipIdx = v.cells.zipIdx.toList by simp, Array.foldl_toList]

theorem places_ok : ∀ {fs : List Field} {ps : List (Nat × Nat)}, placesOf P fs = some ps → fs.mapM (fun f => (P.info? f.type).map fun i => (f.offset, i.size)) = some ps
  | [], ps, hp => by simp [placesOf] at hp; subst hp; rfl
  | f :: fs, ps, hp => by
    simp only [placesOf] at hp
    split at hp
    · rename_i s r hs hr
      simp at hp; subst hp
      obtain ⟨i, hi, rfl⟩ := size?_ok hs
      simp [List.mapM_cons, hi, places_ok hr]
    · simp at hp

theorem parts_ok {ρ : Rho} {e : Operand → Value} (hρ : ∀ o v, ρ o = some v → V σ v (e o)) {parts : Array (Nat × Operand)} {vs : List AV} (hv : valsOf ρ (parts.toList.map (·.2)) = some vs) :
    (((parts.toList.map (·.1)).zip vs).map (·.1) = ((parts.map fun p => (p.1, e p.2)).toList.map (·.1))) ∧ VL σ (((parts.toList.map (·.1)).zip vs).map (·.2)) ((parts.map fun p => (p.1, e p.2)).toList.map (·.2)) := by
  have h1 := valsOf_ok hρ hv
  have hl : vs.length = parts.toList.length := by rw [h1.length]; simp
  constructor
  · rw [List.map_fst_zip (by simp [hl])]; simp
  · rw [List.map_snd_zip (by simp [hl])]; simpa [Function.comp_def] using h1
end
end
end Go.Proofs.YtgihpgdjkanodaaGreatDoor.Ev

namespace Go.Proofs.YtgihpgdjkanodaaGreatDoor.Ev
noncomputable section
open Go Go.RowKit

section
variable {P : Program} {σ : Sg} {h : Hp} {nx : Nat} {w : World}

theorem bytesOf_ok : ∀ {l : List AV} {s : List UInt8} {ys : List Value}, bytesOf l = some s → VL σ l ys → ∃ ns : List Int, ys = ns.map (Value.int .u8) ∧ s = ns.map fun n => UInt8.ofNat n.toNat
  | [], s, ys, hb, hv => by simp [bytesOf] at hb; subst hb; exact ⟨[], hv, rfl⟩
  | a :: l, s, ys, hb, hv => by
    unfold bytesOf at hb
    split at hb
    · rename_i he; simp at he
    · rename_i n l' he
      simp at he
      obtain ⟨rfl, rfl⟩ := he
      cases hr : bytesOf l with
      | none => simp [hr] at hb
      | some r =>
        simp [hr] at hb; subst hb
        obtain ⟨y, ys', rfl, hy, hl⟩ := hv
        obtain ⟨ns, rfl, rfl⟩ := bytesOf_ok hr hl
        simp only [V] at hy; subst hy
        exact ⟨n :: ns, rfl, rfl⟩
    · simp at hb

theorem push_all (f : Int → UInt8) : ∀ (ns : List Int) (b : ByteArray), ns.foldl (fun r n => r.push (f n)) b = ⟨b.data ++ (ns.map f).toArray⟩
  | [], b => by simp
  | n :: ns, b => by
    rw [List.foldl_cons, push_all f ns]
    congr 1
    apply Array.ext'
    simp [ByteArray.push]

theorem isU8_ok {e : TypeId} (hu : isU8 P e = true) : P.underlying e = some (.int .u8) := by
  unfold isU8 at hu
  split at hu
  · rename_i he; exact he
  · simp at hu

theorem ofS_str {v : Value} {s : List UInt8} (hv : V σ (.str s) v) : v = .string ⟨⟨s⟩⟩ := hv

def nonscal : Value → Bool
  | .int .. | .float .. | .complex .. | .string .. => false
  | _ => true
def apartIf : Value → Value → Bool
  | .nilIface, .nilIface => false
  | .agg _, .agg _ => false
  | _, _ => true

theorem eqAV_shape {t : TypeId} {x y : AV} {u v : Value} {b : Bool} (hb : eqAV P t x y = some b) (hu : V σ x u) (hv : V σ y v) : nonscal u = true ∧ apartIf u v = true := by
  unfold eqAV at hb
  split at hb
  all_goals (try simp only [V] at hu hv)
  all_goals first
    | (simp at hb; done)
    | (subst hu; subst hv; exact ⟨rfl, rfl⟩)
    | (subst hu; obtain ⟨_, _, _, _, rfl⟩ := hv; exact ⟨rfl, rfl⟩)
    | (subst hv; obtain ⟨_, _, _, _, rfl⟩ := hu; exact ⟨rfl, rfl⟩)
    | (obtain ⟨_, _, _, _, rfl⟩ := hu; obtain ⟨_, _, _, _, rfl⟩ := hv; exact ⟨rfl, rfl⟩)
    | (subst hu; obtain ⟨_, _, rfl⟩ := hv; exact ⟨rfl, rfl⟩)
    | (subst hv; obtain ⟨_, _, rfl⟩ := hu; exact ⟨rfl, rfl⟩)
    | (subst hu; obtain ⟨_, _, _, _, _, rfl, _⟩ := hv; exact ⟨rfl, rfl⟩)
    | (subst hv; obtain ⟨_, _, _, _, _, rfl, _⟩ := hu; exact ⟨rfl, rfl⟩)
    | (simp at hb; done)

theorem binOp_eql {t : TypeId} {u v : Value} (hn : nonscal u = true) : binOp .eql t u v = (do pure (.bool (← Op.equal t u v))) := by
  unfold binOp
  cases u <;> simp [nonscal] at hn <;> cases v <;> rfl
theorem binOp_neq {t : TypeId} {u v : Value} (hn : nonscal u = true) : binOp .neq t u v = (do pure (.bool (!(← Op.equal t u v)))) := by
  unfold binOp
  cases u <;> simp [nonscal] at hn <;> cases v <;> rfl
theorem guard_ok {op : BinOp} {t : TypeId} {a b : Operand} {u v : Value} (hn : apartIf u v = true) : (eqGuard op t a b u v).run P w = .ok () w := by
  unfold eqGuard
  cases op <;> first
    | rfl
    | (cases u <;> cases v <;> first | rfl | (simp [apartIf] at hn))

theorem fieldOf_ok {t : TypeId} {k : Nat} {f : Field} (hf : fieldOf P t k = some f) : ∃ fs, P.underlying t = some (.struct fs) ∧ fs[k]? = some f := by
  unfold fieldOf at hf
  split at hf
  · rename_i fs ht; exact ⟨fs, ht, hf⟩
  · simp at hf

theorem optO_ok {ρ : Rho} {e : Operand → Value} (hρ : ∀ o v, ρ o = some v → V σ v (e o)) {o : Option Operand} {r : Option AV} (ho : optO ρ o = some r) : OV σ r (o.map e) := by
  unfold optO at ho
  split at ho
  · simp at ho; subst ho; trivial
  · split at ho
    · rename_i z v hv; simp at ho; subst ho; exact hρ _ _ hv
    · simp at ho

theorem conv_ok {ρ : Rho} {e : Operand → Value} {o : Oper} {src dst : TypeId} {z : Operand} {a : AV} {out : Out} (x : HR σ h w) (hρ : ∀ o v, ρ o = some v → V σ v (e o)) (ho : o.op = .convert src dst z) (hz : ρ z = some a)
    (hc : convCase P ρ o src dst (weakS a) h nx = some out) (hf : Fresh σ nx (out.nx nx)) : nx ≤ out.nx nx ∧ OutOK P σ h nx w ((execOp e o).run P w) out := by
  have hs : ∀ cs b, o.op ≠ .select cs b := fun cs b k => by rw [ho] at k; simp at k
  have hv := (hρ _ _ hz).weak
  generalize weakS a = a' at hc hv
  have hex : (execOp e o).run P w = ((convert src dst (e z)).run P w).andThen fun a w' => .ok (.value a) w' := by
    obtain ⟨d, op, ty, pos, af, gd⟩ := o
    simp only at ho; subst ho
    simp [execOp]
  unfold convCase at hc
  split at hc
  · rename_i id off len c
    split at hc
    · rename_i el h1 h2
      cases hu : isU8 P el with
      | false => simp [hu] at hc
      | true =>
        simp only [hu, cond_true] at hc
        split at hc
        · rename_i l hl
          split at hc
          · rename_i s hsb
            obtain rfl := Option.some.inj hc
            obtain ⟨b, q, m, ys, g1, g2, g3, g4⟩ := loadC_ok x (P := P) hl
            obtain ⟨b', q', m', k1, k, hk, _⟩ := hv
            rw [g1] at k1; simp at k1; obtain ⟨rfl, rfl, rfl⟩ := k1
            obtain ⟨ns, rfl, rfl⟩ := bytesOf_ok hsb g3
            refine ⟨Nat.le_refl _, ?_⟩
            rw [hex, hk]
            refine out_map ⟨_, w, σ, ?_, rfl, x, Stp.refl _ _ _, Ext.refl _ _ _⟩
            rw [run_convert_bytes_string w src dst el _ len k h1 (isU8_ok hu) h2, run_bytesToString w _ len k ns (by simpa using g2), push_all]
            congr 2
            simp [ByteArray.empty, ByteArray.emptyWithCapacity]
            rfl
          · simp at hc
        · simp at hc
    · simp at hc
  · split at hc
    · rename_i el h1 h2
      cases hu : isU8 P el with
      | false => simp [hu] at hc
      | true =>
        simp only [hu, cond_true] at hc
        obtain rfl := Option.some.inj hc
        obtain ⟨a, k, hk⟩ := hv
        refine ⟨Nat.le_refl _, ?_⟩
        rw [hex, hk]
        refine out_map ⟨_, w, σ, ?_, rfl, x, Stp.refl _ _ _, Ext.refl _ _ _⟩
        rw [run_convert_bytes_string w src dst el _ 0 k h1 (isU8_ok hu) h2]
        cases a with
        | none => simp [Conv.bytesToString]; rfl
        | some a =>
          have := run_bytesToString (P := P) w a 0 k [] (by simp [loadCells, loadCellsFrom])
          rw [this]; rfl
    · simp at hc
  · rename_i s
    split at hc
    · rename_i el h1 h2
      cases hu : (isU8 P el && Nat.ble s.length 1048576) with
      | false => simp [hu] at hc
      | true =>
        simp only [hu, cond_true] at hc
        obtain rfl := Option.some.inj hc
        simp only [Bool.and_eq_true] at hu
        have hfx : σ nx = none := hf nx (Nat.le_refl _) (by simp [Out.nx])
        refine ⟨by simp [Out.nx], ?_⟩
        have hr := Lib.run_convert_string_bytes (P := P) w src dst el ⟨⟨s⟩⟩ h1 h2 (isU8_ok hu.1)
        rw [hex, ofS_str hv, hr]
        have hln : (⟨⟨s⟩⟩ : ByteArray).size = s.length := rfl
        have hge := grownCap_ge w s.length 0 el
        have hbc : (Lib.bytesCells w el ⟨⟨s⟩⟩).toList = (s.map fun b => Value.int .u8 b.toNat) ++ List.replicate (grownCap w s.length 0 el - s.length) (.int .u8 0) := by simp [Lib.bytesCells, hln]
        have hbs : (Lib.bytesCells w el ⟨⟨s⟩⟩).size = grownCap w s.length 0 el := by rw [← Array.length_toList, hbc]; simp; omega
        have hal := alloc_at w (.cells (Lib.bytesCells w el ⟨⟨s⟩⟩) el)
        obtain ⟨y1, y2⟩ := x.made hfx (w' := Lib.bytesWorld w el ⟨⟨s⟩⟩) (blk := .row (s.map fun b => .int .u8 b.toNat) el true 1) 0 (grownCap w s.length 0 el)
          (by simp [Lib.bytesWorld, World.freeze, World.alloc, World.drew, -World.alloc_eq, -World.drew_eq]) (by simp [Lib.bytesWorld, World.freeze, World.alloc, World.drew, -World.alloc_eq, -World.drew_eq])
          (by simp [Lib.bytesWorld, World.freeze, World.alloc, World.drew, -World.alloc_eq, -World.drew_eq]) (by rw [Lib.bytesWorld_size]; omega) (fun k hk => Lib.bytesWorld_at_old w el _ k hk) (by
          refine ⟨w.heap.size, 0, _, _, _, _, upd_same _ _ _, Lib.bytesWorld_at_new w el _, hbs, by simp; omega, fun e => by simp at e, ?_, fun _ => ?_, fun e => by simp at e⟩
          · rw [hbc]; simp; exact VL.mono (upd_le hfx) _ _ (VL.bytes s)
          · intro i hi; rw [hbs]; simp; omega)
        exact ⟨_, _, _, rfl, ⟨w.heap.size, 0, _, upd_same _ _ _, _, rfl, by rw [hln]; exact hge, by simp [hln]⟩, y1, y2, upd_ext _ _ _⟩
    · exact ground_ok x hρ hs hc
  · exact ground_ok x hρ hs hc
end
end
end Go.Proofs.YtgihpgdjkanodaaGreatDoor.Ev

