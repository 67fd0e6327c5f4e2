/-
  Helper text: operations of our own machine are the model's; no statement is proved here.
-/
import Derived.Test.YtgihpgdjkanodaaGreatDoorEvJ
import Derived.Laws.BytesString
import Derived.Lib.ConvBytes
namespace Go.Proofs.YtgihpgdjkanodaaGreatDoor.Ev
noncomputable section
open Go Go.RowKit

section
variable {P : Program} {σ : Sg} {h : Hp} {nx : Nat} {w : World}

theorem bytesOf_ok : ∀ {l : List AV} {s : List UInt8} {ys : List Value}, bytesOf l = some s → VL σ l ys → ∃ ns : List Int, ys = ns.map (Value.int .u8) ∧ s = ns.map fun n => UInt8.ofNat n.toNat
  | [], s, ys, hb, hv => by simp [bytesOf] at hb; subst hb; exact ⟨[], hv, rfl⟩
  | a :: l, s, ys, hb, hv => by
    unfold bytesOf at hb
    split at hb
    · rename_i he; simp at he
    · rename_i n l' he
      simp at he
      obtain ⟨rfl, rfl⟩ := he
      cases hr : bytesOf l with
      | none => simp [hr] at hb
      | some r =>
        simp [hr] at hb; subst hb
        obtain ⟨y, ys', rfl, hy, hl⟩ := hv
        obtain ⟨ns, rfl, rfl⟩ := bytesOf_ok hr hl
        simp only [V] at hy; subst hy
        exact ⟨n :: ns, rfl, rfl⟩
    · simp at hb

theorem push_all (f : Int → UInt8) : ∀ (ns : List Int) (b : ByteArray), ns.foldl (fun r n => r.push (f n)) b = ⟨b.data ++ (ns.map f).toArray⟩
  | [], b => by simp
  | n :: ns, b => by
    rw [List.foldl_cons, push_all f ns]
    congr 1
    apply Array.ext'
    simp [ByteArray.push]

theorem isU8_ok {e : TypeId} (hu : isU8 P e = true) : P.underlying e = some (.int .u8) := by
  unfold isU8 at hu
  split at hu
  · rename_i he; exact he
  · simp at hu

theorem ofS_str {v : Value} {s : List UInt8} (hv : V σ (.str s) v) : v = .string ⟨⟨s⟩⟩ := hv

def nonscal : Value → Bool
  | .int .. | .float .. | .complex .. | .string .. => false
  | _ => true
def apartIf : Value → Value → Bool
  | .nilIface, .nilIface => false
  | .agg _, .agg _ => false
  | _, _ => true

theorem eqAV_shape {t : TypeId} {x y : AV} {u v : Value} {b : Bool} (hb : eqAV P t x y = some b) (hu : V σ x u) (hv : V σ y v) : nonscal u = true ∧ apartIf u v = true := by
  unfold eqAV at hb
  split at hb
  all_goals (try simp only [V] at hu hv)
  all_goals first
    | (simp at hb; done)
    | (subst hu; subst hv; exact ⟨rfl, rfl⟩)
    | (subst hu; obtain ⟨_, _, _, _, rfl⟩ := hv; exact ⟨rfl, rfl⟩)
    | (subst hv; obtain ⟨_, _, _, _, rfl⟩ := hu; exact ⟨rfl, rfl⟩)
    | (obtain ⟨_, _, _, _, rfl⟩ := hu; obtain ⟨_, _, _, _, rfl⟩ := hv; exact ⟨rfl, rfl⟩)
    | (subst hu; obtain ⟨_, _, rfl⟩ := hv; exact ⟨rfl, rfl⟩)
    | (subst hv; obtain ⟨_, _, rfl⟩ := hu; exact ⟨rfl, rfl⟩)
    | (subst hu; obtain ⟨_, _, _, _, _, rfl, _⟩ := hv; exact ⟨rfl, rfl⟩)
    | (subst hv; obtain ⟨_, _, _, _, _, rfl, _⟩ := hu; exact ⟨rfl, rfl⟩)
    | (simp at hb; done)

theorem binOp_eql {t : TypeId} {u v : Value} (hn : nonscal u = true) : binOp .eql t u v = (do pure (.bool (← Op.equal t u v))) := by
  unfold binOp
  cases u <;> simp [nonscal] at hn <;> cases v <;> rfl
theorem binOp_neq {t : TypeId} {u v : Value} (hn : nonscal u = true) : binOp .neq t u v = (do pure (.bool (!(← Op.equal t u v)))) := by
  unfold binOp
  cases u <;> simp [nonscal] at hn <;> cases v <;> rfl
theorem guard_ok {op : BinOp} {t : TypeId} {a b : Operand} {u v : Value} (hn : apartIf u v = true) : (eqGuard op t a b u v).run P w = .ok () w := by
  unfold eqGuard
  cases op <;> first
    | rfl
    | (cases u <;> cases v <;> first | rfl | (simp [apartIf] at hn))

theorem fieldOf_ok {t : TypeId} {k : Nat} {f : Field} (hf : fieldOf P t k = some f) : ∃ fs, P.underlying t = some (.struct fs) ∧ fs[k]? = some f := by
  unfold fieldOf at hf
  split at hf
  · rename_i fs ht; exact ⟨fs, ht, hf⟩
  · simp at hf

theorem optO_ok {ρ : Rho} {e : Operand → Value} (hρ : ∀ o v, ρ o = some v → V σ v (e o)) {o : Option Operand} {r : Option AV} (ho : optO ρ o = some r) : OV σ r (o.map e) := by
  unfold optO at ho
  split at ho
  · simp at ho; subst ho; trivial
  · split at ho
    · rename_i z v hv; simp at ho; subst ho; exact hρ _ _ hv
    · simp at ho

theorem conv_ok {ρ : Rho} {e : Operand → Value} {o : Oper} {src dst : TypeId} {z : Operand} {a : AV} {out : Out} (x : HR σ h w) (hρ : ∀ o v, ρ o = some v → V σ v (e o)) (ho : o.op = .convert src dst z) (hz : ρ z = some a)
    (hc : convCase P ρ o src dst (weakS a) h nx = some out) (hf : Fresh σ nx (out.nx nx)) : nx ≤ out.nx nx ∧ OutOK P σ h nx w ((execOp e o).run P w) out := by
  have hs : ∀ cs b, o.op ≠ .select cs b := fun cs b k => by rw [ho] at k; simp at k
  have hv := (hρ _ _ hz).weak
  generalize weakS a = a' at hc hv
  have hex : (execOp e o).run P w = ((convert src dst (e z)).run P w).andThen fun a w' => .ok (.value a) w' := by
    obtain ⟨d, op, ty, pos, af, gd⟩ := o
    simp only at ho; subst ho
    simp [execOp]
  unfold convCase at hc
  split at hc
  · rename_i id off len c
    split at hc
    · rename_i el h1 h2
      cases hu : isU8 P el with
      | false => simp [hu] at hc
      | true =>
        simp only [hu, cond_true] at hc
        split at hc
        · rename_i l hl
          split at hc
          · rename_i s hsb
            obtain rfl := Option.some.inj hc
            obtain ⟨b, q, m, ys, g1, g2, g3, g4⟩ := loadC_ok x (P := P) hl
            obtain ⟨b', q', m', k1, k, hk, _⟩ := hv
            rw [g1] at k1; simp at k1; obtain ⟨rfl, rfl, rfl⟩ := k1
            obtain ⟨ns, rfl, rfl⟩ := bytesOf_ok hsb g3
            refine ⟨Nat.le_refl _, ?_⟩
            rw [hex, hk]
            refine out_map ⟨_, w, σ, ?_, rfl, x, Stp.refl _ _ _, Ext.refl _ _ _⟩
            rw [run_convert_bytes_string w src dst el _ len k h1 (isU8_ok hu) h2, run_bytesToString w _ len k ns (by simpa using g2), push_all]
            congr 2
            simp [ByteArray.empty, ByteArray.emptyWithCapacity]
            rfl
          · simp at hc
        · simp at hc
    · simp at hc
  · split at hc
    · rename_i el h1 h2
      cases hu : isU8 P el with
      | false => simp [hu] at hc
      | true =>
        simp only [hu, cond_true] at hc
        obtain rfl := Option.some.inj hc
        obtain ⟨a, k, hk⟩ := hv
        refine ⟨Nat.le_refl _, ?_⟩
        rw [hex, hk]
        refine out_map ⟨_, w, σ, ?_, rfl, x, Stp.refl _ _ _, Ext.refl _ _ _⟩
        rw [run_convert_bytes_string w src dst el _ 0 k h1 (isU8_ok hu) h2]
        cases a with
        | none => simp [Conv.bytesToString]; rfl
        | some a =>
          have := run_bytesToString (P := P) w a 0 k [] (by simp [loadCells, loadCellsFrom])
          rw [this]; rfl
    · simp at hc
  · rename_i s
    split at hc
    · rename_i el h1 h2
      cases hu : (isU8 P el && Nat.ble s.length 1048576) with
      | false => simp [hu] at hc
      | true =>
        simp only [hu, cond_true] at hc
        obtain rfl := Option.some.inj hc
        simp only [Bool.and_eq_true] at hu
        have hfx : σ nx = none := hf nx (Nat.le_refl _) (by simp [Out.nx])
        refine ⟨by simp [Out.nx], ?_⟩
        have hr := Lib.run_convert_string_bytes (P := P) w src dst el ⟨⟨s⟩⟩ h1 h2 (isU8_ok hu.1)
        rw [hex, ofS_str hv, hr]
        have hln : (⟨⟨s⟩⟩ : ByteArray).size = s.length := rfl
        have hge := grownCap_ge w s.length 0 el
        have hbc : (Lib.bytesCells w el ⟨⟨s⟩⟩).toList = (s.map fun b => Value.int .u8 b.toNat) ++ List.replicate (grownCap w s.length 0 el - s.length) (.int .u8 0) := by simp [Lib.bytesCells, hln]
        have hbs : (Lib.bytesCells w el ⟨⟨s⟩⟩).size = grownCap w s.length 0 el := by rw [← Array.length_toList, hbc]; simp; omega
        have hal := alloc_at w (.cells (Lib.bytesCells w el ⟨⟨s⟩⟩) el)
        obtain ⟨y1, y2⟩ := x.made hfx (w' := Lib.bytesWorld w el ⟨⟨s⟩⟩) (blk := .row (s.map fun b => .int .u8 b.toNat) el true 1) 0 (grownCap w s.length 0 el)
          (by simp [Lib.bytesWorld, World.freeze, World.alloc, World.drew, -World.alloc_eq, -World.drew_eq]) (by simp [Lib.bytesWorld, World.freeze, World.alloc, World.drew, -World.alloc_eq, -World.drew_eq])
          (by simp [Lib.bytesWorld, World.freeze, World.alloc, World.drew, -World.alloc_eq, -World.drew_eq]) (by rw [Lib.bytesWorld_size]; omega) (fun k hk => Lib.bytesWorld_at_old w el _ k hk) (by
          refine ⟨w.heap.size, 0, _, _, _, _, upd_same _ _ _, Lib.bytesWorld_at_new w el _, hbs, by simp; omega, fun e => by simp at e, ?_, fun _ => ?_, fun e => by simp at e⟩
          · rw [hbc]; simp; exact VL.mono (upd_le hfx) _ _ (VL.bytes s)
          · intro i hi; rw [hbs]; simp; omega)
        exact ⟨_, _, _, rfl, ⟨w.heap.size, 0, _, upd_same _ _ _, _, rfl, by rw [hln]; exact hge, by simp [hln]⟩, y1, y2, upd_ext _ _ _⟩
    · exact ground_ok x hρ hs hc
  · exact ground_ok x hρ hs hc
end
end
end Go.Proofs.YtgihpgdjkanodaaGreatDoor.Ev
