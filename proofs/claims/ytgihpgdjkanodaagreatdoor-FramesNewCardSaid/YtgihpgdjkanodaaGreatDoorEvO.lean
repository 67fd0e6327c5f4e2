/-
  Helper text: regions that draw their order, in our own machine; no statement is proved here.
-/
import Derived.Test.YtgihpgdjkanodaaGreatDoorEvN
namespace Go.Proofs.YtgihpgdjkanodaaGreatDoor.Ev
noncomputable section
open Go Go.RowKit

mutual
def AV.beq : AV → AV → Bool
  | .bool a, .bool b => a == b
  | .int k a, .int l b => decide (k = l) && decide (a = b)
  | .str a, .str b => decide (a = b)
  | .nilp, .nilp => true
  | .ptr i o, .ptr j p => Nat.beq i j && Nat.beq o p
  | .nilsl, .nilsl => true
  | .sl i o n c, .sl j p m d => Nat.beq i j && Nat.beq o p && Nat.beq n m && (match c, d with | .known a, .known b => Nat.beq a b | .opn a, .opn b => Nat.beq a b | _, _ => false)
  | .esl, .esl => true
  | .nsl, .nsl => true
  | .nilmap, .nilmap => true
  | .mp i, .mp j => Nat.beq i j
  | .func f x y, .func g u v => decide (f = g) && AV.beqL x u && AV.beqL y v
  | .nilFunc, .nilFunc => true
  | .iface t x, .iface u y => Nat.beq t u && AV.beq x y
  | .nilIface, .nilIface => true
  | .agg l, .agg m => AV.beqL l m
  | .tup l, .tup m => AV.beqL l m
  | _, _ => false
def AV.beqL : List AV → List AV → Bool
  | [], [] => true
  | a :: l, b :: m => AV.beq a b && AV.beqL l m
  | _, _ => false
end

mutual
theorem AV.beq_eq : ∀ (a b : AV), AV.beq a b = true → a = b := by
  intro a b h
  cases a <;> cases b <;> simp only [AV.beq] at h
  all_goals first
    | rfl
    | (simp at h; done)
    | (simp at h; subst h; rfl)
    | (simp at h; obtain ⟨rfl, rfl⟩ := h; rfl)
    | (have := Nat.eq_of_beq_eq_true h; subst this; rfl)
    | (simp only [Bool.and_eq_true] at h; obtain ⟨h1, h2⟩ := h; have := Nat.eq_of_beq_eq_true h1; have := Nat.eq_of_beq_eq_true h2; subst_vars; rfl)
    | (have := AV.beqL_eq _ _ h; subst this; rfl)
    | (simp only [Bool.and_eq_true] at h; obtain ⟨h1, h2⟩ := h; have := Nat.eq_of_beq_eq_true h1; have := AV.beq_eq _ _ h2; subst_vars; rfl)
    | (simp only [Bool.and_eq_true, decide_eq_true_eq] at h; obtain ⟨⟨h1, h2⟩, h3⟩ := h; have := AV.beqL_eq _ _ h2; have := AV.beqL_eq _ _ h3; subst_vars; rfl)
    | skip
  rename_i i o n c j p m d
  simp only [Bool.and_eq_true] at h
  obtain ⟨⟨⟨h1, h2⟩, h3⟩, h4⟩ := h
  have := Nat.eq_of_beq_eq_true h1
  have := Nat.eq_of_beq_eq_true h2
  have := Nat.eq_of_beq_eq_true h3
  subst_vars
  cases c <;> cases d <;> simp only at h4
  · have := Nat.eq_of_beq_eq_true h4; subst this; rfl
  · simp at h4
  · simp at h4
  · have := Nat.eq_of_beq_eq_true h4; subst this; rfl
theorem AV.beqL_eq : ∀ (a b : List AV), AV.beqL a b = true → a = b
  | [], [], _ => rfl
  | a :: l, b :: m, h => by
    simp only [AV.beqL, Bool.and_eq_true] at h
    rw [AV.beq_eq a b h.1, AV.beqL_eq l m h.2]
  | [], _ :: _, h => by simp [AV.beqL] at h
  | _ :: _, [], h => by simp [AV.beqL] at h
end

/-- What an operation has to do with memory: 0 nothing, 1 it makes, 2 it reads, 3 anything. -/
def cls : Op → Nat
  | .move _ | .assign _ | .pick .. | .build .. | .nilCheck _ | .binOp .. | .unOp .. | .makeInterface .. | .makeFunc .. | .slice .. | .fieldAddr .. | .field .. | .indexAddr .. | .index .. | .typeAssert .. | .extract .. => 0
  | .call c => match c.callee with
    | .builtin .len | .builtin .cap | .builtin .min | .builtin .max => 0
    | _ => 3
  | .alloc _ | .box .. | .buildSlice .. | .makeSlice .. | .makeMap .. => 1
  | .load .. | .lookup .. | .convert .. => 2
  | _ => 3

section
variable {P : Program}

theorem valO_ind {o : Option AV} {h : Hp} {nx : Nat} {out : Out} (hv : valO o h nx = some out) : ∃ v, out = .val v h nx ∧ ∀ k m, valO o k m = some (.val v k m) := by
  unfold valO at hv
  split at hv
  · rename_i v; simp at hv; exact ⟨v, hv.symm, fun k m => rfl⟩
  · simp at hv
theorem ground_ind {ρ : Rho} {o : Oper} {h : Hp} {nx : Nat} {out : Out} (hv : ground P ρ o h nx = some out) : ∃ v, out = .val v h nx ∧ ∀ k m, ground P ρ o k m = some (.val v k m) := by
  unfold ground at hv
  cases hb : o.op.operands.toList.all fun x => (toO (ρ x)).isSome with
  | false => simp only [hb, cond_false] at hv; simp at hv
  | true =>
    simp only [hb, cond_true] at hv
    split at hv
    · rename_i v hp
      split at hv
      · rename_i a ha
        obtain rfl := Option.some.inj hv
        exact ⟨a, rfl, fun k m => by simp only [ground, hb, cond_true, hp, ha]⟩
      · simp at hv
    · simp at hv
theorem slice_ind {t : TypeId} {x : AV} {lo hi mx : Option AV} {h : Hp} {nx : Nat} {out : Out} (hv : sliceCase P t x lo hi mx h nx = some out) : ∃ v, out = .val v h nx ∧ ∀ k m, sliceCase P t x lo hi mx k m = some (.val v k m) := by
  unfold sliceCase at hv
  simp only [Bool.cond_eq_ite] at hv
  repeat' split at hv
  all_goals first
    | (simp at hv; done)
    | (obtain rfl := Option.some.inj hv; refine ⟨_, rfl, fun k m => ?_⟩; simp_all [sliceCase, Bool.cond_eq_ite]; done)
    | skip
  all_goals
    rename_i hu hl hno hyes
    obtain rfl := Option.some.inj hv
    refine ⟨_, rfl, fun k m => ?_⟩
    unfold sliceCase
    simp only [Bool.cond_eq_ite, *]
    simp
theorem index_ind {t : TypeId} {x i : AV} {h : Hp} {nx : Nat} {out : Out} (hv : indexAddrCase P t x i h nx = some out) : ∃ v, out = .val v h nx ∧ ∀ k m, indexAddrCase P t x i k m = some (.val v k m) := by
  unfold indexAddrCase at hv
  simp only [Bool.cond_eq_ite] at hv
  repeat' split at hv
  all_goals first
    | (simp at hv; done)
    | (obtain rfl := Option.some.inj hv; exact ⟨_, rfl, fun k m => by simp_all [indexAddrCase, Bool.cond_eq_ite]⟩)
theorem assert_ind {t : TypeId} {x : AV} {ok : Bool} {h : Hp} {nx : Nat} {out : Out} (hv : assertCase P x t ok h nx = some out) : ∃ v, out = .val v h nx ∧ ∀ k m, assertCase P x t ok k m = some (.val v k m) := by
  cases ok
  all_goals
    unfold assertCase at hv
    simp only [Bool.cond_eq_ite] at hv
    repeat' split at hv
    all_goals first
      | (simp at hv; done)
      | (obtain rfl := Option.some.inj hv; exact ⟨_, rfl, fun k m => by simp_all [assertCase, Bool.cond_eq_ite]⟩)
      | (simp at hv; obtain ⟨_, _, rfl⟩ := hv; exact ⟨_, rfl, fun k m => by simp_all [assertCase, Bool.cond_eq_ite]⟩)

theorem aop_pure {ρ : Rho} {o : Oper} {h : Hp} {nx : Nat} {out : Out} (hc : cls o.op = 0) (hv : aop P ρ o h nx = some out) : ∃ v, out = .val v h nx ∧ ∀ k m, aop P ρ o k m = some (.val v k m) := by
  obtain ⟨dst, op, ty, pos, af, gd⟩ := o
  cases op <;> simp only [cls] at hc
  all_goals first
    | (simp at hc; done)
    | skip
  case move => exact valO_ind hv
  case assign => exact valO_ind hv
  case unOp => exact ground_ind hv
  case pick c a b =>
    simp only [aop] at hv ⊢
    split at hv
    · rename_i hz; obtain ⟨v, e, k⟩ := valO_ind hv; exact ⟨v, e, fun a b => by (try rw [hz]); exact k a b⟩
    · rename_i hz; obtain ⟨v, e, k⟩ := valO_ind hv; exact ⟨v, e, fun a b => by (try rw [hz]); exact k a b⟩
    · simp at hv
  case build t parts =>
    simp only [aop] at hv ⊢
    repeat' split at hv
    all_goals first
      | (simp at hv; done)
      | (obtain rfl := Option.some.inj hv; exact ⟨_, rfl, fun k m => by simp_all⟩)
  case nilCheck z =>
    simp only [aop] at hv ⊢
    split at hv
    · rename_i v hz; obtain ⟨v, e, k⟩ := valO_ind hv; exact ⟨v, e, fun a b => by (try rw [hz]); exact k a b⟩
    · simp at hv
  case binOp bop t x y yt =>
    simp only [aop] at hv ⊢
    split at hv
    · rename_i xs ys hag
      split at hv
      · rename_i r hr
        (try simp only [hag, hr])
        split at hv
        · obtain rfl := Option.some.inj hv; exact ⟨_, rfl, fun k m => rfl⟩
        · obtain rfl := Option.some.inj hv; exact ⟨_, rfl, fun k m => rfl⟩
        · simp at hv
      · rename_i hr
        (try simp only [hag, hr])
        exact ground_ind hv
    split at hv
    · rename_i r hg
      simp at hv; subst hv
      obtain ⟨v, e, k⟩ := ground_ind hg
      exact ⟨v, e, fun a b => by rw [k a b]⟩
    · rename_i hg
      have hn : ∀ k m, ground P ρ ⟨dst, .binOp bop t x y yt, ty, pos, af, gd⟩ k m = none := fun k m => by
        cases hr : ground P ρ ⟨dst, .binOp bop t x y yt, ty, pos, af, gd⟩ k m with
        | none => rfl
        | some r => obtain ⟨v, _, kk⟩ := ground_ind hr; rw [kk h nx] at hg; simp at hg
      simp only [hn]
      repeat' split at hv
      all_goals first
        | (simp at hv; done)
        | (obtain rfl := Option.some.inj hv; exact ⟨_, rfl, fun k m => by simp_all⟩)
  case makeInterface t z =>
    simp only [aop] at hv ⊢
    repeat' split at hv
    all_goals first
      | (simp at hv; done)
      | (obtain rfl := Option.some.inj hv; exact ⟨_, rfl, fun k m => by simp_all⟩)
  case makeFunc fn a b =>
    simp only [aop] at hv ⊢
    repeat' split at hv
    all_goals first
      | (simp at hv; done)
      | (obtain rfl := Option.some.inj hv; exact ⟨_, rfl, fun k m => by simp_all⟩)
  case slice t z lo hi mx =>
    simp only [aop] at hv ⊢
    split at hv
    · rename_i s hz; (try simp only [hz]); exact ground_ind hv
    · rename_i v hne hz
      split at hv
      · rename_i a b c h1 h2 h3
        obtain ⟨u, e, k⟩ := slice_ind hv
        refine ⟨u, e, fun kk m => ?_⟩
        (try simp only [h1, h2, h3, hz])
        exact k kk m
      · simp at hv
    · simp at hv
  case fieldAddr t z k =>
    simp only [aop, Bool.cond_eq_ite] at hv ⊢
    repeat' split at hv
    all_goals first
      | (simp at hv; done)
      | (obtain rfl := Option.some.inj hv; exact ⟨_, rfl, fun k m => by simp_all⟩)
  case field t z k =>
    simp only [aop] at hv ⊢
    split at hv
    · rename_i f cs h1 h2; obtain ⟨v, e, k⟩ := valO_ind hv; exact ⟨v, e, fun a b => by (try simp only [h1, h2]); exact k a b⟩
    · simp at hv
  case indexAddr t z k =>
    simp only [aop] at hv ⊢
    split at hv
    · rename_i a b h1 h2; obtain ⟨v, e, k⟩ := index_ind hv; exact ⟨v, e, fun a b => by (try simp only [h1, h2]); exact k a b⟩
    · simp at hv
  case index t z k =>
    simp only [aop] at hv ⊢
    split at hv
    · rename_i cs b h1 h2
      (try simp only [h1, h2])
      split at hv
      · rename_i n el i h3 h4
        (try simp only [h3, h4])
        split at hv
        · rename_i s h5
          (try simp only [h5])
          cases hb : (decide (0 ≤ i) && decide (i < (n : Int))) with
          | false => simp [hb] at hv
          | true => simp only [hb, cond_true] at hv ⊢; exact valO_ind hv
        · simp at hv
      · simp at hv
    · rename_i hne
      exact ground_ind hv
  case typeAssert z xt as ok =>
    simp only [aop] at hv ⊢
    split at hv
    · rename_i a h1; obtain ⟨v, e, k⟩ := assert_ind hv; exact ⟨v, e, fun a b => by (try simp only [h1]); exact k a b⟩
    · simp at hv
  case extract z i =>
    simp only [aop] at hv ⊢
    split at hv
    · rename_i l h1; obtain ⟨v, e, k⟩ := valO_ind hv; exact ⟨v, e, fun a b => by (try simp only [h1]); exact k a b⟩
    · simp at hv
  case call c =>
    simp only [aop] at hv ⊢
    unfold callCase at hv ⊢
    split at hv
    · simp at hv
    · rename_i args ha
      (try simp only [ha])
      split at hv
      · rename_i hcal; simp [hcal] at hc
      · rename_i hcal; simp [hcal] at hc
      · rename_i b hcal
        simp only [hcal] at hc ⊢
        generalize weakL args = args' at hv ⊢
        unfold builtinCase at hv ⊢
        split at hv
        · simp at hc
        · simp at hc
        · simp at hc
        · split at hv
          · rename_i t ht
            split at hv
            · rename_i e he
              obtain rfl := Option.some.inj hv
              exact ⟨_, rfl, fun k m => by simp only [ht, he]⟩
            · simp at hv
          · simp at hv
        · split at hv
          · rename_i t ht
            split at hv
            · rename_i e he
              obtain rfl := Option.some.inj hv
              exact ⟨_, rfl, fun k m => by simp only [ht, he]⟩
            · simp at hv
          · simp at hv
        · split at hv
          · rename_i t ht
            split at hv
            · rename_i e he
              obtain rfl := Option.some.inj hv
              exact ⟨_, rfl, fun k m => by simp only [ht, he]⟩
            · simp at hv
          · simp at hv
        · obtain ⟨v, e, k⟩ := ground_ind hv
          refine ⟨v, e, fun kk m => ?_⟩
          exact k kk m

theorem makeSlice_ind {t : TypeId} {l c : AV} {h : Hp} {nx : Nat} {out : Out} (hv : makeSliceCase P t l c h nx = some out) : ∃ v blk, out = .val v (h.set fuelT nx (some blk)) (nx + 1) ∧ ∀ k, makeSliceCase P t l c k nx = some (.val v (k.set fuelT nx (some blk)) (nx + 1)) := by
  unfold makeSliceCase at hv
  simp only [Bool.cond_eq_ite] at hv
  repeat' split at hv
  all_goals first
    | (simp at hv; done)
    | (obtain rfl := Option.some.inj hv; exact ⟨_, _, rfl, fun k => by simp_all [makeSliceCase, Bool.cond_eq_ite, newR]⟩)

theorem aop_make {ρ : Rho} {o : Oper} {h : Hp} {nx : Nat} {out : Out} (hc : cls o.op = 1) (hv : aop P ρ o h nx = some out) : ∃ v blk, out = .val v (h.set fuelT nx (some blk)) (nx + 1) ∧ ∀ k, aop P ρ o k nx = some (.val v (k.set fuelT nx (some blk)) (nx + 1)) := by
  obtain ⟨dst, op, ty, pos, af, gd⟩ := o
  cases op <;> simp only [cls] at hc
  all_goals first
    | (simp at hc; done)
    | skip
  case call c => split at hc <;> simp at hc
  case alloc t =>
    simp only [aop] at hv ⊢
    repeat' split at hv
    all_goals first
      | (simp at hv; done)
      | (obtain rfl := Option.some.inj hv; exact ⟨_, _, rfl, fun k => by simp_all [newR]⟩)
  case box t z =>
    simp only [aop] at hv ⊢
    repeat' split at hv
    all_goals first
      | (simp at hv; done)
      | (obtain rfl := Option.some.inj hv; exact ⟨_, _, rfl, fun k => by simp_all [newR]⟩)
  case buildSlice t len parts =>
    simp only [aop, Bool.cond_eq_ite] at hv ⊢
    repeat' split at hv
    all_goals first
      | (simp at hv; done)
      | (obtain rfl := Option.some.inj hv; exact ⟨_, _, rfl, fun k => by simp_all [newR]⟩)
  case makeMap t r =>
    cases r with
    | some _ => simp [aop] at hv
    | none => simp only [aop] at hv ⊢; obtain rfl := Option.some.inj hv; exact ⟨_, _, rfl, fun k => rfl⟩
  case makeSlice t l c =>
    simp only [aop] at hv ⊢
    split at hv
    · rename_i a b h1 h2; exact makeSlice_ind hv
    · simp at hv

theorem aop_read {ρ : Rho} {o : Oper} {h : Hp} {nx : Nat} {out : Out} (hc : cls o.op = 2) (hv : aop P ρ o h nx = some out) : (∃ v, out = .val v h nx) ∨ out.nx nx ≠ nx := by
  obtain ⟨dst, op, ty, pos, af, gd⟩ := o
  cases op <;> simp only [cls] at hc
  all_goals first
    | (simp at hc; done)
    | skip
  case call c => split at hc <;> simp at hc
  case load t a =>
    simp only [aop] at hv
    split at hv
    · obtain ⟨v, e, _⟩ := valO_ind hv; exact .inl ⟨v, e⟩
    · simp at hv
  case lookup t x k ok =>
    simp only [aop] at hv
    split at hv
    · unfold lookupCase at hv
      repeat' split at hv
      all_goals first
        | (simp at hv; done)
        | (obtain rfl := Option.some.inj hv; exact .inl ⟨_, rfl⟩)
    · simp at hv
  case convert a b z =>
    simp only [aop] at hv
    split at hv
    · unfold convCase at hv
      simp only [Bool.cond_eq_ite] at hv
      repeat' split at hv
      all_goals first
        | (simp at hv; done)
        | (obtain rfl := Option.some.inj hv; exact .inl ⟨_, rfl⟩)
        | (obtain rfl := Option.some.inj hv; exact .inr (by simp [Out.nx]))
        | (obtain ⟨v, e, _⟩ := ground_ind hv; exact .inl ⟨v, e⟩)
    · simp at hv
end
end
end Go.Proofs.YtgihpgdjkanodaaGreatDoor.Ev
