/-
  Helper text: memory of our own machine and the model's; no statement is proved here.
-/
import Derived.Test.YtfaocndelibadaaEvB
namespace Go.Proofs.Ytfaocndelibadaa.Ev
noncomputable section
open Go Go.RowKit

def free (fz : Nat × Nat) (n : Nat) : Prop := ∀ i, i < n → ¬ (fz.1 ≤ i ∧ i < fz.2)

def MR (σ : Sg) (es : List (AV × AV × Nat)) (l : List MapEntry) : Prop :=
  es.length = l.length ∧ ∀ (i : Nat) (k v : AV) (n : Nat) (e : MapEntry), es[i]? = some (k, v, n) → l[i]? = some e → V σ k e.key ∧ V σ v e.val ∧ e.born = n

def BR (σ : Sg) (w : World) (id : Nat) : Blk → Prop
  | .row cs ty opn md => ∃ b o n cells fz tv, σ id = some (b, o, n) ∧ w.heap[b]? = some (.cells cells tv fz) ∧ cells.size = n ∧ o + cs.length ≤ n ∧
      (opn = false → o + cs.length = n) ∧ VL σ cs ((cells.toList.drop o).take cs.length) ∧ (md ≤ 1 → free fz n) ∧ (md = 0 → fz = (0, 0) ∧ tv = ty)
  | .amap es clock => ∃ b o n ents, σ id = some (b, o, n) ∧ w.heap[b]? = some (.map ents clock) ∧ MR σ es ents.toList

def wr : Blk → Bool
  | .row _ _ _ md => Nat.ble md 1
  | .amap .. => true

structure HR (σ : Sg) (h : Hp) (w : World) : Prop where
  has : ∀ id blk, h.get id = some blk → BR σ w id blk
  inj : ∀ i j bi bj p q, h.get i = some bi → h.get j = some bj → σ i = some p → σ j = some q → p.1 = q.1 → (wr bi = true ∨ wr bj = true) → i = j

def owned (σ : Sg) (h : Hp) (b : Nat) : Prop := ∃ id blk p, h.get id = some blk ∧ wr blk = true ∧ σ id = some p ∧ p.1 = b

def lives (σ : Sg) (h : Hp) (b : Nat) : Prop := ∃ id blk p, h.get id = some blk ∧ σ id = some p ∧ p.1 = b

structure Stp (σ : Sg) (h : Hp) (w : World) (σ' : Sg) (h' : Hp) (w' : World) : Prop where
  os : w'.os = w.os
  tape : w'.tape = w.tape
  output : w'.output = w.output
  size : w.heap.size ≤ w'.heap.size
  keep : ∀ b, b < w.heap.size → ¬ owned σ h b → w'.heap[b]? = w.heap[b]?
  own : ∀ b, b < w.heap.size → owned σ' h' b → owned σ h b
  lvs : ∀ b, b < w.heap.size → lives σ' h' b → lives σ h b

theorem Stp.refl (σ : Sg) (h : Hp) (w : World) : Stp σ h w σ h w := ⟨rfl, rfl, rfl, Nat.le_refl _, fun _ _ _ => rfl, fun _ _ x => x, fun _ _ x => x⟩

theorem Stp.trans {σ τ ρ : Sg} {h k l : Hp} {u v w : World} (x : Stp σ h u τ k v) (y : Stp τ k v ρ l w) : Stp σ h u ρ l w :=
  ⟨y.os.trans x.os, y.tape.trans x.tape, y.output.trans x.output, Nat.le_trans x.size y.size,
   fun b hb ho => (y.keep b (Nat.lt_of_lt_of_le hb x.size) (fun o => ho (x.own b hb o))).trans (x.keep b hb ho),
   fun b hb ho => x.own b hb (y.own b (Nat.lt_of_lt_of_le hb x.size) ho),
   fun b hb ho => x.lvs b hb (y.lvs b (Nat.lt_of_lt_of_le hb x.size) ho)⟩

/-- A draw. -/
theorem Stp.drew {σ : Sg} {h : Hp} (w : World) : Stp σ h w σ h w.drew := ⟨rfl, rfl, rfl, Nat.le_refl _, fun _ _ _ => rfl, fun _ _ x => x, fun _ _ x => x⟩
theorem BR.drew {σ : Sg} {w : World} {id : Nat} {blk : Blk} (h : BR σ w id blk) : BR σ w.drew id blk := by cases blk <;> exact h
theorem HR.drew {σ : Sg} {h : Hp} {w : World} (x : HR σ h w) : HR σ h w.drew := ⟨fun i b hb => (x.has i b hb).drew, x.inj⟩

def Ext (σ τ : Sg) (a b : Nat) : Prop := ∀ id, (id < a ∨ b ≤ id) → τ id = σ id
def Fresh (σ : Sg) (a b : Nat) : Prop := ∀ id, a ≤ id → id < b → σ id = none

theorem Ext.refl (σ : Sg) (a b : Nat) : Ext σ σ a b := fun _ _ => rfl
theorem Ext.trans {σ τ ρ : Sg} {a b c : Nat} (x : Ext σ τ a b) (y : Ext τ ρ b c) (h : a ≤ b) (k : b ≤ c) : Ext σ ρ a c :=
  fun id hi => (y id (by omega)).trans (x id (by omega))
theorem Ext.le {σ τ : Sg} {a b : Nat} (x : Ext σ τ a b) (f : Fresh σ a b) : Le σ τ := fun id p h => by
  rw [x id (by
    rcases Nat.lt_or_ge id a with h1 | h1
    · exact .inl h1
    · rcases Nat.lt_or_ge id b with h2 | h2
      · rw [f id h1 h2] at h; simp at h
      · exact .inr h2)]
  exact h
theorem Fresh.ext {σ τ : Sg} {a b c : Nat} (f : Fresh σ a c) (x : Ext σ τ a b) (h : a ≤ b) : Fresh τ b c := fun id h1 h2 => by
  rw [x id (.inr h1)]; exact f id (by omega) h2
theorem Fresh.sub {σ : Sg} {a b c d : Nat} (f : Fresh σ a d) (h : a ≤ b) (k : c ≤ d) : Fresh σ b c := fun id h1 h2 => f id (by omega) (by omega)

/-- One number more. -/
def upd (σ : Sg) (n : Nat) (p : Nat × Nat × Nat) : Sg := fun id => if id = n then some p else σ id
theorem upd_same (σ : Sg) (n : Nat) (p : Nat × Nat × Nat) : upd σ n p n = some p := by simp [upd]
theorem upd_ext (σ : Sg) (n : Nat) (p : Nat × Nat × Nat) : Ext σ (upd σ n p) n (n + 1) := fun id h => by
  simp only [upd]; rw [if_neg (by omega)]
theorem upd_le {σ : Sg} {n : Nat} {p : Nat × Nat × Nat} (h : σ n = none) : Le σ (upd σ n p) := fun id q hq => by
  simp only [upd]; split
  · rename_i e; subst e; rw [h] at hq; simp at hq
  · exact hq

theorem MR.mono {σ τ : Sg} (h : Le σ τ) {es : List (AV × AV × Nat)} {l : List MapEntry} (x : MR σ es l) : MR τ es l :=
  ⟨x.1, fun i k v n e a b => let ⟨p, q, r⟩ := x.2 i k v n e a b; ⟨V.mono h _ _ p, V.mono h _ _ q, r⟩⟩

theorem BR.mono {σ τ : Sg} (h : Le σ τ) {w w' : World} {id : Nat} {blk : Blk} (x : BR σ w id blk) (k : ∀ p, σ id = some p → w'.heap[p.1]? = w.heap[p.1]?) : BR τ w' id blk := by
  cases blk with
  | row cs ty opn md =>
    obtain ⟨b, o, n, cells, fz, tv, h1, h2, h3, h4, h5, h6, h7⟩ := x
    exact ⟨b, o, n, cells, fz, tv, h _ _ h1, (k _ h1).trans h2, h3, h4, h5, VL.mono h _ _ h6, h7⟩
  | amap es clock =>
    obtain ⟨b, o, n, ents, h1, h2, h3⟩ := x
    exact ⟨b, o, n, ents, h _ _ h1, (k _ h1).trans h2, h3.mono h⟩

theorem BR.lt {σ : Sg} {w : World} {id : Nat} {blk : Blk} (x : BR σ w id blk) : ∃ p, σ id = some p ∧ p.1 < w.heap.size := by
  have key : ∀ (b : Nat) (o : Obj), w.heap[b]? = some o → b < w.heap.size := fun b o h => by
    rcases Nat.lt_or_ge b w.heap.size with h1 | h1
    · exact h1
    · rw [Array.getElem?_eq_none h1] at h; simp at h
  cases blk with
  | row cs ty opn md => obtain ⟨b, o, n, cells, fz, tv, h1, h2, _⟩ := x; exact ⟨_, h1, key _ _ h2⟩
  | amap es clock => obtain ⟨b, o, n, ents, h1, h2, h3⟩ := x; exact ⟨_, h1, key _ _ h2⟩

/-- A new block. -/
theorem HR.made {σ : Sg} {h : Hp} {w w' : World} (x : HR σ h w) {nx : Nat} (hn : σ nx = none) {blk : Blk} (o n : Nat)
    (hos : w'.os = w.os) (htp : w'.tape = w.tape) (hout : w'.output = w.output) (hsz : w.heap.size ≤ w'.heap.size) (hold : ∀ k, k < w.heap.size → w'.heap[k]? = w.heap[k]?)
    (hb : BR (upd σ nx (w.heap.size, o, n)) w' nx blk) :
    HR (upd σ nx (w.heap.size, o, n)) (h.set fuelT nx (some blk)) w' ∧
    Stp σ h w (upd σ nx (w.heap.size, o, n)) (h.set fuelT nx (some blk)) w' := by
  have hle : Le σ (upd σ nx (w.heap.size, o, n)) := upd_le hn
  have old : ∀ i bi, h.get i = some bi → i ≠ nx → ∃ p, σ i = some p ∧ p.1 < w.heap.size ∧ upd σ nx (w.heap.size, o, n) i = some p := fun i bi hi hne => by
    obtain ⟨p, hp, hlt⟩ := (x.has i bi hi).lt
    exact ⟨p, hp, hlt, hle _ _ hp⟩
  refine ⟨⟨fun i b hi => ?_, fun i j bi bj p q hi hj hp hq he hwr => ?_⟩, ?_⟩
  · rcases Tr.get_set _ _ _ _ _ _ hi with ⟨rfl, e⟩ | ⟨hne, hi⟩
    · obtain rfl := Option.some.inj e; exact hb
    · refine (x.has i b hi).mono hle fun p hp => ?_
      obtain ⟨p', hp', hlt⟩ := (x.has i b hi).lt
      rw [hp] at hp'; obtain rfl := Option.some.inj hp'
      exact hold _ hlt
  · rcases Tr.get_set _ _ _ _ _ _ hi with ⟨rfl, ei⟩ | ⟨hni, hi2⟩ <;> rcases Tr.get_set _ _ _ _ _ _ hj with ⟨e, ej⟩ | ⟨hnj, hj2⟩
    · exact e.symm
    · obtain ⟨q', hq', hlt, hu⟩ := old j bj hj2 hnj
      rw [upd_same] at hp; obtain rfl := Option.some.inj hp
      rw [hu] at hq; obtain rfl := Option.some.inj hq
      simp at he; omega
    · obtain ⟨p', hp', hlt, hu⟩ := old i bi hi2 hni
      rw [e, upd_same] at hq; obtain rfl := Option.some.inj hq
      rw [hu] at hp; obtain rfl := Option.some.inj hp
      simp at he; omega
    · obtain ⟨p', hp', _, hu⟩ := old i bi hi2 hni
      obtain ⟨q', hq', _, hv⟩ := old j bj hj2 hnj
      rw [hu] at hp; obtain rfl := Option.some.inj hp
      rw [hv] at hq; obtain rfl := Option.some.inj hq
      exact x.inj i j bi bj _ _ hi2 hj2 hp' hq' he hwr
  · refine ⟨hos, htp, hout, hsz, fun b hlt _ => hold _ hlt, fun b hlt ho => ?_, fun b hlt ho => ?_⟩
    · obtain ⟨i, blk', p, hi, hw, hp, he⟩ := ho
      rcases Tr.get_set _ _ _ _ _ _ hi with ⟨rfl, e⟩ | ⟨hne, hi⟩
      · rw [upd_same] at hp; obtain rfl := Option.some.inj hp; simp at he; omega
      · obtain ⟨p', hp', _, hu⟩ := old i _ hi hne
        rw [hu] at hp; obtain rfl := Option.some.inj hp
        exact ⟨i, blk', _, hi, hw, hp', he⟩
    · obtain ⟨i, blk', p, hi, hp, he⟩ := ho
      rcases Tr.get_set _ _ _ _ _ _ hi with ⟨rfl, e⟩ | ⟨hne, hi⟩
      · rw [upd_same] at hp; obtain rfl := Option.some.inj hp; simp at he; omega
      · obtain ⟨p', hp', _, hu⟩ := old i _ hi hne
        rw [hu] at hp; obtain rfl := Option.some.inj hp
        exact ⟨i, blk', _, hi, hp', he⟩

theorem HR.new {σ : Sg} {h : Hp} {w : World} (x : HR σ h w) {nx : Nat} (hn : σ nx = none) {blk : Blk} {obj : Obj} (o n : Nat)
    (hb : BR (upd σ nx (w.heap.size, o, n)) (w.alloc obj) nx blk) :
    HR (upd σ nx (w.heap.size, o, n)) (h.set fuelT nx (some blk)) (w.alloc obj) ∧
    Stp σ h w (upd σ nx (w.heap.size, o, n)) (h.set fuelT nx (some blk)) (w.alloc obj) :=
  x.made hn o n rfl rfl rfl (by simp) (fun _ hk => Below.heap_alloc _ _ _ hk) hb

/-- A block turned in place: its number stands for the same block, and nothing else is turned. -/
theorem HR.put {σ : Sg} {h : Hp} {w w' : World} (x : HR σ h w) {id : Nat} {blk0 blk : Blk} (h0 : h.get id = some blk0) (hw0 : wr blk0 = true) {p : Nat × Nat × Nat} (hp : σ id = some p)
    (hos : w'.os = w.os) (ht : w'.tape = w.tape) (hout : w'.output = w.output) (hsz : w'.heap.size = w.heap.size)
    (hk : ∀ b, b ≠ p.1 → w'.heap[b]? = w.heap[b]?) (hb : BR σ w' id blk) :
    HR σ (h.set fuelT id (some blk)) w' ∧ Stp σ h w σ (h.set fuelT id (some blk)) w' := by
  have back : ∀ i bi, (h.set fuelT id (some blk)).get i = some bi → ∃ bi', h.get i = some bi' ∧ (wr bi = true → wr bi' = true) := fun i bi hi => by
    rcases Tr.get_set _ _ _ _ _ _ hi with ⟨rfl, e⟩ | ⟨hne, hi⟩
    · exact ⟨_, h0, fun _ => hw0⟩
    · exact ⟨_, hi, fun z => z⟩
  refine ⟨⟨fun i b hi => ?_, fun i j bi bj q r hi hj hq hr he hwr => ?_⟩, hos, ht, hout, by omega, fun b _ ho => hk b fun e => ho ⟨id, blk0, p, h0, hw0, hp, e.symm⟩, fun b _ ho => ?_, fun b _ ho => ?_⟩
  · rcases Tr.get_set _ _ _ _ _ _ hi with ⟨rfl, e⟩ | ⟨hne, hi⟩
    · obtain rfl := Option.some.inj e; exact hb
    · exact (x.has i b hi).mono (Le.refl _) fun q hq => hk _ fun e => hne (x.inj i id b blk0 q p hi h0 hq hp e (.inr hw0))
  · obtain ⟨bi', hi', w1⟩ := back i bi hi
    obtain ⟨bj', hj', w2⟩ := back j bj hj
    exact x.inj i j bi' bj' q r hi' hj' hq hr he (hwr.imp w1 w2)
  · obtain ⟨i, bi, q, hi, hw, hq, he⟩ := ho
    obtain ⟨bi', hi', hww⟩ := back i bi hi
    exact ⟨i, bi', q, hi', hww hw, hq, he⟩
  · obtain ⟨i, bi, q, hi, hq, he⟩ := ho
    obtain ⟨bi', hi', _⟩ := back i bi hi
    exact ⟨i, bi', q, hi', hq, he⟩

theorem addr_add (b o n : Nat) : (⟨b, o, none⟩ : Addr).add n = ⟨b, o + n, none⟩ := by
  unfold Addr.add; split <;> simp_all

theorem cell_row {w : World} {b : Nat} {cells : Array Value} {ty : TypeId} {fz : Nat × Nat} (h : w.heap[b]? = some (.cells cells ty fz)) (i : Nat) :
    w.cell? ⟨b, i, none⟩ = cells.toList[i]? := by
  simp [World.cell?, h]

/-- Cells of ours are the model's. -/
theorem loadC_ok {σ : Sg} {h : Hp} {w : World} (x : HR σ h w) {P : Program} {id off n : Nat} {l : List AV} (hl : loadC h id off n = some l) :
    ∃ b o m ys, σ id = some (b, o, m) ∧ (loadCells ⟨b, o + off, none⟩ n).run P w = .ok ⟨ys⟩ w ∧ VL σ l ys ∧ ys.length = n := by
  unfold loadC at hl
  unfold row? at hl
  cases hg : h.get id with
  | none => simp [hg] at hl
  | some blk =>
    cases blk with
    | amap => simp [hg] at hl
    | row cs ty opn md =>
      simp only [hg] at hl
      cases hb : Nat.beq ((cs.drop off).take n).length n with
      | false => simp only [hb, cond_false] at hl; simp at hl
      | true =>
        simp only [hb, cond_true] at hl
        obtain rfl := Option.some.inj hl
        have hlen := Nat.eq_of_beq_eq_true hb
        obtain ⟨b, o, m, cells, fz, tv, h1, h2, h3, h4, h5, h6, h7⟩ := x.has _ _ hg
        have hv := VL.take n (VL.drop off h6)
        have hyl := hv.length
        refine ⟨b, o, m, _, h1, ?_, hv, by rw [← hyl]; exact hlen⟩
        have := run_loadCells_list (P := P) (w := w) ⟨b, o + off, none⟩ ((((cells.toList.drop o).take cs.length).drop off).take n) (fun j v hj => by
          rw [addr_add, cell_row h2]
          rw [List.getElem?_take] at hj
          split at hj
          · rw [List.getElem?_drop, List.getElem?_take] at hj
            split at hj
            · rw [List.getElem?_drop] at hj; rw [← hj]; congr 1; omega
            · simp at hj
          · simp at hj)
        rw [show ((((cells.toList.drop o).take cs.length).drop off).take n).length = n by rw [← hyl]; exact hlen] at this
        exact this
