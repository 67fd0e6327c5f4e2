/-
  Helper text: what the reference's transaction comes to, and that the host's comes to the same; no statement is proved here.
-/
import Derived.Test.YtkfkcpogcobmbaaDoorRin
import Derived.Test.YtkfkcpogcobmbaaDoorSam
namespace Go.Proofs.YtkfkcpogcobmbaaDoor
open Go Go.RowKit

/-- The outcome behind the answer to data. -/
def resW (t : Tr) (pid : Nat) (o : Bool) : Nat :=
  if t.iso = true ∨ (o = true ∧ pid = 2) then 1 else if o = true ∧ t.what = 1 ∧ pid = 10 then 2 else if o = true ∧ t.what = 1 ∧ pid = 14 then 3 else 4
/-- What the reference's transaction comes to. -/
def doW (x : Rw) (t : Tr) : Rw × Nat × List UInt8 :=
  let r := speakW x (tokP t)
  if t.what = 9 then inW r.1 t r.2.1 r.2.2
  else if (x.flt.getD 0 0).toNat = 0 then ((speakW r.1 (datP t)).1, resW t (speakW r.1 (datP t)).2.1.pid (speakW r.1 (datP t)).2.2, [])
  else ((arrR r.1 (datP t) true).1, resW t 0 false, [])

theorem Tr.pos_of {t : Tr} (h : t.err = 0) : t.Pos ∧ (t.what = 13 → t.data.length = 8) ∧ t.data.length ≤ 1024 := by
  unfold Tr.err at h
  by_cases hp : t.Pos
  · rw [if_pos hp] at h
    by_cases h8 : t.what = 13 ∧ t.data.length ≠ 8
    · rw [if_pos h8] at h; omega
    · rw [if_neg h8] at h
      refine ⟨hp, fun hw => ?_, ?_⟩
      · by_cases e : t.data.length = 8
        · exact e
        · exact absurd ⟨hw, e⟩ h8
      · by_cases h1 : 1024 < t.data.length
        · rw [if_pos h1] at h; omega
        · omega
  · rw [if_neg hp] at h; omega
theorem tokB : ∀ wh ∈ [1, 9, 13], ∀ ad < 128, ∀ en < 16, fitB ⟨wh, ad, en, 0, 0, 0, false, false, 0, .slice none 0 0, 0⟩ [] = true := by decide +kernel
theorem tok_err {t : Tr} (h : t.err = 0) : (tokP t).err = 0 := by
  obtain ⟨⟨h1, h2, _, h4⟩, _, _⟩ := Tr.pos_of h
  have hw : t.what = 9 ∨ t.what = 1 ∨ t.what = 13 := by rcases h4 with h | h | h <;> simp [h.1]
  have hk : known t.what = true := by rcases hw with h | h | h <;> rw [h] <;> rfl
  have hf := tokB t.what (by rcases hw with h | h | h <;> simp [h]) t.addr (by omega) t.endp (by omega)
  show (if known t.what = true ∧ fitB _ [] = true then _ else _) = 0
  rw [if_pos ⟨hk, hf⟩]; rfl
theorem dat_err {t : Tr} (h : t.err = 0) : (datP t).err = 0 := by
  obtain ⟨_, _, h5⟩ := Tr.pos_of h
  have hf : ∀ v, fitB ((datP t).rg v) t.data = true := fun v => by
    cases ht : t.tog <;> simp [fitB, sameB, datP, dpid, ht, keptR, fieldsL, isD, unpackN, packN, bare]
  have hk : known (dpid t.tog) = true := by cases t.tog <;> rfl
  show (if known (dpid t.tog) = true ∧ fitB _ t.data = true then _ else _) = 0
  rw [if_pos ⟨hk, hf _⟩]
  exact if_pos h5
theorem ack_err : ackP.err = 0 := by decide +kernel
/-- Behind a first packet: what was sent, and what is left to answer. -/
theorem speakW_ans (x : Rw) (p : Pkt) : ∀ b ∈ (speakW x p).1.ans, b ∈ x.ans := by
  obtain ⟨al, fs, hd, sn⟩ := x
  unfold speakW arrR
  cases al with
  | nil =>
    dsimp only
    repeat' split
    all_goals simp
  | cons a al =>
    dsimp only
    repeat' split
    all_goals (intro b hb; first | exact hb | exact List.mem_cons_of_mem _ hb)
theorem speakW_first (an : List Pkt) (fl : List UInt8) (hd : List Pkt) (p : Pkt) (hp : p.err = 0) : ∃ l, (speakW ⟨an, fl, hd, []⟩ p).1.sent = (p, true, (fl.getD 0 0).toNat) :: l := by
  unfold speakW arrR
  rw [if_pos hp]
  repeat' split
  all_goals exact ⟨_, rfl⟩
theorem speak_two (x : Rw) (p : Pkt) (hp : p.err = 0) : speakR lineN (askR hearS lineN) x.host p = ((speakW x p).1.host, (speakW x p).2) := speak_same x p hp
theorem speakW_none (x : Rw) (p : Pkt) (h : (speakW x p).2.2 = false) : (speakW x p).2.1 = zeroP := by
  obtain ⟨al, fs, hd, sn⟩ := x
  unfold speakW at h ⊢
  cases al with
  | nil =>
    dsimp only at h ⊢
    repeat' split
    all_goals rfl
  | cons a al =>
    dsimp only at h ⊢
    by_cases h1 : p.err = 0
    · rw [if_pos h1] at h ⊢
      by_cases h2 : (arrR ⟨a :: al, fs, hd, sn⟩ p true).2 = true
      · rw [if_pos h2] at h ⊢
        by_cases h3 : a.err = 0
        · rw [if_pos h3] at h ⊢
          by_cases h4 : (arrR ⟨al, fs.drop 1, hd ++ [p], (arrR ⟨a :: al, fs, hd, sn⟩ p true).1.sent⟩ a false).2 = true
          · rw [if_pos h4] at h; cases h
          · rw [if_neg h4]
        · rw [if_neg h3]
      · rw [if_neg h2]
    · rw [if_neg h1]
theorem open_same (x : Rw) (t : Tr) (h : (tokP t).err = 0) : openR lineN (askR hearS lineN) x.host t = (speakW x (tokP t)).1.host := by
  have hs := speak_same x (tokP t) h
  have : openR lineN (askR hearS lineN) x.host t = (speakR lineN (askR hearS lineN) x.host (tokP t)).1 := by
    unfold openR speakR
    split <;> rfl
  rw [this, hs]
theorem data_same (x : Rw) (t : Tr) (h : (datP t).err = 0) (b : Bool) : dataR lineN (askR hearS lineN) b x.host t = if b = true then ((speakW x (datP t)).1.host, (speakW x (datP t)).2) else ((arrR x (datP t) true).1.host, zeroP, false) := by
  have hs := speak_same x (datP t) h
  cases b
  · unfold dataR
    rw [if_neg (by simp), if_neg (by simp)]
    rfl
  · rw [if_pos rfl, ← hs]
    unfold dataR speakR
    by_cases hn : (lineN x.host.2.1).2 = 0
    · rw [if_pos ⟨hn, rfl⟩, if_pos hn]
    · rw [if_neg (fun h => hn h.1), if_neg hn]
/-- The host's transaction comes to the same. -/
theorem do_same (an : List Pkt) (fl : List UInt8) (t : Tr) (h : t.err = 0) : doR lineN (askR hearS lineN) (an, []) fl t = ((doW ⟨an, fl, [], []⟩ t).1.host, (doW ⟨an, fl, [], []⟩ t).2) := by
  unfold doR
  rw [if_pos h]
  unfold performR doW
  have hs := speak_same ⟨an, fl, [], []⟩ (tokP t) (tok_err h)
  have hz := speakW_none ⟨an, fl, [], []⟩ (tokP t)
  rw [show ((an, []), fl, []) = Rw.host ⟨an, fl, [], []⟩ from rfl]
  by_cases h9 : t.what = 9
  · rw [if_pos h9, if_pos h9]
    unfold readR inW
    rw [hs]
    dsimp only
    generalize speakW ⟨an, fl, [], []⟩ (tokP t) = r at hz ⊢
    obtain ⟨x1, a, o⟩ := r
    dsimp only at hz ⊢
    rw [speak_same x1 ackP ack_err]
    cases o
    · rw [hz rfl, if_neg (show ¬ (false = true ∧ (zeroP.pid = 3 ∨ zeroP.pid = 11)) from fun h => by cases h.1), if_pos (show zeroP.pid ≠ 3 ∧ zeroP.pid ≠ 11 from ⟨by decide, by decide⟩), h9]
      simp [hsR, zeroP]
    · by_cases hp : a.pid = 3 ∨ a.pid = 11
      · rw [if_neg (show ¬ (a.pid ≠ 3 ∧ a.pid ≠ 11) by omega), if_pos (show true = true ∧ (a.pid = 3 ∨ a.pid = 11) from ⟨rfl, hp⟩)]
        by_cases hm : t.max < (a.data.length : Int)
        · rw [if_pos hm, if_pos hm]
        · rw [if_neg hm, if_neg hm]
          by_cases hi : t.iso = true
          · rw [if_pos hi, if_pos hi]
          · rw [if_neg hi, if_neg hi]
            dsimp only
            have : (a.pid = dpid t.tog) = (t.tog = (a.pid == 11)) := by
              rcases hp with e | e <;> rw [e] <;> cases t.tog <;> simp [dpid]
            simp only [this]
      · rw [if_pos (show a.pid ≠ 3 ∧ a.pid ≠ 11 by omega), if_neg (show ¬ (true = true ∧ (a.pid = 3 ∨ a.pid = 11)) from fun h => hp h.2), h9]
        dsimp only
        have : hsR 9 t.iso a.pid = if true = true ∧ t.iso = false ∧ a.pid = 10 then 2 else if true = true ∧ t.iso = false ∧ a.pid = 14 then 3 else 4 := by
          unfold hsR
          by_cases e2 : a.pid = 2
          · simp [e2]
          · by_cases e10 : a.pid = 10
            · cases t.iso <;> simp [e10]
            · by_cases e14 : a.pid = 14
              · cases t.iso <;> simp [e14]
              · simp [e2, e10, e14]
        rw [this]
  · rw [if_neg h9, if_neg h9]
    unfold writeR
    rw [open_same _ t (tok_err h), data_same _ t (dat_err h)]
    have hw : t.what = 1 ∨ t.what = 13 := by
      obtain ⟨⟨_, _, _, h4⟩, _, _⟩ := Tr.pos_of h
      rcases h4 with h | h | h
      · exact absurd h.1 h9
      · exact .inl h.1
      · exact .inr h.1
    have hsr : ∀ (a : Pkt) (o : Bool), (o = false → a = zeroP) → (if t.iso = true then 1 else hsR t.what t.iso a.pid) = resW t a.pid o := fun a o ho => by
      unfold resW hsR
      cases hi : t.iso
      · cases o
        · rw [ho rfl]; simp [zeroP]
        · rcases hw with e | e <;> rw [e] <;> by_cases e2 : a.pid = 2 <;> by_cases e10 : a.pid = 10 <;> by_cases e14 : a.pid = 14 <;> simp [e2, e10, e14]
      · simp
    have hl : (lineN (Rw.host ⟨an, fl, [], []⟩).2.1).2 = (fl.getD 0 0).toNat := rfl
    rw [hl]
    by_cases h0 : (fl.getD 0 0).toNat = 0
    · rw [if_pos (show ((fl.getD 0 0).toNat == 0) = true by simpa using h0), if_pos h0]
      have hz2 := speakW_none (speakW ⟨an, fl, [], []⟩ (tokP t)).1 (datP t)
      rw [hsr _ _ hz2]
    · rw [if_neg (show ¬ ((fl.getD 0 0).toNat == 0) = true by simpa using h0), if_neg h0]
      have := hsr zeroP false (fun _ => rfl)
      dsimp only
      rw [this]
      rfl

end Go.Proofs.YtkfkcpogcobmbaaDoor
