/-
  Helper text: the host's speaking and the reference's come to the same; no statement is proved here.
-/
import Derived.Test.YtkfkcpogcobmbaaDoorScD
namespace Go.Proofs.YtkfkcpogcobmbaaDoor
open Go Go.RowKit

/-- The reference's world as the host's. -/
def Rw.host (x : Rw) : (List Pkt × List Pkt) × List UInt8 × List SentP := ((x.ans, x.heard), x.flt, x.sent)
theorem speak_same (x : Rw) (p : Pkt) (hp : p.err = 0) : speakR lineN (askR hearS lineN) x.host p = ((speakW x p).1.host, (speakW x p).2) := by
  obtain ⟨al, fs, hd, l⟩ := x
  unfold speakR speakW
  rw [if_pos hp]
  by_cases hf : (fs.getD 0 0).toNat = 0
  · rw [if_pos (show (lineN (Rw.host ⟨al, fs, hd, l⟩).2.1).2 = 0 from hf), if_pos (show (arrR ⟨al, fs, hd, l⟩ p true).2 = true from by show ((fs.getD 0 0).toNat == 0) = true; simpa using hf)]
    cases al with
    | nil =>
      unfold askR
      rw [if_neg (show ¬ ((hearS (Rw.host ⟨[], fs, hd, l⟩).1 p).2.2 = true ∧ (hearS (Rw.host ⟨[], fs, hd, l⟩).1 p).2.1.err = 0) from fun h => by cases h.1)]
      rfl
    | cons a al =>
      unfold askR
      by_cases ha : a.err = 0
      · have hpid : a.pid ≠ 0 := fun e => by
          have := Pkt.err_pid ha
          rw [e] at this
          exact absurd this (by decide)
        rw [if_pos (show (hearS (Rw.host ⟨a :: al, fs, hd, l⟩).1 p).2.2 = true ∧ (hearS (Rw.host ⟨a :: al, fs, hd, l⟩).1 p).2.1.err = 0 from ⟨by show (a.pid != 0) = true; simpa using hpid, ha⟩)]
        dsimp only
        rw [if_pos ha]
        by_cases hg : ((fs.drop 1).getD 0 0).toNat = 0
        · rw [if_pos (show (lineN (lineN (Rw.host ⟨a :: al, fs, hd, l⟩).2.1).1).2 = 0 from hg), if_pos (show (arrR ⟨al, fs.drop 1, hd ++ [p], (arrR ⟨a :: al, fs, hd, l⟩ p true).1.sent⟩ a false).2 = true from by show (((fs.drop 1).getD 0 0).toNat == 0) = true; simpa using hg)]
          rfl
        · rw [if_neg (show ¬ (lineN (lineN (Rw.host ⟨a :: al, fs, hd, l⟩).2.1).1).2 = 0 from hg), if_neg (show ¬ (arrR ⟨al, fs.drop 1, hd ++ [p], (arrR ⟨a :: al, fs, hd, l⟩ p true).1.sent⟩ a false).2 = true from by show ¬ (((fs.drop 1).getD 0 0).toNat == 0) = true; simpa using hg)]
          rfl
      · rw [if_neg (show ¬ ((hearS (Rw.host ⟨a :: al, fs, hd, l⟩).1 p).2.2 = true ∧ (hearS (Rw.host ⟨a :: al, fs, hd, l⟩).1 p).2.1.err = 0) from fun h => ha h.2)]
        dsimp only
        rw [if_neg ha]
        rfl
  · rw [if_neg (show ¬ (lineN (Rw.host ⟨al, fs, hd, l⟩).2.1).2 = 0 from hf), if_neg (show ¬ (arrR ⟨al, fs, hd, l⟩ p true).2 = true from by show ¬ ((fs.getD 0 0).toNat == 0) = true; simpa using hf)]
    rfl

end Go.Proofs.YtkfkcpogcobmbaaDoor
