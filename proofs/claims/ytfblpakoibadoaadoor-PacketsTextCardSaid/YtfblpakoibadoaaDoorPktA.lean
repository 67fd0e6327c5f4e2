/-
  Helper text, a part of LawSpoiled's: the walk of the law PacketsSpoiled; no statement is proved here.
-/
import Derived.Test.YtfblpakoibadoaaDoorPkt2
import Derived.Test.YtfblpakoibadoaaDoorLives
namespace Go.Proofs.YtfblpakoibadoaaDoor
open Go Go.RowKit

theorem fit_data {r : Rg} {xs : List UInt8} (h : Fit r xs) (v : Value) : Fit { r with data := v } xs := by
  cases h with
  | tok hp h1 h2 h3 h4 h5 h6 h7 h8 h9 => exact .tok hp h1 h2 h3 h4 h5 h6 h7 h8 h9
  | sof hp h1 h2 h3 h4 h5 h6 h7 h8 h9 => exact .sof hp h1 h2 h3 h4 h5 h6 h7 h8 h9
  | split hp h1 h2 h3 h4 h5 h8 h9 => exact .split hp h1 h2 h3 h4 h5 h8 h9
  | data hp h1 h2 h3 h4 h5 h6 h7 h8 => exact .data hp h1 h2 h3 h4 h5 h6 h7 h8
  | bare hp h1 h2 h3 h4 h5 h6 h7 h8 h9 => exact .bare hp h1 h2 h3 h4 h5 h6 h7 h8 h9
theorem ok_data {r : Rg} (h : r.Ok) (v : Value) : Rg.Ok { r with data := v } := ⟨h.pid, h.addr, h.endp, h.frame, h.hub, h.port, h.kind, h.spare⟩
theorem fit_err {r : Rg} (ok : r.Ok) {xs : List UInt8} (h : Fit r xs) (hl : xs.length ≤ 1024) : errR r xs = 0 := by
  unfold errR
  rw [if_pos ⟨fit_known h, (fit_of_fitB r ok xs (fit_known h)).2 h⟩, if_pos hl]

/-- The law file's Packet: some packet without an error. -/
theorem pkt_any (w : World) (wt a b fr fl : Nat) (hwt : wt < 256) (ha : a < 256) (hb : b < 256) (hfr : fr < 65536) (hfl : fl < 256) (A : Option Addr) (c : Nat) (xs : List UInt8) (hx : Rd w w.heap.size A c xs) (hl : xs.length ≤ 1024) :
    ∃ r ys, Rg.Ok r ∧ Fit r ys ∧ ys.length ≤ 1024 ∧ Calls Tryd.prog 8 #[.agg (xcells wt a b fr fl (.slice A xs.length c))] w (ResX w r ys) := by
  obtain ⟨k, hk⟩ : ∃ k, wt % 11 = k := ⟨_, rfl⟩
  have h1 : (wt : Int).tmod 11 = (k : Int) := by
    rw [Int.tmod_eq_emod_of_nonneg (by omega)]; omega
  have h2 : (wt : Int) % 11 = (k : Int) := by omega
  have hk11 : k < 11 := by omega
  rcases (by omega : (k = 1 ∨ k = 4 ∨ k = 7 ∨ k = 10) ∨ (k = 0 ∨ k = 6 ∨ k = 9) ∨ k = 3 ∨ k = 5 ∨ (k = 2 ∨ k = 8)) with h | h | h | h | h
  · refine ⟨_, [], bare_ok ?_, ?_, by decide, pkt_hs w wt a b fr fl k hwt A _ c h h1 h2⟩
    · rcases h with rfl | rfl | rfl | rfl <;> decide
    · exact .bare (by rcases h with rfl | rfl | rfl | rfl <;> decide) rfl rfl rfl rfl rfl rfl rfl rfl rfl
  · refine ⟨_, [], ⟨?_, ?_, ?_, Nat.succ_pos _, Nat.succ_pos _, Nat.succ_pos _, Nat.succ_pos _, Nat.succ_pos _⟩, ?_, by decide, pkt_tok w wt a b fr fl k hwt ha hb A _ c h h1 h2⟩
    · exact (show pidK k < 256 by rcases h with rfl | rfl | rfl <;> decide)
    · show a % 128 < 256; omega
    · show b % 16 < 256; omega
    · exact .tok (show pidK k = 1 ∨ pidK k = 9 ∨ pidK k = 13 by rcases h with rfl | rfl | rfl <;> decide) (Nat.mod_lt _ (by decide)) (Nat.mod_lt _ (by decide)) rfl rfl rfl rfl rfl rfl rfl
  · refine ⟨_, [], ⟨?_, Nat.succ_pos _, Nat.succ_pos _, ?_, Nat.succ_pos _, Nat.succ_pos _, Nat.succ_pos _, Nat.succ_pos _⟩, ?_, by decide, pkt_sof w wt a b fr fl k hwt hfr A _ c h h1 h2⟩
    · subst h; show 5 < 256; decide
    · show fr % 2048 < 65536; omega
    · subst h; exact .sof rfl rfl rfl (Nat.mod_lt _ (by decide)) rfl rfl rfl rfl rfl rfl
  · refine ⟨_, [], ⟨?_, Nat.succ_pos _, Nat.succ_pos _, Nat.succ_pos _, ?_, ?_, ?_, Nat.succ_pos _⟩, ?_, by decide, pkt_split w wt a b fr fl k hwt ha hb hfl A _ c h h1 h2⟩
    · subst h; show 8 < 256; decide
    · show a % 128 < 256; omega
    · show b % 128 < 256; omega
    · show fl / 4 % 4 < 256; omega
    · subst h; exact .split rfl rfl rfl rfl (Nat.mod_lt _ (by decide)) (Nat.mod_lt _ (by decide)) (Nat.mod_lt _ (by decide)) rfl
  · refine ⟨_, xs, bare_ok ?_, ?_, hl, pkt_data w wt a b fr fl k hwt A c xs hx hl h h1 h2⟩
    · rcases h with rfl | rfl <;> decide
    · exact .data (by rcases h with rfl | rfl <;> decide) rfl rfl rfl rfl rfl rfl rfl rfl


end Go.Proofs.YtfblpakoibadoaaDoor
