/-
  DERIVED. GIVEN WITH THE SEED: THE PROGRAM's TIES (one call each: nine closed facts by the kernel) AND EACH ROW's TIE, after the 31st guide's Derived/Test/Toyas{Tie, Card}.lean. No idea stands in it: it is a product of the set-up. Laid BY PROGRAM, IN A SANDBOX (cutbox-door.mjs). By AI agents, Wed Nov 11 2026. No macro, syntax, notation, axiom, sorry.
-/
import Derived.Test.YtfblpakoibadoaaGreatDoorRows
import Derived.LaidByTextLater
import Derived.SevenTiedAt
import Derived.LaidSub
import Derived.LaidOnce
namespace Go.Proofs.YtfblpakoibadoaaGreatDoor
open Go
set_option maxRecDepth 100000
theorem seatTie1 : Tryz.prog.laidByTextLater [("math/bits.deBruijn32tab", Rows.laid_math_bits_deBruijn32tab), ("math/bits.deBruijn64tab", Rows.laid_math_bits_deBruijn64tab), ("internal/strconv.uint64pow10", Rows.laid_internal_strconv_uint64pow10), ("plugboard/checks.behindOne", Rows.laid_plugboard_checks_behindOne), ("plugboard/checks.behindFour", Rows.laid_plugboard_checks_behindFour), ("plugboard/levels.syncBits", Rows.laid_plugboard_levels_syncBits), ("plugboard/levels.endStates", Rows.laid_plugboard_levels_endStates), ("plugboard/packets.pidNames", Rows.laid_plugboard_packets_pidNames), ("plugboard/packets.stepNames", Rows.laid_plugboard_packets_stepNames), ("plugboard/packets.kindNames", Rows.laid_plugboard_packets_kindNames)] [.data, .data, .data, .data, .data, .data, .data, .data, .data, .data] true :=
  Program.laidByTextLater_by_one 59 8 65 (by kernel_rfl) (by kernel_rfl) (by kernel_rfl) (by kernel_rfl) (by kernel_rfl) (by kernel_rfl) (fun _ _ => by kernel_rfl)
theorem noOwnUnsafe : Tryz.pinned.checked.prog.headLifts.contains "ownunsafe" = false := by kernel_rfl
theorem tie : Tryz.prog.laidByTextLater [("math/bits.deBruijn32tab", Rows.laid_math_bits_deBruijn32tab), ("math/bits.deBruijn64tab", Rows.laid_math_bits_deBruijn64tab), ("internal/strconv.uint64pow10", Rows.laid_internal_strconv_uint64pow10), ("plugboard/checks.behindOne", Rows.laid_plugboard_checks_behindOne), ("plugboard/checks.behindFour", Rows.laid_plugboard_checks_behindFour), ("plugboard/packets.pidNames", Rows.laid_plugboard_packets_pidNames), ("plugboard/packets.stepNames", Rows.laid_plugboard_packets_stepNames), ("plugboard/packets.kindNames", Rows.laid_plugboard_packets_kindNames)] [.data, .data, .data, .data, .data, .data, .data, .data] true :=
  Program.laidByTextLater.sub seatTie1 ["math/bits.deBruijn32tab", "math/bits.deBruijn64tab", "internal/strconv.uint64pow10", "plugboard/checks.behindOne", "plugboard/checks.behindFour", "plugboard/packets.pidNames", "plugboard/packets.stepNames", "plugboard/packets.kindNames"] (by kernel_rfl) (by kernel_rfl)
theorem packetsCheck_row_tie : Rows.packetsCheckRow.laidByTextAt .later Tryz.pinned [.data, .data, .data, .data, .data, .data, .data, .data] true :=
  OpenClaim.laidByTextAt_later rfl rfl tie noOwnUnsafe
theorem packetsBack_row_tie : Rows.packetsBackRow.laidByTextAt .later Tryz.pinned [.data, .data, .data, .data, .data, .data, .data, .data] true :=
  OpenClaim.laidByTextAt_later rfl rfl tie noOwnUnsafe
theorem packetsDecode_row_tie : Rows.packetsDecodeRow.laidByTextAt .later Tryz.pinned [.data, .data, .data, .data, .data, .data, .data, .data] true :=
  OpenClaim.laidByTextAt_later rfl rfl tie noOwnUnsafe
theorem tie2 : Tryz.prog.laidByTextLater [("math/bits.deBruijn32tab", Rows.laid_math_bits_deBruijn32tab), ("math/bits.deBruijn64tab", Rows.laid_math_bits_deBruijn64tab), ("internal/strconv.uint64pow10", Rows.laid_internal_strconv_uint64pow10), ("plugboard/checks.behindOne", Rows.laid_plugboard_checks_behindOne), ("plugboard/checks.behindFour", Rows.laid_plugboard_checks_behindFour), ("plugboard/levels.syncBits", Rows.laid_plugboard_levels_syncBits), ("plugboard/levels.endStates", Rows.laid_plugboard_levels_endStates), ("plugboard/packets.pidNames", Rows.laid_plugboard_packets_pidNames), ("plugboard/packets.stepNames", Rows.laid_plugboard_packets_stepNames), ("plugboard/packets.kindNames", Rows.laid_plugboard_packets_kindNames)] [.data, .data, .data, .data, .data, .data, .data, .data, .data, .data] true :=
  Program.laidByTextLater.sub seatTie1 ["math/bits.deBruijn32tab", "math/bits.deBruijn64tab", "internal/strconv.uint64pow10", "plugboard/checks.behindOne", "plugboard/checks.behindFour", "plugboard/levels.syncBits", "plugboard/levels.endStates", "plugboard/packets.pidNames", "plugboard/packets.stepNames", "plugboard/packets.kindNames"] (by kernel_rfl) (by kernel_rfl)
theorem packetsLine_row_tie : Rows.packetsLineRow.laidByTextAt .later Tryz.pinned [.data, .data, .data, .data, .data, .data, .data, .data, .data, .data] true :=
  OpenClaim.laidByTextAt_later rfl rfl tie2 noOwnUnsafe
theorem packetsSpoiled_row_tie : Rows.packetsSpoiledRow.laidByTextAt .later Tryz.pinned [.data, .data, .data, .data, .data, .data, .data, .data, .data, .data] true :=
  OpenClaim.laidByTextAt_later rfl rfl tie2 noOwnUnsafe
theorem packetsCheckUpto_row_tie : Rows.packetsCheckUptoRow.laidByTextAt .later Tryz.pinned [.data, .data, .data, .data, .data, .data, .data, .data] true :=
  OpenClaim.laidByTextAt_later rfl rfl tie noOwnUnsafe
theorem packetsBackUpto_row_tie : Rows.packetsBackUptoRow.laidByTextAt .later Tryz.pinned [.data, .data, .data, .data, .data, .data, .data, .data] true :=
  OpenClaim.laidByTextAt_later rfl rfl tie noOwnUnsafe
theorem packetsDecodeUpto_row_tie : Rows.packetsDecodeUptoRow.laidByTextAt .later Tryz.pinned [.data, .data, .data, .data, .data, .data, .data, .data] true :=
  OpenClaim.laidByTextAt_later rfl rfl tie noOwnUnsafe
theorem packetsLineUpto_row_tie : Rows.packetsLineUptoRow.laidByTextAt .later Tryz.pinned [.data, .data, .data, .data, .data, .data, .data, .data, .data, .data] true :=
  OpenClaim.laidByTextAt_later rfl rfl tie2 noOwnUnsafe
theorem packetsSpoiledUpto_row_tie : Rows.packetsSpoiledUptoRow.laidByTextAt .later Tryz.pinned [.data, .data, .data, .data, .data, .data, .data, .data, .data, .data] true :=
  OpenClaim.laidByTextAt_later rfl rfl tie2 noOwnUnsafe
end Go.Proofs.YtfblpakoibadoaaGreatDoor
