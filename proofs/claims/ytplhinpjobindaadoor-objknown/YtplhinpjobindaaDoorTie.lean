/-
  DERIVED. GIVEN WITH THE SEED: THE PROGRAM's TIES (one call each: nine closed facts by the kernel) AND EACH ROW's TIE, after the 31st guide's Derived/Test/Toyas{Tie, Card}.lean. No idea stands in it: it is a product of the set-up. Laid BY PROGRAM, IN A SANDBOX (cutbox-door.mjs). By AI agents, Wed Nov 11 2026. No macro, syntax, notation, axiom, sorry.
-/
import Derived.Test.YtplhinpjobindaaDoorRows
import Derived.LaidByTextLater
import Derived.SevenTiedAt
import Derived.LaidSub
import Derived.LaidOnce
namespace Go.Proofs.YtplhinpjobindaaDoor
open Go
set_option maxRecDepth 100000
theorem seatTie1 : Tryd.prog.laidByTextLater [("thyrsus/term.kids", Rows.laid_thyrsus_term_kids), ("thyrsus/term.binders", Rows.laid_thyrsus_term_binders), ("thyrsus/term.numbers", Rows.laid_thyrsus_term_numbers)] [.data, .data, .data] true :=
  Program.laidByTextLater_by_one 35 8 125 (by kernel_rfl) (by kernel_rfl) (by kernel_rfl) (by kernel_rfl) (by kernel_rfl) (by kernel_rfl) (fun _ _ => by kernel_rfl)
theorem noOwnUnsafe : Tryd.pinned.checked.prog.headLifts.contains "ownunsafe" = false := by kernel_rfl
theorem tie : Tryd.prog.laidByTextLater [("thyrsus/term.kids", Rows.laid_thyrsus_term_kids), ("thyrsus/term.binders", Rows.laid_thyrsus_term_binders), ("thyrsus/term.numbers", Rows.laid_thyrsus_term_numbers)] [.data, .data, .data] true :=
  Program.laidByTextLater.sub seatTie1 ["thyrsus/term.kids", "thyrsus/term.binders", "thyrsus/term.numbers"] (by kernel_rfl) (by kernel_rfl)
theorem objKnown_row_tie : Rows.objKnownRow.laidByTextAt .later Tryd.pinned [.data, .data, .data] true :=
  OpenClaim.laidByTextAt_later rfl rfl tie noOwnUnsafe
theorem objDeep_row_tie : Rows.objDeepRow.laidByTextAt .later Tryd.pinned [.data, .data, .data] true :=
  OpenClaim.laidByTextAt_later rfl rfl tie noOwnUnsafe
theorem objKnownUpto_row_tie : Rows.objKnownUptoRow.laidByTextAt .later Tryd.pinned [.data, .data, .data] true :=
  OpenClaim.laidByTextAt_later rfl rfl tie noOwnUnsafe
theorem objDeepUpto_row_tie : Rows.objDeepUptoRow.laidByTextAt .later Tryd.pinned [.data, .data, .data] true :=
  OpenClaim.laidByTextAt_later rfl rfl tie noOwnUnsafe
end Go.Proofs.YtplhinpjobindaaDoor
