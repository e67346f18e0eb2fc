/- All code of the program is fit. -/
import Derived.Test.YthklnpkjlepagaaGreatDoorAbt
namespace Go.Proofs.YthklnpkjlepagaaGreatDoor.Ab
set_option maxRecDepth 100000 in
theorem codes : codesOk Tryz.prog = true := by kernel_rfl
#print axioms codes
end Go.Proofs.YthklnpkjlepagaaGreatDoor.Ab
