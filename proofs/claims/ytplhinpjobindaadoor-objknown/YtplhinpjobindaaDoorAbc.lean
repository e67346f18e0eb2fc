/- All code of the program is fit. -/
import Derived.Test.YtplhinpjobindaaDoorAbt
namespace Go.Proofs.YtplhinpjobindaaDoor.Ab
set_option maxRecDepth 100000 in
theorem codes : codesOk Tryd.prog = true := by kernel_rfl
#print axioms codes
end Go.Proofs.YtplhinpjobindaaDoor.Ab
