/- Terms that double too often. -/
import Derived.Test.YtjiecahopdaghaaDoorKda
namespace Go.Proofs.YtjiecahopdaghaaDoor
open Go.RowKit

set_option maxRecDepth 20000
set_option maxHeartbeats 8000000
theorem no_13 : deepNo 1000 13 = true := by kernel_rfl
theorem no_17 : deepNo 1000 17 = true := by kernel_rfl
theorem no_21 : deepNo 1000 21 = true := by kernel_rfl
theorem no_25 : deepNo 1000 25 = true := by kernel_rfl
theorem no_29 : deepNo 1000 29 = true := by kernel_rfl
theorem no_33 : deepNo 1000 33 = true := by kernel_rfl
theorem no_37 : deepNo 1000 37 = true := by kernel_rfl
#print axioms no_13
end Go.Proofs.YtjiecahopdaghaaDoor
