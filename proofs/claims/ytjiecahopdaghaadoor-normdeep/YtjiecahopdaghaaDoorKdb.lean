/- Terms that double too often. -/
import Derived.Test.YtjiecahopdaghaaDoorKda
namespace Go.Proofs.YtjiecahopdaghaaDoor
open Go.RowKit

set_option maxRecDepth 20000
set_option maxHeartbeats 8000000
theorem no_11 : deepNo 1000 11 = true := by kernel_rfl
theorem no_15 : deepNo 1000 15 = true := by kernel_rfl
theorem no_19 : deepNo 1000 19 = true := by kernel_rfl
theorem no_23 : deepNo 1000 23 = true := by kernel_rfl
theorem no_27 : deepNo 1000 27 = true := by kernel_rfl
theorem no_31 : deepNo 1000 31 = true := by kernel_rfl
theorem no_35 : deepNo 1000 35 = true := by kernel_rfl
theorem no_39 : deepNo 1000 39 = true := by kernel_rfl
#print axioms no_11
end Go.Proofs.YtjiecahopdaghaaDoor
