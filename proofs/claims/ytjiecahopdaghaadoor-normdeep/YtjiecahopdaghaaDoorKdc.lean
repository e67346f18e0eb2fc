/- Terms that double too often. -/
import Derived.Test.YtjiecahopdaghaaDoorKda
namespace Go.Proofs.YtjiecahopdaghaaDoor
open Go.RowKit

set_option maxRecDepth 20000
set_option maxHeartbeats 8000000
theorem no_12 : deepNo 1000 12 = true := by kernel_rfl
theorem no_16 : deepNo 1000 16 = true := by kernel_rfl
theorem no_20 : deepNo 1000 20 = true := by kernel_rfl
theorem no_24 : deepNo 1000 24 = true := by kernel_rfl
theorem no_28 : deepNo 1000 28 = true := by kernel_rfl
theorem no_32 : deepNo 1000 32 = true := by kernel_rfl
theorem no_36 : deepNo 1000 36 = true := by kernel_rfl
#print axioms no_12
end Go.Proofs.YtjiecahopdaghaaDoor
