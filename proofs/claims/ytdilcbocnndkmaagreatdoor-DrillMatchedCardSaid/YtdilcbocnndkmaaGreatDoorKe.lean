/- A part of the proof: see the last file. -/
import Derived.Test.YtdilcbocnndkmaaGreatDoorKa
set_option linter.unusedVariables false
set_option linter.unusedSimpArgs false
set_option linter.unusedSectionVars false
namespace Go.Proofs.YtdilcbocnndkmaaGreatDoor
open Go Go.Proofs Go.Can
set_option maxRecDepth 10000000 in
set_option maxHeartbeats 0 in
theorem known_run (e0 e2 e3 e4 : TypeId) (f0 f2 f3 f4 : Nat × Nat) : runsM Tryz.prog [memo45, memo47, memo50, memo94] 10000000 13 [(0, .cells wordsCells e0 f0 none), (2, .cells powCells e2 f2 none), (3, .cells db32Cells e3 f3 none), (4, .cells db64Cells e4 f4 none)] isTrue = true := by kernel_rfl
end Go.Proofs.YtdilcbocnndkmaaGreatDoor
