/- A part of the proof: see the last file. -/
import Derived.Test.YtlhgkepdoinlnaaGreatDoorPat
set_option linter.unusedVariables false
set_option linter.unusedSimpArgs false
set_option linter.unusedSectionVars false
namespace Go.Proofs.YtlhgkepdoinlnaaGreatDoor
open Go Go.Proofs Go.Can
set_option maxRecDepth 10000000 in
set_option maxHeartbeats 0 in
theorem known_run (e0 e1 e2 e3 : TypeId) (f0 f1 f2 f3 : Nat × Nat) : runsM Tryz.prog [memoF0, memoF1, memoF2, memoF3, memoF4, memoF5, memoF6, memoF7, memoF8, memoF9] 10000000 16 [(5, .cells cells0 e0 f0 none), (6, .cells cells1 e1 f1 none), (4, .cells cells2 e2 f2 none), (0, .cells cells3 e3 f3 none)] isTrue = true := by kernel_rfl
end Go.Proofs.YtlhgkepdoinlnaaGreatDoor
