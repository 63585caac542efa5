/- A part of the proof: see the last file. -/
import Derived.Test.YtlhgkepdoinlnaaGreatDoorPat
set_option linter.unusedVariables false
set_option linter.unusedSimpArgs false
set_option linter.unusedSectionVars false
namespace Go.Proofs.YtlhgkepdoinlnaaGreatDoor
open Go Go.Proofs Go.Can
set_option maxRecDepth 10000000 in
set_option maxHeartbeats 0 in
theorem memoF5_run : runMemo Tryz.prog [] 10000000 memoF5 = true := by kernel_rfl
theorem memoF5_ok : MemoOk Tryz.prog memoF5 := memo_ok fair (fun _ h => by cases h) memoF5_run
end Go.Proofs.YtlhgkepdoinlnaaGreatDoor
