/- A part of the proof: see the last file. -/
import Derived.Test.YtlhgkepdoinlnaaGreatDoorPat
set_option linter.unusedVariables false
set_option linter.unusedSimpArgs false
set_option linter.unusedSectionVars false
namespace Go.Proofs.YtlhgkepdoinlnaaGreatDoor
open Go Go.Proofs Go.Can
set_option maxRecDepth 10000000 in
set_option maxHeartbeats 0 in
theorem memoF6_run : runMemo Tryz.prog [] 10000000 memoF6 = true := by kernel_rfl
theorem memoF6_ok : MemoOk Tryz.prog memoF6 := memo_ok fair (fun _ h => by cases h) memoF6_run
end Go.Proofs.YtlhgkepdoinlnaaGreatDoor
