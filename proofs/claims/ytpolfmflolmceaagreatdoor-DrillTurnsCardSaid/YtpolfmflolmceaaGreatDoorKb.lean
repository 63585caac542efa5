/- A part of the proof: see the last file. -/
import Derived.Test.YtpolfmflolmceaaGreatDoorKa
set_option linter.unusedVariables false
set_option linter.unusedSimpArgs false
set_option linter.unusedSectionVars false
namespace Go.Proofs.YtpolfmflolmceaaGreatDoor
open Go Go.Proofs Go.Can
set_option maxRecDepth 10000000 in
set_option maxHeartbeats 0 in
theorem memo18_run : runMemo Tryz.prog [] 10000000 memo18 = true := by kernel_rfl
theorem memo18_ok : MemoOk Tryz.prog memo18 := memo_ok fair (fun _ h => by cases h) memo18_run
end Go.Proofs.YtpolfmflolmceaaGreatDoor
