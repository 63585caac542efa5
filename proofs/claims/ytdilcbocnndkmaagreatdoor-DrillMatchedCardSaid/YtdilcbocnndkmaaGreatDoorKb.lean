/- A part of the proof: see the last file. -/
import Derived.Test.YtdilcbocnndkmaaGreatDoorKa
set_option linter.unusedVariables false
set_option linter.unusedSimpArgs false
set_option linter.unusedSectionVars false
namespace Go.Proofs.YtdilcbocnndkmaaGreatDoor
open Go Go.Proofs Go.Can
set_option maxRecDepth 10000000 in
set_option maxHeartbeats 0 in
theorem memo45_run : runMemo Tryz.prog [] 10000000 memo45 = true := by kernel_rfl
theorem memo45_ok : MemoOk Tryz.prog memo45 := memo_ok fair (fun _ h => by cases h) memo45_run
end Go.Proofs.YtdilcbocnndkmaaGreatDoor
