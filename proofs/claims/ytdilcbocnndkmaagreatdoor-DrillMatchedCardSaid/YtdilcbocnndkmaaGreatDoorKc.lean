/- A part of the proof: see the last file. -/
import Derived.Test.YtdilcbocnndkmaaGreatDoorKa
set_option linter.unusedVariables false
set_option linter.unusedSimpArgs false
set_option linter.unusedSectionVars false
namespace Go.Proofs.YtdilcbocnndkmaaGreatDoor
open Go Go.Proofs Go.Can
set_option maxRecDepth 10000000 in
set_option maxHeartbeats 0 in
theorem memo47_run : runMemo Tryz.prog [] 10000000 memo47 = true := by kernel_rfl
theorem memo47_ok : MemoOk Tryz.prog memo47 := memo_ok fair (fun _ h => by cases h) memo47_run
end Go.Proofs.YtdilcbocnndkmaaGreatDoor
