/- A part of the proof: see the last file. -/
import Derived.Test.YtlhgkepdoinlnaaGreatDoorPah
set_option linter.unusedVariables false
set_option linter.unusedSimpArgs false
set_option linter.unusedSectionVars false
/-! Layer 3's math: what several acids make together; bounds of ends (no program text is mentioned) -/
namespace Go.Drum
end Go.Drum
