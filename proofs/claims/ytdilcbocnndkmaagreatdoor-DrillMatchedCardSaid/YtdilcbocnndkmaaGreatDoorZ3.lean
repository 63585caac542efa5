/- A part of the proof: see the last file. -/
import Derived.Test.YtdilcbocnndkmaaGreatDoorZ2
set_option linter.unusedVariables false
set_option linter.unusedSimpArgs false
set_option linter.unusedSectionVars false
namespace Go.Proofs.YtdilcbocnndkmaaGreatDoor
open Go.ChangeShapes Go.WideShapes Go.ChangeAt Go.WideMaps Go.WideElems Go.RowKit
theorem own : ownKnob Tryz.prog.godebug = none := by kernel_rfl
theorem laidOut : laidOutB Tryz.prog = true := by kernel_rfl
theorem matches_all {a1 : Option Addr} {n1 c1 : Nat} {r : Int} {a2 : Option Addr} {n2 c2 : Nat} {HX HY PX PY : Nat → Int} {w : World} (m1 : n1 ≤ 9223372036854775807) (m2 : n2 ≤ 9223372036854775807) (hk : KG w) (hp1 : PSc w (.slice a1 n1 c1) n1 HX HY) (hp2 : PSc w (.slice a2 n2 c2) n2 PX PY) :
    Calls Tryz.prog 4 #[.agg #[.slice a1 n1 c1, .int .i64 r], .slice a2 n2 c2] w fun e w' => e = .returned (.bool true) ∧ Below w.heap.size w w' := by
  by_cases h2 : n2 ≤ 6
  · by_cases h1 : n1 ≤ 6
    · cases h : measB n1 HX HY r with
      | false => exact matches_meas a1 n1 c1 r a2 n2 c2 HX HY w h2 h1 hk hp1 h
      | true =>
        cases hpon : ponB n2 n1 n1 PX PY 80 with
        | false => exact matches_odd a1 n1 c1 r a2 n2 c2 HX HY PX PY w h2 h1 hk hp1 hp2.1 h hpon
        | true =>
          cases hs : matchS n1 HX HY PX PY r with
          | none => exact matches_none a1 n1 c1 r a2 n2 c2 HX HY PX PY w h2 h1 hk hp1 hp2.1 h hpon hs
          | some x => exact matches_some a1 n1 c1 r a2 n2 c2 HX HY PX PY w h2 h1 hk hp1 hp2.1 h x.1 x.2 hpon hs
    · exact matches_long1 a1 n1 c1 r a2 n2 c2 w h2 (by omega) m1 hk
  · exact matches_long2 _ r a2 n2 c2 w (by omega) m2 hk
end Go.Proofs.YtdilcbocnndkmaaGreatDoor
