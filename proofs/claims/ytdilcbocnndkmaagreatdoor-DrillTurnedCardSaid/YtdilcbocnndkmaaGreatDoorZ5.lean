/- A part of the proof: see the last file. -/
import Derived.Test.YtdilcbocnndkmaaGreatDoorZ3
import Derived.Test.YtdilcbocnndkmaaGreatDoorY10
set_option linter.unusedVariables false
set_option linter.unusedSimpArgs false
set_option linter.unusedSectionVars false
namespace Go.Proofs.YtdilcbocnndkmaaGreatDoor
open Go.ChangeShapes Go.WideShapes Go.ChangeAt Go.WideMaps Go.WideElems Go.RowKit
theorem turned_all {a1 : Option Addr} {n1 c1 : Nat} {r : Int} {a2 : Option Addr} {n2 c2 : Nat} {HX HY PX PY : Nat → Int} {t : Int} {w : World} (m1 : n1 ≤ 9223372036854775807) (m2 : n2 ≤ 9223372036854775807) (hk : KG w) (hp1 : PSc w (.slice a1 n1 c1) n1 HX HY) (hp2 : PSc w (.slice a2 n2 c2) n2 PX PY) :
    Calls Tryz.prog 3 #[.agg #[.slice a1 n1 c1, .int .i64 r], .slice a2 n2 c2, .int .i64 t] w fun e w' => e = .returned (.bool true) ∧ Below w.heap.size w w' := by
  by_cases h2 : n2 ≤ 6
  · by_cases h1 : n1 ≤ 6
    · cases h : measB n1 HX HY r with
      | false => exact turned_meas a1 n1 c1 r a2 n2 c2 t w hk HX HY PX PY h2 h1 hp1 hp2.1 h
      | true =>
        cases ht : inB t 0 7 with
        | false => exact turned_turn a1 n1 c1 r a2 n2 c2 t w hk HX HY PX PY h2 h1 hp1 hp2.1 h ht
        | true =>
          cases hpon : ponB n2 n1 n1 PX PY 80 with
          | false => exact turned_odd a1 n1 c1 r a2 n2 c2 t w hk HX HY PX PY h2 h1 hp1 hp2.1 h ht hpon
          | true =>
            obtain ⟨⟨q1, q2⟩, _, _⟩ := meas_parts h
            obtain ⟨rfl, ha⟩ := pon_parts hpon q2
            obtain ⟨z1, z2⟩ := inB_iff.1 ht
            obtain ⟨m, rfl⟩ : ∃ m : Nat, t = m := ⟨t.toNat, by omega⟩
            exact turned_good a1 c1 r a2 n2 c2 m w hk HX HY PX PY hp1 hp2.1 h ha (by omega)
    · exact turned_long1 a1 n1 c1 r a2 n2 c2 t w hk h2 (by omega) m1
  · exact turned_long2 a1 n1 c1 r a2 n2 c2 t w hk (by omega) m2
end Go.Proofs.YtdilcbocnndkmaaGreatDoor
