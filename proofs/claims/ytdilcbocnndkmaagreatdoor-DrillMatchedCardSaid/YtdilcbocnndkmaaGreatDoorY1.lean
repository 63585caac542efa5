/- A part of the proof: see the last file. -/
import Derived.Test.YtdilcbocnndkmaaGreatDoorX13
import Derived.Test.YtdilcbocnndkmaaGreatDoorWd
set_option linter.unusedVariables false
set_option linter.unusedSimpArgs false
set_option linter.unusedSectionVars false
namespace Go.Proofs.YtdilcbocnndkmaaGreatDoor
open Go.RowKit
/-- the reference's near, of a point and another one. -/
def nearR (ax ay bx by_ off : Int) : Bool := inB (ax - bx) (-off) off && inB (ay - by_) (-off) off
theorem nearR_yes {ax ay bx by_ off : Int} (h : inB (ax - bx) (-off) off = true) : nearR ax ay bx by_ off = inB (ay - by_) (-off) off := by unfold nearR; rw [h]; rfl
theorem nearR_no {ax ay bx by_ off : Int} (h : inB (ax - bx) (-off) off = false) : nearR ax ay bx by_ off = false := by unfold nearR; rw [h]; rfl
theorem inB_shift (q p r : Int) : inB (q - p) (-r) r = inB q (p - r) (p + r) := by
  unfold inB; exact decide_eq_decide.2 ⟨fun ⟨a, b⟩ => ⟨by omega, by omega⟩, fun ⟨a, b⟩ => ⟨by omega, by omega⟩⟩
theorem nearR_nearB (qx qy px py r : Int) : nearR qx qy px py r = nearB px py qx qy r := by unfold nearR nearB; rw [inB_shift, inB_shift]
set_option maxRecDepth 100000 in
set_option maxHeartbeats 400000 in
theorem rnear_any (ax ay bx by_ off : Int) (h1 : -1000 ≤ ax) (h2 : ax ≤ 1000) (h3 : -1000 ≤ ay) (h4 : ay ≤ 1000) (h5 : -1000 ≤ bx) (h6 : bx ≤ 1000) (h7 : -1000 ≤ by_) (h8 : by_ ≤ 1000) (h9 : 0 ≤ off) (h10 : off ≤ 1000) (w : World) :
    Calls Tryz.prog 103 #[.agg #[.int .i64 ax, .int .i64 ay], .agg #[.int .i64 bx, .int .i64 by_], .int .i64 off] w fun e w' => e = .returned (.bool (nearR ax ay bx by_ off)) ∧ Below w.heap.size w w' := by
  cases hx : inB (ax - bx) (-off) off with
  | true =>
    go_enter Tryz.func103, Tryz.ntmps103
    go_wp2_with (go_at_call 38; refine (in_any _ _ _ _).mono ?_; rintro e w' ⟨rfl, rfl⟩)
    go_ret
    exact ⟨ret_bool (nearR_yes hx).symm, ((Below.refl _ _).alloc (Nat.le_refl _) _).alloc (by simp) _⟩
  | false =>
    go_enter Tryz.func103, Tryz.ntmps103
    go_wp2_with (go_at_call 38; refine (in_any _ _ _ _).mono ?_; rintro e w' ⟨rfl, rfl⟩)
    go_ret
    exact ⟨ret_bool (nearR_no hx).symm, ((Below.refl _ _).alloc (Nat.le_refl _) _).alloc (by simp) _⟩
end Go.Proofs.YtdilcbocnndkmaaGreatDoor
