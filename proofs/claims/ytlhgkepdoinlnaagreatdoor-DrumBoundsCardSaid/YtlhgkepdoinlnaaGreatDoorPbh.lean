/- A part of the proof: see the last file. -/
import Derived.Test.YtlhgkepdoinlnaaGreatDoorPal
import Derived.Test.YtlhgkepdoinlnaaGreatDoorPbg
set_option linter.unusedVariables false
set_option linter.unusedSimpArgs false
set_option linter.unusedSectionVars false
namespace Go.Proofs.YtlhgkepdoinlnaaGreatDoor
open Go.RowKit Go.Gen Go.Drum
/-- the cells of a row of numbers. -/
def zL (x : Nat → Int) : Nat → List Value
 | 0 => []
 | n+1 => zL x n ++ [.int .i64 (x n)]
theorem zL_length (x : Nat → Int) : ∀ n, (zL x n).length = n
 | 0 => rfl
 | n+1 => by unfold zL; rw [List.length_append, zL_length x n]; rfl
theorem zL_at (x : Nat → Int) : ∀ n i, i < n → (zL x n)[i]? = some (.int .i64 (x i))
 | 0, i, h => absurd h (Nat.not_lt_zero i)
 | n+1, i, h => by
  have hl := zL_length x n
  unfold zL
  by_cases hi : i = n
  ·subst hi
   rw [List.getElem?_append_right (by omega), show i - (zL x i).length = 0 by omega]; rfl
  ·rw [List.getElem?_append_left (by omega)]; exact zL_at x n i (by omega)
theorem one_one (x : Int) : ∀ u ∈ [Value.int .i64 x], u.oneCell' = true := fun u hu => by
 rcases List.mem_cons.1 hu with rfl | hu
 ·rfl
 ·cases hu
/-- one end of a span. -/
def selE (b : Bool) (s : Int × Int) : Int := if b then s.2 else s.1
end Go.Proofs.YtlhgkepdoinlnaaGreatDoor
