/- A part of the proof: see the last file. -/
import Derived.Test.YtfhakedgihecoaaGreatDoorPak
import Derived.StillTailTactics
set_option linter.unusedVariables false
set_option linter.unusedSimpArgs false
set_option linter.unusedSectionVars false
namespace Go.Proofs.YtfhakedgihecoaaGreatDoor
open Go.RowKit
set_option maxRecDepth 100000 in
set_option maxHeartbeats 4000000 in
theorem at_any (L : List Value) (b : Nat) (hb : b ≤ 12) (x0 x1 y0 y1 : Int) (w : World) (e0 : L[10 + b * 2]? = some (.int .i64 x0)) (e1 : L[10 + b * 2 + 1]? = some (.int .i64 x1)) (e2 : L[36 + b * 2]? = some (.int .i64 y0)) (e3 : L[36 + b * 2 + 1]? = some (.int .i64 y1)) :
    Calls Tryz.prog 51 #[.agg L.toArray, .int .i64 b] w fun e w' => e = .returned (.agg #[.int .i64 x0, .int .i64 x1, .int .i64 y0, .int .i64 y1]) ∧ Below w.heap.size w w' := by
  obtain ⟨W0, hW0⟩ : ∃ W0, w.alloc (Obj.cells L.toArray 83) = W0 := ⟨_, rfl⟩
  have hS : SAt W0 w.heap.size L := by rw [← hW0]; exact SAt.new w L _
  have hb0 : Below w.heap.size w W0 := by rw [← hW0]; exact (Below.refl _ _).alloc (Nat.le_refl _) _
  have hsz : W0.heap.size = w.heap.size + 1 := by rw [← hW0, World.size_alloc]
  have c0 := hS.c _ _ e0
  have c1 := hS.c _ _ e1
  have c2 := hS.c _ _ e2
  have c3 := hS.c _ _ e3
  rw [Nat.zero_add] at c0 c1 c2 c3
  have hk0 : (0 : Int) ≤ (b : Int) := Int.natCast_nonneg _
  have hk1 : (b : Int) < 13 := by omega
  have hne : w.heap.size ≠ W0.heap.size := by omega
  obtain ⟨W1, hW1⟩ : ∃ W1, W0.alloc (Obj.cells #[.int .i64 0, .int .i64 0, .int .i64 0, .int .i64 0] 96) = W1 := ⟨_, rfl⟩
  have hb1 : Below W0.heap.size W0 W1 := by rw [← hW1]; exact (Below.refl _ _).alloc (Nat.le_refl _) _
  have d0 := (hb1.cell (p := ⟨w.heap.size, 10 + b * 2, none⟩) (by show w.heap.size < _; omega)).trans c0
  have d1 := (hb1.cell (p := ⟨w.heap.size, 10 + b * 2 + 1, none⟩) (by show w.heap.size < _; omega)).trans c1
  have d2 := (hb1.cell (p := ⟨w.heap.size, 36 + b * 2, none⟩) (by show w.heap.size < _; omega)).trans c2
  have d3 := (hb1.cell (p := ⟨w.heap.size, 36 + b * 2 + 1, none⟩) (by show w.heap.size < _; omega)).trans c3
  have r : ∀ j, j < 4 → W1.cell? ⟨w.heap.size + 1, j, none⟩ = some (.int .i64 0) ∧ W1.frozen? ⟨w.heap.size + 1, j, none⟩ = false := fun j hj => by
    rw [← hW1, ← hsz]
    refine ⟨cells_new W0 _ _ ?_, by simp [go_sem]⟩
    match j, hj with
    | 0, _ => rfl | 1, _ => rfl | 2, _ => rfl | 3, _ => rfl
  obtain ⟨r0, z0⟩ := r 0 (by omega)
  obtain ⟨r1, z1⟩ := r 1 (by omega)
  obtain ⟨r2, z2⟩ := r 2 (by omega)
  obtain ⟨r3, z3⟩ := r 3 (by omega)
  clear r c0 c1 c2 c3 hS e0 e1 e2 e3 hne
  go_enter Tryz.func51, Tryz.ntmps51
  go_wp2
  go_still_tail 11, (by kernel_rfl)
  change wpList _ _ _ _ _ W1.drew
  go_wp2
  refine bodyPost_ret (v := .agg #[.int .i64 x0, .int .i64 x1, .int .i64 y0, .int .i64 y1]) (by simp [results, Tryz.results51, go_sem, r0, r1, r2, r3]) rfl ⟨rfl, ?_⟩
  have hb2 : Below w.heap.size w W1.drew := (hb0.trans (hb1.mono hb0.size)).drew
  exact (((hb2.setCell (p := ⟨w.heap.size + 1, 0, none⟩) (Nat.le_succ _) _).setCell (p := ⟨w.heap.size + 1, 1, none⟩) (Nat.le_succ _) _).setCell (p := ⟨w.heap.size + 1, 2, none⟩) (Nat.le_succ _) _).setCell (p := ⟨w.heap.size + 1, 3, none⟩) (Nat.le_succ _) _
theorem st_atX (m : Mach) (f g : Nat → Int × Int) (b : Nat) (hb : b ≤ 12) : (m.st (crsL f 13) (crsL g 13))[10 + b * 2]? = some (.int .i64 (f b).1) ∧ (m.st (crsL f 13) (crsL g 13))[10 + b * 2 + 1]? = some (.int .i64 (f b).2) := by
  have hl := crsL_length f 13
  obtain ⟨h1, h2⟩ := crsL_at f 13 b (by omega)
  have hc : m.cells.length = 10 := rfl
  unfold Mach.st
  refine ⟨?_, ?_⟩
  · rw [List.getElem?_append_right (by omega), List.getElem?_append_left (by omega), hc, show 10 + b * 2 - 10 = b * 2 by omega]; exact h1
  · rw [List.getElem?_append_right (by omega), List.getElem?_append_left (by omega), hc, show 10 + b * 2 + 1 - 10 = b * 2 + 1 by omega]; exact h2
theorem st_atY (m : Mach) (f g : Nat → Int × Int) (b : Nat) (hb : b ≤ 12) : (m.st (crsL f 13) (crsL g 13))[36 + b * 2]? = some (.int .i64 (g b).1) ∧ (m.st (crsL f 13) (crsL g 13))[36 + b * 2 + 1]? = some (.int .i64 (g b).2) := by
  have hl := crsL_length f 13
  have hl2 := crsL_length g 13
  obtain ⟨h1, h2⟩ := crsL_at g 13 b (by omega)
  have hc : m.cells.length = 10 := rfl
  unfold Mach.st
  refine ⟨?_, ?_⟩
  · rw [List.getElem?_append_right (by omega), List.getElem?_append_right (by omega), hc, hl, show 36 + b * 2 - 10 - 2 * 13 = b * 2 by omega]; exact h1
  · rw [List.getElem?_append_right (by omega), List.getElem?_append_right (by omega), hc, hl, show 36 + b * 2 + 1 - 10 - 2 * 13 = b * 2 + 1 by omega]; exact h2
end Go.Proofs.YtfhakedgihecoaaGreatDoor
