/- A part of the proof: see the last file. -/
import Derived.Test.YtppefjmllebacaaGreatDoorPbf
set_option linter.unusedVariables false
set_option linter.unusedSimpArgs false
set_option linter.unusedSectionVars false
namespace Go.Proofs.YtppefjmllebacaaGreatDoor
open Go.RowKit Go.Can
theorem psl_pos {w : World} {v : Value} {n : Nat} {X Y : Nat → Int} (h : PSl w v n X Y) (hn : 1 ≤ n) : ∃ b off cap, v = .slice (some ⟨b, off, none⟩) n cap ∧ b < w.heap.size ∧ Pts w b off n X Y := by
  rcases h with ⟨a, c, _, h2⟩ | h
  · omega
  · exact h
/-- two spans in blocks of their own. -/
structure AB (W : World) (s : Nat) (x0 x1 z0 z1 : Int) : Prop where
  a0 : W.cell? ⟨s, 0, none⟩ = some (.int .i64 x0)
  a1 : W.cell? ⟨s, 1, none⟩ = some (.int .i64 x1)
  b0 : W.cell? ⟨s + 1, 0, none⟩ = some (.int .i64 z0)
  b1 : W.cell? ⟨s + 1, 1, none⟩ = some (.int .i64 z1)
  big : s + 2 ≤ W.heap.size
theorem AB.new (w : World) (x0 x1 z0 z1 : Int) (t : TypeId) : AB ((w.alloc (Obj.cells #[.int .i64 x0, .int .i64 x1] t)).alloc (Obj.cells #[.int .i64 z0, .int .i64 z1] t)) w.heap.size x0 x1 z0 z1 := by
  have hb : Below (w.alloc (Obj.cells #[.int .i64 x0, .int .i64 x1] t)).heap.size (w.alloc (Obj.cells #[.int .i64 x0, .int .i64 x1] t)) ((w.alloc (Obj.cells #[.int .i64 x0, .int .i64 x1] t)).alloc (Obj.cells #[.int .i64 z0, .int .i64 z1] t)) := (Below.refl _ _).alloc (Nat.le_refl _) _
  have hs := World.size_alloc w (Obj.cells #[.int .i64 x0, .int .i64 x1] t)
  refine ⟨?_, ?_, ?_, ?_, by rw [World.size_alloc, World.size_alloc]; omega⟩
  · exact (hb.cell (p := ⟨w.heap.size, 0, none⟩) (by show w.heap.size < _; omega)).trans (cells_new w _ _ rfl)
  · exact (hb.cell (p := ⟨w.heap.size, 1, none⟩) (by show w.heap.size < _; omega)).trans (cells_new w _ _ rfl)
  · have := cells_new (w.alloc (Obj.cells #[.int .i64 x0, .int .i64 x1] t)) #[.int .i64 z0, .int .i64 z1] t (j := 0) rfl
    rw [hs] at this; exact this
  · have := cells_new (w.alloc (Obj.cells #[.int .i64 x0, .int .i64 x1] t)) #[.int .i64 z0, .int .i64 z1] t (j := 1) rfl
    rw [hs] at this; exact this
theorem AB.below {W W' : World} {s : Nat} {x0 x1 z0 z1 : Int} (h : AB W s x0 x1 z0 z1) (hb : Below W.heap.size W W') : AB W' s x0 x1 z0 z1 :=
  have hg := h.big
  ⟨(hb.cell (p := ⟨s, 0, none⟩) (by show s < _; omega)).trans h.a0, (hb.cell (p := ⟨s, 1, none⟩) (by show s < _; omega)).trans h.a1, (hb.cell (p := ⟨s + 1, 0, none⟩) (by show s + 1 < _; omega)).trans h.b0, (hb.cell (p := ⟨s + 1, 1, none⟩) (by show s + 1 < _; omega)).trans h.b1, Nat.le_trans h.big hb.size⟩
end Go.Proofs.YtppefjmllebacaaGreatDoor
