/- A part of the proof: see the last file. -/
import Derived.Test.YtmjmmokbaocboaaGreatDoorPah
import Derived.Laws.OwnMore
set_option linter.unusedVariables false
set_option linter.unusedSimpArgs false
set_option linter.unusedSectionVars false
namespace Go.Proofs.YtmjmmokbaocboaaGreatDoor
open Go.RowKit
/-- clues as alongX and alongY make them. -/
def CSp (w : World) (v : Value) (n : Nat) (cl : Nat → Int × Int × Int) : Prop := (v = .slice none 0 0 ∧ n = 0) ∨ (0 < n ∧ ∃ b off cap, v = .slice (some ⟨b, off, none⟩) n cap ∧ b < w.heap.size ∧ CPts w b off n cl)
theorem CSp.below {w w' : World} {v : Value} {n : Nat} {cl : Nat → Int × Int × Int} (h : CSp w v n cl) (hb : Below w.heap.size w w') : CSp w' v n cl := by
  rcases h with h | ⟨h0, b, off, cap, h1, h2, h3⟩
  · exact .inl h
  · exact .inr ⟨h0, b, off, cap, h1, Nat.lt_of_lt_of_le h2 hb.size, h3.below hb h2⟩
theorem CSp.slice {w : World} {v : Value} {n : Nat} {cl : Nat → Int × Int × Int} (h : CSp w v n cl) : ∃ a c, v = .slice a n c := by
  rcases h with ⟨h, h0⟩ | ⟨h0, b, off, cap, h1, h2, h3⟩
  · exact ⟨none, 0, by rw [h, h0]⟩
  · exact ⟨_, _, h1⟩
theorem csp_of_row {w : World} {B : Nat} {e : TypeId} {v : Value} {n : Nat} {f : Nat → Int × Int × Int} (h : w.ownsRow B e 3 v n (clueCells f n)) (h0 : n = 0 → v = .slice none 0 0) : CSp w v n f := by
  by_cases hn : n = 0
  · exact .inl ⟨h0 hn, hn⟩
  · rcases csl_of_row h with h | ⟨b, off, cap, h1, h2, h3⟩
    · exact absurd h.2 hn
    · exact .inr ⟨by omega, b, off, cap, h1, h2, h3⟩
theorem concat_any (g : Nat) (v : Value) (n : Nat) (cl : Nat → Int × Int × Int) (w : World) (hn : n ≤ 1000) (hg : g < w.heap.size) (e0 : w.cell? ⟨g, 0, none⟩ = some v) (e1 : w.cell? ⟨g, 1, none⟩ = some (.slice none 0 0)) (hp : CSp w v n cl) :
    Calls Tryz.prog 126 #[.slice (some ⟨g, 0, none⟩) 2 2] w fun e w' => ∃ v, e = .returned v ∧ w'.ownsRow w.heap.size 152 3 v n (clueCells cl n) ∧ Below w.heap.size w w' := by
  rcases hp with ⟨rfl, rfl⟩ | ⟨h0, b, off, cap, rfl, hb, hp⟩
  · exact concat_nil g w e0 e1
  · exact concat_some g b off n cap cl w h0 hn hg hb e0 e1 hp
/-- a course in memory. -/
structure CAt (W : World) (C : Nat) (f : Nat → Int × Int) : Prop where
  c : ∀ j, j < 13 → W.cell? ⟨C, j * 2, none⟩ = some (.int .i64 (f j).1) ∧ W.cell? ⟨C, j * 2 + 1, none⟩ = some (.int .i64 (f j).2)
  z : ∀ i, W.frozen? ⟨C, i, none⟩ = false
theorem CAt.far {W W' : World} {C : Nat} {f : Nat → Int × Int} (h : CAt W C f) (hh : W'.heap[C]? = W.heap[C]?) : CAt W' C f :=
  ⟨fun j hj => ⟨(World.cell?_of_block hh).trans (h.c j hj).1, (World.cell?_of_block hh).trans (h.c j hj).2⟩, fun i => (show W'.frozen? ⟨C, i, none⟩ = W.frozen? ⟨C, i, none⟩ by unfold World.frozen?; rw [hh]).trans (h.z i)⟩
theorem CAt.below {W W' : World} {C B : Nat} {f : Nat → Int × Int} (h : CAt W C f) (hb : Below B W W') (hl : C < B) : CAt W' C f := h.far (hb.block C hl)
theorem CAt.store {W : World} {C : Nat} {f : Nat → Int × Int} (h : CAt W C f) (k : Nat) (hk : k < 13) (x y : Int) : CAt ((W.setCell ⟨C, k * 2, none⟩ (.int .i64 x)).setCell ⟨C, k * 2 + 1, none⟩ (.int .i64 y)) C (fun j => if j = k then (x, y) else f j) := by
  obtain ⟨k1, k2⟩ := h.c k hk
  refine ⟨fun j hj => ?_, fun i => by rw [World.frozen?_setCell, World.frozen?_setCell]; exact h.z i⟩
  by_cases hjk : j = k
  · subst hjk
    simp only [if_true]
    constructor
    · rw [World.cell?_setCell_other _ _ (a := ⟨C, j * 2 + 1, none⟩) (b := ⟨C, j * 2, none⟩) (by intro h; injection h with h1 h2 h3; omega)]; exact World.cell?_setCell_same' _ _ _ (by rw [k1]; rfl)
    · exact World.cell?_setCell_same' _ _ _ (by rw [World.cell?_setCell_other _ _ (a := ⟨C, j * 2, none⟩) (b := ⟨C, j * 2 + 1, none⟩) (by intro h; injection h with h1 h2 h3; omega), k2]; rfl)
  · rw [if_neg hjk]
    obtain ⟨j1, j2⟩ := h.c j hj
    constructor
    · rw [World.cell?_setCell_other _ _ (a := ⟨C, k * 2 + 1, none⟩) (b := ⟨C, j * 2, none⟩) (by intro h; injection h with h1 h2 h3; omega), World.cell?_setCell_other _ _ (a := ⟨C, k * 2, none⟩) (b := ⟨C, j * 2, none⟩) (by intro h; injection h with h1 h2 h3; omega)]; exact j1
    · rw [World.cell?_setCell_other _ _ (a := ⟨C, k * 2 + 1, none⟩) (b := ⟨C, j * 2 + 1, none⟩) (by intro h; injection h with h1 h2 h3; omega), World.cell?_setCell_other _ _ (a := ⟨C, k * 2, none⟩) (b := ⟨C, j * 2 + 1, none⟩) (by intro h; injection h with h1 h2 h3; omega)]; exact j2
theorem cat_new (w : World) (e : TypeId) : CAt (w.alloc (Obj.cells #[.int .i64 0, .int .i64 0, .int .i64 0, .int .i64 0, .int .i64 0, .int .i64 0, .int .i64 0, .int .i64 0, .int .i64 0, .int .i64 0, .int .i64 0, .int .i64 0, .int .i64 0, .int .i64 0, .int .i64 0, .int .i64 0, .int .i64 0, .int .i64 0, .int .i64 0, .int .i64 0, .int .i64 0, .int .i64 0, .int .i64 0, .int .i64 0, .int .i64 0, .int .i64 0] e)) w.heap.size (fun _ => (0, 0)) := by
  refine ⟨fun j hj => ?_, fun i => by simp [go_sem]⟩
  have key : ∀ i, i < 26 → (#[.int .i64 0, .int .i64 0, .int .i64 0, .int .i64 0, .int .i64 0, .int .i64 0, .int .i64 0, .int .i64 0, .int .i64 0, .int .i64 0, .int .i64 0, .int .i64 0, .int .i64 0, .int .i64 0, .int .i64 0, .int .i64 0, .int .i64 0, .int .i64 0, .int .i64 0, .int .i64 0, .int .i64 0, .int .i64 0, .int .i64 0, .int .i64 0, .int .i64 0, .int .i64 0] : Array Value)[i]? = some (.int .i64 0) := by
    intro i hi
    match i, hi with
    | 0, _ => rfl | 1, _ => rfl | 2, _ => rfl | 3, _ => rfl | 4, _ => rfl | 5, _ => rfl | 6, _ => rfl | 7, _ => rfl | 8, _ => rfl | 9, _ => rfl | 10, _ => rfl | 11, _ => rfl | 12, _ => rfl
    | 13, _ => rfl | 14, _ => rfl | 15, _ => rfl | 16, _ => rfl | 17, _ => rfl | 18, _ => rfl | 19, _ => rfl | 20, _ => rfl | 21, _ => rfl | 22, _ => rfl | 23, _ => rfl | 24, _ => rfl | 25, _ => rfl
    | n+26, h => omega
  exact ⟨cells_new w _ _ (key _ (by omega)), cells_new w _ _ (key _ (by omega))⟩
def spCells : List (Int × Int) → List Value
  | [] => []
  | s :: l => .int .i64 s.1 :: .int .i64 s.2 :: spCells l
theorem spCells_append : ∀ l m, spCells (l ++ m) = spCells l ++ spCells m
  | [], m => rfl
  | s :: l, m => by rw [List.cons_append, spCells, spCells, spCells_append l m]; rfl
theorem spCells_at : ∀ (l : List (Int × Int)) (j : Nat) (p : Int × Int), l[j]? = some p → (spCells l)[j * 2]? = some (.int .i64 p.1) ∧ (spCells l)[j * 2 + 1]? = some (.int .i64 p.2)
  | [], j, p, h => by simp at h
  | s :: l, 0, p, h => by
    simp at h; subst h; exact ⟨rfl, rfl⟩
  | s :: l, j+1, p, h => by
    rw [List.getElem?_cons_succ] at h
    obtain ⟨h1, h2⟩ := spCells_at l j p h
    rw [show (j + 1) * 2 = j * 2 + 1 + 1 by omega, spCells]
    exact ⟨h1, h2⟩
theorem sps_of_row {w : World} {B g n cap : Nat} {e : TypeId} {l : List (Int × Int)} (h : w.ownsRow B e 2 (.slice (some ⟨g, 0, none⟩) n cap) n (spCells l)) (hn : n = l.length) : Sps w g 0 l := fun j p hj => by
  obtain ⟨h1, h2⟩ := spCells_at l j p hj
  have hl := (List.getElem?_eq_some_iff.1 hj).1
  rw [Nat.zero_add]
  exact ⟨(h.cellAt (j * 2) (by omega)).trans h1, (h.cellAt (j * 2 + 1) (by omega)).trans h2⟩
theorem Tryz.info26 : (Tryz.prog.info? 26).map (fun i => (i.zero, i.size, i.bytes)) = some (some (.agg #[.int .i64 0, .int .i64 0]), 2, 16) := by kernel_rfl
end Go.Proofs.YtmjmmokbaocboaaGreatDoor
