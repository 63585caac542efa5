/- A part of the proof: see the last file. -/
import Derived.Test.YtjhpklolpmaopaaGreatDoorPak
import Derived.Test.YtjhpklolpmaopaaGreatDoorPbf
set_option linter.unusedVariables false
set_option linter.unusedSimpArgs false
set_option linter.unusedSectionVars false
namespace Go.Proofs.YtjhpklolpmaopaaGreatDoor
open Go.RowKit
/-- a measure and a machine in blocks of their own. -/
structure SX (w W : World) (m : Mach) (v1 : Value) (r : Int) : Prop where
 c0 : W.cell? ⟨w.heap.size, 0, none⟩ = some v1
 c1 : W.cell? ⟨w.heap.size, 1, none⟩ = some (.int .i64 r)
 mach : MAt W (w.heap.size + 1) m
 old : Below w.heap.size w W
 big : w.heap.size + 2 ≤ W.heap.size
theorem SX.below {w W W' : World} {m : Mach} {v1 : Value} {r : Int} (h : SX w W m v1 r) (hb : Below W.heap.size W W') : SX w W' m v1 r := by
 have := h.big
 exact ⟨(hb.cell (p := ⟨w.heap.size, 0, none⟩) (by show w.heap.size < _; omega)).trans h.c0, (hb.cell (p := ⟨w.heap.size, 1, none⟩) (by show w.heap.size < _; omega)).trans h.c1, h.mach.below hb (by omega), h.old.trans (hb.mono (by omega)), Nat.le_trans h.big hb.size⟩
theorem SX.alloc {w W : World} {m : Mach} {v1 : Value} {r : Int} (h : SX w W m v1 r) (o : Obj) : SX w (W.alloc o) m v1 r := h.below ((Below.refl _ _).alloc (Nat.le_refl _) o)
theorem SX.drew {w W : World} {m : Mach} {v1 : Value} {r : Int} (h : SX w W m v1 r) : SX w W.drew m v1 r := h.below (Below.refl _ _).drew
theorem SX.put {w W : World} {m : Mach} {v1 : Value} {r : Int} (h : SX w W m v1 r) {g : Nat} (hg : w.heap.size + 2 ≤ g) (L : List Value) : SX w (W.setCells g 0 L) m v1 r := by
 have hl := h.big
 have hbl : Below (w.heap.size + 2) W (W.setCells g 0 L) := below_setCells hg L 0 W (Below.refl _ _)
 exact ⟨(hbl.cell (p := ⟨w.heap.size, 0, none⟩) (by show w.heap.size < _; omega)).trans h.c0, (hbl.cell (p := ⟨w.heap.size, 1, none⟩) (by show w.heap.size < _; omega)).trans h.c1, h.mach.below hbl (by omega), below_setCells (by omega) L 0 W h.old, by rw [size_setCells]; exact hl⟩
theorem SX.grown {w W W' : World} {m : Mach} {v1 : Value} {r : Int} {b : Nat} (h : SX w W m v1 r) (hg : W.grownBy W' (some b)) (hb : w.heap.size + 2 ≤ b) : SX w W' m v1 r := by
 have hl := h.big
 have hbl : Below (w.heap.size + 2) W W' := (Below.refl _ _).grown hg hl fun k e => by cases e; exact hb
 exact ⟨(hbl.cell (p := ⟨w.heap.size, 0, none⟩) (by show w.heap.size < _; omega)).trans h.c0, (hbl.cell (p := ⟨w.heap.size, 1, none⟩) (by show w.heap.size < _; omega)).trans h.c1, h.mach.below hbl (by omega), h.old.trans (hbl.mono (by omega)), Nat.le_trans hl hg.size⟩
theorem SX.new (w : World) (m : Mach) (v1 : Value) (r : Int) : SX w ((w.alloc (Obj.cells #[v1, .int .i64 r] 69)).alloc (.cells #[.slice m.sa m.sn m.sc, .int .i64 m.c0, .int .i64 m.c1, .int .i64 m.d0, .int .i64 m.d1, .int .i64 m.w0, .int .i64 m.w1, .int .i64 m.v0, .int .i64 m.v1, .slice m.ra m.rn m.rc] 27)) m v1 r := by
 have h := MAt.new (w.alloc (Obj.cells #[v1, .int .i64 r] 69)) m
 rw [World.size_alloc] at h
 exact ⟨cell_under w _ _ _ _ rfl, cell_under w _ _ _ _ rfl, h, ((Below.refl _ _).alloc (Nat.le_refl _) _).alloc (by rw [World.size_alloc]; omega) _, by rw [World.size_alloc, World.size_alloc]; omega⟩
theorem SAt.lt {W : World} {g : Nat} {L : List Value} (h : SAt W g L) (hl : 0 < L.length) : g < W.heap.size := by
 have h1 := h.c 0 _ (List.getElem?_eq_getElem hl)
 refine Classical.byContradiction fun hn => ?_
 have h2 : W.heap[g]? = none := by simp; omega
 simp [World.cell?, h2] at h1
end Go.Proofs.YtjhpklolpmaopaaGreatDoor
