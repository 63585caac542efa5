/- A part of the proof: see the last file. -/
import Derived.Test.YtjhpklolpmaopaaGreatDoorPaa
import Derived.Test.YtjhpklolpmaopaaGreatDoorPbi
import Derived.Test.YtjhpklolpmaopaaGreatDoorPbh
import Derived.Test.YtjhpklolpmaopaaGreatDoorPbe
import Derived.Test.YtjhpklolpmaopaaGreatDoorPbd
set_option linter.unusedVariables false
set_option linter.unusedSimpArgs false
set_option linter.unusedSectionVars false
namespace Go.Proofs.YtjhpklolpmaopaaGreatDoor
open Go.RowKit
/-- four integers in a block. -/
structure Box4 (W : World) (g : Nat) (a b c d : Int) : Prop where
 k0 : W.cell? ⟨g, 0, none⟩ = some (.int .i64 a)
 k1 : W.cell? ⟨g, 1, none⟩ = some (.int .i64 b)
 k2 : W.cell? ⟨g, 2, none⟩ = some (.int .i64 c)
 k3 : W.cell? ⟨g, 3, none⟩ = some (.int .i64 d)
 f0 : W.frozen? ⟨g, 0, none⟩ = false
 f1 : W.frozen? ⟨g, 1, none⟩ = false
 f2 : W.frozen? ⟨g, 2, none⟩ = false
 f3 : W.frozen? ⟨g, 3, none⟩ = false
theorem Box4.far {W W' : World} {g : Nat} {a b c d : Int} (h : Box4 W g a b c d) (hh : W'.heap[g]? = W.heap[g]?) : Box4 W' g a b c d := by
 have e : ∀ j, W'.cell? ⟨g, j, none⟩ = W.cell? ⟨g, j, none⟩ := fun j => World.cell?_of_block hh
 have f : ∀ j, W'.frozen? ⟨g, j, none⟩ = W.frozen? ⟨g, j, none⟩ := fun j => by unfold World.frozen?; rw [hh]
 exact ⟨(e _).trans h.k0, (e _).trans h.k1, (e _).trans h.k2, (e _).trans h.k3, (f _).trans h.f0, (f _).trans h.f1, (f _).trans h.f2, (f _).trans h.f3⟩
theorem Box4.below {W W' : World} {g B : Nat} {a b c d : Int} (h : Box4 W g a b c d) (hb : Below B W W') (hl : g < B) : Box4 W' g a b c d := h.far (hb.block g hl)
theorem Box4.drew {W : World} {g : Nat} {a b c d : Int} (h : Box4 W g a b c d) : Box4 W.drew g a b c d := ⟨h.k0, h.k1, h.k2, h.k3, h.f0, h.f1, h.f2, h.f3⟩
theorem Box4.new (w : World) (e : TypeId) (a b c d : Int) : Box4 (w.alloc (Obj.cells #[.int .i64 a, .int .i64 b, .int .i64 c, .int .i64 d] e)) w.heap.size a b c d :=
 ⟨cells_new w _ _ rfl, cells_new w _ _ rfl, cells_new w _ _ rfl, cells_new w _ _ rfl, by simp [go_sem], by simp [go_sem], by simp [go_sem], by simp [go_sem]⟩
theorem Box4.set01 {W : World} {g : Nat} {a b c d : Int} (h : Box4 W g a b c d) (x y : Int) : Box4 ((W.setCell ⟨g, 0, none⟩ (.int .i64 x)).setCell ⟨g, 1, none⟩ (.int .i64 y)) g x y c d := by
 have o : ∀ (i j : Nat) (V : World) (u : Value), i ≠ j → (V.setCell ⟨g, i, none⟩ u).cell? ⟨g, j, none⟩ = V.cell? ⟨g, j, none⟩ := fun i j V u hij => World.cell?_setCell_other V u (a := ⟨g, i, none⟩) (b := ⟨g, j, none⟩) (by intro h; cases h; exact hij rfl)
 refine ⟨?_, ?_, ?_, ?_, ?_, ?_, ?_, ?_⟩
 ·rw [o 1 0 _ _ (by decide)]; exact World.cell?_setCell_same' _ _ _ (by rw [h.k0]; rfl)
 ·exact World.cell?_setCell_same' _ _ _ (by rw [o 0 1 _ _ (by decide), h.k1]; rfl)
 ·rw [o 1 2 _ _ (by decide), o 0 2 _ _ (by decide)]; exact h.k2
 ·rw [o 1 3 _ _ (by decide), o 0 3 _ _ (by decide)]; exact h.k3
 all_goals rw [World.frozen?_setCell, World.frozen?_setCell]
 ·exact h.f0
 ·exact h.f1
 ·exact h.f2
 ·exact h.f3
theorem Box4.set23 {W : World} {g : Nat} {a b c d : Int} (h : Box4 W g a b c d) (x y : Int) : Box4 ((W.setCell ⟨g, 2, none⟩ (.int .i64 x)).setCell ⟨g, 3, none⟩ (.int .i64 y)) g a b x y := by
 have o : ∀ (i j : Nat) (V : World) (u : Value), i ≠ j → (V.setCell ⟨g, i, none⟩ u).cell? ⟨g, j, none⟩ = V.cell? ⟨g, j, none⟩ := fun i j V u hij => World.cell?_setCell_other V u (a := ⟨g, i, none⟩) (b := ⟨g, j, none⟩) (by intro h; cases h; exact hij rfl)
 refine ⟨?_, ?_, ?_, ?_, ?_, ?_, ?_, ?_⟩
 ·rw [o 3 0 _ _ (by decide), o 2 0 _ _ (by decide)]; exact h.k0
 ·rw [o 3 1 _ _ (by decide), o 2 1 _ _ (by decide)]; exact h.k1
 ·rw [o 3 2 _ _ (by decide)]; exact World.cell?_setCell_same' _ _ _ (by rw [h.k2]; rfl)
 ·exact World.cell?_setCell_same' _ _ _ (by rw [o 2 3 _ _ (by decide), h.k3]; rfl)
 all_goals rw [World.frozen?_setCell, World.frozen?_setCell]
 ·exact h.f0
 ·exact h.f1
 ·exact h.f2
 ·exact h.f3
theorem one_new (w : World) (k lo hh : Int) : OneC (w.alloc (Obj.cells #[.int .i64 k, .int .i64 lo, .int .i64 hh] 117)) w.heap.size 0 k lo hh :=
 ⟨cells_new w _ _ rfl, cells_new w _ _ rfl, cells_new w _ _ rfl, by rw [World.size_alloc]; omega⟩
/-- what stands while the courses of a proof are reckoned. -/
structure P1 (w0 w : World) (m : Mach) (L : List Value) (g gat gof gbl gpr k bl : Nat) (b : Int × Int × Int × Int) (W : World) : Prop where
 old : Below w0.heap.size w0 W
 st : SAt W g L
 ka : W.cell? ⟨gat, 0, none⟩ = some (.int .i64 k)
 o0 : W.cell? ⟨gof, 0, none⟩ = some (.int .i64 b.1)
 o1 : W.cell? ⟨gof, 1, none⟩ = some (.int .i64 b.2.1)
 o2 : W.cell? ⟨gof, 2, none⟩ = some (.int .i64 b.2.2.1)
 o3 : W.cell? ⟨gof, 3, none⟩ = some (.int .i64 b.2.2.2)
 kb : W.cell? ⟨gbl, 0, none⟩ = some (.int .i64 bl)
 l1 : g < W.heap.size
 l2 : gat < W.heap.size
 l3 : gof < W.heap.size
 l4 : gbl < W.heap.size
 l5 : gpr < W.heap.size
 n1 : gpr ≠ g
 n2 : gpr ≠ gat
 n3 : gpr ≠ gof
 n4 : gpr ≠ gbl
 n0 : w0.heap.size ≤ gpr
 hz : w.heap.size ≤ W.heap.size
 kept : ∀ j, j < w.heap.size → j ≠ gpr → W.heap[j]? = w.heap[j]?
theorem P1.below {w0 w : World} {m : Mach} {L : List Value} {g gat gof gbl gpr k bl : Nat} {b : Int × Int × Int × Int} {W W' : World} (h : P1 w0 w m L g gat gof gbl gpr k bl b W) (hb : Below W.heap.size W W') : P1 w0 w m L g gat gof gbl gpr k bl b W' :=
 ⟨h.old.trans (hb.mono h.old.size), h.st.below hb h.l1, (hb.cell (p := ⟨gat, 0, none⟩) h.l2).trans h.ka, (hb.cell (p := ⟨gof, 0, none⟩) h.l3).trans h.o0, (hb.cell (p := ⟨gof, 1, none⟩) h.l3).trans h.o1, (hb.cell (p := ⟨gof, 2, none⟩) h.l3).trans h.o2, (hb.cell (p := ⟨gof, 3, none⟩) h.l3).trans h.o3, (hb.cell (p := ⟨gbl, 0, none⟩) h.l4).trans h.kb, Nat.lt_of_lt_of_le h.l1 hb.size, Nat.lt_of_lt_of_le h.l2 hb.size, Nat.lt_of_lt_of_le h.l3 hb.size, Nat.lt_of_lt_of_le h.l4 hb.size, Nat.lt_of_lt_of_le h.l5 hb.size, h.n1, h.n2, h.n3, h.n4, h.n0, Nat.le_trans h.hz hb.size, fun j hj hne => (hb.block j (Nat.lt_of_lt_of_le hj h.hz)).trans (h.kept j hj hne)⟩
theorem P1.drew {w0 w : World} {m : Mach} {L : List Value} {g gat gof gbl gpr k bl : Nat} {b : Int × Int × Int × Int} {W : World} (h : P1 w0 w m L g gat gof gbl gpr k bl b W) : P1 w0 w m L g gat gof gbl gpr k bl b W.drew := h.below (Below.refl _ _).drew
theorem P1.alloc {w0 w : World} {m : Mach} {L : List Value} {g gat gof gbl gpr k bl : Nat} {b : Int × Int × Int × Int} {W : World} (h : P1 w0 w m L g gat gof gbl gpr k bl b W) (o : Obj) : P1 w0 w m L g gat gof gbl gpr k bl b (W.alloc o) := h.below ((Below.refl _ _).alloc (Nat.le_refl _) o)
theorem P1.put {w0 w : World} {m : Mach} {L : List Value} {g gat gof gbl gpr k bl : Nat} {b : Int × Int × Int × Int} {W : World} (h : P1 w0 w m L g gat gof gbl gpr k bl b W) (i j : Nat) (u v : Value) : P1 w0 w m L g gat gof gbl gpr k bl b ((W.setCell ⟨gpr, i, none⟩ u).setCell ⟨gpr, j, none⟩ v) := by
 have far : ∀ x, x ≠ gpr → ((W.setCell ⟨gpr, i, none⟩ u).setCell ⟨gpr, j, none⟩ v).heap[x]? = W.heap[x]? := fun x hx => (Below.heap_setCell _ ⟨gpr, j, none⟩ v x hx).trans (Below.heap_setCell W ⟨gpr, i, none⟩ u x hx)
 have c : ∀ x o, x ≠ gpr → ((W.setCell ⟨gpr, i, none⟩ u).setCell ⟨gpr, j, none⟩ v).cell? ⟨x, o, none⟩ = W.cell? ⟨x, o, none⟩ := fun x o hx => World.cell?_of_block (far x hx)
 have z : ((W.setCell ⟨gpr, i, none⟩ u).setCell ⟨gpr, j, none⟩ v).heap.size = W.heap.size := by rw [World.size_setCell, World.size_setCell]
 exact ⟨(h.old.setCell (p := ⟨gpr, i, none⟩) h.n0 u).setCell (p := ⟨gpr, j, none⟩) h.n0 v, h.st.far (far g (Ne.symm h.n1)), (c gat 0 (Ne.symm h.n2)).trans h.ka, (c gof 0 (Ne.symm h.n3)).trans h.o0, (c gof 1 (Ne.symm h.n3)).trans h.o1, (c gof 2 (Ne.symm h.n3)).trans h.o2, (c gof 3 (Ne.symm h.n3)).trans h.o3, (c gbl 0 (Ne.symm h.n4)).trans h.kb, by rw [z]; exact h.l1, by rw [z]; exact h.l2, by rw [z]; exact h.l3, by rw [z]; exact h.l4, by rw [z]; exact h.l5, h.n1, h.n2, h.n3, h.n4, h.n0, by rw [z]; exact h.hz, fun x hx hne => (far x hne).trans (h.kept x hx hne)⟩
set_option maxRecDepth 100000 in
theorem idxC0 (f : Nat → Int × Int) (w : World) : (Instr.index 90 (.agg (crsL f 13).toArray) (.int .i64 0)).run Tryz.prog w = .ok (.agg #[.int .i64 (f 0).1, .int .i64 (f 0).2]) w := by kernel_rfl
set_option maxRecDepth 100000 in
theorem idxC1 (f : Nat → Int × Int) (w : World) : (Instr.index 90 (.agg (crsL f 13).toArray) (.int .i64 1)).run Tryz.prog w = .ok (.agg #[.int .i64 (f 1).1, .int .i64 (f 1).2]) w := by kernel_rfl
set_option maxRecDepth 100000 in
theorem idxC2 (f : Nat → Int × Int) (w : World) : (Instr.index 90 (.agg (crsL f 13).toArray) (.int .i64 2)).run Tryz.prog w = .ok (.agg #[.int .i64 (f 2).1, .int .i64 (f 2).2]) w := by kernel_rfl
set_option maxRecDepth 100000 in
theorem idxC3 (f : Nat → Int × Int) (w : World) : (Instr.index 90 (.agg (crsL f 13).toArray) (.int .i64 3)).run Tryz.prog w = .ok (.agg #[.int .i64 (f 3).1, .int .i64 (f 3).2]) w := by kernel_rfl
set_option maxRecDepth 100000 in
theorem idxC4 (f : Nat → Int × Int) (w : World) : (Instr.index 90 (.agg (crsL f 13).toArray) (.int .i64 4)).run Tryz.prog w = .ok (.agg #[.int .i64 (f 4).1, .int .i64 (f 4).2]) w := by kernel_rfl
set_option maxRecDepth 100000 in
theorem idxC5 (f : Nat → Int × Int) (w : World) : (Instr.index 90 (.agg (crsL f 13).toArray) (.int .i64 5)).run Tryz.prog w = .ok (.agg #[.int .i64 (f 5).1, .int .i64 (f 5).2]) w := by kernel_rfl
set_option maxRecDepth 100000 in
theorem idxC6 (f : Nat → Int × Int) (w : World) : (Instr.index 90 (.agg (crsL f 13).toArray) (.int .i64 6)).run Tryz.prog w = .ok (.agg #[.int .i64 (f 6).1, .int .i64 (f 6).2]) w := by kernel_rfl
set_option maxRecDepth 100000 in
theorem idxC7 (f : Nat → Int × Int) (w : World) : (Instr.index 90 (.agg (crsL f 13).toArray) (.int .i64 7)).run Tryz.prog w = .ok (.agg #[.int .i64 (f 7).1, .int .i64 (f 7).2]) w := by kernel_rfl
set_option maxRecDepth 100000 in
theorem idxC8 (f : Nat → Int × Int) (w : World) : (Instr.index 90 (.agg (crsL f 13).toArray) (.int .i64 8)).run Tryz.prog w = .ok (.agg #[.int .i64 (f 8).1, .int .i64 (f 8).2]) w := by kernel_rfl
set_option maxRecDepth 100000 in
theorem idxC9 (f : Nat → Int × Int) (w : World) : (Instr.index 90 (.agg (crsL f 13).toArray) (.int .i64 9)).run Tryz.prog w = .ok (.agg #[.int .i64 (f 9).1, .int .i64 (f 9).2]) w := by kernel_rfl
set_option maxRecDepth 100000 in
theorem idxC10 (f : Nat → Int × Int) (w : World) : (Instr.index 90 (.agg (crsL f 13).toArray) (.int .i64 10)).run Tryz.prog w = .ok (.agg #[.int .i64 (f 10).1, .int .i64 (f 10).2]) w := by kernel_rfl
set_option maxRecDepth 100000 in
theorem idxC11 (f : Nat → Int × Int) (w : World) : (Instr.index 90 (.agg (crsL f 13).toArray) (.int .i64 11)).run Tryz.prog w = .ok (.agg #[.int .i64 (f 11).1, .int .i64 (f 11).2]) w := by kernel_rfl
set_option maxRecDepth 100000 in
theorem idxC12 (f : Nat → Int × Int) (w : World) : (Instr.index 90 (.agg (crsL f 13).toArray) (.int .i64 12)).run Tryz.prog w = .ok (.agg #[.int .i64 (f 12).1, .int .i64 (f 12).2]) w := by kernel_rfl
theorem idxC (f : Nat → Int × Int) (b : Nat) (hb : b ≤ 12) (w : World) : (Instr.index 90 (.agg (crsL f 13).toArray) (.int .i64 b)).run Tryz.prog w = .ok (.agg #[.int .i64 (f b).1, .int .i64 (f b).2]) w := by
 obtain rfl | rfl | rfl | rfl | rfl | rfl | rfl | rfl | rfl | rfl | rfl | rfl | rfl : b = 0 ∨ b = 1 ∨ b = 2 ∨ b = 3 ∨ b = 4 ∨ b = 5 ∨ b = 6 ∨ b = 7 ∨ b = 8 ∨ b = 9 ∨ b = 10 ∨ b = 11 ∨ b = 12 := by omega
 ·exact idxC0 f w
 ·exact idxC1 f w
 ·exact idxC2 f w
 ·exact idxC3 f w
 ·exact idxC4 f w
 ·exact idxC5 f w
 ·exact idxC6 f w
 ·exact idxC7 f w
 ·exact idxC8 f w
 ·exact idxC9 f w
 ·exact idxC10 f w
 ·exact idxC11 f w
 ·exact idxC12 f w
theorem plusCX (m : Mach) (k : Nat) (b : Int × Int × Int × Int) : PlusC m.rn m.axX.cl (k : Int) b.1 b.2.1 (wX m k b) := ⟨(plusX m k b).n, (plusX m k b).old, (plusX m k b).new⟩
theorem plusCY (m : Mach) (k : Nat) (b : Int × Int × Int × Int) : PlusC m.rn m.axY.cl (k : Int) b.2.2.1 b.2.2.2 (wY m k b) := ⟨(plusY m k b).n, (plusY m k b).old, (plusY m k b).new⟩
set_option maxRecDepth 100000 in
set_option maxHeartbeats 8000000 in
theorem proves1_can (m : Mach) (EX EY : Nat → Int × Int) (g gat gof gbl gpr k bl : Nat) (b : Int × Int × Int × Int) (p0 p1 q0 q1 : Int) (w0 w : World) (hok : m.ok = true) (h : MIn w0 m) (hk : k ≤ 12) (hbl : bl ≤ 12) (hbd : bdB b) (hP : P1 w0 w m (m.st (crsL EX 13) (crsL EY 13)) g gat gof gbl gpr k bl b w) (hBx : Box4 w gpr p0 p1 q0 q1) (hX : (wX m k b).can) (hY : (wY m k b).can) :
  Calls Tryz.prog 56 #[.pointer (some ⟨g, 0, none⟩), .pointer (some ⟨gat, 0, none⟩), .pointer (some ⟨gof, 0, none⟩), .pointer (some ⟨gbl, 0, none⟩), .pointer (some ⟨gpr, 0, none⟩)] w fun e w' => e = .returned (.tuple #[]) ∧ P1 w0 w m (m.st (crsL EX 13) (crsL EY 13)) g gat gof gbl gpr k bl b w' ∧ Box4 w' gpr ((wX m k b).ends bl).1 ((wX m k b).ends bl).2 ((wY m k b).ends bl).1 ((wY m k b).ends bl).2 := by
 have hx0 := idxF0
 have hx1 := idxF1
 have hlX := crsL_length EX 13
 have hlY := crsL_length EY 13
 have hL := m.st_length hlX hlY
 have hi0 : (Tryz.prog.info? 93).map (·.size) = some 62 := by kernel_rfl
 have hi : (Tryz.prog.info? 93).map (·.size) = some (m.st (crsL EX 13) (crsL EY 13)).length := by rw [hL]; exact hi0
 have hax := fun (W : World) => axes_any (m.st (crsL EX 13) (crsL EY 13)) hL W
 have halX := fun (W : World) (hB : Below w0.heap.size w0 W) => alongX_m m (crsL EX 13) (crsL EY 13) hlX hlY W hok (h.below hB)
 have halY := fun (W : World) (hB : Below w0.heap.size w0 W) => alongY_m m (crsL EX 13) (crsL EY 13) hlX hlY W hok (h.below hB)
 have hcX : ∀ (W : World) v (gm : Nat), CSp W v m.rn m.axX.cl → OneC W gm 0 k b.1 b.2.1 → Calls Tryz.prog 58 #[.agg #[.int .i64 m.axX.c0, .int .i64 m.axX.c1, .int .i64 m.axX.w0, .int .i64 m.axX.w1, v], .slice (some ⟨gm, 0, none⟩) 1 1] W fun e w' => e = .returned (.agg (crsL (wX m k b).ends 13).toArray) ∧ Below W.heap.size W w' := fun W v gm hv hm => by
  refine (course_plus (wX m k b) v m.rn m.axX.cl gm 0 k b.1 b.2.1 W (wX_fine hok hk hbd) hv hm (plusCX m k b)).mono ?_
  rintro e w' (⟨_, h⟩ | ⟨h, _⟩)
  ·exact h
  ·exact absurd hX h
 have hcY : ∀ (W : World) v (gm : Nat), CSp W v m.rn m.axY.cl → OneC W gm 0 k b.2.2.1 b.2.2.2 → Calls Tryz.prog 58 #[.agg #[.int .i64 m.axY.c0, .int .i64 m.axY.c1, .int .i64 m.axY.w0, .int .i64 m.axY.w1, v], .slice (some ⟨gm, 0, none⟩) 1 1] W fun e w' => e = .returned (.agg (crsL (wY m k b).ends 13).toArray) ∧ Below W.heap.size W w' := fun W v gm hv hm => by
  refine (course_plus (wY m k b) v m.rn m.axY.cl gm 0 k b.2.2.1 b.2.2.2 W (wY_fine hok hk hbd) hv hm (plusCY m k b)).mono ?_
  rintro e w' (⟨_, h⟩ | ⟨h, _⟩)
  ·exact h
  ·exact absurd hY h
 have hiX := fun W => idxC (wX m k b).ends bl hbl W
 have hiY := fun W => idxC (wY m k b).ends bl hbl W
 have hrg := hP.st.c
 clear hlX hlY hL hi0 hX hY hbd
 generalize crsL (wX m k b).ends 13 = LX at *
 generalize crsL (wY m k b).ends 13 = LY at *
 generalize (wX m k b).ends bl = CX at *
 generalize (wY m k b).ends bl = CY at *
 generalize m.st (crsL EX 13) (crsL EY 13) = L at *
 go_enter Tryz.func56, Tryz.ntmps56
 go_wp2_with (first
  | (refine wpList_load_mid rfl 93 _ rfl g 0 rfl L _ hrg Tryz.underlying93 rfl hi ?_)
  | (go_at_call 57; with_reducible refine (hax _).mono ?_; rintro e w1 ⟨rfl, hb1⟩))
 refine wp_loop_rounds 3 ?_
 rw [rounds_succ]
 have hl5 := hP.l5
 replace hP := hP.below hb1
 replace hBx := hBx.below hb1 hl5
 clear hrg
 go_wp2_with fail
 refine wp_region_late [13] (fun w9 => P1 w0 w m L g gat gof gbl gpr k bl b w9) (fun w9 => Box4 w9 gpr p0 p1 q0 q1) (by kernel_rfl) ?_ (fun hHeld => ?_)
 ·(exact ⟨hP.drew, hBx.drew⟩)
 generalize w1.drew = V0 at hHeld ⊢
 refine tk1 0 rfl hHeld ?_
 refine tk1 1 rfl hHeld ?_
 refine tk2 3 rfl (by (intro w9 hSw; have z0 := hSw.ka; clear hSw; go_simp) <;> with_reducible rfl) hHeld ?_
 refine tk1 4 rfl hHeld ?_
 refine tk1 5 rfl hHeld ?_
 refine tk2 6 rfl (by (intro w9 hSw; have z0 := hSw.o0; have z1 := hSw.o1; clear hSw; go_simp) <;> with_reducible rfl) hHeld ?_
 refine tk1 7 rfl hHeld ?_
 refine tk2 10 rfl (by (intro w9 hSw; have z0 := hSw.kb; clear hSw; go_simp) <;> with_reducible rfl) hHeld ?_
 refine wpAnyP_ready (rs := [2, 8]) (by kernel_rfl) (by simp) ?_
 refine AllReadyP.cons (o := _) rfl (fun K hK => ?_) (AllReadyP.cons (o := _) rfl (fun K hK => ?_) AllReadyP.nil)
 ·go_simp
  (go_at_call 95; with_reducible refine (halX _ hHeld.1.old).mono ?_; rintro e w2 ⟨v2, rfl, hv2, hb2⟩)
  refine hK.out _ _ ?_ (fun hHeld => ?_)
  ·(exact ⟨hHeld.1.below hb2, hHeld.2.below hb2 hHeld.1.l5⟩)
  clear hK K
  (try simp only [Act.put, pA, pZ, pS])
  refine rd1 8 rfl (fun K hK => ?_)
  go_simp
  have hn6 := one_new w2 (k : Int) b.1 b.2.1
  have hv3 := hv2.below ((Below.refl w2.heap.size w2).alloc (Nat.le_refl _) (Obj.cells #[.int .i64 k, .int .i64 b.1, .int .i64 b.2.1] 117))
  refine hK.out _ _ ?_ (fun hHeld => ?_)
  ·(exact ⟨hHeld.1.alloc _, hHeld.2.below ((Below.refl _ _).alloc (Nat.le_refl _) _) hHeld.1.l5⟩)
  clear hK K
  (try simp only [Act.put, pA, pZ, pS])
  refine rd1 9 rfl (fun K hK => ?_)
  go_simp
  (go_at_call 58; with_reducible refine (hcX _ _ _ hv3 hn6).mono ?_; rintro e w4 ⟨rfl, hb4⟩)
  refine hK.out _ _ ?_ (fun hHeld => ?_)
  ·(exact ⟨hHeld.1.below hb4, hHeld.2.below hb4 hHeld.1.l5⟩)
  clear hK K
  (try simp only [Act.put, pA, pZ, pS])
  refine tk2 11 rfl (by (intro w9 hSw; have z0 := hiX w9; clear hSw; go_simp) <;> with_reducible rfl) hHeld ?_
  refine tk1 12 rfl hHeld ?_
  refine wpAnyP_ready (rs := [13]) (by kernel_rfl) (by simp) ?_
  refine AllReadyP.behind (o := _) rfl (by kernel_rfl) (fun K hK => ?_) AllReadyP.nil
  ·have c0 := hHeld.2.k0
   have c1 := hHeld.2.k1
   have y0 := hHeld.2.f0
   have y1 := hHeld.2.f1
   go_simp
   clear c0 c1 y0 y1
   have hK1 := hHeld.1.put 0 1 (.int .i64 CX.1) (.int .i64 CX.2)
   have hB := hHeld.2.set01 CX.1 CX.2
   refine hK.out _ _ ?_ (fun hHeld => ?_)
   ·(exact hK1)
   clear hK K
   (try simp only [Act.put, pA, pZ, pS])
   refine wpAnyP_done (by kernel_rfl) ?_ _
   (try simp only [Act.put, List.getElem_toArray, List.getElem_cons_zero, List.getElem_cons_succ, pA, pZ, pS])
   have hP := hHeld
   clear hHeld hK1
   have hBx := hB
   clear hB
   generalize (w4.setCell ⟨gpr, 0, none⟩ (.int .i64 CX.1)).setCell ⟨gpr, 1, none⟩ (.int .i64 CX.2) = W4 at hBx hP ⊢
   go_wp2_with fail
   rw [rounds_succ]
   go_wp2_with fail
   refine wp_region_late [13] (fun w9 => P1 w0 w m L g gat gof gbl gpr k bl b w9) (fun w9 => Box4 w9 gpr CX.1 CX.2 q0 q1) (by kernel_rfl) ?_ (fun hHeld => ?_)
   ·(exact ⟨hP.drew, hBx.drew⟩)
   generalize W4.drew = V1 at hHeld ⊢
   refine tk1 0 rfl hHeld ?_
   refine tk1 1 rfl hHeld ?_
   refine tk2 3 rfl (by (intro w9 hSw; have z0 := hSw.ka; clear hSw; go_simp) <;> with_reducible rfl) hHeld ?_
   refine tk1 4 rfl hHeld ?_
   refine tk1 5 rfl hHeld ?_
   refine tk2 6 rfl (by (intro w9 hSw; have z0 := hSw.o2; have z1 := hSw.o3; clear hSw; go_simp) <;> with_reducible rfl) hHeld ?_
   refine tk1 7 rfl hHeld ?_
   refine tk2 10 rfl (by (intro w9 hSw; have z0 := hSw.kb; clear hSw; go_simp) <;> with_reducible rfl) hHeld ?_
   refine wpAnyP_ready (rs := [2, 8]) (by kernel_rfl) (by simp) ?_
   refine AllReadyP.cons (o := _) rfl (fun K hK => ?_) (AllReadyP.cons (o := _) rfl (fun K hK => ?_) AllReadyP.nil)
   ·go_simp
    (go_at_call 96; with_reducible refine (halY _ hHeld.1.old).mono ?_; rintro e w2 ⟨v2, rfl, hv2, hb2⟩)
    refine hK.out _ _ ?_ (fun hHeld => ?_)
    ·(exact ⟨hHeld.1.below hb2, hHeld.2.below hb2 hHeld.1.l5⟩)
    clear hK K
    (try simp only [Act.put, pA, pZ, pS])
    refine rd1 8 rfl (fun K hK => ?_)
    go_simp
    have hn6 := one_new w2 (k : Int) b.2.2.1 b.2.2.2
    have hv3 := hv2.below ((Below.refl w2.heap.size w2).alloc (Nat.le_refl _) (Obj.cells #[.int .i64 k, .int .i64 b.2.2.1, .int .i64 b.2.2.2] 117))
    refine hK.out _ _ ?_ (fun hHeld => ?_)
    ·(exact ⟨hHeld.1.alloc _, hHeld.2.below ((Below.refl _ _).alloc (Nat.le_refl _) _) hHeld.1.l5⟩)
    clear hK K
    (try simp only [Act.put, pA, pZ, pS])
    refine rd1 9 rfl (fun K hK => ?_)
    go_simp
    (go_at_call 58; with_reducible refine (hcY _ _ _ hv3 hn6).mono ?_; rintro e w4 ⟨rfl, hb4⟩)
    refine hK.out _ _ ?_ (fun hHeld => ?_)
    ·(exact ⟨hHeld.1.below hb4, hHeld.2.below hb4 hHeld.1.l5⟩)
    clear hK K
    (try simp only [Act.put, pA, pZ, pS])
    refine tk2 11 rfl (by (intro w9 hSw; have z0 := hiY w9; clear hSw; go_simp) <;> with_reducible rfl) hHeld ?_
    refine tk1 12 rfl hHeld ?_
    refine wpAnyP_ready (rs := [13]) (by kernel_rfl) (by simp) ?_
    refine AllReadyP.behind (o := _) rfl (by kernel_rfl) (fun K hK => ?_) AllReadyP.nil
    ·have c0 := hHeld.2.k2
     have c1 := hHeld.2.k3
     have y0 := hHeld.2.f2
     have y1 := hHeld.2.f3
     go_simp
     clear c0 c1 y0 y1
     have hK1 := hHeld.1.put 2 3 (.int .i64 CY.1) (.int .i64 CY.2)
     have hB := hHeld.2.set23 CY.1 CY.2
     refine hK.out _ _ ?_ (fun hHeld => ?_)
     ·(exact hK1)
     clear hK K
     (try simp only [Act.put, pA, pZ, pS])
     refine wpAnyP_done (by kernel_rfl) ?_ _
     (try simp only [Act.put, List.getElem_toArray, List.getElem_cons_zero, List.getElem_cons_succ, pA, pZ, pS])
     have hP := hHeld
     clear hHeld hK1
     have hBx := hB
     clear hB
     generalize (w4.setCell ⟨gpr, 2, none⟩ (.int .i64 CY.1)).setCell ⟨gpr, 3, none⟩ (.int .i64 CY.2) = W7 at hBx hP ⊢
     go_wp2_with fail
     rw [rounds_succ]
     go_wp2
     go_end0
     exact ⟨rfl, hP, hBx⟩
   ·go_simp
    have hn5 := one_new V1 (k : Int) b.2.2.1 b.2.2.2
    refine hK.out _ _ ?_ (fun hHeld => ?_)
    ·(exact ⟨hHeld.1.alloc _, hHeld.2.below ((Below.refl _ _).alloc (Nat.le_refl _) _) hHeld.1.l5⟩)
    clear hK K
    (try simp only [Act.put, pA, pZ, pS])
    refine rd1 2 rfl (fun K hK => ?_)
    go_simp
    (go_at_call 96; with_reducible refine (halY _ hHeld.1.old).mono ?_; rintro e w2 ⟨v2, rfl, hv2, hb2⟩)
    have hn6 := hn5.below hb2
    have hv3 := hv2
    refine hK.out _ _ ?_ (fun hHeld => ?_)
    ·(exact ⟨hHeld.1.below hb2, hHeld.2.below hb2 hHeld.1.l5⟩)
    clear hK K
    (try simp only [Act.put, pA, pZ, pS])
    refine rd1 9 rfl (fun K hK => ?_)
    go_simp
    (go_at_call 58; with_reducible refine (hcY _ _ _ hv3 hn6).mono ?_; rintro e w4 ⟨rfl, hb4⟩)
    refine hK.out _ _ ?_ (fun hHeld => ?_)
    ·(exact ⟨hHeld.1.below hb4, hHeld.2.below hb4 hHeld.1.l5⟩)
    clear hK K
    (try simp only [Act.put, pA, pZ, pS])
    refine tk2 11 rfl (by (intro w9 hSw; have z0 := hiY w9; clear hSw; go_simp) <;> with_reducible rfl) hHeld ?_
    refine tk1 12 rfl hHeld ?_
    refine wpAnyP_ready (rs := [13]) (by kernel_rfl) (by simp) ?_
    refine AllReadyP.behind (o := _) rfl (by kernel_rfl) (fun K hK => ?_) AllReadyP.nil
    ·have c0 := hHeld.2.k2
     have c1 := hHeld.2.k3
     have y0 := hHeld.2.f2
     have y1 := hHeld.2.f3
     go_simp
     clear c0 c1 y0 y1
     have hK1 := hHeld.1.put 2 3 (.int .i64 CY.1) (.int .i64 CY.2)
     have hB := hHeld.2.set23 CY.1 CY.2
     refine hK.out _ _ ?_ (fun hHeld => ?_)
     ·(exact hK1)
     clear hK K
     (try simp only [Act.put, pA, pZ, pS])
     refine wpAnyP_done (by kernel_rfl) ?_ _
     (try simp only [Act.put, List.getElem_toArray, List.getElem_cons_zero, List.getElem_cons_succ, pA, pZ, pS])
     have hP := hHeld
     clear hHeld hK1
     have hBx := hB
     clear hB
     generalize (w4.setCell ⟨gpr, 2, none⟩ (.int .i64 CY.1)).setCell ⟨gpr, 3, none⟩ (.int .i64 CY.2) = W7 at hBx hP ⊢
     go_wp2_with fail
     rw [rounds_succ]
     go_wp2
     go_end0
     exact ⟨rfl, hP, hBx⟩
 ·go_simp
  have hn5 := one_new V0 (k : Int) b.1 b.2.1
  refine hK.out _ _ ?_ (fun hHeld => ?_)
  ·(exact ⟨hHeld.1.alloc _, hHeld.2.below ((Below.refl _ _).alloc (Nat.le_refl _) _) hHeld.1.l5⟩)
  clear hK K
  (try simp only [Act.put, pA, pZ, pS])
  refine rd1 2 rfl (fun K hK => ?_)
  go_simp
  (go_at_call 95; with_reducible refine (halX _ hHeld.1.old).mono ?_; rintro e w2 ⟨v2, rfl, hv2, hb2⟩)
  have hn6 := hn5.below hb2
  have hv3 := hv2
  refine hK.out _ _ ?_ (fun hHeld => ?_)
  ·(exact ⟨hHeld.1.below hb2, hHeld.2.below hb2 hHeld.1.l5⟩)
  clear hK K
  (try simp only [Act.put, pA, pZ, pS])
  refine rd1 9 rfl (fun K hK => ?_)
  go_simp
  (go_at_call 58; with_reducible refine (hcX _ _ _ hv3 hn6).mono ?_; rintro e w4 ⟨rfl, hb4⟩)
  refine hK.out _ _ ?_ (fun hHeld => ?_)
  ·(exact ⟨hHeld.1.below hb4, hHeld.2.below hb4 hHeld.1.l5⟩)
  clear hK K
  (try simp only [Act.put, pA, pZ, pS])
  refine tk2 11 rfl (by (intro w9 hSw; have z0 := hiX w9; clear hSw; go_simp) <;> with_reducible rfl) hHeld ?_
  refine tk1 12 rfl hHeld ?_
  refine wpAnyP_ready (rs := [13]) (by kernel_rfl) (by simp) ?_
  refine AllReadyP.behind (o := _) rfl (by kernel_rfl) (fun K hK => ?_) AllReadyP.nil
  ·have c0 := hHeld.2.k0
   have c1 := hHeld.2.k1
   have y0 := hHeld.2.f0
   have y1 := hHeld.2.f1
   go_simp
   clear c0 c1 y0 y1
   have hK1 := hHeld.1.put 0 1 (.int .i64 CX.1) (.int .i64 CX.2)
   have hB := hHeld.2.set01 CX.1 CX.2
   refine hK.out _ _ ?_ (fun hHeld => ?_)
   ·(exact hK1)
   clear hK K
   (try simp only [Act.put, pA, pZ, pS])
   refine wpAnyP_done (by kernel_rfl) ?_ _
   (try simp only [Act.put, List.getElem_toArray, List.getElem_cons_zero, List.getElem_cons_succ, pA, pZ, pS])
   have hP := hHeld
   clear hHeld hK1
   have hBx := hB
   clear hB
   generalize (w4.setCell ⟨gpr, 0, none⟩ (.int .i64 CX.1)).setCell ⟨gpr, 1, none⟩ (.int .i64 CX.2) = W4 at hBx hP ⊢
   go_wp2_with fail
   rw [rounds_succ]
   go_wp2_with fail
   refine wp_region_late [13] (fun w9 => P1 w0 w m L g gat gof gbl gpr k bl b w9) (fun w9 => Box4 w9 gpr CX.1 CX.2 q0 q1) (by kernel_rfl) ?_ (fun hHeld => ?_)
   ·(exact ⟨hP.drew, hBx.drew⟩)
   generalize W4.drew = V1 at hHeld ⊢
   refine tk1 0 rfl hHeld ?_
   refine tk1 1 rfl hHeld ?_
   refine tk2 3 rfl (by (intro w9 hSw; have z0 := hSw.ka; clear hSw; go_simp) <;> with_reducible rfl) hHeld ?_
   refine tk1 4 rfl hHeld ?_
   refine tk1 5 rfl hHeld ?_
   refine tk2 6 rfl (by (intro w9 hSw; have z0 := hSw.o2; have z1 := hSw.o3; clear hSw; go_simp) <;> with_reducible rfl) hHeld ?_
   refine tk1 7 rfl hHeld ?_
   refine tk2 10 rfl (by (intro w9 hSw; have z0 := hSw.kb; clear hSw; go_simp) <;> with_reducible rfl) hHeld ?_
   refine wpAnyP_ready (rs := [2, 8]) (by kernel_rfl) (by simp) ?_
   refine AllReadyP.cons (o := _) rfl (fun K hK => ?_) (AllReadyP.cons (o := _) rfl (fun K hK => ?_) AllReadyP.nil)
   ·go_simp
    (go_at_call 96; with_reducible refine (halY _ hHeld.1.old).mono ?_; rintro e w2 ⟨v2, rfl, hv2, hb2⟩)
    refine hK.out _ _ ?_ (fun hHeld => ?_)
    ·(exact ⟨hHeld.1.below hb2, hHeld.2.below hb2 hHeld.1.l5⟩)
    clear hK K
    (try simp only [Act.put, pA, pZ, pS])
    refine rd1 8 rfl (fun K hK => ?_)
    go_simp
    have hn6 := one_new w2 (k : Int) b.2.2.1 b.2.2.2
    have hv3 := hv2.below ((Below.refl w2.heap.size w2).alloc (Nat.le_refl _) (Obj.cells #[.int .i64 k, .int .i64 b.2.2.1, .int .i64 b.2.2.2] 117))
    refine hK.out _ _ ?_ (fun hHeld => ?_)
    ·(exact ⟨hHeld.1.alloc _, hHeld.2.below ((Below.refl _ _).alloc (Nat.le_refl _) _) hHeld.1.l5⟩)
    clear hK K
    (try simp only [Act.put, pA, pZ, pS])
    refine rd1 9 rfl (fun K hK => ?_)
    go_simp
    (go_at_call 58; with_reducible refine (hcY _ _ _ hv3 hn6).mono ?_; rintro e w4 ⟨rfl, hb4⟩)
    refine hK.out _ _ ?_ (fun hHeld => ?_)
    ·(exact ⟨hHeld.1.below hb4, hHeld.2.below hb4 hHeld.1.l5⟩)
    clear hK K
    (try simp only [Act.put, pA, pZ, pS])
    refine tk2 11 rfl (by (intro w9 hSw; have z0 := hiY w9; clear hSw; go_simp) <;> with_reducible rfl) hHeld ?_
    refine tk1 12 rfl hHeld ?_
    refine wpAnyP_ready (rs := [13]) (by kernel_rfl) (by simp) ?_
    refine AllReadyP.behind (o := _) rfl (by kernel_rfl) (fun K hK => ?_) AllReadyP.nil
    ·have c0 := hHeld.2.k2
     have c1 := hHeld.2.k3
     have y0 := hHeld.2.f2
     have y1 := hHeld.2.f3
     go_simp
     clear c0 c1 y0 y1
     have hK1 := hHeld.1.put 2 3 (.int .i64 CY.1) (.int .i64 CY.2)
     have hB := hHeld.2.set23 CY.1 CY.2
     refine hK.out _ _ ?_ (fun hHeld => ?_)
     ·(exact hK1)
     clear hK K
     (try simp only [Act.put, pA, pZ, pS])
     refine wpAnyP_done (by kernel_rfl) ?_ _
     (try simp only [Act.put, List.getElem_toArray, List.getElem_cons_zero, List.getElem_cons_succ, pA, pZ, pS])
     have hP := hHeld
     clear hHeld hK1
     have hBx := hB
     clear hB
     generalize (w4.setCell ⟨gpr, 2, none⟩ (.int .i64 CY.1)).setCell ⟨gpr, 3, none⟩ (.int .i64 CY.2) = W7 at hBx hP ⊢
     go_wp2_with fail
     rw [rounds_succ]
     go_wp2
     go_end0
     exact ⟨rfl, hP, hBx⟩
   ·go_simp
    have hn5 := one_new V1 (k : Int) b.2.2.1 b.2.2.2
    refine hK.out _ _ ?_ (fun hHeld => ?_)
    ·(exact ⟨hHeld.1.alloc _, hHeld.2.below ((Below.refl _ _).alloc (Nat.le_refl _) _) hHeld.1.l5⟩)
    clear hK K
    (try simp only [Act.put, pA, pZ, pS])
    refine rd1 2 rfl (fun K hK => ?_)
    go_simp
    (go_at_call 96; with_reducible refine (halY _ hHeld.1.old).mono ?_; rintro e w2 ⟨v2, rfl, hv2, hb2⟩)
    have hn6 := hn5.below hb2
    have hv3 := hv2
    refine hK.out _ _ ?_ (fun hHeld => ?_)
    ·(exact ⟨hHeld.1.below hb2, hHeld.2.below hb2 hHeld.1.l5⟩)
    clear hK K
    (try simp only [Act.put, pA, pZ, pS])
    refine rd1 9 rfl (fun K hK => ?_)
    go_simp
    (go_at_call 58; with_reducible refine (hcY _ _ _ hv3 hn6).mono ?_; rintro e w4 ⟨rfl, hb4⟩)
    refine hK.out _ _ ?_ (fun hHeld => ?_)
    ·(exact ⟨hHeld.1.below hb4, hHeld.2.below hb4 hHeld.1.l5⟩)
    clear hK K
    (try simp only [Act.put, pA, pZ, pS])
    refine tk2 11 rfl (by (intro w9 hSw; have z0 := hiY w9; clear hSw; go_simp) <;> with_reducible rfl) hHeld ?_
    refine tk1 12 rfl hHeld ?_
    refine wpAnyP_ready (rs := [13]) (by kernel_rfl) (by simp) ?_
    refine AllReadyP.behind (o := _) rfl (by kernel_rfl) (fun K hK => ?_) AllReadyP.nil
    ·have c0 := hHeld.2.k2
     have c1 := hHeld.2.k3
     have y0 := hHeld.2.f2
     have y1 := hHeld.2.f3
     go_simp
     clear c0 c1 y0 y1
     have hK1 := hHeld.1.put 2 3 (.int .i64 CY.1) (.int .i64 CY.2)
     have hB := hHeld.2.set23 CY.1 CY.2
     refine hK.out _ _ ?_ (fun hHeld => ?_)
     ·(exact hK1)
     clear hK K
     (try simp only [Act.put, pA, pZ, pS])
     refine wpAnyP_done (by kernel_rfl) ?_ _
     (try simp only [Act.put, List.getElem_toArray, List.getElem_cons_zero, List.getElem_cons_succ, pA, pZ, pS])
     have hP := hHeld
     clear hHeld hK1
     have hBx := hB
     clear hB
     generalize (w4.setCell ⟨gpr, 2, none⟩ (.int .i64 CY.1)).setCell ⟨gpr, 3, none⟩ (.int .i64 CY.2) = W7 at hBx hP ⊢
     go_wp2_with fail
     rw [rounds_succ]
     go_wp2
     go_end0
     exact ⟨rfl, hP, hBx⟩
set_option maxRecDepth 100000 in
set_option maxHeartbeats 8000000 in
theorem proves1_noX (m : Mach) (EX EY : Nat → Int × Int) (g gat gof gbl gpr k bl : Nat) (b : Int × Int × Int × Int) (p0 p1 q0 q1 : Int) (w0 w : World) (hok : m.ok = true) (h : MIn w0 m) (hk : k ≤ 12) (hbl : bl ≤ 12) (hbd : bdB b) (hP : P1 w0 w m (m.st (crsL EX 13) (crsL EY 13)) g gat gof gbl gpr k bl b w) (hBx : Box4 w gpr p0 p1 q0 q1) (hX : ¬ (wX m k b).can) :
  Calls Tryz.prog 56 #[.pointer (some ⟨g, 0, none⟩), .pointer (some ⟨gat, 0, none⟩), .pointer (some ⟨gof, 0, none⟩), .pointer (some ⟨gbl, 0, none⟩), .pointer (some ⟨gpr, 0, none⟩)] w fun e w' => e = .panicked [{ v := .iface 225 (.agg #[]), recovered := false }] ∧ P1 w0 w m (m.st (crsL EX 13) (crsL EY 13)) g gat gof gbl gpr k bl b w' := by
 have hx0 := idxF0
 have hx1 := idxF1
 have hlX := crsL_length EX 13
 have hlY := crsL_length EY 13
 have hL := m.st_length hlX hlY
 have hi0 : (Tryz.prog.info? 93).map (·.size) = some 62 := by kernel_rfl
 have hi : (Tryz.prog.info? 93).map (·.size) = some (m.st (crsL EX 13) (crsL EY 13)).length := by rw [hL]; exact hi0
 have hax := fun (W : World) => axes_any (m.st (crsL EX 13) (crsL EY 13)) hL W
 have halX := fun (W : World) (hB : Below w0.heap.size w0 W) => alongX_m m (crsL EX 13) (crsL EY 13) hlX hlY W hok (h.below hB)
 have halY := fun (W : World) (hB : Below w0.heap.size w0 W) => alongY_m m (crsL EX 13) (crsL EY 13) hlX hlY W hok (h.below hB)
 have hcX : ∀ (W : World) v (gm : Nat), CSp W v m.rn m.axX.cl → OneC W gm 0 k b.1 b.2.1 → Calls Tryz.prog 58 #[.agg #[.int .i64 m.axX.c0, .int .i64 m.axX.c1, .int .i64 m.axX.w0, .int .i64 m.axX.w1, v], .slice (some ⟨gm, 0, none⟩) 1 1] W fun e w' => e = .panicked [{ v := .iface 225 (.agg #[]), recovered := false }] ∧ Below W.heap.size W w' := fun W v gm hv hm => by
  refine (course_plus (wX m k b) v m.rn m.axX.cl gm 0 k b.1 b.2.1 W (wX_fine hok hk hbd) hv hm (plusCX m k b)).mono ?_
  rintro e w' (⟨h, _⟩ | ⟨_, h⟩)
  ·exact absurd h hX
  ·exact h
 have hiX := fun W => idxC (wX m k b).ends bl hbl W
 have hiY := fun W => idxC (wY m k b).ends bl hbl W
 have hrg := hP.st.c
 clear hlX hlY hL hi0 hX hbd
 generalize crsL (wX m k b).ends 13 = LX at *
 generalize crsL (wY m k b).ends 13 = LY at *
 generalize (wX m k b).ends bl = CX at *
 generalize (wY m k b).ends bl = CY at *
 generalize m.st (crsL EX 13) (crsL EY 13) = L at *
 go_enter Tryz.func56, Tryz.ntmps56
 go_wp2_with (first
  | (refine wpList_load_mid rfl 93 _ rfl g 0 rfl L _ hrg Tryz.underlying93 rfl hi ?_)
  | (go_at_call 57; with_reducible refine (hax _).mono ?_; rintro e w1 ⟨rfl, hb1⟩))
 refine wp_loop_rounds 3 ?_
 rw [rounds_succ]
 have hl5 := hP.l5
 replace hP := hP.below hb1
 replace hBx := hBx.below hb1 hl5
 clear hrg
 go_wp2_with fail
 refine wp_region_late [13] (fun w9 => P1 w0 w m L g gat gof gbl gpr k bl b w9) (fun w9 => Box4 w9 gpr p0 p1 q0 q1) (by kernel_rfl) ?_ (fun hHeld => ?_)
 ·(exact ⟨hP.drew, hBx.drew⟩)
 generalize w1.drew = V0 at hHeld ⊢
 refine tk1 0 rfl hHeld ?_
 refine tk1 1 rfl hHeld ?_
 refine tk2 3 rfl (by (intro w9 hSw; have z0 := hSw.ka; clear hSw; go_simp) <;> with_reducible rfl) hHeld ?_
 refine tk1 4 rfl hHeld ?_
 refine tk1 5 rfl hHeld ?_
 refine tk2 6 rfl (by (intro w9 hSw; have z0 := hSw.o0; have z1 := hSw.o1; clear hSw; go_simp) <;> with_reducible rfl) hHeld ?_
 refine tk1 7 rfl hHeld ?_
 refine tk2 10 rfl (by (intro w9 hSw; have z0 := hSw.kb; clear hSw; go_simp) <;> with_reducible rfl) hHeld ?_
 refine wpAnyP_ready (rs := [2, 8]) (by kernel_rfl) (by simp) ?_
 refine AllReadyP.cons (o := _) rfl (fun K hK => ?_) (AllReadyP.cons (o := _) rfl (fun K hK => ?_) AllReadyP.nil)
 ·go_simp
  (go_at_call 95; with_reducible refine (halX _ hHeld.1.old).mono ?_; rintro e w2 ⟨v2, rfl, hv2, hb2⟩)
  refine hK.out _ _ ?_ (fun hHeld => ?_)
  ·(exact ⟨hHeld.1.below hb2, hHeld.2.below hb2 hHeld.1.l5⟩)
  clear hK K
  (try simp only [Act.put, pA, pZ, pS])
  refine rd1 8 rfl (fun K hK => ?_)
  go_simp
  have hn6 := one_new w2 (k : Int) b.1 b.2.1
  have hv3 := hv2.below ((Below.refl w2.heap.size w2).alloc (Nat.le_refl _) (Obj.cells #[.int .i64 k, .int .i64 b.1, .int .i64 b.2.1] 117))
  refine hK.out _ _ ?_ (fun hHeld => ?_)
  ·(exact ⟨hHeld.1.alloc _, hHeld.2.below ((Below.refl _ _).alloc (Nat.le_refl _) _) hHeld.1.l5⟩)
  clear hK K
  (try simp only [Act.put, pA, pZ, pS])
  refine rd1 9 rfl (fun K hK => ?_)
  go_simp
  (go_at_call 58; with_reducible refine (hcX _ _ _ hv3 hn6).mono ?_; rintro e w4 ⟨rfl, hb4⟩)
  exact ⟨rfl, rfl, hHeld.1.below hb4⟩
 ·go_simp
  have hn5 := one_new V0 (k : Int) b.1 b.2.1
  refine hK.out _ _ ?_ (fun hHeld => ?_)
  ·(exact ⟨hHeld.1.alloc _, hHeld.2.below ((Below.refl _ _).alloc (Nat.le_refl _) _) hHeld.1.l5⟩)
  clear hK K
  (try simp only [Act.put, pA, pZ, pS])
  refine rd1 2 rfl (fun K hK => ?_)
  go_simp
  (go_at_call 95; with_reducible refine (halX _ hHeld.1.old).mono ?_; rintro e w2 ⟨v2, rfl, hv2, hb2⟩)
  have hn6 := hn5.below hb2
  have hv3 := hv2
  refine hK.out _ _ ?_ (fun hHeld => ?_)
  ·(exact ⟨hHeld.1.below hb2, hHeld.2.below hb2 hHeld.1.l5⟩)
  clear hK K
  (try simp only [Act.put, pA, pZ, pS])
  refine rd1 9 rfl (fun K hK => ?_)
  go_simp
  (go_at_call 58; with_reducible refine (hcX _ _ _ hv3 hn6).mono ?_; rintro e w4 ⟨rfl, hb4⟩)
  exact ⟨rfl, rfl, hHeld.1.below hb4⟩
set_option maxRecDepth 100000 in
set_option maxHeartbeats 8000000 in
theorem proves1_noY (m : Mach) (EX EY : Nat → Int × Int) (g gat gof gbl gpr k bl : Nat) (b : Int × Int × Int × Int) (p0 p1 q0 q1 : Int) (w0 w : World) (hok : m.ok = true) (h : MIn w0 m) (hk : k ≤ 12) (hbl : bl ≤ 12) (hbd : bdB b) (hP : P1 w0 w m (m.st (crsL EX 13) (crsL EY 13)) g gat gof gbl gpr k bl b w) (hBx : Box4 w gpr p0 p1 q0 q1) (hX : (wX m k b).can) (hY : ¬ (wY m k b).can) :
  Calls Tryz.prog 56 #[.pointer (some ⟨g, 0, none⟩), .pointer (some ⟨gat, 0, none⟩), .pointer (some ⟨gof, 0, none⟩), .pointer (some ⟨gbl, 0, none⟩), .pointer (some ⟨gpr, 0, none⟩)] w fun e w' => e = .panicked [{ v := .iface 225 (.agg #[]), recovered := false }] ∧ P1 w0 w m (m.st (crsL EX 13) (crsL EY 13)) g gat gof gbl gpr k bl b w' := by
 have hx0 := idxF0
 have hx1 := idxF1
 have hlX := crsL_length EX 13
 have hlY := crsL_length EY 13
 have hL := m.st_length hlX hlY
 have hi0 : (Tryz.prog.info? 93).map (·.size) = some 62 := by kernel_rfl
 have hi : (Tryz.prog.info? 93).map (·.size) = some (m.st (crsL EX 13) (crsL EY 13)).length := by rw [hL]; exact hi0
 have hax := fun (W : World) => axes_any (m.st (crsL EX 13) (crsL EY 13)) hL W
 have halX := fun (W : World) (hB : Below w0.heap.size w0 W) => alongX_m m (crsL EX 13) (crsL EY 13) hlX hlY W hok (h.below hB)
 have halY := fun (W : World) (hB : Below w0.heap.size w0 W) => alongY_m m (crsL EX 13) (crsL EY 13) hlX hlY W hok (h.below hB)
 have hcX : ∀ (W : World) v (gm : Nat), CSp W v m.rn m.axX.cl → OneC W gm 0 k b.1 b.2.1 → Calls Tryz.prog 58 #[.agg #[.int .i64 m.axX.c0, .int .i64 m.axX.c1, .int .i64 m.axX.w0, .int .i64 m.axX.w1, v], .slice (some ⟨gm, 0, none⟩) 1 1] W fun e w' => e = .returned (.agg (crsL (wX m k b).ends 13).toArray) ∧ Below W.heap.size W w' := fun W v gm hv hm => by
  refine (course_plus (wX m k b) v m.rn m.axX.cl gm 0 k b.1 b.2.1 W (wX_fine hok hk hbd) hv hm (plusCX m k b)).mono ?_
  rintro e w' (⟨_, h⟩ | ⟨h, _⟩)
  ·exact h
  ·exact absurd hX h
 have hcY : ∀ (W : World) v (gm : Nat), CSp W v m.rn m.axY.cl → OneC W gm 0 k b.2.2.1 b.2.2.2 → Calls Tryz.prog 58 #[.agg #[.int .i64 m.axY.c0, .int .i64 m.axY.c1, .int .i64 m.axY.w0, .int .i64 m.axY.w1, v], .slice (some ⟨gm, 0, none⟩) 1 1] W fun e w' => e = .panicked [{ v := .iface 225 (.agg #[]), recovered := false }] ∧ Below W.heap.size W w' := fun W v gm hv hm => by
  refine (course_plus (wY m k b) v m.rn m.axY.cl gm 0 k b.2.2.1 b.2.2.2 W (wY_fine hok hk hbd) hv hm (plusCY m k b)).mono ?_
  rintro e w' (⟨h, _⟩ | ⟨_, h⟩)
  ·exact absurd h hY
  ·exact h
 have hiX := fun W => idxC (wX m k b).ends bl hbl W
 have hiY := fun W => idxC (wY m k b).ends bl hbl W
 have hrg := hP.st.c
 clear hlX hlY hL hi0 hX hY hbd
 generalize crsL (wX m k b).ends 13 = LX at *
 generalize crsL (wY m k b).ends 13 = LY at *
 generalize (wX m k b).ends bl = CX at *
 generalize (wY m k b).ends bl = CY at *
 generalize m.st (crsL EX 13) (crsL EY 13) = L at *
 go_enter Tryz.func56, Tryz.ntmps56
 go_wp2_with (first
  | (refine wpList_load_mid rfl 93 _ rfl g 0 rfl L _ hrg Tryz.underlying93 rfl hi ?_)
  | (go_at_call 57; with_reducible refine (hax _).mono ?_; rintro e w1 ⟨rfl, hb1⟩))
 refine wp_loop_rounds 3 ?_
 rw [rounds_succ]
 have hl5 := hP.l5
 replace hP := hP.below hb1
 replace hBx := hBx.below hb1 hl5
 clear hrg
 go_wp2_with fail
 refine wp_region_late [13] (fun w9 => P1 w0 w m L g gat gof gbl gpr k bl b w9) (fun w9 => Box4 w9 gpr p0 p1 q0 q1) (by kernel_rfl) ?_ (fun hHeld => ?_)
 ·(exact ⟨hP.drew, hBx.drew⟩)
 generalize w1.drew = V0 at hHeld ⊢
 refine tk1 0 rfl hHeld ?_
 refine tk1 1 rfl hHeld ?_
 refine tk2 3 rfl (by (intro w9 hSw; have z0 := hSw.ka; clear hSw; go_simp) <;> with_reducible rfl) hHeld ?_
 refine tk1 4 rfl hHeld ?_
 refine tk1 5 rfl hHeld ?_
 refine tk2 6 rfl (by (intro w9 hSw; have z0 := hSw.o0; have z1 := hSw.o1; clear hSw; go_simp) <;> with_reducible rfl) hHeld ?_
 refine tk1 7 rfl hHeld ?_
 refine tk2 10 rfl (by (intro w9 hSw; have z0 := hSw.kb; clear hSw; go_simp) <;> with_reducible rfl) hHeld ?_
 refine wpAnyP_ready (rs := [2, 8]) (by kernel_rfl) (by simp) ?_
 refine AllReadyP.cons (o := _) rfl (fun K hK => ?_) (AllReadyP.cons (o := _) rfl (fun K hK => ?_) AllReadyP.nil)
 ·go_simp
  (go_at_call 95; with_reducible refine (halX _ hHeld.1.old).mono ?_; rintro e w2 ⟨v2, rfl, hv2, hb2⟩)
  refine hK.out _ _ ?_ (fun hHeld => ?_)
  ·(exact ⟨hHeld.1.below hb2, hHeld.2.below hb2 hHeld.1.l5⟩)
  clear hK K
  (try simp only [Act.put, pA, pZ, pS])
  refine rd1 8 rfl (fun K hK => ?_)
  go_simp
  have hn6 := one_new w2 (k : Int) b.1 b.2.1
  have hv3 := hv2.below ((Below.refl w2.heap.size w2).alloc (Nat.le_refl _) (Obj.cells #[.int .i64 k, .int .i64 b.1, .int .i64 b.2.1] 117))
  refine hK.out _ _ ?_ (fun hHeld => ?_)
  ·(exact ⟨hHeld.1.alloc _, hHeld.2.below ((Below.refl _ _).alloc (Nat.le_refl _) _) hHeld.1.l5⟩)
  clear hK K
  (try simp only [Act.put, pA, pZ, pS])
  refine rd1 9 rfl (fun K hK => ?_)
  go_simp
  (go_at_call 58; with_reducible refine (hcX _ _ _ hv3 hn6).mono ?_; rintro e w4 ⟨rfl, hb4⟩)
  refine hK.out _ _ ?_ (fun hHeld => ?_)
  ·(exact ⟨hHeld.1.below hb4, hHeld.2.below hb4 hHeld.1.l5⟩)
  clear hK K
  (try simp only [Act.put, pA, pZ, pS])
  refine tk2 11 rfl (by (intro w9 hSw; have z0 := hiX w9; clear hSw; go_simp) <;> with_reducible rfl) hHeld ?_
  refine tk1 12 rfl hHeld ?_
  refine wpAnyP_ready (rs := [13]) (by kernel_rfl) (by simp) ?_
  refine AllReadyP.behind (o := _) rfl (by kernel_rfl) (fun K hK => ?_) AllReadyP.nil
  ·have c0 := hHeld.2.k0
   have c1 := hHeld.2.k1
   have y0 := hHeld.2.f0
   have y1 := hHeld.2.f1
   go_simp
   clear c0 c1 y0 y1
   have hK1 := hHeld.1.put 0 1 (.int .i64 CX.1) (.int .i64 CX.2)
   have hB := hHeld.2.set01 CX.1 CX.2
   refine hK.out _ _ ?_ (fun hHeld => ?_)
   ·(exact hK1)
   clear hK K
   (try simp only [Act.put, pA, pZ, pS])
   refine wpAnyP_done (by kernel_rfl) ?_ _
   (try simp only [Act.put, List.getElem_toArray, List.getElem_cons_zero, List.getElem_cons_succ, pA, pZ, pS])
   have hP := hHeld
   clear hHeld hK1
   have hBx := hB
   clear hB
   generalize (w4.setCell ⟨gpr, 0, none⟩ (.int .i64 CX.1)).setCell ⟨gpr, 1, none⟩ (.int .i64 CX.2) = W4 at hBx hP ⊢
   go_wp2_with fail
   rw [rounds_succ]
   go_wp2_with fail
   refine wp_region_late [13] (fun w9 => P1 w0 w m L g gat gof gbl gpr k bl b w9) (fun w9 => Box4 w9 gpr CX.1 CX.2 q0 q1) (by kernel_rfl) ?_ (fun hHeld => ?_)
   ·(exact ⟨hP.drew, hBx.drew⟩)
   generalize W4.drew = V1 at hHeld ⊢
   refine tk1 0 rfl hHeld ?_
   refine tk1 1 rfl hHeld ?_
   refine tk2 3 rfl (by (intro w9 hSw; have z0 := hSw.ka; clear hSw; go_simp) <;> with_reducible rfl) hHeld ?_
   refine tk1 4 rfl hHeld ?_
   refine tk1 5 rfl hHeld ?_
   refine tk2 6 rfl (by (intro w9 hSw; have z0 := hSw.o2; have z1 := hSw.o3; clear hSw; go_simp) <;> with_reducible rfl) hHeld ?_
   refine tk1 7 rfl hHeld ?_
   refine tk2 10 rfl (by (intro w9 hSw; have z0 := hSw.kb; clear hSw; go_simp) <;> with_reducible rfl) hHeld ?_
   refine wpAnyP_ready (rs := [2, 8]) (by kernel_rfl) (by simp) ?_
   refine AllReadyP.cons (o := _) rfl (fun K hK => ?_) (AllReadyP.cons (o := _) rfl (fun K hK => ?_) AllReadyP.nil)
   ·go_simp
    (go_at_call 96; with_reducible refine (halY _ hHeld.1.old).mono ?_; rintro e w2 ⟨v2, rfl, hv2, hb2⟩)
    refine hK.out _ _ ?_ (fun hHeld => ?_)
    ·(exact ⟨hHeld.1.below hb2, hHeld.2.below hb2 hHeld.1.l5⟩)
    clear hK K
    (try simp only [Act.put, pA, pZ, pS])
    refine rd1 8 rfl (fun K hK => ?_)
    go_simp
    have hn6 := one_new w2 (k : Int) b.2.2.1 b.2.2.2
    have hv3 := hv2.below ((Below.refl w2.heap.size w2).alloc (Nat.le_refl _) (Obj.cells #[.int .i64 k, .int .i64 b.2.2.1, .int .i64 b.2.2.2] 117))
    refine hK.out _ _ ?_ (fun hHeld => ?_)
    ·(exact ⟨hHeld.1.alloc _, hHeld.2.below ((Below.refl _ _).alloc (Nat.le_refl _) _) hHeld.1.l5⟩)
    clear hK K
    (try simp only [Act.put, pA, pZ, pS])
    refine rd1 9 rfl (fun K hK => ?_)
    go_simp
    (go_at_call 58; with_reducible refine (hcY _ _ _ hv3 hn6).mono ?_; rintro e w4 ⟨rfl, hb4⟩)
    exact ⟨rfl, rfl, hHeld.1.below hb4⟩
   ·go_simp
    have hn5 := one_new V1 (k : Int) b.2.2.1 b.2.2.2
    refine hK.out _ _ ?_ (fun hHeld => ?_)
    ·(exact ⟨hHeld.1.alloc _, hHeld.2.below ((Below.refl _ _).alloc (Nat.le_refl _) _) hHeld.1.l5⟩)
    clear hK K
    (try simp only [Act.put, pA, pZ, pS])
    refine rd1 2 rfl (fun K hK => ?_)
    go_simp
    (go_at_call 96; with_reducible refine (halY _ hHeld.1.old).mono ?_; rintro e w2 ⟨v2, rfl, hv2, hb2⟩)
    have hn6 := hn5.below hb2
    have hv3 := hv2
    refine hK.out _ _ ?_ (fun hHeld => ?_)
    ·(exact ⟨hHeld.1.below hb2, hHeld.2.below hb2 hHeld.1.l5⟩)
    clear hK K
    (try simp only [Act.put, pA, pZ, pS])
    refine rd1 9 rfl (fun K hK => ?_)
    go_simp
    (go_at_call 58; with_reducible refine (hcY _ _ _ hv3 hn6).mono ?_; rintro e w4 ⟨rfl, hb4⟩)
    exact ⟨rfl, rfl, hHeld.1.below hb4⟩
 ·go_simp
  have hn5 := one_new V0 (k : Int) b.1 b.2.1
  refine hK.out _ _ ?_ (fun hHeld => ?_)
  ·(exact ⟨hHeld.1.alloc _, hHeld.2.below ((Below.refl _ _).alloc (Nat.le_refl _) _) hHeld.1.l5⟩)
  clear hK K
  (try simp only [Act.put, pA, pZ, pS])
  refine rd1 2 rfl (fun K hK => ?_)
  go_simp
  (go_at_call 95; with_reducible refine (halX _ hHeld.1.old).mono ?_; rintro e w2 ⟨v2, rfl, hv2, hb2⟩)
  have hn6 := hn5.below hb2
  have hv3 := hv2
  refine hK.out _ _ ?_ (fun hHeld => ?_)
  ·(exact ⟨hHeld.1.below hb2, hHeld.2.below hb2 hHeld.1.l5⟩)
  clear hK K
  (try simp only [Act.put, pA, pZ, pS])
  refine rd1 9 rfl (fun K hK => ?_)
  go_simp
  (go_at_call 58; with_reducible refine (hcX _ _ _ hv3 hn6).mono ?_; rintro e w4 ⟨rfl, hb4⟩)
  refine hK.out _ _ ?_ (fun hHeld => ?_)
  ·(exact ⟨hHeld.1.below hb4, hHeld.2.below hb4 hHeld.1.l5⟩)
  clear hK K
  (try simp only [Act.put, pA, pZ, pS])
  refine tk2 11 rfl (by (intro w9 hSw; have z0 := hiX w9; clear hSw; go_simp) <;> with_reducible rfl) hHeld ?_
  refine tk1 12 rfl hHeld ?_
  refine wpAnyP_ready (rs := [13]) (by kernel_rfl) (by simp) ?_
  refine AllReadyP.behind (o := _) rfl (by kernel_rfl) (fun K hK => ?_) AllReadyP.nil
  ·have c0 := hHeld.2.k0
   have c1 := hHeld.2.k1
   have y0 := hHeld.2.f0
   have y1 := hHeld.2.f1
   go_simp
   clear c0 c1 y0 y1
   have hK1 := hHeld.1.put 0 1 (.int .i64 CX.1) (.int .i64 CX.2)
   have hB := hHeld.2.set01 CX.1 CX.2
   refine hK.out _ _ ?_ (fun hHeld => ?_)
   ·(exact hK1)
   clear hK K
   (try simp only [Act.put, pA, pZ, pS])
   refine wpAnyP_done (by kernel_rfl) ?_ _
   (try simp only [Act.put, List.getElem_toArray, List.getElem_cons_zero, List.getElem_cons_succ, pA, pZ, pS])
   have hP := hHeld
   clear hHeld hK1
   have hBx := hB
   clear hB
   generalize (w4.setCell ⟨gpr, 0, none⟩ (.int .i64 CX.1)).setCell ⟨gpr, 1, none⟩ (.int .i64 CX.2) = W4 at hBx hP ⊢
   go_wp2_with fail
   rw [rounds_succ]
   go_wp2_with fail
   refine wp_region_late [13] (fun w9 => P1 w0 w m L g gat gof gbl gpr k bl b w9) (fun w9 => Box4 w9 gpr CX.1 CX.2 q0 q1) (by kernel_rfl) ?_ (fun hHeld => ?_)
   ·(exact ⟨hP.drew, hBx.drew⟩)
   generalize W4.drew = V1 at hHeld ⊢
   refine tk1 0 rfl hHeld ?_
   refine tk1 1 rfl hHeld ?_
   refine tk2 3 rfl (by (intro w9 hSw; have z0 := hSw.ka; clear hSw; go_simp) <;> with_reducible rfl) hHeld ?_
   refine tk1 4 rfl hHeld ?_
   refine tk1 5 rfl hHeld ?_
   refine tk2 6 rfl (by (intro w9 hSw; have z0 := hSw.o2; have z1 := hSw.o3; clear hSw; go_simp) <;> with_reducible rfl) hHeld ?_
   refine tk1 7 rfl hHeld ?_
   refine tk2 10 rfl (by (intro w9 hSw; have z0 := hSw.kb; clear hSw; go_simp) <;> with_reducible rfl) hHeld ?_
   refine wpAnyP_ready (rs := [2, 8]) (by kernel_rfl) (by simp) ?_
   refine AllReadyP.cons (o := _) rfl (fun K hK => ?_) (AllReadyP.cons (o := _) rfl (fun K hK => ?_) AllReadyP.nil)
   ·go_simp
    (go_at_call 96; with_reducible refine (halY _ hHeld.1.old).mono ?_; rintro e w2 ⟨v2, rfl, hv2, hb2⟩)
    refine hK.out _ _ ?_ (fun hHeld => ?_)
    ·(exact ⟨hHeld.1.below hb2, hHeld.2.below hb2 hHeld.1.l5⟩)
    clear hK K
    (try simp only [Act.put, pA, pZ, pS])
    refine rd1 8 rfl (fun K hK => ?_)
    go_simp
    have hn6 := one_new w2 (k : Int) b.2.2.1 b.2.2.2
    have hv3 := hv2.below ((Below.refl w2.heap.size w2).alloc (Nat.le_refl _) (Obj.cells #[.int .i64 k, .int .i64 b.2.2.1, .int .i64 b.2.2.2] 117))
    refine hK.out _ _ ?_ (fun hHeld => ?_)
    ·(exact ⟨hHeld.1.alloc _, hHeld.2.below ((Below.refl _ _).alloc (Nat.le_refl _) _) hHeld.1.l5⟩)
    clear hK K
    (try simp only [Act.put, pA, pZ, pS])
    refine rd1 9 rfl (fun K hK => ?_)
    go_simp
    (go_at_call 58; with_reducible refine (hcY _ _ _ hv3 hn6).mono ?_; rintro e w4 ⟨rfl, hb4⟩)
    exact ⟨rfl, rfl, hHeld.1.below hb4⟩
   ·go_simp
    have hn5 := one_new V1 (k : Int) b.2.2.1 b.2.2.2
    refine hK.out _ _ ?_ (fun hHeld => ?_)
    ·(exact ⟨hHeld.1.alloc _, hHeld.2.below ((Below.refl _ _).alloc (Nat.le_refl _) _) hHeld.1.l5⟩)
    clear hK K
    (try simp only [Act.put, pA, pZ, pS])
    refine rd1 2 rfl (fun K hK => ?_)
    go_simp
    (go_at_call 96; with_reducible refine (halY _ hHeld.1.old).mono ?_; rintro e w2 ⟨v2, rfl, hv2, hb2⟩)
    have hn6 := hn5.below hb2
    have hv3 := hv2
    refine hK.out _ _ ?_ (fun hHeld => ?_)
    ·(exact ⟨hHeld.1.below hb2, hHeld.2.below hb2 hHeld.1.l5⟩)
    clear hK K
    (try simp only [Act.put, pA, pZ, pS])
    refine rd1 9 rfl (fun K hK => ?_)
    go_simp
    (go_at_call 58; with_reducible refine (hcY _ _ _ hv3 hn6).mono ?_; rintro e w4 ⟨rfl, hb4⟩)
    exact ⟨rfl, rfl, hHeld.1.below hb4⟩
end Go.Proofs.YtjhpklolpmaopaaGreatDoor
namespace Go.Proofs.YtjhpklolpmaopaaGreatDoor
open Go.RowKit
set_option maxRecDepth 100000 in
set_option maxHeartbeats 4000000 in
theorem attempt_okP (g gat gof gbl gpr : Nat) (w : World) (R : World → Prop)
  (hdo : Calls Tryz.prog 56 #[.pointer (some ⟨g, 0, none⟩), .pointer (some ⟨gat, 0, none⟩), .pointer (some ⟨gof, 0, none⟩), .pointer (some ⟨gbl, 0, none⟩), .pointer (some ⟨gpr, 0, none⟩)] (w.alloc (Obj.cells #[.int .i64 0] 37)) fun e w' => e = .returned (.tuple #[]) ∧ w'.cell? ⟨w.heap.size, 0, none⟩ = some (.int .i64 0) ∧ w'.frozen? ⟨w.heap.size, 0, none⟩ = false ∧ R (w'.setCell ⟨w.heap.size, 0, none⟩ (.int .i64 0))) :
  Calls Tryz.prog 55 #[.func (.func 56) #[] #[.pointer (some ⟨g, 0, none⟩), .pointer (some ⟨gat, 0, none⟩), .pointer (some ⟨gof, 0, none⟩), .pointer (some ⟨gbl, 0, none⟩), .pointer (some ⟨gpr, 0, none⟩)]] w fun e w' => e = .returned (.int .i64 0) ∧ R w' := by
 have hmf : ∀ (fn : Fn) (first cap : Array Value) (w : World), (Instr.makeFunc fn first cap).run Tryz.prog w = .ok (.func fn first cap) w := fun _ _ _ _ => rfl
 go_enter_defers Tryz.func55, Tryz.ntmps55
 go_wp2_with (go_at_call 56; with_reducible refine hdo.mono ?_; rintro e w2 ⟨rfl, c2, z2, hR⟩)
 have c3 : (w2.setCell ⟨w.heap.size, 0, none⟩ (.int .i64 0)).cell? ⟨w.heap.size, 0, none⟩ = some (.int .i64 0) := World.cell?_setCell_same' _ _ _ (by rw [c2]; rfl)
 generalize w2.setCell ⟨w.heap.size, 0, none⟩ (.int .i64 0) = w3 at c3 hR ⊢
 refine leaves_cons (f := 94) (args := #[.pointer (some ⟨w.heap.size, 0, none⟩)]) (by simp) (by simp [go_sem]) ?_
 refine (catch_idle ⟨w.heap.size, 0, none⟩ _).mono ?_
 rintro e u' w'' ⟨rfl, rfl, rfl⟩
 simp [Leaves, settle, results, Tryz.results55, go_sem, c3, hR]
set_option maxRecDepth 100000 in
set_option maxHeartbeats 4000000 in
theorem attempt_noP (g gat gof gbl gpr : Nat) (w : World) (R : World → Prop)
  (hdo : Calls Tryz.prog 56 #[.pointer (some ⟨g, 0, none⟩), .pointer (some ⟨gat, 0, none⟩), .pointer (some ⟨gof, 0, none⟩), .pointer (some ⟨gbl, 0, none⟩), .pointer (some ⟨gpr, 0, none⟩)] (w.alloc (Obj.cells #[.int .i64 0] 37)) fun e w' => e = .panicked [{ v := .iface 225 (.agg #[]), recovered := false }] ∧ w.heap.size < w'.heap.size ∧ w'.cell? ⟨w.heap.size, 0, none⟩ = some (.int .i64 0) ∧ w'.frozen? ⟨w.heap.size, 0, none⟩ = false ∧ R ((w'.setCell ⟨w.heap.size, 0, none⟩ (.int .i64 7)).alloc (Obj.cells #[] 225))) :
  Calls Tryz.prog 55 #[.func (.func 56) #[] #[.pointer (some ⟨g, 0, none⟩), .pointer (some ⟨gat, 0, none⟩), .pointer (some ⟨gof, 0, none⟩), .pointer (some ⟨gbl, 0, none⟩), .pointer (some ⟨gpr, 0, none⟩)]] w fun e w' => e = .returned (.int .i64 7) ∧ R w' := by
 have hmf : ∀ (fn : Fn) (first cap : Array Value) (w : World), (Instr.makeFunc fn first cap).run Tryz.prog w = .ok (.func fn first cap) w := fun _ _ _ _ => rfl
 go_enter_defers Tryz.func55, Tryz.ntmps55
 go_wp2_with (go_at_call 56; with_reducible refine hdo.mono ?_; rintro e w2 ⟨rfl, hl, c2, z2, hR⟩)
 refine leaves_cons (f := 94) (args := #[.pointer (some ⟨w.heap.size, 0, none⟩)]) (by simp) (by simp [go_sem]) ?_
 refine (catch_panicking w.heap.size 0 [] _ hl c2 z2).mono ?_
 rintro e u' w'' ⟨rfl, rfl, rfl⟩
 have c3 : ((w2.setCell ⟨w.heap.size, 0, none⟩ (.int .i64 7)).alloc (Obj.cells #[] 225)).cell? ⟨w.heap.size, 0, none⟩ = some (.int .i64 7) := (((Below.refl _ (w2.setCell ⟨w.heap.size, 0, none⟩ (.int .i64 7))).alloc (Nat.le_refl _) _).cell (p := ⟨w.heap.size, 0, none⟩) (by rw [World.size_setCell]; exact hl)).trans (World.cell?_setCell_same' _ _ _ (by rw [c2]; rfl))
 generalize (w2.setCell ⟨w.heap.size, 0, none⟩ (.int .i64 7)).alloc (Obj.cells #[] 225) = w3 at c3 hR ⊢
 simp [Leaves, settle, results, Tryz.results55, go_sem, c3, hR]
/-- what stands after a proof was tried. -/
structure Left2 (w0 W w' : World) (gpr : Nat) : Prop where
 old : Below w0.heap.size w0 w'
 lt : W.heap.size ≤ w'.heap.size
 kept : ∀ j, j < W.heap.size → j ≠ gpr → w'.heap[j]? = W.heap[j]?
theorem P1.base {w0 w : World} {m : Mach} {L : List Value} {g gat gof gbl gpr k bl : Nat} {b : Int × Int × Int × Int} {W : World} (h : P1 w0 w m L g gat gof gbl gpr k bl b W) : P1 w0 W m L g gat gof gbl gpr k bl b W :=
 ⟨h.old, h.st, h.ka, h.o0, h.o1, h.o2, h.o3, h.kb, h.l1, h.l2, h.l3, h.l4, h.l5, h.n1, h.n2, h.n3, h.n4, h.n0, Nat.le_refl _, fun _ _ _ => rfl⟩
theorem attempt_yesP (m : Mach) (EX EY : Nat → Int × Int) (g gat gof gbl gpr k bl : Nat) (b : Int × Int × Int × Int) (p0 p1 q0 q1 : Int) (w0 w : World) (hok : m.ok = true) (h : MIn w0 m) (hk : k ≤ 12) (hbl : bl ≤ 12) (hbd : bdB b) (hP : P1 w0 w m (m.st (crsL EX 13) (crsL EY 13)) g gat gof gbl gpr k bl b w) (hBx : Box4 w gpr p0 p1 q0 q1) (hX : (wX m k b).can) (hY : (wY m k b).can) :
  Calls Tryz.prog 55 #[.func (.func 56) #[] #[.pointer (some ⟨g, 0, none⟩), .pointer (some ⟨gat, 0, none⟩), .pointer (some ⟨gof, 0, none⟩), .pointer (some ⟨gbl, 0, none⟩), .pointer (some ⟨gpr, 0, none⟩)]] w fun e w' => e = .returned (.int .i64 0) ∧ (Left2 w0 w w' gpr ∧ Box4 w' gpr ((wX m k b).ends bl).1 ((wX m k b).ends bl).2 ((wY m k b).ends bl).1 ((wY m k b).ends bl).2) := by
 refine attempt_okP g gat gof gbl gpr w (fun w' => Left2 w0 w w' gpr ∧ Box4 w' gpr ((wX m k b).ends bl).1 ((wX m k b).ends bl).2 ((wY m k b).ends bl).1 ((wY m k b).ends bl).2) ?_
 have hb3 : Below w.heap.size w (w.alloc (Obj.cells #[.int .i64 0] 37)) := (Below.refl _ _).alloc (Nat.le_refl _) _
 have c3 : (w.alloc (Obj.cells #[.int .i64 0] 37)).cell? ⟨w.heap.size, 0, none⟩ = some (.int .i64 0) := cells_new w _ _ rfl
 have f3 : (w.alloc (Obj.cells #[.int .i64 0] 37)).frozen? ⟨w.heap.size, 0, none⟩ = false := by simp [go_sem]
 have hz3 : (w.alloc (Obj.cells #[.int .i64 0] 37)).heap.size = w.heap.size + 1 := World.size_alloc _ _
 have hP3 := (hP.below hb3).base
 have hB3 := hBx.below hb3 hP.l5
 have hl5 := hP.l5
 have hn0 := hP.n0
 generalize w.alloc (Obj.cells #[.int .i64 0] 37) = W3 at *
 refine (proves1_can m EX EY g gat gof gbl gpr k bl b p0 p1 q0 q1 w0 W3 hok h hk hbl hbd hP3 hB3 hX hY).mono ?_
 rintro e w' ⟨rfl, hP', hB'⟩
 have hne : w.heap.size ≠ gpr := by omega
 have hblk := hP'.kept w.heap.size (by omega) hne
 have hz' := hP'.hz
 refine ⟨rfl, (World.cell?_of_block hblk).trans c3, (frozen_of_block hblk 0).trans f3, ⟨hP'.old.setCell (p := ⟨w.heap.size, 0, none⟩) (by show w0.heap.size ≤ w.heap.size; omega) _, by rw [World.size_setCell]; omega, fun j hj hne' => ?_⟩, hB'.far (Below.heap_setCell w' ⟨w.heap.size, 0, none⟩ _ gpr (by show gpr ≠ w.heap.size; omega))⟩
 rw [Below.heap_setCell w' ⟨w.heap.size, 0, none⟩ _ j (by show j ≠ w.heap.size; omega), hP'.kept j (by omega) hne', hb3.block j hj]
theorem attempt_ruleP (m : Mach) (EX EY : Nat → Int × Int) (g gat gof gbl gpr k bl : Nat) (b : Int × Int × Int × Int) (p0 p1 q0 q1 : Int) (w0 w : World) (hok : m.ok = true) (h : MIn w0 m) (hk : k ≤ 12) (hbl : bl ≤ 12) (hbd : bdB b) (hP : P1 w0 w m (m.st (crsL EX 13) (crsL EY 13)) g gat gof gbl gpr k bl b w) (hBx : Box4 w gpr p0 p1 q0 q1) (hno : ¬ canW m k b) :
  Calls Tryz.prog 55 #[.func (.func 56) #[] #[.pointer (some ⟨g, 0, none⟩), .pointer (some ⟨gat, 0, none⟩), .pointer (some ⟨gof, 0, none⟩), .pointer (some ⟨gbl, 0, none⟩), .pointer (some ⟨gpr, 0, none⟩)]] w fun e w' => e = .returned (.int .i64 7) ∧ Left2 w0 w w' gpr := by
 refine attempt_noP g gat gof gbl gpr w (fun w' => Left2 w0 w w' gpr) ?_
 have hb3 : Below w.heap.size w (w.alloc (Obj.cells #[.int .i64 0] 37)) := (Below.refl _ _).alloc (Nat.le_refl _) _
 have c3 : (w.alloc (Obj.cells #[.int .i64 0] 37)).cell? ⟨w.heap.size, 0, none⟩ = some (.int .i64 0) := cells_new w _ _ rfl
 have f3 : (w.alloc (Obj.cells #[.int .i64 0] 37)).frozen? ⟨w.heap.size, 0, none⟩ = false := by simp [go_sem]
 have hz3 : (w.alloc (Obj.cells #[.int .i64 0] 37)).heap.size = w.heap.size + 1 := World.size_alloc _ _
 have hP3 := (hP.below hb3).base
 have hB3 := hBx.below hb3 hP.l5
 have hl5 := hP.l5
 have hn0 := hP.n0
 generalize w.alloc (Obj.cells #[.int .i64 0] 37) = W3 at *
 have key : Calls Tryz.prog 56 #[.pointer (some ⟨g, 0, none⟩), .pointer (some ⟨gat, 0, none⟩), .pointer (some ⟨gof, 0, none⟩), .pointer (some ⟨gbl, 0, none⟩), .pointer (some ⟨gpr, 0, none⟩)] W3 fun e w' => e = .panicked [{ v := .iface 225 (.agg #[]), recovered := false }] ∧ P1 w0 W3 m (m.st (crsL EX 13) (crsL EY 13)) g gat gof gbl gpr k bl b w' := by
  by_cases hX : (wX m k b).can
  ·exact proves1_noY m EX EY g gat gof gbl gpr k bl b p0 p1 q0 q1 w0 W3 hok h hk hbl hbd hP3 hB3 hX fun hY => hno ⟨hX, hY⟩
  ·exact proves1_noX m EX EY g gat gof gbl gpr k bl b p0 p1 q0 q1 w0 W3 hok h hk hbl hbd hP3 hB3 hX
 refine key.mono ?_
 rintro e w' ⟨rfl, hP'⟩
 have hne : w.heap.size ≠ gpr := by omega
 have hblk := hP'.kept w.heap.size (by omega) hne
 have hz' := hP'.hz
 have hBs : Below w0.heap.size w0 (w'.setCell ⟨w.heap.size, 0, none⟩ (.int .i64 7)) := hP'.old.setCell (p := ⟨w.heap.size, 0, none⟩) (by show w0.heap.size ≤ w.heap.size; omega) _
 refine ⟨rfl, by omega, (World.cell?_of_block hblk).trans c3, (frozen_of_block hblk 0).trans f3, hBs.alloc hBs.size _, by rw [World.size_alloc, World.size_setCell]; omega, fun j hj hne' => ?_⟩
 rw [((Below.refl (w'.setCell ⟨w.heap.size, 0, none⟩ (.int .i64 7)).heap.size _).alloc (Nat.le_refl _) _).block j (by rw [World.size_setCell]; omega), Below.heap_setCell w' ⟨w.heap.size, 0, none⟩ _ j (by show j ≠ w.heap.size; omega), hP'.kept j (by omega) hne', hb3.block j hj]
end Go.Proofs.YtjhpklolpmaopaaGreatDoor
namespace Go.Proofs.YtjhpklolpmaopaaGreatDoor
open Go.RowKit
structure W6 (w W : World) (gs : Nat) (s0 s1 : Int) : Prop where
 old : Below w.heap.size w W
 two : Two W gs s0 s1
 res : Box4 W (w.heap.size + 2) 0 0 0 0
 lg : w.heap.size + 3 ≤ gs
 lt : gs < W.heap.size
theorem W6.drew {w W : World} {gs : Nat} {s0 s1 : Int} (h : W6 w W gs s0 s1) : W6 w W.drew gs s0 s1 := ⟨h.old.drew, h.two.drew, h.res.drew, h.lg, h.lt⟩
theorem W6.l0 {w W : World} {gs : Nat} {s0 s1 : Int} (h : W6 w W gs s0 s1) : w.heap.size < W.heap.size := by have := h.lg; have := h.lt; omega
theorem W6.put {w W : World} {gs : Nat} {s0 s1 : Int} (h : W6 w W gs s0 s1) (i j : Nat) (u v : Value) : W6 w ((W.setCell ⟨w.heap.size, i, none⟩ u).setCell ⟨w.heap.size, j, none⟩ v) gs s0 s1 := by
 have far : ∀ x, x ≠ w.heap.size → ((W.setCell ⟨w.heap.size, i, none⟩ u).setCell ⟨w.heap.size, j, none⟩ v).heap[x]? = W.heap[x]? := fun x hx => (Below.heap_setCell _ ⟨w.heap.size, j, none⟩ v x hx).trans (Below.heap_setCell W ⟨w.heap.size, i, none⟩ u x hx)
 have hg := h.lg
 exact ⟨(h.old.setCell (p := ⟨w.heap.size, i, none⟩) (Nat.le_refl _) u).setCell (p := ⟨w.heap.size, j, none⟩) (Nat.le_refl _) v, h.two.far (far gs (by omega)), h.res.far (far _ (by omega)), h.lg, by rw [World.size_setCell, World.size_setCell]; exact h.lt⟩
theorem W6.next {w W : World} {gs : Nat} {s0 s1 : Int} (h : W6 w W gs s0 s1) (x y : Int) : W6 w (W.alloc (Obj.cells #[.int .i64 x, .int .i64 y] 24)) W.heap.size x y := by
 have hg := h.lg
 have hl := h.lt
 have hb : Below W.heap.size W (W.alloc (Obj.cells #[.int .i64 x, .int .i64 y] 24)) := (Below.refl _ _).alloc (Nat.le_refl _) _
 exact ⟨h.old.trans (hb.mono h.old.size), Two.new W _ x y, h.res.below hb (by omega), by omega, by rw [World.size_alloc]; omega⟩
theorem if_min (x y : Int) : (if y < x then y else x) = min x y := by omega
theorem if_max (x y : Int) : (if x < y then y else x) = max x y := by omega
theorem idxB0 (a b c d : Int) (w : World) : (Instr.index 99 (.agg #[.int .i64 a, .int .i64 b, .int .i64 c, .int .i64 d]) (.int .i64 0)).run Tryz.prog w = .ok (.agg #[.int .i64 a, .int .i64 b]) w := by kernel_rfl
theorem idxB1 (a b c d : Int) (w : World) : (Instr.index 99 (.agg #[.int .i64 a, .int .i64 b, .int .i64 c, .int .i64 d]) (.int .i64 1)).run Tryz.prog w = .ok (.agg #[.int .i64 c, .int .i64 d]) w := by kernel_rfl
set_option maxRecDepth 100000 in
set_option maxHeartbeats 4000000 in
theorem with_any (a b c d a' b' c' d' : Int) (w : World) :
  Calls Tryz.prog 53 #[.agg #[.int .i64 a, .int .i64 b, .int .i64 c, .int .i64 d], .agg #[.int .i64 a', .int .i64 b', .int .i64 c', .int .i64 d']] w fun e w' => e = .returned (.agg #[.int .i64 (min a a'), .int .i64 (max b b'), .int .i64 (min c c'), .int .i64 (max d d')]) ∧ Below w.heap.size w w' := by
 have hi0 := idxB0 a' b' c' d'
 have hi1 := idxB1 a' b' c' d'
 obtain ⟨A1, hA1⟩ : ∃ A, w.alloc (Obj.cells #[.int .i64 a, .int .i64 b, .int .i64 c, .int .i64 d] 99) = A := ⟨_, rfl⟩
 obtain ⟨A2, hA2⟩ : ∃ A, A1.alloc (Obj.cells #[.int .i64 a', .int .i64 b', .int .i64 c', .int .i64 d'] 99) = A := ⟨_, rfl⟩
 obtain ⟨A3, hA3⟩ : ∃ A, A2.alloc (Obj.cells #[.int .i64 0, .int .i64 0, .int .i64 0, .int .i64 0] 99) = A := ⟨_, rfl⟩
 have s1 : A1.heap.size = w.heap.size + 1 := by rw [← hA1, World.size_alloc]
 have s2 : A2.heap.size = w.heap.size + 1 + 1 := by rw [← hA2, World.size_alloc, s1]
 have s3 : A3.heap.size = w.heap.size + 1 + 1 + 1 := by rw [← hA3, World.size_alloc, s2]
 have b1 : Below w.heap.size w A1 := by rw [← hA1]; exact (Below.refl _ _).alloc (Nat.le_refl _) _
 have b2 : Below A1.heap.size A1 A2 := by rw [← hA2]; exact (Below.refl _ _).alloc (Nat.le_refl _) _
 have b3 : Below A2.heap.size A2 A3 := by rw [← hA3]; exact (Below.refl _ _).alloc (Nat.le_refl _) _
 have b4 : Below A3.heap.size A3 (A3.alloc (Obj.cells #[.int .i64 a', .int .i64 b'] 24)) := (Below.refl _ _).alloc (Nat.le_refl _) _
 have n1 := Box4.new w 99 a b c d
 rw [hA1] at n1
 have n2 := Box4.new A1 99 a' b' c' d'
 rw [hA2, s1] at n2
 have n3 := Box4.new A2 99 0 0 0 0
 rw [hA3, s2] at n3
 have n13 := (n1.below b2 (by omega)).below b3 (by omega)
 have n23 := n2.below b3 (by omega)
 obtain ⟨o0, o1, o2, o3, _, _, _, _⟩ := n23
 obtain ⟨W1, hW1⟩ : ∃ W, A3.alloc (Obj.cells #[.int .i64 a', .int .i64 b'] 24) = W := ⟨_, rfl⟩
 have hP : W6 w W1 A3.heap.size a' b' := by
  rw [← hW1]
  exact ⟨((b1.trans (b2.mono (by omega))).trans (b3.mono (by omega))).trans (b4.mono (by omega)), Two.new A3 _ a' b', n3.below b4 (by omega), by omega, by rw [World.size_alloc]; omega⟩
 have hBx : Box4 W1 w.heap.size a b c d := by rw [← hW1]; exact n13.below b4 (by omega)
 clear n1 n2 n3 n13 b1 b2 b3 b4
 go_enter Tryz.func53, Tryz.ntmps53
 go_wp2
 refine wp_loop_rounds 3 ?_
 rw [rounds_succ]
 go_wp2_with fail
 try rw [hA1, hA2, hA3, hW1]
 clear o0 o1 o2 o3
 rw [s3] at hP
 generalize w.heap.size + 1 + 1 + 1 = g0 at hP ⊢
 refine wp_region_late [17] (fun w9 => W6 w w9 g0 a' b') (fun w9 => Box4 w9 w.heap.size a b c d) (by kernel_rfl) ?_ (fun hHeld => ?_)
 ·(exact ⟨hP.drew, hBx.drew⟩)
 generalize W1.drew = V0 at hHeld ⊢
 refine tk1 0 rfl hHeld ?_
 refine tk1 1 rfl hHeld ?_
 refine tk1 2 rfl hHeld ?_
 refine tk1 3 rfl hHeld ?_
 refine wpAnyP_take 1 (i := 4) (v := ?_) rfl (by kernel_rfl) (by kernel_rfl) (by kernel_rfl) (by kernel_rfl) (by rfl) (waits_one [] (by kernel_rfl)) (fun _ _ _ h => h) (Or.inl ⟨by rfl, ?_⟩) hHeld ?_
 rotate_left 1
 ·((intro w9 hSw; have z0 := hSw.2.k0; clear hSw; go_simp) <;> with_reducible rfl)
 (try simp only [Act.put, pA, pZ, pS])
 refine tk1 5 rfl hHeld ?_
 refine tk2 6 rfl (by (intro w9 hSw; have z0 := hSw.two.k0; clear hSw; go_simp) <;> with_reducible rfl) hHeld ?_
 refine tk1 7 rfl hHeld ?_
 refine tk1 8 rfl hHeld ?_
 refine tk1 9 rfl hHeld ?_
 refine tk1 10 rfl hHeld ?_
 refine wpAnyP_take 1 (i := 11) (v := ?_) rfl (by kernel_rfl) (by kernel_rfl) (by kernel_rfl) (by kernel_rfl) (by rfl) (waits_one [] (by kernel_rfl)) (fun _ _ _ h => h) (Or.inl ⟨by rfl, ?_⟩) hHeld ?_
 rotate_left 1
 ·((intro w9 hSw; have z0 := hSw.2.k1; clear hSw; go_simp) <;> with_reducible rfl)
 (try simp only [Act.put, pA, pZ, pS])
 refine tk1 12 rfl hHeld ?_
 refine tk2 13 rfl (by (intro w9 hSw; have z0 := hSw.two.k1; clear hSw; go_simp) <;> with_reducible rfl) hHeld ?_
 refine tk1 14 rfl hHeld ?_
 refine tk1 15 rfl hHeld ?_
 refine tk1 16 rfl hHeld ?_
 refine wpAnyP_ready (rs := [17]) (by kernel_rfl) (by simp) ?_
 refine AllReadyP.behind (o := _) rfl (by kernel_rfl) (fun K hK => ?_) AllReadyP.nil
 ·have c0 := hHeld.2.k0
  have c1 := hHeld.2.k1
  have y0 := hHeld.2.f0
  have y1 := hHeld.2.f1
  go_simp
  clear c0 c1 y0 y1
  try rw [if_min]
  try rw [if_max]
  have hK1 := hHeld.1.put 0 1 (.int .i64 (min a a')) (.int .i64 (max b b'))
  have hB := hHeld.2.set01 (min a a') (max b b')
  refine hK.out _ _ ?_ (fun hHeld => ?_)
  ·(exact hK1)
  clear hK K
  (try simp only [Act.put, pA, pZ, pS])
  refine wpAnyP_done (by kernel_rfl) ?_ _
  (try simp only [Act.put, List.getElem_toArray, List.getElem_cons_zero, List.getElem_cons_succ, pA, pZ, pS])
  have hP := hHeld
  clear hHeld hK1
  have hBx := hB
  clear hB
  generalize (V0.setCell ⟨w.heap.size, 0, none⟩ (.int .i64 (min a a'))).setCell ⟨w.heap.size, 1, none⟩ (.int .i64 (max b b')) = W4 at hBx hP ⊢
  go_wp2_with fail
  rw [rounds_succ]
  obtain ⟨W5, hW5⟩ : ∃ W, W4.alloc (Obj.cells #[.int .i64 c', .int .i64 d'] 24) = W := ⟨_, rfl⟩
  have hP5 := hP.next c' d'
  have hB5 := hBx.below ((Below.refl W4.heap.size W4).alloc (Nat.le_refl _) (Obj.cells #[.int .i64 c', .int .i64 d'] 24)) hP.l0
  rw [hW5] at hP5 hB5
  go_wp2_with fail
  try rw [hW5]
  generalize W4.heap.size = g1 at hP5 ⊢
  clear hP hBx
  have hP := hP5
  have hBx := hB5
  refine wp_region_late [17] (fun w9 => W6 w w9 g1 c' d') (fun w9 => Box4 w9 w.heap.size (min a a') (max b b') c d) (by kernel_rfl) ?_ (fun hHeld => ?_)
  ·(exact ⟨hP.drew, hBx.drew⟩)
  generalize W5.drew = V1 at hHeld ⊢
  refine tk1 0 rfl hHeld ?_
  refine tk1 1 rfl hHeld ?_
  refine tk1 2 rfl hHeld ?_
  refine tk1 3 rfl hHeld ?_
  refine wpAnyP_take 1 (i := 4) (v := ?_) rfl (by kernel_rfl) (by kernel_rfl) (by kernel_rfl) (by kernel_rfl) (by rfl) (waits_one [] (by kernel_rfl)) (fun _ _ _ h => h) (Or.inl ⟨by rfl, ?_⟩) hHeld ?_
  rotate_left 1
  ·((intro w9 hSw; have z0 := hSw.2.k2; clear hSw; go_simp) <;> with_reducible rfl)
  (try simp only [Act.put, pA, pZ, pS])
  refine tk1 5 rfl hHeld ?_
  refine tk2 6 rfl (by (intro w9 hSw; have z0 := hSw.two.k0; clear hSw; go_simp) <;> with_reducible rfl) hHeld ?_
  refine tk1 7 rfl hHeld ?_
  refine tk1 8 rfl hHeld ?_
  refine tk1 9 rfl hHeld ?_
  refine tk1 10 rfl hHeld ?_
  refine wpAnyP_take 1 (i := 11) (v := ?_) rfl (by kernel_rfl) (by kernel_rfl) (by kernel_rfl) (by kernel_rfl) (by rfl) (waits_one [] (by kernel_rfl)) (fun _ _ _ h => h) (Or.inl ⟨by rfl, ?_⟩) hHeld ?_
  rotate_left 1
  ·((intro w9 hSw; have z0 := hSw.2.k3; clear hSw; go_simp) <;> with_reducible rfl)
  (try simp only [Act.put, pA, pZ, pS])
  refine tk1 12 rfl hHeld ?_
  refine tk2 13 rfl (by (intro w9 hSw; have z0 := hSw.two.k1; clear hSw; go_simp) <;> with_reducible rfl) hHeld ?_
  refine tk1 14 rfl hHeld ?_
  refine tk1 15 rfl hHeld ?_
  refine tk1 16 rfl hHeld ?_
  refine wpAnyP_ready (rs := [17]) (by kernel_rfl) (by simp) ?_
  refine AllReadyP.behind (o := _) rfl (by kernel_rfl) (fun K hK => ?_) AllReadyP.nil
  ·have c0 := hHeld.2.k2
   have c1 := hHeld.2.k3
   have y0 := hHeld.2.f2
   have y1 := hHeld.2.f3
   go_simp
   clear c0 c1 y0 y1
   try rw [if_min]
   try rw [if_max]
   have hK1 := hHeld.1.put 2 3 (.int .i64 (min c c')) (.int .i64 (max d d'))
   have hB := hHeld.2.set23 (min c c') (max d d')
   refine hK.out _ _ ?_ (fun hHeld => ?_)
   ·(exact hK1)
   clear hK K
   (try simp only [Act.put, pA, pZ, pS])
   refine wpAnyP_done (by kernel_rfl) ?_ _
   (try simp only [Act.put, List.getElem_toArray, List.getElem_cons_zero, List.getElem_cons_succ, pA, pZ, pS])
   have hP := hHeld
   clear hHeld hK1
   have hBx := hB
   clear hB
   generalize (V1.setCell ⟨w.heap.size, 2, none⟩ (.int .i64 (min c c'))).setCell ⟨w.heap.size, 3, none⟩ (.int .i64 (max d d')) = W7 at hBx hP ⊢
   go_wp2_with fail
   rw [rounds_succ]
   have hO := hP.old
   have hR := (hP.res.set01 (min a a') (max b b')).set23 (min c c') (max d d')
   have hO8 : Below w.heap.size w ((((W7.setCell ⟨w.heap.size + 2, 0, none⟩ (.int .i64 (min a a'))).setCell ⟨w.heap.size + 2, 1, none⟩ (.int .i64 (max b b'))).setCell ⟨w.heap.size + 2, 2, none⟩ (.int .i64 (min c c'))).setCell ⟨w.heap.size + 2, 3, none⟩ (.int .i64 (max d d'))) := (((hO.setCell (p := ⟨w.heap.size + 2, 0, none⟩) (Nat.le_add_right _ _) _).setCell (p := ⟨w.heap.size + 2, 1, none⟩) (Nat.le_add_right _ _) _).setCell (p := ⟨w.heap.size + 2, 2, none⟩) (Nat.le_add_right _ _) _).setCell (p := ⟨w.heap.size + 2, 3, none⟩) (Nat.le_add_right _ _) _
   obtain ⟨z0, z1, z2, z3, y0, y1, y2, y3⟩ := hP.res
   obtain ⟨x0, x1, x2, x3, _, _, _, _⟩ := hBx
   clear hP
   go_wp2
   clear z0 z1 z2 z3 y0 y1 y2 y3 x0 x1 x2 x3 hO
   generalize (((W7.setCell ⟨w.heap.size + 2, 0, none⟩ (.int .i64 (min a a'))).setCell ⟨w.heap.size + 2, 1, none⟩ (.int .i64 (max b b'))).setCell ⟨w.heap.size + 2, 2, none⟩ (.int .i64 (min c c'))).setCell ⟨w.heap.size + 2, 3, none⟩ (.int .i64 (max d d')) = W8 at hR hO8 ⊢
   obtain ⟨r0, r1, r2, r3, _, _, _, _⟩ := hR
   refine bodyPost_ret (v := .agg #[.int .i64 (min a a'), .int .i64 (max b b'), .int .i64 (min c c'), .int .i64 (max d d')]) ?_ rfl ⟨rfl, hO8⟩
   simp [results, Tryz.results53, go_sem, r0, r1, r2, r3]
end Go.Proofs.YtjhpklolpmaopaaGreatDoor
namespace Go.Proofs.YtjhpklolpmaopaaGreatDoor
open Go.RowKit
end Go.Proofs.YtjhpklolpmaopaaGreatDoor
namespace Go.Proofs.YtjhpklolpmaopaaGreatDoor
open Go.RowKit
end Go.Proofs.YtjhpklolpmaopaaGreatDoor
namespace Go.Proofs.YtjhpklolpmaopaaGreatDoor
open Go.RowKit Go.Can
/-- a machine among others. -/
structure MOff (W : World) (b o : Nat) (m : Mach) : Prop where
 k0 : W.cell? ⟨b, o, none⟩ = some (.slice m.sa m.sn m.sc)
 k1 : W.cell? ⟨b, o + 1, none⟩ = some (.int .i64 m.c0)
 k2 : W.cell? ⟨b, o + 2, none⟩ = some (.int .i64 m.c1)
 k3 : W.cell? ⟨b, o + 3, none⟩ = some (.int .i64 m.d0)
 k4 : W.cell? ⟨b, o + 4, none⟩ = some (.int .i64 m.d1)
 k5 : W.cell? ⟨b, o + 5, none⟩ = some (.int .i64 m.w0)
 k6 : W.cell? ⟨b, o + 6, none⟩ = some (.int .i64 m.w1)
 k7 : W.cell? ⟨b, o + 7, none⟩ = some (.int .i64 m.v0)
 k8 : W.cell? ⟨b, o + 8, none⟩ = some (.int .i64 m.v1)
 k9 : W.cell? ⟨b, o + 9, none⟩ = some (.slice m.ra m.rn m.rc)
theorem MOff.below {W W' : World} {b o : Nat} {m : Mach} {B : Nat} (h : MOff W b o m) (hb : Below B W W') (hl : b < B) : MOff W' b o m :=
 ⟨(hb.cell (p := ⟨b, o, none⟩) hl).trans h.k0, (hb.cell (p := ⟨b, o + 1, none⟩) hl).trans h.k1, (hb.cell (p := ⟨b, o + 2, none⟩) hl).trans h.k2, (hb.cell (p := ⟨b, o + 3, none⟩) hl).trans h.k3, (hb.cell (p := ⟨b, o + 4, none⟩) hl).trans h.k4, (hb.cell (p := ⟨b, o + 5, none⟩) hl).trans h.k5, (hb.cell (p := ⟨b, o + 6, none⟩) hl).trans h.k6, (hb.cell (p := ⟨b, o + 7, none⟩) hl).trans h.k7, (hb.cell (p := ⟨b, o + 8, none⟩) hl).trans h.k8, (hb.cell (p := ⟨b, o + 9, none⟩) hl).trans h.k9⟩
/-- a list of machines. -/
structure MLs (w : World) (b off n : Nat) (M : Nat → Mach) : Prop where
 cells : ∀ i, i < n → MOff w b (off + i * 10) (M i)
 ins : ∀ i, i < n → MIn w (M i)
 lt : b < w.heap.size
theorem MLs.below {w w' : World} {b off n : Nat} {M : Nat → Mach} (h : MLs w b off n M) (hb : Below w.heap.size w w') : MLs w' b off n M :=
 ⟨fun i hi => (h.cells i hi).below hb h.lt, fun i hi => (h.ins i hi).below hb, Nat.lt_of_lt_of_le h.lt hb.size⟩
def MSl (w : World) (v : Value) (n : Nat) (M : Nat → Mach) : Prop := (∃ a c, v = .slice a 0 c ∧ n = 0) ∨ ∃ b off c, v = .slice (some ⟨b, off, none⟩) n c ∧ MLs w b off n M
theorem MSl.below {w w' : World} {v : Value} {n : Nat} {M : Nat → Mach} (h : MSl w v n M) (hb : Below w.heap.size w w') : MSl w' v n M := by
 rcases h with h | ⟨b, off, c, h1, h2⟩
 ·exact .inl h
 ·exact .inr ⟨b, off, c, h1, h2.below hb⟩
end Go.Proofs.YtjhpklolpmaopaaGreatDoor
