/- A part of the proof: see the last file. -/
import Derived.Test.YtjhpklolpmaopaaGreatDoorPaf
import Derived.Test.YtjhpklolpmaopaaGreatDoorPab
import Derived.Test.YtjhpklolpmaopaaGreatDoorPaa
import Derived.Deep.MidRow
import Derived.Lib.AppendZeros
import Derived.Laws.AppendOwnNone
import Derived.WalkKit
import Derived.Laws.OwnMore
set_option linter.unusedVariables false
set_option linter.unusedSimpArgs false
set_option linter.unusedSectionVars false
namespace Go.Proofs.YtjhpklolpmaopaaGreatDoor
open Go.RowKit
def Mach.mark (m : Mach) (i : Nat) : Int × Int × Int × Int × Int := (m.RB i, m.RX i - m.RE i, m.RX i + m.RE i, m.RY i - m.RE i, m.RY i + m.RE i)
end Go.Proofs.YtjhpklolpmaopaaGreatDoor
namespace Go.Proofs.YtjhpklolpmaopaaGreatDoor
open Go.RowKit
/-- the first cells of a studied machine are the machine's. -/
structure SCells (cs : Array Value) (m : Mach) : Prop where
  size : cs.size = 62
  k0 : cs[0]? = some (.slice m.sa m.sn m.sc)
  k1 : cs[1]? = some (.int .i64 m.c0)
  k2 : cs[2]? = some (.int .i64 m.c1)
  k3 : cs[3]? = some (.int .i64 m.d0)
  k4 : cs[4]? = some (.int .i64 m.d1)
  k5 : cs[5]? = some (.int .i64 m.w0)
  k6 : cs[6]? = some (.int .i64 m.w1)
  k7 : cs[7]? = some (.int .i64 m.v0)
  k8 : cs[8]? = some (.int .i64 m.v1)
  k9 : cs[9]? = some (.slice m.ra m.rn m.rc)
/-- clues in memory: a blank and two ends each. -/
def clueCells (f : Nat → Int × Int × Int) : Nat → List Value
  | 0 => []
  | k+1 => clueCells f k ++ [.int .i64 (f k).1, .int .i64 (f k).2.1, .int .i64 (f k).2.2]
theorem Tryz.info117 : (Tryz.prog.info? 117).map (fun i => (i.zero, i.size, i.bytes)) = some (some (.agg #[.int .i64 0, .int .i64 0, .int .i64 0]), 3, 24) := by kernel_rfl
/-- clues in memory. -/
def CPts (w : World) (b off n : Nat) (cl : Nat → Int × Int × Int) : Prop := ∀ i, i < n → w.cell? ⟨b, off + i * 3, none⟩ = some (.int .i64 (cl i).1) ∧ w.cell? ⟨b, off + i * 3 + 1, none⟩ = some (.int .i64 (cl i).2.1) ∧ w.cell? ⟨b, off + i * 3 + 2, none⟩ = some (.int .i64 (cl i).2.2)
def CSl (w : World) (v : Value) (n : Nat) (cl : Nat → Int × Int × Int) : Prop := (v = .slice none 0 0 ∧ n = 0) ∨ ∃ b off cap, v = .slice (some ⟨b, off, none⟩) n cap ∧ b < w.heap.size ∧ CPts w b off n cl
theorem CPts.below {w w' : World} {b off n : Nat} {cl : Nat → Int × Int × Int} (h : CPts w b off n cl) (hb : Below w.heap.size w w') (hl : b < w.heap.size) : CPts w' b off n cl := fun i hi => by
  obtain ⟨h1, h2, h3⟩ := h i hi
  exact ⟨(hb.cell (p := ⟨b, off + i * 3, none⟩) hl).trans h1, (hb.cell (p := ⟨b, off + i * 3 + 1, none⟩) hl).trans h2, (hb.cell (p := ⟨b, off + i * 3 + 2, none⟩) hl).trans h3⟩
theorem CSl.below {w w' : World} {v : Value} {n : Nat} {cl : Nat → Int × Int × Int} (h : CSl w v n cl) (hb : Below w.heap.size w w') : CSl w' v n cl := by
  rcases h with h | ⟨b, off, cap, h1, h2, h3⟩
  · exact .inl h
  · exact .inr ⟨b, off, cap, h1, Nat.lt_of_lt_of_le h2 hb.size, h3.below hb h2⟩
theorem clueCells_length (f : Nat → Int × Int × Int) : ∀ n, (clueCells f n).length = 3 * n
  | 0 => rfl
  | n+1 => by unfold clueCells; rw [List.length_append, clueCells_length f n]; simp; omega
theorem clueCells_at (f : Nat → Int × Int × Int) : ∀ n i, i < n → (clueCells f n)[i * 3]? = some (.int .i64 (f i).1) ∧ (clueCells f n)[i * 3 + 1]? = some (.int .i64 (f i).2.1) ∧ (clueCells f n)[i * 3 + 2]? = some (.int .i64 (f i).2.2)
  | 0, i, h => absurd h (Nat.not_lt_zero i)
  | n+1, i, h => by
    have hl := clueCells_length f n
    unfold clueCells
    by_cases hi : i = n
    · subst hi
      refine ⟨?_, ?_, ?_⟩
      · rw [List.getElem?_append_right (by omega), show i * 3 - (clueCells f i).length = 0 by omega]; rfl
      · rw [List.getElem?_append_right (by omega), show i * 3 + 1 - (clueCells f i).length = 1 by omega]; rfl
      · rw [List.getElem?_append_right (by omega), show i * 3 + 2 - (clueCells f i).length = 2 by omega]; rfl
    · obtain ⟨h1, h2, h3⟩ := clueCells_at f n i (by omega)
      refine ⟨?_, ?_, ?_⟩
      · rw [List.getElem?_append_left (by omega)]; exact h1
      · rw [List.getElem?_append_left (by omega)]; exact h2
      · rw [List.getElem?_append_left (by omega)]; exact h3
theorem csl_of_row {w : World} {B : Nat} {e : TypeId} {v : Value} {n : Nat} {f : Nat → Int × Int × Int} (h : w.ownsRow B e 3 v n (clueCells f n)) : CSl w v n f := by
  rcases ownsRow_lt h with h | ⟨g, cap, h1, h2, h3⟩
  · exact .inl h
  · refine .inr ⟨g, 0, cap, h1, h2, fun i hi => ?_⟩
    obtain ⟨k1, k2, k3⟩ := clueCells_at f n i hi
    rw [Nat.zero_add]
    exact ⟨h3 _ _ k1, h3 _ _ k2, h3 _ _ k3⟩
/-- an axis in the making: its cells. -/
structure AAt (W : World) (A : Nat) (c0 c1 w0 w1 : Int) (v : Value) : Prop where
  k0 : W.cell? ⟨A, 0, none⟩ = some (.int .i64 c0)
  k1 : W.cell? ⟨A, 1, none⟩ = some (.int .i64 c1)
  k2 : W.cell? ⟨A, 2, none⟩ = some (.int .i64 w0)
  k3 : W.cell? ⟨A, 3, none⟩ = some (.int .i64 w1)
  k4 : W.cell? ⟨A, 4, none⟩ = some v
  f0 : W.frozen? ⟨A, 0, none⟩ = false
  f1 : W.frozen? ⟨A, 1, none⟩ = false
  f2 : W.frozen? ⟨A, 2, none⟩ = false
  f3 : W.frozen? ⟨A, 3, none⟩ = false
  f4 : W.frozen? ⟨A, 4, none⟩ = false
theorem AAt.new (w : World) (e : TypeId) (c0 c1 w0 w1 : Int) (v : Value) : AAt (w.alloc (Obj.cells #[.int .i64 c0, .int .i64 c1, .int .i64 w0, .int .i64 w1, v] e)) w.heap.size c0 c1 w0 w1 v :=
  ⟨cells_new w _ _ rfl, cells_new w _ _ rfl, cells_new w _ _ rfl, cells_new w _ _ rfl, cells_new w _ _ rfl, by simp [go_sem], by simp [go_sem], by simp [go_sem], by simp [go_sem], by simp [go_sem]⟩
theorem AAt.below {W W' : World} {A : Nat} {c0 c1 w0 w1 : Int} {v : Value} {B : Nat} (h : AAt W A c0 c1 w0 w1 v) (hb : Below B W W') (hl : A < B) : AAt W' A c0 c1 w0 w1 v :=
  ⟨(hb.cell (p := ⟨A, 0, none⟩) hl).trans h.k0, (hb.cell (p := ⟨A, 1, none⟩) hl).trans h.k1, (hb.cell (p := ⟨A, 2, none⟩) hl).trans h.k2, (hb.cell (p := ⟨A, 3, none⟩) hl).trans h.k3, (hb.cell (p := ⟨A, 4, none⟩) hl).trans h.k4,
   (hb.frozen (p := ⟨A, 0, none⟩) hl).trans h.f0, (hb.frozen (p := ⟨A, 1, none⟩) hl).trans h.f1, (hb.frozen (p := ⟨A, 2, none⟩) hl).trans h.f2, (hb.frozen (p := ⟨A, 3, none⟩) hl).trans h.f3, (hb.frozen (p := ⟨A, 4, none⟩) hl).trans h.f4⟩
theorem AAt.far {W W' : World} {A : Nat} {c0 c1 w0 w1 : Int} {v : Value} (h : AAt W A c0 c1 w0 w1 v) (hh : W'.heap[A]? = W.heap[A]?) : AAt W' A c0 c1 w0 w1 v := by
  have c : ∀ j, W'.cell? ⟨A, j, none⟩ = W.cell? ⟨A, j, none⟩ := fun j => World.cell?_of_block hh
  have f : ∀ j, W'.frozen? ⟨A, j, none⟩ = W.frozen? ⟨A, j, none⟩ := fun j => by unfold World.frozen?; rw [hh]
  exact ⟨(c _).trans h.k0, (c _).trans h.k1, (c _).trans h.k2, (c _).trans h.k3, (c _).trans h.k4, (f _).trans h.f0, (f _).trans h.f1, (f _).trans h.f2, (f _).trans h.f3, (f _).trans h.f4⟩
theorem AAt.set4 {W : World} {A : Nat} {c0 c1 w0 w1 : Int} {v : Value} (h : AAt W A c0 c1 w0 w1 v) (u : Value) : AAt (W.setCell ⟨A, 4, none⟩ u) A c0 c1 w0 w1 u := by
  refine ⟨?_, ?_, ?_, ?_, ?_, ?_, ?_, ?_, ?_, ?_⟩
  · rw [World.cell?_setCell_other W u (a := ⟨A, 4, none⟩) (b := ⟨A, 0, none⟩) (by intro h; cases h)]; exact h.k0
  · rw [World.cell?_setCell_other W u (a := ⟨A, 4, none⟩) (b := ⟨A, 1, none⟩) (by intro h; cases h)]; exact h.k1
  · rw [World.cell?_setCell_other W u (a := ⟨A, 4, none⟩) (b := ⟨A, 2, none⟩) (by intro h; cases h)]; exact h.k2
  · rw [World.cell?_setCell_other W u (a := ⟨A, 4, none⟩) (b := ⟨A, 3, none⟩) (by intro h; cases h)]; exact h.k3
  · exact World.cell?_setCell_same' _ _ _ (by rw [h.k4]; rfl)
  all_goals rw [World.frozen?_setCell]
  · exact h.f0
  · exact h.f1
  · exact h.f2
  · exact h.f3
  · exact h.f4
theorem AAt.grown {W W' : World} {A : Nat} {c0 c1 w0 w1 : Int} {v : Value} {row : Option Nat} (h : AAt W A c0 c1 w0 w1 v) (hg : W.grownBy W' row) (hl : A < W.heap.size) (hne : some A ≠ row) : AAt W' A c0 c1 w0 w1 v :=
  ⟨(hg.cell_far ⟨A, 0, none⟩ hl hne).trans h.k0, (hg.cell_far ⟨A, 1, none⟩ hl hne).trans h.k1, (hg.cell_far ⟨A, 2, none⟩ hl hne).trans h.k2, (hg.cell_far ⟨A, 3, none⟩ hl hne).trans h.k3, (hg.cell_far ⟨A, 4, none⟩ hl hne).trans h.k4,
   (hg.frozen_far ⟨A, 0, none⟩ hl hne).trans h.f0, (hg.frozen_far ⟨A, 1, none⟩ hl hne).trans h.f1, (hg.frozen_far ⟨A, 2, none⟩ hl hne).trans h.f2, (hg.frozen_far ⟨A, 3, none⟩ hl hne).trans h.f3, (hg.frozen_far ⟨A, 4, none⟩ hl hne).trans h.f4⟩
/-- what one append onto an axis's clues leaves. -/
theorem AAt.push {w wr w2 wA : World} {A R : Nat} {c0 c1 w0 w1 z0 z1 z2 z3 : Int} {v v' u : Value} {o1 o2 : Obj} {e : TypeId} {k k' B : Nat} {xs xs' : List Value} (hA : AAt wr A c0 c1 w0 w1 v) (hR : AAt wr R z0 z1 z2 z3 u) (hown : wr.ownsRow B e 3 v k xs) (hbl : Below w.heap.size w wr) (hbb : Below (wr.alloc o1).drew.heap.size (wr.alloc o1).drew w2)
    (hgrow : (w2.alloc o2).grownBy wA v.ownBlock) (hown1 : wA.ownsRow B e 3 v' k' xs') (hAB : A < B) (hRB : R < B) (hRA : R ≠ A) (hwA : w.heap.size ≤ A) (hB : B ≤ wr.heap.size) (hwB : w.heap.size ≤ B) :
    AAt (wA.setCell ⟨A, 4, none⟩ v') A c0 c1 w0 w1 v' ∧ AAt (wA.setCell ⟨A, 4, none⟩ v') R z0 z1 z2 z3 u ∧ (wA.setCell ⟨A, 4, none⟩ v').ownsRow B e 3 v' k' xs' ∧ Below w.heap.size w (wA.setCell ⟨A, 4, none⟩ v') ∧ B ≤ (wA.setCell ⟨A, 4, none⟩ v').heap.size := by
  have h1 : Below wr.heap.size wr (wr.alloc o1).drew := ((Below.refl _ _).alloc (Nat.le_refl _) _).drew
  have h2 : Below wr.heap.size wr w2 := h1.trans (hbb.mono h1.size)
  have h3 : Below wr.heap.size wr (w2.alloc o2) := h2.alloc h2.size _
  have hlt : ∀ j, v.ownBlock = some j → B ≤ j := fun j hj => (hown.lt j hj).1
  have hfar : ∀ j, j < B → some j ≠ v.ownBlock := fun j hj e => by have := hlt j e.symm; omega
  have hb4 : Below w.heap.size w wA := (hbl.trans (h3.mono hbl.size)).grown hgrow (Nat.le_trans hbl.size h3.size) fun j hj => Nat.le_trans hwB (hlt j hj)
  have hs3 := h3.size
  have hA' : AAt wA A c0 c1 w0 w1 v := (hA.below h3 (by omega)).grown hgrow (by omega) (hfar A hAB)
  have hR' : AAt wA R z0 z1 z2 z3 u := (hR.below h3 (by omega)).grown hgrow (by omega) (hfar R hRB)
  have hbs := hb4.setCell (p := ⟨A, 4, none⟩) hwA v'
  have hzz : B ≤ wA.heap.size := Nat.le_trans (Nat.le_trans hB hs3) hgrow.size
  refine ⟨hA'.set4 v', hR'.far (Below.heap_setCell wA _ v' R hRA), ownsRow_kept hown1 (KeptFrom.set (a := ⟨A, 4, none⟩) hAB v'), hbs, ?_⟩
  rw [World.size_setCell]; exact hzz
theorem KeptFrom.set5 {B b : Nat} (hb : b < B) (W : World) (x0 x1 x2 x3 x4 : Value) : KeptFrom B W (((((W.setCell ⟨b, 0, none⟩ x0).setCell ⟨b, 1, none⟩ x1).setCell ⟨b, 2, none⟩ x2).setCell ⟨b, 3, none⟩ x3).setCell ⟨b, 4, none⟩ x4) :=
  ((((KeptFrom.set (a := ⟨b, 0, none⟩) hb x0).trans (KeptFrom.set (a := ⟨b, 1, none⟩) hb x1)).trans (KeptFrom.set (a := ⟨b, 2, none⟩) hb x2)).trans (KeptFrom.set (a := ⟨b, 3, none⟩) hb x3)).trans (KeptFrom.set (a := ⟨b, 4, none⟩) hb x4)
theorem below_set5 {B b : Nat} {w W : World} (h : Below B w W) (hb : B ≤ b) (x0 x1 x2 x3 x4 : Value) : Below B w (((((W.setCell ⟨b, 0, none⟩ x0).setCell ⟨b, 1, none⟩ x1).setCell ⟨b, 2, none⟩ x2).setCell ⟨b, 3, none⟩ x3).setCell ⟨b, 4, none⟩ x4) :=
  ((((h.setCell (p := ⟨b, 0, none⟩) hb x0).setCell (p := ⟨b, 1, none⟩) hb x1).setCell (p := ⟨b, 2, none⟩) hb x2).setCell (p := ⟨b, 3, none⟩) hb x3).setCell (p := ⟨b, 4, none⟩) hb x4
set_option maxRecDepth 100000 in
set_option maxHeartbeats 4000000 in
theorem alongX_some (cs : Array Value) (m : Mach) (b off : Nat) (w : World) (hcs : SCells cs m) (ha : m.ra = some ⟨b, off, none⟩) (hb : b < w.heap.size) (hp : RPts w b off m.rn m.RB m.RX m.RY m.RE) (hr : m.rn ≤ 1000) (hok : ∀ i, i < m.rn → readB (m.RB i) (m.RX i) (m.RY i) (m.RE i) = true) :
    Calls Tryz.prog 95 #[.agg cs] w fun e w' => ∃ v, e = .returned (.agg #[.int .i64 m.c0, .int .i64 m.c1, .int .i64 m.w0, .int .i64 m.w1, v]) ∧ w'.ownsRow w.heap.size 117 3 v m.rn (clueCells (fun i => (m.RB i, m.RX i - m.RE i, m.RX i + m.RE i)) m.rn) ∧ Below w.heap.size w w' := by
  obtain ⟨i0, hi, hz0, hz1, hz2⟩ := info_parts Tryz.info117
  obtain ⟨sa, sn, sc, SX, SY, c0, c1, d0, d1, w0, w1, v0, v1, ra, rn, rc, RB, RX, RY, RE⟩ := m
  dsimp only at *
  subst ha
  obtain ⟨k62, k0, k1, k2, k3, k4, k5, k6, k7, k8, k9⟩ := hcs
  dsimp only at k0 k1 k2 k3 k4 k5 k6 k7 k8 k9
  clear k62
  go_enter Tryz.func95, Tryz.ntmps95
  go_wp2
  obtain ⟨W0, hW0⟩ : ∃ W0, ((w.alloc (Obj.cells cs 93)).alloc (Obj.cells #[.int .i64 0, .int .i64 0, .int .i64 0, .int .i64 0, .slice none 0 0] 114)).alloc (Obj.cells #[.int .i64 c0, .int .i64 c1, .int .i64 w0, .int .i64 w1, .slice none 0 0] 114) = W0 := ⟨_, rfl⟩
  have hsz : W0.heap.size = w.heap.size + 1 + 1 + 1 := by rw [← hW0, World.size_alloc, World.size_alloc, World.size_alloc]
  have hb0 : Below w.heap.size w W0 := by rw [← hW0]; exact (((Below.refl _ _).alloc (Nat.le_refl _) _).alloc (by rw [World.size_alloc]; omega) _).alloc (by rw [World.size_alloc, World.size_alloc]; omega) _
  have hA0 : AAt W0 (w.heap.size + 1 + 1) c0 c1 w0 w1 (.slice none 0 0) := by
    have h := AAt.new ((w.alloc (Obj.cells cs 93)).alloc (Obj.cells #[.int .i64 0, .int .i64 0, .int .i64 0, .int .i64 0, .slice none 0 0] 114)) 114 c0 c1 w0 w1 (.slice none 0 0)
    rw [World.size_alloc, World.size_alloc, hW0] at h; exact h
  have hR0 : AAt W0 (w.heap.size + 1) 0 0 0 0 (.slice none 0 0) := by
    have h := (AAt.new (w.alloc (Obj.cells cs 93)) 114 0 0 0 0 (.slice none 0 0)).below ((Below.refl _ _).alloc (Nat.le_refl _) (Obj.cells #[.int .i64 c0, .int .i64 c1, .int .i64 w0, .int .i64 w1, .slice none 0 0] 114)) (by simp only [World.size_alloc]; omega)
    rw [World.size_alloc, hW0] at h; exact h
  rw [hW0]
  clear hW0
  go_loopw [17] (fun i wr => ∃ (k : Nat) (v : Value), k ≤ rn ∧ i = .int .i64 k ∧ AAt wr (w.heap.size + 1 + 1) c0 c1 w0 w1 v ∧ AAt wr (w.heap.size + 1) 0 0 0 0 (.slice none 0 0) ∧ wr.ownsRow (w.heap.size + 1 + 1 + 1) 117 3 v k (clueCells (fun i => (RB i, RX i - RE i, RX i + RE i)) k) ∧ Below w.heap.size w wr ∧ w.heap.size + 1 + 1 + 1 ≤ wr.heap.size) (fun i _ => rn - (intOf i).toNat)
  case atStart => exact ⟨0, _, Nat.zero_le _, rfl, hA0, hR0, ⟨rfl, .inl ⟨rfl, rfl⟩⟩, hb0, by omega⟩
  case round =>
    obtain ⟨k, v, hk, rfl, hA, hR, hown, hbl, hsw⟩ := hrel
    obtain ⟨va, vc, rfl⟩ := ownsRow_slice hown
    by_cases hlt : k < rn
    · obtain ⟨e1, e2, e3, e4⟩ := hp.below hbl hb k hlt
      have hk0 : (0 : Int) ≤ (k : Int) := Int.natCast_nonneg _
      have hk1 : (k : Int) < (rn : Int) := by omega
      have hrd := hok k hlt
      unfold readB at hrd
      rw [Bool.and_eq_true, Bool.and_eq_true] at hrd
      obtain ⟨a1, a2, a3⟩ := hrd
      unfold ptB at a2
      rw [Bool.and_eq_true] at a2
      have a21 := inB_iff.1 a2.1
      have a22 := inB_iff.1 a2.2
      have a4 := inB_iff.1 a3
      have ak : (Value.slice va k vc).ownBlock ≠ some (w.heap.size + 1 + 1) := fun e => by have := (hown.lt _ e).1; omega
      have hA' := hA
      have hR' := hR
      obtain ⟨q0, q1, q2, q3, q4, q5, q6, q7, q8, q9⟩ := hA'
      have hwr : w.heap.size + 1 + 1 ≠ wr.heap.size := by omega
      have ak2 : (Value.slice va k vc).ownBlock ≠ some wr.heap.size := fun e => by have := (hown.lt _ e).2; omega
      have qa4 : (wr.alloc (Obj.cells #[.int .i64 (RB k), .int .i64 (RX k), .int .i64 (RY k), .int .i64 (RE k)] 60)).drew.cell? ⟨w.heap.size + 1 + 1, 4, none⟩ = some (.slice va k vc) := (((Below.refl _ wr).alloc (Nat.le_refl _) _).cell (p := ⟨w.heap.size + 1 + 1, 4, none⟩) (by show w.heap.size + 1 + 1 < _; omega)).trans q4
      have qa9 : (wr.alloc (Obj.cells #[.int .i64 (RB k), .int .i64 (RX k), .int .i64 (RY k), .int .i64 (RE k)] 60)).drew.frozen? ⟨w.heap.size + 1 + 1, 4, none⟩ = false := (((Below.refl _ wr).alloc (Nat.le_refl _) _).frozen (p := ⟨w.heap.size + 1 + 1, 4, none⟩) (by show w.heap.size + 1 + 1 < _; omega)).trans q9
      go_wp2_with fail
      refine wp_region_late [13] (fun w9 => w9.cell? ⟨wr.heap.size, 0, none⟩ = some (.int .i64 (RB k)) ∧ w9.cell? ⟨wr.heap.size, 1, none⟩ = some (.int .i64 (RX k)) ∧ w9.cell? ⟨wr.heap.size, 3, none⟩ = some (.int .i64 (RE k))) (fun w9 => w9.cell? ⟨w.heap.size + 1 + 1, 4, none⟩ = some (.slice va k vc)) (by kernel_rfl) ?_ (fun hHeld => ?_)
      · (((try dsimp only); refine ⟨⟨?_, ?_, ?_⟩, ?_⟩ <;> first | exact qa4 | (simp only [World.cell?_drew]; exact cells_new wr _ _ rfl)))
      refine tk2 0 rfl (by (intro w9 hSw; (try dsimp only at hSw); go_simp) <;> with_reducible rfl) hHeld ?_
      refine wpAnyP_take 8 (i := 1) (v := ?_) rfl (by kernel_rfl) (by kernel_rfl) (by kernel_rfl) (by kernel_rfl) (by rfl) (by kernel_rfl) (fun _ _ _ h => h) (Or.inl ⟨by rfl, ?_⟩) hHeld ?_
      rotate_left 1
      · ((intro w9 hSw; (try dsimp only at hSw); go_simp) <;> with_reducible rfl)
      (try simp only [Act.put, xpA, xpZ, xpS])
      refine tk2 2 rfl (by (intro w9 hSw; (try dsimp only at hSw); go_simp) <;> with_reducible rfl) hHeld ?_
      refine tk2 3 rfl (by (intro w9 hSw; (try dsimp only at hSw); go_simp) <;> with_reducible rfl) hHeld ?_
      refine tk2 4 rfl (by (intro w9 hSw; (try dsimp only at hSw); go_simp) <;> with_reducible rfl) hHeld ?_
      refine tk2 5 rfl (by (intro w9 hSw; (try dsimp only at hSw); go_simp) <;> with_reducible rfl) hHeld ?_
      refine tk2 6 rfl (by (intro w9 hSw; (try dsimp only at hSw); go_simp) <;> with_reducible rfl) hHeld ?_
      refine tk2 7 rfl (by (intro w9 hSw; (try dsimp only at hSw); go_simp) <;> with_reducible rfl) hHeld ?_
      refine rd1 8 rfl (fun K hK => ?_)
      go_simp
      (go_at_call 54; refine (around_any _ _ (by omega) (by omega) (by omega) (by omega) _).mono ?_; rintro e w2 ⟨rfl, hbb⟩; have hs := hbb.size; (try simp only [World.size_alloc, World.size_drew] at hs); have q4' := hbb.cell (p := ⟨w.heap.size + 1 + 1, 4, none⟩) (by simp; omega) |>.trans qa4; have q9' := hbb.frozen (p := ⟨w.heap.size + 1 + 1, 4, none⟩) (by simp; omega) |>.trans qa9; have q4b := fun o => (((Below.refl w2.heap.size w2).alloc (Nat.le_refl _) o).cell (p := ⟨w.heap.size + 1 + 1, 4, none⟩) (by show w.heap.size + 1 + 1 < w2.heap.size; omega)).trans q4')
      refine hK.out _ _ ?_ (fun hHeld => ?_)
      · ((obtain ⟨⟨hc1, hc2, hc3⟩, hc4⟩ := hHeld; exact ⟨⟨(hbb.cell (p := ⟨wr.heap.size, 0, none⟩) (by simp)).trans hc1, (hbb.cell (p := ⟨wr.heap.size, 1, none⟩) (by simp)).trans hc2, (hbb.cell (p := ⟨wr.heap.size, 3, none⟩) (by simp)).trans hc3⟩, q4'⟩))
      clear hK K
      (try simp only [Act.put, xpA, xpZ, xpS])
      refine tk2 9 rfl (by (intro w9 hSw; (try dsimp only at hSw); go_simp) <;> with_reducible rfl) hHeld ?_
      refine rd1 10 rfl (fun K hK => ?_)
      go_simp
      refine hK.out _ _ ?_ (fun hHeld => ?_)
      · ((obtain ⟨⟨hc1, hc2, hc3⟩, hc4⟩ := hHeld; exact ⟨⟨(((Below.refl w2.heap.size w2).alloc (Nat.le_refl _) _).cell (p := ⟨wr.heap.size, 0, none⟩) (by show wr.heap.size < _; omega)).trans hc1, (((Below.refl w2.heap.size w2).alloc (Nat.le_refl _) _).cell (p := ⟨wr.heap.size, 1, none⟩) (by show wr.heap.size < _; omega)).trans hc2, (((Below.refl w2.heap.size w2).alloc (Nat.le_refl _) _).cell (p := ⟨wr.heap.size, 3, none⟩) (by show wr.heap.size < _; omega)).trans hc3⟩, q4b _⟩))
      clear hK K
      (try simp only [Act.put, xpA, xpZ, xpS])
      refine rd1 11 rfl (fun K hK => ?_)
      (refine step_append_lies _ (by rfl) _ _ _ (by rfl) (w.heap.size + 1 + 1 + 1) 117 i0 _ 3 24 Tryz.underlying112 hi hz0 hz1 hz2 rfl (by omega) (.slice va k vc) k (clueCells (fun i => (RB i, RX i - RE i, RX i + RE i)) k) (by rfl) ((ownsRow_below ((hown.alloc _).drew) hbb).alloc _) ⟨w2.heap.size, 0, none⟩ 1 1 [.int .i64 (RB k), .int .i64 (RX k - RE k), .int .i64 (RX k + RE k)] (by rfl) (by rfl) (World.news_of_block (cs := #[.int .i64 (RB k), .int .i64 (RX k - RE k), .int .i64 (RX k + RE k)]) (t := 117) (fr := (0, 0)) (heap_alloc_new w2 _)) (by simp [Value.oneCell']) (by omega) (by unfold maxLen; omega) (by omega) (by simp; omega) (w2.heap.size + 1) (by simp) ?_; intro gg cap wA hown1 hgrow hat hltt; have q4'' := (hgrow.cell_far ⟨w.heap.size + 1 + 1, 4, none⟩ (by simp; omega) (Ne.symm ak)).trans ((((Below.refl w2.heap.size w2).alloc (Nat.le_refl _) _).cell (p := ⟨w.heap.size + 1 + 1, 4, none⟩) (by show w.heap.size + 1 + 1 < w2.heap.size; omega)).trans q4'); have q9'' := (hgrow.frozen_far ⟨w.heap.size + 1 + 1, 4, none⟩ (by simp; omega) (Ne.symm ak)).trans ((((Below.refl w2.heap.size w2).alloc (Nat.le_refl _) _).frozen (p := ⟨w.heap.size + 1 + 1, 4, none⟩) (by show w.heap.size + 1 + 1 < w2.heap.size; omega)).trans q9'))
      refine hK.out _ _ ?_ (fun hHeld => ?_)
      · ((obtain ⟨⟨hc1, hc2, hc3⟩, hc4⟩ := hHeld; exact ⟨⟨(hgrow.cell_far ⟨wr.heap.size, 0, none⟩ (by simp; omega) (Ne.symm ak2)).trans hc1, (hgrow.cell_far ⟨wr.heap.size, 1, none⟩ (by simp; omega) (Ne.symm ak2)).trans hc2, (hgrow.cell_far ⟨wr.heap.size, 3, none⟩ (by simp; omega) (Ne.symm ak2)).trans hc3⟩, q4''⟩))
      clear hK K
      (try simp only [Act.put, xpA, xpZ, xpS])
      refine tk2 12 rfl (by (intro w9 hSw; (try dsimp only at hSw); go_simp) <;> with_reducible rfl) hHeld ?_
      refine wpAnyP_ready (rs := [13]) (by kernel_rfl) (by simp) ?_
      refine AllReadyP.behind (o := _) rfl (by kernel_rfl) (fun K hK => ?_) AllReadyP.nil
      · go_simp
        refine hK.out _ _ ?_ (fun hHeld => ?_)
        · ((obtain ⟨hc1, hc2, hc3⟩ := hHeld.1; exact ⟨(World.cell?_setCell_far _ _ _ _ (by simp; omega)).trans hc1, (World.cell?_setCell_far _ _ _ _ (by simp; omega)).trans hc2, (World.cell?_setCell_far _ _ _ _ (by simp; omega)).trans hc3⟩))
        clear hK K
        (try simp only [Act.put, xpA, xpZ, xpS])
        refine wpAnyP_done (by kernel_rfl) ?_ _
        (try simp only [Act.put, List.getElem_toArray, List.getElem_cons_zero, List.getElem_cons_succ, xpA, xpZ, xpS])
        obtain ⟨p1, p2, p3, p4, p5⟩ := AAt.push (A := w.heap.size + 1 + 1) (R := w.heap.size + 1) hA hR hown hbl hbb hgrow hown1 (by omega) (by omega) (by omega) (by omega) hsw (by omega)
        clear hgrow hbb hA hR hown hown1 hbl q4' q9' q4b q4'' q9'' qa4 qa9
        go_wp2
        go_roundw
        case rel => exact ⟨k + 1, _, by omega, by go_num, p1, p2, p3, p4, p5⟩
        case measure => simp [intOf]; omega
    · obtain rfl : rn = k := by omega
      obtain ⟨q0, q1, q2, q3, q4, q5, q6, q7, q8, q9⟩ := hA
      obtain ⟨r0, r1, r2, r3, r4, r5, r6, r7, r8, r9⟩ := hR
      go_wp2
      refine bodyPost_ret (v := .agg #[.int .i64 c0, .int .i64 c1, .int .i64 w0, .int .i64 w1, .slice va rn vc]) (by simp [results, Tryz.results95, go_sem, r0, r1, r2, r3, r4]) rfl ⟨_, rfl, ownsRow_base (by omega) (ownsRow_kept hown (KeptFrom.set5 (by omega) _ _ _ _ _ _)), below_set5 hbl (by omega) _ _ _ _ _⟩
set_option maxRecDepth 100000 in
set_option maxHeartbeats 4000000 in
theorem alongX_nil (cs : Array Value) (m : Mach) (w : World) (hcs : SCells cs m) (h0 : m.rn = 0) :
    Calls Tryz.prog 95 #[.agg cs] w fun e w' => ∃ v, e = .returned (.agg #[.int .i64 m.c0, .int .i64 m.c1, .int .i64 m.w0, .int .i64 m.w1, v]) ∧ v = .slice none 0 0 ∧ Below w.heap.size w w' := by
  obtain ⟨sa, sn, sc, SX, SY, c0, c1, d0, d1, w0, w1, v0, v1, ra, rn, rc, RB, RX, RY, RE⟩ := m
  dsimp only at *
  subst h0
  obtain ⟨k62, k0, k1, k2, k3, k4, k5, k6, k7, k8, k9⟩ := hcs
  dsimp only at k0 k1 k2 k3 k4 k5 k6 k7 k8 k9
  clear k62
  go_enter Tryz.func95, Tryz.ntmps95
  go_wp2
  obtain ⟨W0, hW0⟩ : ∃ W0, ((w.alloc (Obj.cells cs 93)).alloc (Obj.cells #[.int .i64 0, .int .i64 0, .int .i64 0, .int .i64 0, .slice none 0 0] 114)).alloc (Obj.cells #[.int .i64 c0, .int .i64 c1, .int .i64 w0, .int .i64 w1, .slice none 0 0] 114) = W0 := ⟨_, rfl⟩
  have hsz : W0.heap.size = w.heap.size + 1 + 1 + 1 := by rw [← hW0, World.size_alloc, World.size_alloc, World.size_alloc]
  have hb0 : Below w.heap.size w W0 := by rw [← hW0]; exact (((Below.refl _ _).alloc (Nat.le_refl _) _).alloc (by rw [World.size_alloc]; omega) _).alloc (by rw [World.size_alloc, World.size_alloc]; omega) _
  have hA0 : AAt W0 (w.heap.size + 1 + 1) c0 c1 w0 w1 (.slice none 0 0) := by
    have h := AAt.new ((w.alloc (Obj.cells cs 93)).alloc (Obj.cells #[.int .i64 0, .int .i64 0, .int .i64 0, .int .i64 0, .slice none 0 0] 114)) 114 c0 c1 w0 w1 (.slice none 0 0)
    rw [World.size_alloc, World.size_alloc, hW0] at h; exact h
  have hR0 : AAt W0 (w.heap.size + 1) 0 0 0 0 (.slice none 0 0) := by
    have h := (AAt.new (w.alloc (Obj.cells cs 93)) 114 0 0 0 0 (.slice none 0 0)).below ((Below.refl _ _).alloc (Nat.le_refl _) (Obj.cells #[.int .i64 c0, .int .i64 c1, .int .i64 w0, .int .i64 w1, .slice none 0 0] 114)) (by simp only [World.size_alloc]; omega)
    rw [World.size_alloc, hW0] at h; exact h
  rw [hW0]
  clear hW0
  obtain ⟨r0, r1, r2, r3, r4, r5, r6, r7, r8, r9⟩ := hR0
  obtain ⟨q0, q1, q2, q3, q4, q5, q6, q7, q8, q9⟩ := hA0
  refine wp_loop_rounds 1 ?_
  rw [rounds_succ]
  go_wp2
  refine bodyPost_ret (v := .agg #[.int .i64 c0, .int .i64 c1, .int .i64 w0, .int .i64 w1, .slice none 0 0]) (by simp [results, Tryz.results95, go_sem, r0, r1, r2, r3, r4]) rfl ⟨_, rfl, rfl, below_set5 hb0 (by omega) _ _ _ _ _⟩
theorem alongX_any (cs : Array Value) (m : Mach) (w : World) (hcs : SCells cs m) (h : RSl w (.slice m.ra m.rn m.rc) m.rn m.RB m.RX m.RY m.RE) (hr : m.rn ≤ 1000) (hok : ∀ i, i < m.rn → readB (m.RB i) (m.RX i) (m.RY i) (m.RE i) = true) :
    Calls Tryz.prog 95 #[.agg cs] w fun e w' => ∃ v, e = .returned (.agg #[.int .i64 m.c0, .int .i64 m.c1, .int .i64 m.w0, .int .i64 m.w1, v]) ∧ w'.ownsRow w.heap.size 117 3 v m.rn (clueCells (fun i => (m.RB i, m.RX i - m.RE i, m.RX i + m.RE i)) m.rn) ∧ (m.rn = 0 → v = .slice none 0 0) ∧ Below w.heap.size w w' := by
  by_cases h0 : m.rn = 0
  · refine (alongX_nil cs m w hcs h0).mono ?_
    rintro e w' ⟨v, rfl, rfl, hb⟩
    exact ⟨_, rfl, by rw [h0]; exact ⟨rfl, .inl ⟨rfl, rfl⟩⟩, fun _ => rfl, hb⟩
  · rcases h with ⟨a, c, h1, h2⟩ | ⟨b, off, cap, h1, h2, h3⟩
    · exact absurd h2 h0
    · rw [Value.slice.injEq] at h1
      refine (alongX_some cs m b off w hcs h1.1 h2 h3 hr hok).mono ?_
      rintro e w' ⟨v, rfl, h4, hb⟩
      exact ⟨v, rfl, h4, fun h => absurd h h0, hb⟩
end Go.Proofs.YtjhpklolpmaopaaGreatDoor
namespace Go.Proofs.YtjhpklolpmaopaaGreatDoor
open Go.RowKit
set_option maxRecDepth 100000 in
set_option maxHeartbeats 4000000 in
theorem alongY_some (cs : Array Value) (m : Mach) (b off : Nat) (w : World) (hcs : SCells cs m) (ha : m.ra = some ⟨b, off, none⟩) (hb : b < w.heap.size) (hp : RPts w b off m.rn m.RB m.RX m.RY m.RE) (hr : m.rn ≤ 1000) (hok : ∀ i, i < m.rn → readB (m.RB i) (m.RX i) (m.RY i) (m.RE i) = true) :
  Calls Tryz.prog 96 #[.agg cs] w fun e w' => ∃ v, e = .returned (.agg #[.int .i64 m.d0, .int .i64 m.d1, .int .i64 m.v0, .int .i64 m.v1, v]) ∧ w'.ownsRow w.heap.size 117 3 v m.rn (clueCells (fun i => (m.RB i, m.RY i - m.RE i, m.RY i + m.RE i)) m.rn) ∧ Below w.heap.size w w' := by
 obtain ⟨i0, hi, hz0, hz1, hz2⟩ := info_parts Tryz.info117
 obtain ⟨sa, sn, sc, SX, SY, c0, c1, d0, d1, w0, w1, v0, v1, ra, rn, rc, RB, RX, RY, RE⟩ := m
 dsimp only at *
 subst ha
 obtain ⟨k62, k0, k1, k2, k3, k4, k5, k6, k7, k8, k9⟩ := hcs
 dsimp only at k0 k1 k2 k3 k4 k5 k6 k7 k8 k9
 clear k62
 go_enter Tryz.func96, Tryz.ntmps96
 go_wp2
 obtain ⟨W0, hW0⟩ : ∃ W0, ((w.alloc (Obj.cells cs 93)).alloc (Obj.cells #[.int .i64 0, .int .i64 0, .int .i64 0, .int .i64 0, .slice none 0 0] 114)).alloc (Obj.cells #[.int .i64 d0, .int .i64 d1, .int .i64 v0, .int .i64 v1, .slice none 0 0] 114) = W0 := ⟨_, rfl⟩
 have hsz : W0.heap.size = w.heap.size + 1 + 1 + 1 := by rw [← hW0, World.size_alloc, World.size_alloc, World.size_alloc]
 have hb0 : Below w.heap.size w W0 := by rw [← hW0]; exact (((Below.refl _ _).alloc (Nat.le_refl _) _).alloc (by rw [World.size_alloc]; omega) _).alloc (by rw [World.size_alloc, World.size_alloc]; omega) _
 have hA0 : AAt W0 (w.heap.size + 1 + 1) d0 d1 v0 v1 (.slice none 0 0) := by
  have h := AAt.new ((w.alloc (Obj.cells cs 93)).alloc (Obj.cells #[.int .i64 0, .int .i64 0, .int .i64 0, .int .i64 0, .slice none 0 0] 114)) 114 d0 d1 v0 v1 (.slice none 0 0)
  rw [World.size_alloc, World.size_alloc, hW0] at h; exact h
 have hR0 : AAt W0 (w.heap.size + 1) 0 0 0 0 (.slice none 0 0) := by
  have h := (AAt.new (w.alloc (Obj.cells cs 93)) 114 0 0 0 0 (.slice none 0 0)).below ((Below.refl _ _).alloc (Nat.le_refl _) (Obj.cells #[.int .i64 d0, .int .i64 d1, .int .i64 v0, .int .i64 v1, .slice none 0 0] 114)) (by simp only [World.size_alloc]; omega)
  rw [World.size_alloc, hW0] at h; exact h
 rw [hW0]
 clear hW0
 go_loopw [17] (fun i wr => ∃ (k : Nat) (v : Value), k ≤ rn ∧ i = .int .i64 k ∧ AAt wr (w.heap.size + 1 + 1) d0 d1 v0 v1 v ∧ AAt wr (w.heap.size + 1) 0 0 0 0 (.slice none 0 0) ∧ wr.ownsRow (w.heap.size + 1 + 1 + 1) 117 3 v k (clueCells (fun i => (RB i, RY i - RE i, RY i + RE i)) k) ∧ Below w.heap.size w wr ∧ w.heap.size + 1 + 1 + 1 ≤ wr.heap.size) (fun i _ => rn - (intOf i).toNat)
 case atStart => exact ⟨0, _, Nat.zero_le _, rfl, hA0, hR0, ⟨rfl, .inl ⟨rfl, rfl⟩⟩, hb0, by omega⟩
 case round =>
  obtain ⟨k, v, hk, rfl, hA, hR, hown, hbl, hsw⟩ := hrel
  obtain ⟨va, vc, rfl⟩ := ownsRow_slice hown
  by_cases hlt : k < rn
  ·obtain ⟨e1, e2, e3, e4⟩ := hp.below hbl hb k hlt
   have hk0 : (0 : Int) ≤ (k : Int) := Int.natCast_nonneg _
   have hk1 : (k : Int) < (rn : Int) := by omega
   have hrd := hok k hlt
   unfold readB at hrd
   rw [Bool.and_eq_true, Bool.and_eq_true] at hrd
   obtain ⟨a1, a2, a3⟩ := hrd
   unfold ptB at a2
   rw [Bool.and_eq_true] at a2
   have a21 := inB_iff.1 a2.1
   have a22 := inB_iff.1 a2.2
   have a4 := inB_iff.1 a3
   have ak : (Value.slice va k vc).ownBlock ≠ some (w.heap.size + 1 + 1) := fun e => by have := (hown.lt _ e).1; omega
   have hA' := hA
   have hR' := hR
   obtain ⟨q0, q1, q2, q3, q4, q5, q6, q7, q8, q9⟩ := hA'
   have hwr : w.heap.size + 1 + 1 ≠ wr.heap.size := by omega
   have ak2 : (Value.slice va k vc).ownBlock ≠ some wr.heap.size := fun e => by have := (hown.lt _ e).2; omega
   have qa4 : (wr.alloc (Obj.cells #[.int .i64 (RB k), .int .i64 (RX k), .int .i64 (RY k), .int .i64 (RE k)] 60)).drew.cell? ⟨w.heap.size + 1 + 1, 4, none⟩ = some (.slice va k vc) := (((Below.refl _ wr).alloc (Nat.le_refl _) _).cell (p := ⟨w.heap.size + 1 + 1, 4, none⟩) (by show w.heap.size + 1 + 1 < _; omega)).trans q4
   have qa9 : (wr.alloc (Obj.cells #[.int .i64 (RB k), .int .i64 (RX k), .int .i64 (RY k), .int .i64 (RE k)] 60)).drew.frozen? ⟨w.heap.size + 1 + 1, 4, none⟩ = false := (((Below.refl _ wr).alloc (Nat.le_refl _) _).frozen (p := ⟨w.heap.size + 1 + 1, 4, none⟩) (by show w.heap.size + 1 + 1 < _; omega)).trans q9
   go_wp2_with fail
   refine wp_region_late [13] (fun w9 => w9.cell? ⟨wr.heap.size, 0, none⟩ = some (.int .i64 (RB k)) ∧ w9.cell? ⟨wr.heap.size, 2, none⟩ = some (.int .i64 (RY k)) ∧ w9.cell? ⟨wr.heap.size, 3, none⟩ = some (.int .i64 (RE k))) (fun w9 => w9.cell? ⟨w.heap.size + 1 + 1, 4, none⟩ = some (.slice va k vc)) (by kernel_rfl) ?_ (fun hHeld => ?_)
   ·(((try dsimp only); refine ⟨⟨?_, ?_, ?_⟩, ?_⟩ <;> first | exact qa4 | (simp only [World.cell?_drew]; exact cells_new wr _ _ rfl)))
   refine tk2 0 rfl (by (intro w9 hSw; (try dsimp only at hSw); go_simp) <;> with_reducible rfl) hHeld ?_
   refine wpAnyP_take 8 (i := 1) (v := ?_) rfl (by kernel_rfl) (by kernel_rfl) (by kernel_rfl) (by kernel_rfl) (by rfl) (by kernel_rfl) (fun _ _ _ h => h) (Or.inl ⟨by rfl, ?_⟩) hHeld ?_
   rotate_left 1
   ·((intro w9 hSw; (try dsimp only at hSw); go_simp) <;> with_reducible rfl)
   (try simp only [Act.put, xpA, xpZ, xpS])
   refine tk2 2 rfl (by (intro w9 hSw; (try dsimp only at hSw); go_simp) <;> with_reducible rfl) hHeld ?_
   refine tk2 3 rfl (by (intro w9 hSw; (try dsimp only at hSw); go_simp) <;> with_reducible rfl) hHeld ?_
   refine tk2 4 rfl (by (intro w9 hSw; (try dsimp only at hSw); go_simp) <;> with_reducible rfl) hHeld ?_
   refine tk2 5 rfl (by (intro w9 hSw; (try dsimp only at hSw); go_simp) <;> with_reducible rfl) hHeld ?_
   refine tk2 6 rfl (by (intro w9 hSw; (try dsimp only at hSw); go_simp) <;> with_reducible rfl) hHeld ?_
   refine tk2 7 rfl (by (intro w9 hSw; (try dsimp only at hSw); go_simp) <;> with_reducible rfl) hHeld ?_
   refine rd1 8 rfl (fun K hK => ?_)
   go_simp
   (go_at_call 54; refine (around_any _ _ (by omega) (by omega) (by omega) (by omega) _).mono ?_; rintro e w2 ⟨rfl, hbb⟩; have hs := hbb.size; (try simp only [World.size_alloc, World.size_drew] at hs); have q4' := hbb.cell (p := ⟨w.heap.size + 1 + 1, 4, none⟩) (by simp; omega) |>.trans qa4; have q9' := hbb.frozen (p := ⟨w.heap.size + 1 + 1, 4, none⟩) (by simp; omega) |>.trans qa9; have q4b := fun o => (((Below.refl w2.heap.size w2).alloc (Nat.le_refl _) o).cell (p := ⟨w.heap.size + 1 + 1, 4, none⟩) (by show w.heap.size + 1 + 1 < w2.heap.size; omega)).trans q4')
   refine hK.out _ _ ?_ (fun hHeld => ?_)
   ·((obtain ⟨⟨hc1, hc2, hc3⟩, hc4⟩ := hHeld; exact ⟨⟨(hbb.cell (p := ⟨wr.heap.size, 0, none⟩) (by simp)).trans hc1, (hbb.cell (p := ⟨wr.heap.size, 2, none⟩) (by simp)).trans hc2, (hbb.cell (p := ⟨wr.heap.size, 3, none⟩) (by simp)).trans hc3⟩, q4'⟩))
   clear hK K
   (try simp only [Act.put, xpA, xpZ, xpS])
   refine tk2 9 rfl (by (intro w9 hSw; (try dsimp only at hSw); go_simp) <;> with_reducible rfl) hHeld ?_
   refine rd1 10 rfl (fun K hK => ?_)
   go_simp
   refine hK.out _ _ ?_ (fun hHeld => ?_)
   ·((obtain ⟨⟨hc1, hc2, hc3⟩, hc4⟩ := hHeld; exact ⟨⟨(((Below.refl w2.heap.size w2).alloc (Nat.le_refl _) _).cell (p := ⟨wr.heap.size, 0, none⟩) (by show wr.heap.size < _; omega)).trans hc1, (((Below.refl w2.heap.size w2).alloc (Nat.le_refl _) _).cell (p := ⟨wr.heap.size, 2, none⟩) (by show wr.heap.size < _; omega)).trans hc2, (((Below.refl w2.heap.size w2).alloc (Nat.le_refl _) _).cell (p := ⟨wr.heap.size, 3, none⟩) (by show wr.heap.size < _; omega)).trans hc3⟩, q4b _⟩))
   clear hK K
   (try simp only [Act.put, xpA, xpZ, xpS])
   refine rd1 11 rfl (fun K hK => ?_)
   (refine step_append_lies _ (by rfl) _ _ _ (by rfl) (w.heap.size + 1 + 1 + 1) 117 i0 _ 3 24 Tryz.underlying112 hi hz0 hz1 hz2 rfl (by omega) (.slice va k vc) k (clueCells (fun i => (RB i, RY i - RE i, RY i + RE i)) k) (by rfl) ((ownsRow_below ((hown.alloc _).drew) hbb).alloc _) ⟨w2.heap.size, 0, none⟩ 1 1 [.int .i64 (RB k), .int .i64 (RY k - RE k), .int .i64 (RY k + RE k)] (by rfl) (by rfl) (World.news_of_block (cs := #[.int .i64 (RB k), .int .i64 (RY k - RE k), .int .i64 (RY k + RE k)]) (t := 117) (fr := (0, 0)) (heap_alloc_new w2 _)) (by simp [Value.oneCell']) (by omega) (by unfold maxLen; omega) (by omega) (by simp; omega) (w2.heap.size + 1) (by simp) ?_; intro gg cap wA hown1 hgrow hat hltt; have q4'' := (hgrow.cell_far ⟨w.heap.size + 1 + 1, 4, none⟩ (by simp; omega) (Ne.symm ak)).trans ((((Below.refl w2.heap.size w2).alloc (Nat.le_refl _) _).cell (p := ⟨w.heap.size + 1 + 1, 4, none⟩) (by show w.heap.size + 1 + 1 < w2.heap.size; omega)).trans q4'); have q9'' := (hgrow.frozen_far ⟨w.heap.size + 1 + 1, 4, none⟩ (by simp; omega) (Ne.symm ak)).trans ((((Below.refl w2.heap.size w2).alloc (Nat.le_refl _) _).frozen (p := ⟨w.heap.size + 1 + 1, 4, none⟩) (by show w.heap.size + 1 + 1 < w2.heap.size; omega)).trans q9'))
   refine hK.out _ _ ?_ (fun hHeld => ?_)
   ·((obtain ⟨⟨hc1, hc2, hc3⟩, hc4⟩ := hHeld; exact ⟨⟨(hgrow.cell_far ⟨wr.heap.size, 0, none⟩ (by simp; omega) (Ne.symm ak2)).trans hc1, (hgrow.cell_far ⟨wr.heap.size, 2, none⟩ (by simp; omega) (Ne.symm ak2)).trans hc2, (hgrow.cell_far ⟨wr.heap.size, 3, none⟩ (by simp; omega) (Ne.symm ak2)).trans hc3⟩, q4''⟩))
   clear hK K
   (try simp only [Act.put, xpA, xpZ, xpS])
   refine tk2 12 rfl (by (intro w9 hSw; (try dsimp only at hSw); go_simp) <;> with_reducible rfl) hHeld ?_
   refine wpAnyP_ready (rs := [13]) (by kernel_rfl) (by simp) ?_
   refine AllReadyP.behind (o := _) rfl (by kernel_rfl) (fun K hK => ?_) AllReadyP.nil
   ·go_simp
    refine hK.out _ _ ?_ (fun hHeld => ?_)
    ·((obtain ⟨hc1, hc2, hc3⟩ := hHeld.1; exact ⟨(World.cell?_setCell_far _ _ _ _ (by simp; omega)).trans hc1, (World.cell?_setCell_far _ _ _ _ (by simp; omega)).trans hc2, (World.cell?_setCell_far _ _ _ _ (by simp; omega)).trans hc3⟩))
    clear hK K
    (try simp only [Act.put, xpA, xpZ, xpS])
    refine wpAnyP_done (by kernel_rfl) ?_ _
    (try simp only [Act.put, List.getElem_toArray, List.getElem_cons_zero, List.getElem_cons_succ, xpA, xpZ, xpS])
    obtain ⟨p1, p2, p3, p4, p5⟩ := AAt.push (A := w.heap.size + 1 + 1) (R := w.heap.size + 1) hA hR hown hbl hbb hgrow hown1 (by omega) (by omega) (by omega) (by omega) hsw (by omega)
    clear hgrow hbb hA hR hown hown1 hbl q4' q9' q4b q4'' q9'' qa4 qa9
    go_wp2
    go_roundw
    case rel => exact ⟨k + 1, _, by omega, by go_num, p1, p2, p3, p4, p5⟩
    case measure => simp [intOf]; omega
  ·obtain rfl : rn = k := by omega
   obtain ⟨q0, q1, q2, q3, q4, q5, q6, q7, q8, q9⟩ := hA
   obtain ⟨r0, r1, r2, r3, r4, r5, r6, r7, r8, r9⟩ := hR
   go_wp2
   refine bodyPost_ret (v := .agg #[.int .i64 d0, .int .i64 d1, .int .i64 v0, .int .i64 v1, .slice va rn vc]) (by simp [results, Tryz.results96, go_sem, r0, r1, r2, r3, r4]) rfl ⟨_, rfl, ownsRow_base (by omega) (ownsRow_kept hown (KeptFrom.set5 (by omega) _ _ _ _ _ _)), below_set5 hbl (by omega) _ _ _ _ _⟩
set_option maxRecDepth 100000 in
set_option maxHeartbeats 4000000 in
theorem alongY_nil (cs : Array Value) (m : Mach) (w : World) (hcs : SCells cs m) (h0 : m.rn = 0) :
  Calls Tryz.prog 96 #[.agg cs] w fun e w' => ∃ v, e = .returned (.agg #[.int .i64 m.d0, .int .i64 m.d1, .int .i64 m.v0, .int .i64 m.v1, v]) ∧ v = .slice none 0 0 ∧ Below w.heap.size w w' := by
 obtain ⟨sa, sn, sc, SX, SY, c0, c1, d0, d1, w0, w1, v0, v1, ra, rn, rc, RB, RX, RY, RE⟩ := m
 dsimp only at *
 subst h0
 obtain ⟨k62, k0, k1, k2, k3, k4, k5, k6, k7, k8, k9⟩ := hcs
 dsimp only at k0 k1 k2 k3 k4 k5 k6 k7 k8 k9
 clear k62
 go_enter Tryz.func96, Tryz.ntmps96
 go_wp2
 obtain ⟨W0, hW0⟩ : ∃ W0, ((w.alloc (Obj.cells cs 93)).alloc (Obj.cells #[.int .i64 0, .int .i64 0, .int .i64 0, .int .i64 0, .slice none 0 0] 114)).alloc (Obj.cells #[.int .i64 d0, .int .i64 d1, .int .i64 v0, .int .i64 v1, .slice none 0 0] 114) = W0 := ⟨_, rfl⟩
 have hsz : W0.heap.size = w.heap.size + 1 + 1 + 1 := by rw [← hW0, World.size_alloc, World.size_alloc, World.size_alloc]
 have hb0 : Below w.heap.size w W0 := by rw [← hW0]; exact (((Below.refl _ _).alloc (Nat.le_refl _) _).alloc (by rw [World.size_alloc]; omega) _).alloc (by rw [World.size_alloc, World.size_alloc]; omega) _
 have hA0 : AAt W0 (w.heap.size + 1 + 1) d0 d1 v0 v1 (.slice none 0 0) := by
  have h := AAt.new ((w.alloc (Obj.cells cs 93)).alloc (Obj.cells #[.int .i64 0, .int .i64 0, .int .i64 0, .int .i64 0, .slice none 0 0] 114)) 114 d0 d1 v0 v1 (.slice none 0 0)
  rw [World.size_alloc, World.size_alloc, hW0] at h; exact h
 have hR0 : AAt W0 (w.heap.size + 1) 0 0 0 0 (.slice none 0 0) := by
  have h := (AAt.new (w.alloc (Obj.cells cs 93)) 114 0 0 0 0 (.slice none 0 0)).below ((Below.refl _ _).alloc (Nat.le_refl _) (Obj.cells #[.int .i64 d0, .int .i64 d1, .int .i64 v0, .int .i64 v1, .slice none 0 0] 114)) (by simp only [World.size_alloc]; omega)
  rw [World.size_alloc, hW0] at h; exact h
 rw [hW0]
 clear hW0
 obtain ⟨r0, r1, r2, r3, r4, r5, r6, r7, r8, r9⟩ := hR0
 obtain ⟨q0, q1, q2, q3, q4, q5, q6, q7, q8, q9⟩ := hA0
 refine wp_loop_rounds 1 ?_
 rw [rounds_succ]
 go_wp2
 refine bodyPost_ret (v := .agg #[.int .i64 d0, .int .i64 d1, .int .i64 v0, .int .i64 v1, .slice none 0 0]) (by simp [results, Tryz.results96, go_sem, r0, r1, r2, r3, r4]) rfl ⟨_, rfl, rfl, below_set5 hb0 (by omega) _ _ _ _ _⟩
theorem alongY_any (cs : Array Value) (m : Mach) (w : World) (hcs : SCells cs m) (h : RSl w (.slice m.ra m.rn m.rc) m.rn m.RB m.RX m.RY m.RE) (hr : m.rn ≤ 1000) (hok : ∀ i, i < m.rn → readB (m.RB i) (m.RX i) (m.RY i) (m.RE i) = true) :
  Calls Tryz.prog 96 #[.agg cs] w fun e w' => ∃ v, e = .returned (.agg #[.int .i64 m.d0, .int .i64 m.d1, .int .i64 m.v0, .int .i64 m.v1, v]) ∧ w'.ownsRow w.heap.size 117 3 v m.rn (clueCells (fun i => (m.RB i, m.RY i - m.RE i, m.RY i + m.RE i)) m.rn) ∧ (m.rn = 0 → v = .slice none 0 0) ∧ Below w.heap.size w w' := by
 by_cases h0 : m.rn = 0
 ·refine (alongY_nil cs m w hcs h0).mono ?_
  rintro e w' ⟨v, rfl, rfl, hb⟩
  exact ⟨_, rfl, by rw [h0]; exact ⟨rfl, .inl ⟨rfl, rfl⟩⟩, fun _ => rfl, hb⟩
 ·rcases h with ⟨a, c, h1, h2⟩ | ⟨b, off, cap, h1, h2, h3⟩
  ·exact absurd h2 h0
  ·rw [Value.slice.injEq] at h1
   refine (alongY_some cs m b off w hcs h1.1 h2 h3 hr hok).mono ?_
   rintro e w' ⟨v, rfl, h4, hb⟩
   exact ⟨v, rfl, h4, fun h => absurd h h0, hb⟩
end Go.Proofs.YtjhpklolpmaopaaGreatDoor
namespace Go.Proofs.YtjhpklolpmaopaaGreatDoor
open Go.RowKit
/-- what lies in all of some spans. -/
def narF : List (Int × Int) → Int × Int
  | [] => (0, 0)
  | s :: l => l.foldl (fun a s => (max a.1 s.1, min a.2 s.2)) s
theorem narF_push (s : Int × Int) (l : List (Int × Int)) (t : Int × Int) : narF ((s :: l) ++ [t]) = (max (narF (s :: l)).1 t.1, min (narF (s :: l)).2 t.2) := by
  unfold narF
  rw [List.cons_append]
  dsimp only
  rw [List.foldl_append]; rfl
def Sps (w : World) (b off : Nat) (l : List (Int × Int)) : Prop := ∀ j p, l[j]? = some p → w.cell? ⟨b, off + j * 2, none⟩ = some (.int .i64 p.1) ∧ w.cell? ⟨b, off + j * 2 + 1, none⟩ = some (.int .i64 p.2)
theorem Sps.below {w w' : World} {b off : Nat} {l : List (Int × Int)} {B : Nat} (h : Sps w b off l) (hb : Below B w w') (hl : b < B) : Sps w' b off l := fun j p hj => by
  obtain ⟨h1, h2⟩ := h j p hj
  exact ⟨(hb.cell (p := ⟨b, off + j * 2, none⟩) hl).trans h1, (hb.cell (p := ⟨b, off + j * 2 + 1, none⟩) hl).trans h2⟩
/-- a span in memory. -/
structure Two (W : World) (A : Nat) (x y : Int) : Prop where
  k0 : W.cell? ⟨A, 0, none⟩ = some (.int .i64 x)
  k1 : W.cell? ⟨A, 1, none⟩ = some (.int .i64 y)
  f0 : W.frozen? ⟨A, 0, none⟩ = false
  f1 : W.frozen? ⟨A, 1, none⟩ = false
theorem Two.new (w : World) (e : TypeId) (x y : Int) : Two (w.alloc (Obj.cells #[.int .i64 x, .int .i64 y] e)) w.heap.size x y := ⟨cells_new w _ _ rfl, cells_new w _ _ rfl, by simp [go_sem], by simp [go_sem]⟩
theorem Two.below {W W' : World} {A B : Nat} {x y : Int} (h : Two W A x y) (hb : Below B W W') (hl : A < B) : Two W' A x y :=
  ⟨(hb.cell (p := ⟨A, 0, none⟩) hl).trans h.k0, (hb.cell (p := ⟨A, 1, none⟩) hl).trans h.k1, (hb.frozen (p := ⟨A, 0, none⟩) hl).trans h.f0, (hb.frozen (p := ⟨A, 1, none⟩) hl).trans h.f1⟩
theorem Two.far {W W' : World} {A : Nat} {x y : Int} (h : Two W A x y) (hh : W'.heap[A]? = W.heap[A]?) : Two W' A x y := by
  have c : ∀ j, W'.cell? ⟨A, j, none⟩ = W.cell? ⟨A, j, none⟩ := fun j => World.cell?_of_block hh
  have f : ∀ j, W'.frozen? ⟨A, j, none⟩ = W.frozen? ⟨A, j, none⟩ := fun j => by unfold World.frozen?; rw [hh]
  exact ⟨(c _).trans h.k0, (c _).trans h.k1, (f _).trans h.f0, (f _).trans h.f1⟩
theorem Two.set01 {W : World} {A : Nat} {x y : Int} (h : Two W A x y) (u v : Int) : Two ((W.setCell ⟨A, 0, none⟩ (.int .i64 u)).setCell ⟨A, 1, none⟩ (.int .i64 v)) A u v := by
  refine ⟨?_, ?_, ?_, ?_⟩
  · rw [World.cell?_setCell_other _ _ (a := ⟨A, 1, none⟩) (b := ⟨A, 0, none⟩) (by intro h; cases h)]; exact World.cell?_setCell_same' _ _ _ (by rw [h.k0]; rfl)
  · exact World.cell?_setCell_same' _ _ _ (by rw [World.cell?_setCell_other _ _ (a := ⟨A, 0, none⟩) (b := ⟨A, 1, none⟩) (by intro h; cases h), h.k1]; rfl)
  · rw [World.frozen?_setCell, World.frozen?_setCell]; exact h.f0
  · rw [World.frozen?_setCell, World.frozen?_setCell]; exact h.f1
theorem Two.drew {W : World} {A : Nat} {x y : Int} (h : Two W A x y) : Two W.drew A x y := ⟨h.k0, h.k1, h.f0, h.f1⟩
theorem two_max (x y : Int) : (if x < y then y else x) = max x y := by omega
theorem two_min (x y : Int) : (if y < x then y else x) = min x y := by omega
/-- one span of two in memory is set. -/
theorem Two.step {w W : World} {A R : Nat} {x y u v a b : Int} (hA : Two W A x y) (hR : Two W R a b) (hne : R ≠ A) (hb : Below w.heap.size w W) (hl : w.heap.size ≤ A) :
    Two ((W.setCell ⟨A, 0, none⟩ (.int .i64 u)).setCell ⟨A, 1, none⟩ (.int .i64 v)).drew A u v ∧ Two ((W.setCell ⟨A, 0, none⟩ (.int .i64 u)).setCell ⟨A, 1, none⟩ (.int .i64 v)).drew R a b ∧ Below w.heap.size w ((W.setCell ⟨A, 0, none⟩ (.int .i64 u)).setCell ⟨A, 1, none⟩ (.int .i64 v)).drew ∧ ((W.setCell ⟨A, 0, none⟩ (.int .i64 u)).setCell ⟨A, 1, none⟩ (.int .i64 v)).drew.heap.size = W.heap.size := by
  refine ⟨(hA.set01 u v).drew, ((hR.far (Below.heap_setCell W ⟨A, 0, none⟩ _ R hne)).far (Below.heap_setCell _ ⟨A, 1, none⟩ _ R hne)).drew, ((hb.setCell (p := ⟨A, 0, none⟩) hl _).setCell (p := ⟨A, 1, none⟩) hl _).drew, ?_⟩
  rw [World.size_drew, World.size_setCell, World.size_setCell]
theorem two_tuple {W : World} {R : Nat} {x y a b : Int} (h : Two W R x y) : ((W.setCell ⟨R, 0, none⟩ (.int .i64 a)).setCell ⟨R, 1, none⟩ (.int .i64 b)).drew.cell? ⟨R, 0, none⟩ = some (.int .i64 a) ∧ ((W.setCell ⟨R, 0, none⟩ (.int .i64 a)).setCell ⟨R, 1, none⟩ (.int .i64 b)).drew.cell? ⟨R, 1, none⟩ = some (.int .i64 b) := ⟨(h.set01 a b).k0, (h.set01 a b).k1⟩
set_option maxRecDepth 100000 in
set_option maxHeartbeats 4000000 in
theorem possible_yes (lo hi : Int) (w : World) :
    Calls Tryz.prog 98 #[.agg #[.int .i64 lo, .int .i64 hi], .bool true] w fun e w' => e = .returned (.agg #[.int .i64 lo, .int .i64 hi]) ∧ Below w.heap.size w w' := by
  go_enter Tryz.func98, Tryz.ntmps98
  go_wp2
  refine bodyPost_ret (v := .agg #[.int .i64 lo, .int .i64 hi]) (by simp [results, Tryz.results98, go_sem]) rfl ⟨rfl, ?_⟩
  exact ((Below.refl w.heap.size w).alloc (Nat.le_refl _) _).alloc (by rw [World.size_alloc]; omega) _
set_option maxRecDepth 100000 in
set_option maxHeartbeats 4000000 in
theorem possible_no (lo hi : Int) (w : World) :
    Calls Tryz.prog 98 #[.agg #[.int .i64 lo, .int .i64 hi], .bool false] w fun e w' => e = .panicked [{ v := .iface 225 (.agg #[]), recovered := false }] ∧ Below w.heap.size w w' := by
  go_enter Tryz.func98, Tryz.ntmps98
  go_wp2
  exact ⟨rfl, rfl, ((Below.refl w.heap.size w).alloc (Nat.le_refl _) _).alloc (by rw [World.size_alloc]; omega) _⟩
theorem narF_take {s : Int × Int} {l : List (Int × Int)} {k : Nat} {p : Int × Int} (h : l[k]? = some p) : narF (s :: l.take (k+1)) = (max (narF (s :: l.take k)).1 p.1, min (narF (s :: l.take k)).2 p.2) := by
  rw [List.take_add_one, h]; exact narF_push s (l.take k) p
set_option maxRecDepth 100000 in
set_option maxHeartbeats 4000000 in
theorem narrow_one (b off cap : Nat) (s0 s1 : Int) (w : World) (hb : b < w.heap.size) (e1 : w.cell? ⟨b, off, none⟩ = some (.int .i64 s0)) (e2 : w.cell? ⟨b, off + 1, none⟩ = some (.int .i64 s1)) (hc : 1 ≤ cap) :
    Calls Tryz.prog 99 #[.slice (some ⟨b, off, none⟩) 1 cap] w fun e w' => e = .returned (.tuple #[.agg #[.int .i64 s0, .int .i64 s1], .bool (decide (s0 ≤ s1))]) ∧ Below w.heap.size w w' := by
  obtain ⟨W0, hW0⟩ : ∃ W0, ((w.alloc (Obj.cells #[.int .i64 0, .int .i64 0] 24)).alloc (Obj.cells #[.int .i64 s0, .int .i64 s1] 24)) = W0 := ⟨_, rfl⟩
  have hb0 : Below w.heap.size w W0 := by rw [← hW0]; exact ((Below.refl _ _).alloc (Nat.le_refl _) _).alloc (by rw [World.size_alloc]; omega) _
  have hA0 : Two W0 (w.heap.size + 1) s0 s1 := by
    have h := Two.new (w.alloc (Obj.cells #[.int .i64 0, .int .i64 0] 24)) 24 s0 s1
    rw [World.size_alloc, hW0] at h; exact h
  have hR0 : Two W0 w.heap.size 0 0 := by
    have h := (Two.new w 24 0 0).below ((Below.refl _ _).alloc (Nat.le_refl _) (Obj.cells #[.int .i64 s0, .int .i64 s1] 24)) (by simp only [World.size_alloc]; omega)
    rw [hW0] at h; exact h
  go_enter Tryz.func99, Tryz.ntmps99
  go_wp2
  all_goals
    clear hW0
    obtain ⟨q0, q1, q2, q3⟩ := hA0
    have hR := hR0
    obtain ⟨r0, r1, r2, r3⟩ := hR0
    refine wp_loop_rounds 1 ?_
    rw [rounds_succ]
    go_wp2
    go_region_held3 (fun w' => w'.cell? ⟨w.heap.size + 1, 0, none⟩ = some (.int .i64 s0) ∧ w'.cell? ⟨w.heap.size + 1, 1, none⟩ = some (.int .i64 s1))
      (first
        | (go_keep; done)
        | (go_split_ands
           refine ⟨?_, ?_⟩ <;> (first | (rw [World.cell?_setCell_far _ _ _ _ (by simp), World.cell?_setCell_far _ _ _ _ (by simp)]; assumption))))
      (fail)
    obtain ⟨z0, z1⟩ := two_tuple (a := s0) (b := s1) hR
    generalize hWZ : ((W0.setCell ⟨w.heap.size, 0, none⟩ (.int .i64 s0)).setCell ⟨w.heap.size, 1, none⟩ (.int .i64 s1)).drew = WZ at z0 z1 ⊢
    go_wp2
    refine bodyPost_ret (v := .tuple #[.agg #[.int .i64 s0, .int .i64 s1], .bool (decide (s0 ≤ s1))]) (by simp [results, Tryz.results99, go_sem, z0, z1]) rfl ⟨rfl, ?_⟩
    rw [← hWZ]
    exact ((hb0.setCell (p := ⟨w.heap.size, 0, none⟩) (Nat.le_refl _) _).setCell (p := ⟨w.heap.size, 1, none⟩) (Nat.le_refl _) _).drew
set_option maxRecDepth 100000 in
set_option maxHeartbeats 4000000 in
theorem narrow_more (b off cap : Nat) (s0 s1 : Int) (l : List (Int × Int)) (w : World) (hn : l.length ≤ 1000) (hc : l.length + 1 ≤ cap) (hc2 : 2 ≤ cap) (hb : b < w.heap.size) (hp : Sps w b off ((s0, s1) :: l)) :
    Calls Tryz.prog 99 #[.slice (some ⟨b, off, none⟩) (l.length + 1) cap] w fun e w' => e = .returned (.tuple #[.agg #[.int .i64 (narF ((s0, s1) :: l)).1, .int .i64 (narF ((s0, s1) :: l)).2], .bool (decide ((narF ((s0, s1) :: l)).1 ≤ (narF ((s0, s1) :: l)).2))]) ∧ Below w.heap.size w w' := by
  obtain ⟨e1, e2⟩ := hp 0 _ rfl
  rw [Nat.zero_mul, Nat.add_zero] at e1 e2
  dsimp only at e1 e2
  obtain ⟨cp, rfl⟩ : ∃ cp, cap = cp + 2 := ⟨cap - 2, by omega⟩
  have h1 : (0 : Int) < ((l.length + 1 : Nat) : Int) := by omega
  have h2 : (1 : Int) ≤ ((l.length + 1 : Nat) : Int) := by omega
  obtain ⟨W0, hW0⟩ : ∃ W0, ((w.alloc (Obj.cells #[.int .i64 0, .int .i64 0] 24)).alloc (Obj.cells #[.int .i64 s0, .int .i64 s1] 24)) = W0 := ⟨_, rfl⟩
  have hb0 : Below w.heap.size w W0 := by rw [← hW0]; exact ((Below.refl _ _).alloc (Nat.le_refl _) _).alloc (by rw [World.size_alloc]; omega) _
  have hsz : W0.heap.size = w.heap.size + 1 + 1 := by rw [← hW0, World.size_alloc, World.size_alloc]
  have hA0 : Two W0 (w.heap.size + 1) s0 s1 := by
    have h := Two.new (w.alloc (Obj.cells #[.int .i64 0, .int .i64 0] 24)) 24 s0 s1
    rw [World.size_alloc, hW0] at h; exact h
  have hR0 : Two W0 w.heap.size 0 0 := by
    have h := (Two.new w 24 0 0).below ((Below.refl _ _).alloc (Nat.le_refl _) (Obj.cells #[.int .i64 s0, .int .i64 s1] 24)) (by simp only [World.size_alloc]; omega)
    rw [hW0] at h; exact h
  go_enter Tryz.func99, Tryz.ntmps99
  go_wp2
  clear hW0
  go_loopw [13] (fun i wr => ∃ (k : Nat), k ≤ l.length ∧ i = .int .i64 k ∧ Two wr (w.heap.size + 1) (narF ((s0, s1) :: l.take k)).1 (narF ((s0, s1) :: l.take k)).2 ∧ Two wr w.heap.size 0 0 ∧ Below w.heap.size w wr ∧ w.heap.size + 1 + 1 ≤ wr.heap.size) (fun i _ => l.length - (intOf i).toNat)
  case atStart => exact ⟨0, Nat.zero_le _, rfl, hA0, hR0, hb0, by omega⟩
  case round =>
    obtain ⟨k, hk, rfl, hA, hR, hbl, hsw⟩ := hrel
    by_cases hlt : k < l.length
    · obtain ⟨p, hpk⟩ : ∃ p, l[k]? = some p := ⟨l[k], List.getElem?_eq_getElem hlt⟩
      obtain ⟨e3, e4⟩ := (hp.below hbl hb) (k+1) p hpk
      rw [show off + (k + 1) * 2 = off + 2 + k * 2 by omega] at e3 e4
      have hnt := narF_take (s := (s0, s1)) hpk
      generalize narF ((s0, s1) :: l.take k) = x at hA hnt
      obtain ⟨x0, x1⟩ := x
      obtain ⟨y0, y1⟩ := p
      dsimp only at hA hnt e3 e4
      have hk0 : (0 : Int) ≤ (k : Int) := Int.natCast_nonneg _
      have hk1 : (k : Int) < (l.length : Int) := by omega
      have hne : w.heap.size + 1 ≠ wr.heap.size := by omega
      obtain ⟨WR, hWR⟩ : ∃ WR, wr.alloc (Obj.cells #[.int .i64 y0, .int .i64 y1] 24) = WR := ⟨_, rfl⟩
      have hbR : Below wr.heap.size wr WR := by rw [← hWR]; exact (Below.refl _ _).alloc (Nat.le_refl _) _
      have hsR : WR.heap.size = wr.heap.size + 1 := by rw [← hWR]; exact World.size_alloc _ _
      have hAR := hA.below hbR (by omega)
      have hRR := hR.below hbR (by omega)
      have hY : WR.cell? ⟨wr.heap.size, 0, none⟩ = some (.int .i64 y0) ∧ WR.cell? ⟨wr.heap.size, 1, none⟩ = some (.int .i64 y1) := by rw [← hWR]; exact ⟨cells_new wr _ _ rfl, cells_new wr _ _ rfl⟩
      have hA' := hAR
      obtain ⟨q0, q1, q2, q3⟩ := hA'
      obtain ⟨y3, y4⟩ := hY
      go_wp2_with fail
      refine wp_region_late [11, 13] (fun w9 => w9.cell? ⟨wr.heap.size, 0, none⟩ = some (.int .i64 y0) ∧ w9.cell? ⟨wr.heap.size, 1, none⟩ = some (.int .i64 y1)) (fun w9 => w9.cell? ⟨w.heap.size + 1, 0, none⟩ = some (.int .i64 x0) ∧ w9.cell? ⟨w.heap.size + 1, 1, none⟩ = some (.int .i64 x1)) (by kernel_rfl) ?_ (fun hHeld => ?_)
      · (exact ⟨⟨y3, y4⟩, q0, q1⟩)
      refine tk2 0 rfl (by (intro w9 hSw; (try dsimp only at hSw); go_simp) <;> with_reducible rfl) hHeld ?_
      refine wpAnyP_take 8 (i := 1) (v := ?_) rfl (by kernel_rfl) (by kernel_rfl) (by kernel_rfl) (by kernel_rfl) (by rfl) (by kernel_rfl) (fun _ _ _ h => h) (Or.inl ⟨by rfl, ?_⟩) hHeld ?_
      rotate_left 1
      · ((intro w9 hSw; (try dsimp only at hSw); go_simp) <;> with_reducible rfl)
      (try simp only [Act.put, xpA, xpZ, xpS])
      refine tk2 2 rfl (by (intro w9 hSw; (try dsimp only at hSw); go_simp) <;> with_reducible rfl) hHeld ?_
      refine tk2 3 rfl (by (intro w9 hSw; (try dsimp only at hSw); go_simp) <;> with_reducible rfl) hHeld ?_
      refine tk2 4 rfl (by (intro w9 hSw; (try dsimp only at hSw); go_simp) <;> with_reducible rfl) hHeld ?_
      refine tk2 5 rfl (by (intro w9 hSw; (try dsimp only at hSw); go_simp) <;> with_reducible rfl) hHeld ?_
      refine wpAnyP_take 8 (i := 6) (v := ?_) rfl (by kernel_rfl) (by kernel_rfl) (by kernel_rfl) (by kernel_rfl) (by rfl) (by kernel_rfl) (fun _ _ _ h => h) (Or.inl ⟨by rfl, ?_⟩) hHeld ?_
      rotate_left 1
      · ((intro w9 hSw; (try dsimp only at hSw); go_simp) <;> with_reducible rfl)
      (try simp only [Act.put, xpA, xpZ, xpS])
      refine tk2 7 rfl (by (intro w9 hSw; (try dsimp only at hSw); go_simp) <;> with_reducible rfl) hHeld ?_
      refine tk2 8 rfl (by (intro w9 hSw; (try dsimp only at hSw); go_simp) <;> with_reducible rfl) hHeld ?_
      refine tk2 9 rfl (by (intro w9 hSw; (try dsimp only at hSw); go_simp) <;> with_reducible rfl) hHeld ?_
      refine tk2 10 rfl (by (intro w9 hSw; (try dsimp only at hSw); go_simp) <;> with_reducible rfl) hHeld ?_
      refine wpAnyP_ready (rs := [11]) (by kernel_rfl) (by simp) ?_
      refine AllReadyP.behind (o := _) rfl (by kernel_rfl) (fun K hK => ?_) AllReadyP.nil
      · go_simp
        refine hK.out _ _ ?_ (fun hHeld => ?_)
        · ((exact ⟨(World.cell?_setCell_far _ _ _ _ (by simp; omega)).trans hHeld.1.1, (World.cell?_setCell_far _ _ _ _ (by simp; omega)).trans hHeld.1.2⟩))
        clear hK K
        (try simp only [Act.put, xpA, xpZ, xpS])
        refine wpAnyP_takeB (i := 12) (v := ?_) rfl (by kernel_rfl) (by kernel_rfl) (by kernel_rfl) (by kernel_rfl) (by rfl) (by kernel_rfl) (fun _ _ _ h => h) (Or.inl ⟨by rfl, ?_⟩) hHeld ?_
        rotate_left 1
        · ((intro w9 hSw; (try dsimp only at hSw); go_simp) <;> with_reducible rfl)
        (try simp only [Act.put, xpA, xpZ, xpS])
        refine wpAnyP_ready (rs := [13]) (by kernel_rfl) (by simp) ?_
        refine AllReadyP.behind (o := _) rfl (by kernel_rfl) (fun K hK => ?_) AllReadyP.nil
        · go_simp
          refine hK.out _ _ ?_ (fun hHeld => ?_)
          · ((exact ⟨(World.cell?_setCell_far _ _ _ _ (by simp; omega)).trans hHeld.1, (World.cell?_setCell_far _ _ _ _ (by simp; omega)).trans hHeld.2⟩))
          clear hK K
          (try simp only [Act.put, xpA, xpZ, xpS])
          refine wpAnyP_done (by kernel_rfl) ?_ _
          (try simp only [Act.put, List.getElem_toArray, List.getElem_cons_zero, List.getElem_cons_succ, xpA, xpZ, xpS])
          rw [two_max, two_min]
          obtain ⟨p1, p2, p3, p4⟩ := Two.step (u := max x0 y0) (v := min x1 y1) hAR hRR (by omega) (hbl.trans (hbR.mono hbl.size)) (Nat.le_succ _)
          have hn1 : max x0 y0 = (narF ((s0, s1) :: l.take (k + 1))).1 := by rw [hnt]
          have hn2 : min x1 y1 = (narF ((s0, s1) :: l.take (k + 1))).2 := by rw [hnt]
          generalize hWZ : ((WR.setCell ⟨w.heap.size + 1, 0, none⟩ (.int .i64 (max x0 y0))).setCell ⟨w.heap.size + 1, 1, none⟩ (.int .i64 (min x1 y1))).drew = WZ at p1 p2 p3 p4 ⊢
          rw [hn1, hn2] at p1
          clear hWZ
          go_wp2
          go_roundw
          case rel => exact ⟨k + 1, by omega, by go_num, p1, p2, p3, by omega⟩
          case measure => simp [intOf]; omega
    · obtain rfl : k = l.length := by omega
      rw [List.take_length] at hA
      obtain ⟨q0, q1, q2, q3⟩ := hA
      have hRc := hR
      obtain ⟨r0, r1, r2, r3⟩ := hR
      go_wp2
      go_region_held3 (fun w' => w'.cell? ⟨w.heap.size + 1, 0, none⟩ = some (.int .i64 (narF ((s0, s1) :: l)).1) ∧ w'.cell? ⟨w.heap.size + 1, 1, none⟩ = some (.int .i64 (narF ((s0, s1) :: l)).2))
        (first
          | (go_keep; done)
          | (go_split_ands
             refine ⟨?_, ?_⟩ <;> (first | (rw [World.cell?_setCell_far _ _ _ _ (by simp), World.cell?_setCell_far _ _ _ _ (by simp)]; assumption))))
        (fail)
      obtain ⟨z0, z1⟩ := two_tuple (a := (narF ((s0, s1) :: l)).1) (b := (narF ((s0, s1) :: l)).2) hRc
      generalize hWZ : ((wr.setCell ⟨w.heap.size, 0, none⟩ (.int .i64 (narF ((s0, s1) :: l)).1)).setCell ⟨w.heap.size, 1, none⟩ (.int .i64 (narF ((s0, s1) :: l)).2)).drew = WZ at z0 z1 ⊢
      go_wp2
      refine bodyPost_ret (v := .tuple #[.agg #[.int .i64 (narF ((s0, s1) :: l)).1, .int .i64 (narF ((s0, s1) :: l)).2], .bool (decide ((narF ((s0, s1) :: l)).1 ≤ (narF ((s0, s1) :: l)).2))]) (by simp [results, Tryz.results99, go_sem, z0, z1]) rfl ⟨rfl, ?_⟩
      rw [← hWZ]
      exact ((hbl.setCell (p := ⟨w.heap.size, 0, none⟩) (Nat.le_refl _) _).setCell (p := ⟨w.heap.size, 1, none⟩) (Nat.le_refl _) _).drew
theorem narrow_any (b off cap : Nat) (s : Int × Int) (l : List (Int × Int)) (w : World) (hn : l.length ≤ 1000) (hc : l.length + 1 ≤ cap) (hb : b < w.heap.size) (hp : Sps w b off (s :: l)) :
    Calls Tryz.prog 99 #[.slice (some ⟨b, off, none⟩) (l.length + 1) cap] w fun e w' => e = .returned (.tuple #[.agg #[.int .i64 (narF (s :: l)).1, .int .i64 (narF (s :: l)).2], .bool (decide ((narF (s :: l)).1 ≤ (narF (s :: l)).2))]) ∧ Below w.heap.size w w' := by
  obtain ⟨s0, s1⟩ := s
  cases l with
  | nil =>
    obtain ⟨e1, e2⟩ := hp 0 _ rfl
    rw [Nat.zero_mul, Nat.add_zero] at e1 e2
    exact narrow_one b off cap s0 s1 w hb e1 e2 hc
  | cons t l => exact narrow_more b off cap s0 s1 (t :: l) w hn hc (by rw [List.length_cons] at hc; omega) hb hp
end Go.Proofs.YtjhpklolpmaopaaGreatDoor
namespace Go.Proofs.YtjhpklolpmaopaaGreatDoor
open Go.RowKit
set_option maxRecDepth 100000 in
set_option maxHeartbeats 4000000 in
theorem grow_none (w : World) :
  Calls Tryz.prog 134 #[.slice none 0 0, .int .i64 0] w fun e w' => e = .returned (.slice none 0 0) ∧ w = w' := by
 go_enter Tryz.func134, Tryz.ntmps134
 go_wp2
 go_ret
 exact ⟨rfl, rfl⟩
theorem zeroCells_len (cs : Array Value) (n : Nat) : (Builtin.zeroCells cs n).size = n * cs.size := by
 unfold Builtin.zeroCells
 simp
set_option maxRecDepth 100000 in
set_option maxHeartbeats 4000000 in
theorem grow_some (n : Nat) (h0 : 0 < n) (h1 : n ≤ 1000) (w : World) :
  Calls Tryz.prog 134 #[.slice none 0 0, .int .i64 n] w fun e w' => ∃ c, e = .returned (.slice (some ⟨w.heap.size, 0, none⟩) 0 c) ∧ n ≤ c ∧ w'.ownsRow w.heap.size 117 3 (.slice (some ⟨w.heap.size, 0, none⟩) 0 c) 0 [] ∧ Below w.heap.size w w' := by
 obtain ⟨i0, hi, hz0, hz1, hz2⟩ := info_parts Tryz.info117
 have hrun := fun ty => Lib.run_append_nil_zeros w 112 3 ty 117 i0 (.agg #[.int .i64 0, .int .i64 0, .int .i64 0]) .i64 .i64 Tryz.underlying112 Tryz.underlying3 hi hz0 n h0 (by omega) (by omega) (by rw [hz2]; omega)
 have hge := grownCap_ge w n 0 117
 have hle := grownCap_le_maxLen w n 0 117 (by unfold maxLen; omega)
 generalize grownCap w n 0 117 = G at hrun hge hle
 have hG : G ≤ 9223372036854775807 := by unfold maxLen at hle; omega
 have hn0 : (0 : Int) < (n : Int) := by omega
 go_enter Tryz.func134, Tryz.ntmps134
 go_wp2_with (at_builtin; refine Lib.wpList_append_run _ rfl _ _ _ _ rfl _ _ rfl rfl _ _ (hrun _) ?_)
 go_ret
 refine ⟨G, rfl, hge, ⟨rfl, .inr ⟨w.heap.size, G, _, rfl, Nat.le_refl _, heap_alloc_new w _, Nat.zero_le _, hle, ?_, by simp⟩⟩, ((Below.refl _ _).alloc (Nat.le_refl _) _).drew⟩
 rw [Array.size_append, zeroCells_len, zeroCells_len, ← Nat.add_mul]
 rw [show n + (G - n) = G by omega]; rfl
set_option maxRecDepth 100000 in
set_option maxHeartbeats 4000000 in
theorem concat_nil (g : Nat) (w : World) (e0 : w.cell? ⟨g, 0, none⟩ = some (.slice none 0 0)) (e1 : w.cell? ⟨g, 1, none⟩ = some (.slice none 0 0)) :
  Calls Tryz.prog 97 #[.slice (some ⟨g, 0, none⟩) 2 2] w fun e w' => ∃ v, e = .returned v ∧ w'.ownsRow w.heap.size 117 3 v 0 [] ∧ Below w.heap.size w w' := by
 obtain ⟨i0, hi, hz0, hz1, hz2⟩ := info_parts Tryz.info117
 have hown0 : w.ownsRow w.heap.size 117 3 (.slice none 0 0) 0 [] := ⟨rfl, .inl ⟨rfl, rfl⟩⟩
 go_enter Tryz.func97, Tryz.ntmps97
 go_wp2
 refine wp_loop_rounds 3 ?_
 rw [rounds_succ]
 go_wp2
 rw [rounds_succ]
 go_wp2
 rw [rounds_succ]
 go_wp2_with (go_at_call 134; refine (grow_none _).mono ?_; rintro e w' ⟨rfl, rfl⟩)
 refine wp_loop_rounds 3 ?_
 rw [rounds_succ]
 go_wp2_with (at_builtin; refine wpList_append_own_none rfl _ _ 112 rfl w.heap.size 117 i0 3 Tryz.underlying112 hi (.slice none 0 0) 0 [] rfl hown0 rfl ?_)
 rw [rounds_succ]
 go_wp2_with (at_builtin; refine wpList_append_own_none rfl _ _ 112 rfl w.heap.size 117 i0 3 Tryz.underlying112 hi (.slice none 0 0) 0 [] rfl hown0 rfl ?_)
 rw [rounds_succ]
 go_wp2
 go_ret
 exact ⟨_, rfl, hown0, Below.refl _ _⟩
theorem cpts_cells {w : World} {b off n : Nat} {cl : Nat → Int × Int × Int} (h : CPts w b off n cl) : ∀ (j : Nat) (u : Value), (clueCells cl n)[j]? = some u → w.cell? ((⟨b, off, none⟩ : Addr).add j) = some u := fun j u hj => by
 have hl := (List.getElem?_eq_some_iff.1 hj).1
 rw [clueCells_length] at hl
 obtain ⟨a1, a2, a3⟩ := h (j / 3) (by omega)
 obtain ⟨k1, k2, k3⟩ := clueCells_at cl n (j / 3) (by omega)
 rw [show (⟨b, off, none⟩ : Addr).add j = ⟨b, off + j, none⟩ from by simp [Addr.add]]
 have hm : j % 3 = 0 ∨ j % 3 = 1 ∨ j % 3 = 2 := by omega
 rcases hm with hm | hm | hm
 ·rw [show j / 3 * 3 = j by omega] at a1 k1; rw [a1, ← k1, hj]
 ·rw [show off + j / 3 * 3 + 1 = off + j by omega] at a2; rw [show j / 3 * 3 + 1 = j by omega] at k2; rw [a2, ← k2, hj]
 ·rw [show off + j / 3 * 3 + 2 = off + j by omega] at a3; rw [show j / 3 * 3 + 2 = j by omega] at k3; rw [a3, ← k3, hj]
theorem clueCells_one (cl : Nat → Int × Int × Int) : ∀ (n : Nat), ∀ u ∈ clueCells cl n, u.oneCell' = true
 | 0, u, h => by cases h
 | n+1, u, h => by
  unfold clueCells at h
  rcases List.mem_append.1 h with h | h
  ·exact clueCells_one cl n u h
  ·simp only [List.mem_cons, List.not_mem_nil, or_false] at h
   rcases h with rfl | rfl | rfl <;> rfl
set_option maxRecDepth 100000 in
set_option maxHeartbeats 4000000 in
theorem concat_some (g b off n cap : Nat) (cl : Nat → Int × Int × Int) (w : World) (h0 : 0 < n) (hn : n ≤ 1000) (hg : g < w.heap.size) (hb : b < w.heap.size) (e0 : w.cell? ⟨g, 0, none⟩ = some (.slice (some ⟨b, off, none⟩) n cap)) (e1 : w.cell? ⟨g, 1, none⟩ = some (.slice none 0 0)) (hp : CPts w b off n cl) :
  Calls Tryz.prog 97 #[.slice (some ⟨g, 0, none⟩) 2 2] w fun e w' => ∃ v, e = .returned v ∧ w'.ownsRow w.heap.size 117 3 v n (clueCells cl n) ∧ Below w.heap.size w w' := by
 obtain ⟨i0, hi, hz0, hz1, hz2⟩ := info_parts Tryz.info117
 have hn0 : (0 : Int) ≤ (n : Int) := by omega
 have hn1 : ¬ (n : Int) < 0 := by omega
 go_enter Tryz.func97, Tryz.ntmps97
 go_wp2
 refine wp_loop_rounds 3 ?_
 rw [rounds_succ]
 go_wp2
 rw [rounds_succ]
 go_wp2
 rw [rounds_succ]
 go_wp2_with (go_at_call 134; refine (grow_some n h0 hn _).mono ?_; rintro e w1 ⟨c, rfl, hc, hown, hb1⟩)
 have f0 := (hb1.cell (p := ⟨g, 0, none⟩) hg).trans e0
 have f1 := (hb1.cell (p := ⟨g, 1, none⟩) hg).trans e1
 have hp1 := hp.below hb1 hb
 have hs1 := hb1.size
 refine wp_loop_rounds 3 ?_
 rw [rounds_succ]
 go_wp2_with (at_builtin; refine wpList_append_own _ rfl _ _ 112 rfl w.heap.size 117 i0 (.agg #[.int .i64 0, .int .i64 0, .int .i64 0]) 3 24 Tryz.underlying112 hi hz0 hz1 hz2 rfl (by decide) _ 0 [] rfl hown ⟨b, off, none⟩ n cap (clueCells cl n) rfl ?c0 ?c1 ?c2 ?c3 ?c4 ?c5 ?_)
 case c0 => rw [clueCells_length]; omega
 case c1 => exact cpts_cells hp1
 case c2 => exact clueCells_one cl n
 case c3 => unfold maxLen; omega
 case c4 => omega
 case c5 => omega
 intro v2 w2 hown2 hgrow _
 have hne : some g ≠ (Value.slice (some ⟨w.heap.size, 0, none⟩) 0 c).ownBlock := fun e => by have e := Option.some.inj e; dsimp only at e; omega
 have f3 := (hgrow.cell_far ⟨g, 1, none⟩ (by show g < _; omega) hne).trans f1
 have hb2 : Below w.heap.size w w2 := hb1.grown hgrow hb1.size fun k hk => by have e := Option.some.inj hk; dsimp only at e; omega
 clear hgrow hown hp1 hp
 go_wp2
 rw [rounds_succ]
 go_wp2_with (at_builtin; refine wpList_append_own_none rfl _ _ 112 rfl w.heap.size 117 i0 3 Tryz.underlying112 hi v2 n (clueCells cl n) rfl hown2 rfl ?_)
 rw [rounds_succ]
 go_wp2
 go_ret
 exact ⟨_, rfl, hown2, hb2⟩
end Go.Proofs.YtjhpklolpmaopaaGreatDoor
namespace Go.Proofs.YtjhpklolpmaopaaGreatDoor
/-- an axis: the chuck's ends, the wear's ends, and clues: a blank and two ends each. -/
structure Axis where
 c0 : Int
 c1 : Int
 w0 : Int
 w1 : Int
 n : Nat
 cl : Nat → Int × Int × Int
def nar (k : Int) (cl : Nat → Int × Int × Int) : Nat → Int × Int → Int × Int
 | 0, s => s
 | i+1, s => if (cl i).1 = k then (max (nar k cl i s).1 (cl i).2.1, min (nar k cl i s).2 (cl i).2.2) else nar k cl i s
def Axis.fwd (a : Axis) : Nat → Int × Int
 | 0 => nar 0 a.cl a.n (a.c0, a.c1)
 | k+1 => nar ((k : Int) + 1) a.cl a.n ((a.fwd k).1 + a.w0, (a.fwd k).2 + a.w1)
/-- j blanks before the last one. -/
def Axis.bwd (a : Axis) : Nat → Int × Int
 | 0 => a.fwd 12
 | j+1 => (max (a.fwd (11 - j)).1 ((a.bwd j).1 - a.w1), min (a.fwd (11 - j)).2 ((a.bwd j).2 - a.w0))
def Axis.ends (a : Axis) (k : Nat) : Int × Int := a.bwd (12 - k)
def Axis.can (a : Axis) : Prop := ∀ k, k ≤ 12 → (a.fwd k).1 ≤ (a.fwd k).2
structure Axis.fine (a : Axis) : Prop where
 c : -12 ≤ a.c0 ∧ a.c0 ≤ a.c1 ∧ a.c1 ≤ 12
 w : -3 ≤ a.w0 ∧ a.w0 ≤ a.w1 ∧ a.w1 ≤ 3
 few : a.n ≤ 8
 cl : ∀ i, i < a.n → 0 ≤ (a.cl i).1 ∧ (a.cl i).1 ≤ 12 ∧ -110 ≤ (a.cl i).2.1 ∧ (a.cl i).2.1 ≤ 110 ∧ -110 ≤ (a.cl i).2.2 ∧ (a.cl i).2.2 ≤ 110
/-- a truth of an axis. -/
structure Axis.truth (a : Axis) (x : Nat → Int) : Prop where
 chuck : a.c0 ≤ x 0 ∧ x 0 ≤ a.c1
 wear : ∀ k, k < 12 → a.w0 ≤ x (k+1) - x k ∧ x (k+1) - x k ≤ a.w1
 clue : ∀ i, i < a.n → (a.cl i).2.1 ≤ x (a.cl i).1.toNat ∧ x (a.cl i).1.toNat ≤ (a.cl i).2.2
theorem nar_le (k : Int) (cl : Nat → Int × Int × Int) (s : Int × Int) : ∀ n, s.1 ≤ (nar k cl n s).1 ∧ (nar k cl n s).2 ≤ s.2
 | 0 => ⟨Int.le_refl _, Int.le_refl _⟩
 | n+1 => by
  have h := nar_le k cl s n
  unfold nar
  split
  ·dsimp only; omega
  ·exact h
theorem nar_clue (k : Int) (cl : Nat → Int × Int × Int) (s : Int × Int) : ∀ n i, i < n → (cl i).1 = k → (cl i).2.1 ≤ (nar k cl n s).1 ∧ (nar k cl n s).2 ≤ (cl i).2.2
 | 0, i, h, _ => absurd h (Nat.not_lt_zero i)
 | n+1, i, h, hk => by
  unfold nar
  by_cases hi : i = n
  ·subst hi
   rw [if_pos hk]; dsimp only; omega
  ·have h := nar_clue k cl s n i (by omega) hk
   split
   ·dsimp only; omega
   ·exact h
theorem nar_in {k : Int} {cl : Nat → Int × Int × Int} {s : Int × Int} {x : Int} (hs : s.1 ≤ x ∧ x ≤ s.2) : ∀ {n : Nat}, (∀ i, i < n → (cl i).1 = k → (cl i).2.1 ≤ x ∧ x ≤ (cl i).2.2) → (nar k cl n s).1 ≤ x ∧ x ≤ (nar k cl n s).2
 | 0, _ => hs
 | n+1, h => by
  have h1 := nar_in hs (n := n) fun i hi hk => h i (by omega) hk
  unfold nar
  split
  ·rename_i hk
   have := h n (by omega) hk
   dsimp only; omega
  ·exact h1
theorem nar_bound {k : Int} {cl : Nat → Int × Int × Int} {s : Int × Int} {b : Int} (hs : s.1 ≤ b ∧ -b ≤ s.2) : ∀ {n : Nat}, (∀ i, i < n → (cl i).2.1 ≤ b ∧ -b ≤ (cl i).2.2) → (nar k cl n s).1 ≤ b ∧ -b ≤ (nar k cl n s).2
 | 0, _ => hs
 | n+1, h => by
  have h1 := nar_bound (k := k) hs (n := n) fun i hi => h i (by omega)
  have h2 := h n (by omega)
  unfold nar
  split
  ·dsimp only; omega
  ·exact h1
theorem Axis.fwd_bound {a : Axis} (h : a.fine) : ∀ k, (k : Nat) ≤ 12 → -12 - 3 * (k : Int) ≤ (a.fwd k).1 ∧ (a.fwd k).2 ≤ 12 + 3 * (k : Int) ∧ (a.fwd k).1 ≤ 110 + 3 * (k : Int) ∧ -110 - 3 * (k : Int) ≤ (a.fwd k).2
 | 0, _ => by
  obtain ⟨c, w, _, cl⟩ := h
  have h1 := nar_le 0 a.cl (a.c0, a.c1) a.n
  have h2 := nar_bound (k := 0) (cl := a.cl) (s := (a.c0, a.c1)) (b := 110) ⟨by dsimp only; omega, by dsimp only; omega⟩ (n := a.n) fun i hi => by have := cl i hi; omega
  unfold Axis.fwd
  dsimp only at h1
  omega
 | k+1, hk => by
  have ih := Axis.fwd_bound h k (by omega)
  obtain ⟨c, w, _, cl⟩ := h
  have h1 := nar_le ((k : Int) + 1) a.cl ((a.fwd k).1 + a.w0, (a.fwd k).2 + a.w1) a.n
  have h2 := nar_bound (k := (k : Int) + 1) (cl := a.cl) (s := ((a.fwd k).1 + a.w0, (a.fwd k).2 + a.w1)) (b := 110 + 3 * ((k : Int) + 1)) ⟨by dsimp only; omega, by dsimp only; omega⟩ (n := a.n) fun i hi => by have := cl i hi; omega
  unfold Axis.fwd
  dsimp only at h1
  omega
theorem Axis.fwd_step (a : Axis) (k : Nat) : (a.fwd k).1 + a.w0 ≤ (a.fwd (k+1)).1 ∧ (a.fwd (k+1)).2 ≤ (a.fwd k).2 + a.w1 := by
 have h := nar_le ((k : Int) + 1) a.cl ((a.fwd k).1 + a.w0, (a.fwd k).2 + a.w1) a.n
 conv => rw [Axis.fwd]
 exact h
theorem Axis.bwd_fwd (a : Axis) : ∀ j, j ≤ 12 → (a.fwd (12 - j)).1 ≤ (a.bwd j).1 ∧ (a.bwd j).2 ≤ (a.fwd (12 - j)).2
 | 0, _ => ⟨Int.le_refl _, Int.le_refl _⟩
 | j+1, h => by
  unfold Axis.bwd
  rw [show 12 - (j + 1) = 11 - j by omega]
  dsimp only; omega
theorem Axis.bwd_can {a : Axis} (h : a.fine) (hc : a.can) : ∀ j, j ≤ 12 → (a.bwd j).1 ≤ (a.bwd j).2
 | 0, _ => hc 12 (by omega)
 | j+1, hj => by
  have ih := Axis.bwd_can h hc j (by omega)
  have h1 := a.bwd_fwd j (by omega)
  have h2 := a.fwd_step (11 - j)
  rw [show 11 - j + 1 = 12 - j by omega] at h2
  have h3 := hc (11 - j) (by omega)
  have := h.w
  unfold Axis.bwd
  dsimp only; omega
theorem Axis.bwd_bound {a : Axis} (h : a.fine) (hc : a.can) (j : Nat) (hj : j ≤ 12) : -48 ≤ (a.bwd j).1 ∧ (a.bwd j).2 ≤ 48 ∧ (a.bwd j).1 ≤ 48 ∧ -48 ≤ (a.bwd j).2 := by
 have h1 := a.bwd_fwd j hj
 have h2 := Axis.fwd_bound h (12 - j) (by omega)
 have h3 := Axis.bwd_can h hc j hj
 omega
theorem Axis.fwd_in {a : Axis} {x : Nat → Int} (h : a.fine) (ht : a.truth x) : ∀ k, k ≤ 12 → (a.fwd k).1 ≤ x k ∧ x k ≤ (a.fwd k).2
 | 0, _ => by
  unfold Axis.fwd
  exact nar_in ht.chuck fun i hi hk => by have := ht.clue i hi; rw [hk] at this; exact this
 | k+1, hk => by
  have ih := Axis.fwd_in h ht k (by omega)
  have hw := ht.wear k (by omega)
  unfold Axis.fwd
  refine nar_in (by dsimp only; omega) fun i hi hk => ?_
  have := ht.clue i hi
  rw [hk, show ((k : Int) + 1).toNat = k + 1 by omega] at this; exact this
theorem Axis.can_of {a : Axis} {x : Nat → Int} (h : a.fine) (ht : a.truth x) : a.can := fun k hk => by have := Axis.fwd_in h ht k hk; omega
theorem Axis.bwd_in {a : Axis} {x : Nat → Int} (h : a.fine) (ht : a.truth x) : ∀ j, j ≤ 12 → (a.bwd j).1 ≤ x (12 - j) ∧ x (12 - j) ≤ (a.bwd j).2
 | 0, _ => Axis.fwd_in h ht 12 (by omega)
 | j+1, hj => by
  have ih := Axis.bwd_in h ht j (by omega)
  have h1 := Axis.fwd_in h ht (11 - j) (by omega)
  have h2 := ht.wear (11 - j) (by omega)
  rw [show 11 - j + 1 = 12 - j by omega] at h2
  unfold Axis.bwd
  rw [show 12 - (j + 1) = 11 - j by omega]
  dsimp only; omega
/-- whatever is true lies within the ends. -/
theorem Axis.ends_in {a : Axis} {x : Nat → Int} (h : a.fine) (ht : a.truth x) (k : Nat) (hk : k ≤ 12) : (a.ends k).1 ≤ x k ∧ x k ≤ (a.ends k).2 := by
 have := Axis.bwd_in h ht (12 - k) (by omega)
 rw [show 12 - (12 - k) = k by omega] at this; exact this
theorem Axis.ends_step (a : Axis) (k : Nat) (hk : k < 12) : a.ends k = (max (a.fwd k).1 ((a.ends (k+1)).1 - a.w1), min (a.fwd k).2 ((a.ends (k+1)).2 - a.w0)) := by
 unfold Axis.ends
 rw [show 12 - k = (12 - (k + 1)) + 1 by omega, Axis.bwd, show 11 - (12 - (k + 1)) = k by omega]
theorem Axis.ends_fwd (a : Axis) (k : Nat) (hk : k ≤ 12) : (a.fwd k).1 ≤ (a.ends k).1 ∧ (a.ends k).2 ≤ (a.fwd k).2 := by
 have := a.bwd_fwd (12 - k) (by omega)
 rw [show 12 - (12 - k) = k by omega] at this; exact this
theorem Axis.ends_can {a : Axis} (h : a.fine) (hc : a.can) (k : Nat) : (a.ends k).1 ≤ (a.ends k).2 := Axis.bwd_can h hc (12 - k) (by omega)
theorem Axis.ends_bound {a : Axis} (h : a.fine) (hc : a.can) (k : Nat) : -48 ≤ (a.ends k).1 ∧ (a.ends k).2 ≤ 48 ∧ (a.ends k).1 ≤ 48 ∧ -48 ≤ (a.ends k).2 := Axis.bwd_bound h hc (12 - k) (by omega)
theorem Axis.fwd_chuck (a : Axis) : a.c0 ≤ (a.fwd 0).1 ∧ (a.fwd 0).2 ≤ a.c1 := by
 unfold Axis.fwd; exact nar_le 0 a.cl (a.c0, a.c1) a.n
theorem Axis.fwd_clue (a : Axis) (i : Nat) (hi : i < a.n) (h : 0 ≤ (a.cl i).1) : (a.cl i).2.1 ≤ (a.fwd (a.cl i).1.toNat).1 ∧ (a.fwd (a.cl i).1.toNat).2 ≤ (a.cl i).2.2 := by
 cases hk : (a.cl i).1.toNat with
 | zero => unfold Axis.fwd; exact nar_clue 0 a.cl _ a.n i hi (by omega)
 | succ k => unfold Axis.fwd; exact nar_clue _ a.cl _ a.n i hi (by omega)
/-- all least ends together are a truth. -/
theorem Axis.low_truth {a : Axis} (h : a.fine) (hc : a.can) : a.truth fun k => (a.ends k).1 where
 chuck := by
  have h1 := a.fwd_chuck
  have h2 := a.ends_fwd 0 (by omega)
  have h3 := Axis.ends_can h hc 0
  omega
 wear := fun k hk => by
  have h1 := a.ends_step k hk
  have h2 := a.fwd_step k
  have h3 := a.ends_fwd (k+1) (by omega)
  have := h.w
  rw [h1]; dsimp only; omega
 clue := fun i hi => by
  have hc' := h.cl i hi
  have h1 := a.fwd_clue i hi hc'.1
  have h2 := a.ends_fwd (a.cl i).1.toNat (by omega)
  have h3 := Axis.ends_can h hc (a.cl i).1.toNat
  omega
/-- all greatest ends together are a truth. -/
theorem Axis.high_truth {a : Axis} (h : a.fine) (hc : a.can) : a.truth fun k => (a.ends k).2 where
 chuck := by
  have h1 := a.fwd_chuck
  have h2 := a.ends_fwd 0 (by omega)
  have h3 := Axis.ends_can h hc 0
  omega
 wear := fun k hk => by
  have h1 := a.ends_step k hk
  have h2 := a.fwd_step k
  have h3 := a.ends_fwd (k+1) (by omega)
  have := h.w
  rw [h1]; dsimp only; omega
 clue := fun i hi => by
  have hc' := h.cl i hi
  have h1 := a.fwd_clue i hi hc'.1
  have h2 := a.ends_fwd (a.cl i).1.toNat (by omega)
  have h3 := Axis.ends_can h hc (a.cl i).1.toNat
  omega
end Go.Proofs.YtjhpklolpmaopaaGreatDoor
namespace Go.Proofs.YtjhpklolpmaopaaGreatDoor
theorem Axis.any_bound {a : Axis} (h : a.fine) (k : Nat) (hk : k ≤ 12) : -48 ≤ (a.ends k).1 ∧ (a.ends k).2 ≤ 48 ∧ (a.ends k).1 ≤ 200 ∧ -200 ≤ (a.ends k).2 := by
 have key : ∀ j, j ≤ 12 → -48 ≤ (a.bwd j).1 ∧ (a.bwd j).2 ≤ 48 ∧ (a.bwd j).1 ≤ 146 + 3 * (j : Int) ∧ -146 - 3 * (j : Int) ≤ (a.bwd j).2 := by
  intro j
  induction j with
  | zero => intro _; have := Axis.fwd_bound h 12 (by omega); unfold Axis.bwd; omega
  | succ j ih =>
   intro hj
   have ih := ih (by omega)
   have hb := Axis.fwd_bound h (11 - j) (by omega)
   have := h.w
   unfold Axis.bwd
   dsimp only; omega
 have := key (12 - k) (by omega)
 unfold Axis.ends
 omega
end Go.Proofs.YtjhpklolpmaopaaGreatDoor
namespace Go.Proofs.YtjhpklolpmaopaaGreatDoor
open Go.RowKit
/-- clues as alongX and alongY make them. -/
def CSp (w : World) (v : Value) (n : Nat) (cl : Nat → Int × Int × Int) : Prop := (v = .slice none 0 0 ∧ n = 0) ∨ (0 < n ∧ ∃ b off cap, v = .slice (some ⟨b, off, none⟩) n cap ∧ b < w.heap.size ∧ CPts w b off n cl)
theorem CSp.below {w w' : World} {v : Value} {n : Nat} {cl : Nat → Int × Int × Int} (h : CSp w v n cl) (hb : Below w.heap.size w w') : CSp w' v n cl := by
 rcases h with h | ⟨h0, b, off, cap, h1, h2, h3⟩
 ·exact .inl h
 ·exact .inr ⟨h0, b, off, cap, h1, Nat.lt_of_lt_of_le h2 hb.size, h3.below hb h2⟩
theorem CSp.slice {w : World} {v : Value} {n : Nat} {cl : Nat → Int × Int × Int} (h : CSp w v n cl) : ∃ a c, v = .slice a n c := by
 rcases h with ⟨h, h0⟩ | ⟨h0, b, off, cap, h1, h2, h3⟩
 ·exact ⟨none, 0, by rw [h, h0]⟩
 ·exact ⟨_, _, h1⟩
theorem csp_of_row {w : World} {B : Nat} {e : TypeId} {v : Value} {n : Nat} {f : Nat → Int × Int × Int} (h : w.ownsRow B e 3 v n (clueCells f n)) (h0 : n = 0 → v = .slice none 0 0) : CSp w v n f := by
 by_cases hn : n = 0
 ·exact .inl ⟨h0 hn, hn⟩
 ·rcases csl_of_row h with h | ⟨b, off, cap, h1, h2, h3⟩
  ·exact absurd h.2 hn
  ·exact .inr ⟨by omega, b, off, cap, h1, h2, h3⟩
theorem concat_any (g : Nat) (v : Value) (n : Nat) (cl : Nat → Int × Int × Int) (w : World) (hn : n ≤ 1000) (hg : g < w.heap.size) (e0 : w.cell? ⟨g, 0, none⟩ = some v) (e1 : w.cell? ⟨g, 1, none⟩ = some (.slice none 0 0)) (hp : CSp w v n cl) :
  Calls Tryz.prog 97 #[.slice (some ⟨g, 0, none⟩) 2 2] w fun e w' => ∃ v, e = .returned v ∧ w'.ownsRow w.heap.size 117 3 v n (clueCells cl n) ∧ Below w.heap.size w w' := by
 rcases hp with ⟨rfl, rfl⟩ | ⟨h0, b, off, cap, rfl, hb, hp⟩
 ·exact concat_nil g w e0 e1
 ·exact concat_some g b off n cap cl w h0 hn hg hb e0 e1 hp
/-- a course in memory. -/
structure CAt (W : World) (C : Nat) (f : Nat → Int × Int) : Prop where
 c : ∀ j, j < 13 → W.cell? ⟨C, j * 2, none⟩ = some (.int .i64 (f j).1) ∧ W.cell? ⟨C, j * 2 + 1, none⟩ = some (.int .i64 (f j).2)
 z : ∀ i, W.frozen? ⟨C, i, none⟩ = false
theorem CAt.far {W W' : World} {C : Nat} {f : Nat → Int × Int} (h : CAt W C f) (hh : W'.heap[C]? = W.heap[C]?) : CAt W' C f :=
 ⟨fun j hj => ⟨(World.cell?_of_block hh).trans (h.c j hj).1, (World.cell?_of_block hh).trans (h.c j hj).2⟩, fun i => (show W'.frozen? ⟨C, i, none⟩ = W.frozen? ⟨C, i, none⟩ by unfold World.frozen?; rw [hh]).trans (h.z i)⟩
theorem CAt.below {W W' : World} {C B : Nat} {f : Nat → Int × Int} (h : CAt W C f) (hb : Below B W W') (hl : C < B) : CAt W' C f := h.far (hb.block C hl)
theorem CAt.store {W : World} {C : Nat} {f : Nat → Int × Int} (h : CAt W C f) (k : Nat) (hk : k < 13) (x y : Int) : CAt ((W.setCell ⟨C, k * 2, none⟩ (.int .i64 x)).setCell ⟨C, k * 2 + 1, none⟩ (.int .i64 y)) C (fun j => if j = k then (x, y) else f j) := by
 obtain ⟨k1, k2⟩ := h.c k hk
 refine ⟨fun j hj => ?_, fun i => by rw [World.frozen?_setCell, World.frozen?_setCell]; exact h.z i⟩
 by_cases hjk : j = k
 ·subst hjk
  simp only [if_true]
  constructor
  ·rw [World.cell?_setCell_other _ _ (a := ⟨C, j * 2 + 1, none⟩) (b := ⟨C, j * 2, none⟩) (by intro h; injection h with h1 h2 h3; omega)]; exact World.cell?_setCell_same' _ _ _ (by rw [k1]; rfl)
  ·exact World.cell?_setCell_same' _ _ _ (by rw [World.cell?_setCell_other _ _ (a := ⟨C, j * 2, none⟩) (b := ⟨C, j * 2 + 1, none⟩) (by intro h; injection h with h1 h2 h3; omega), k2]; rfl)
 ·rw [if_neg hjk]
  obtain ⟨j1, j2⟩ := h.c j hj
  constructor
  ·rw [World.cell?_setCell_other _ _ (a := ⟨C, k * 2 + 1, none⟩) (b := ⟨C, j * 2, none⟩) (by intro h; injection h with h1 h2 h3; omega), World.cell?_setCell_other _ _ (a := ⟨C, k * 2, none⟩) (b := ⟨C, j * 2, none⟩) (by intro h; injection h with h1 h2 h3; omega)]; exact j1
  ·rw [World.cell?_setCell_other _ _ (a := ⟨C, k * 2 + 1, none⟩) (b := ⟨C, j * 2 + 1, none⟩) (by intro h; injection h with h1 h2 h3; omega), World.cell?_setCell_other _ _ (a := ⟨C, k * 2, none⟩) (b := ⟨C, j * 2 + 1, none⟩) (by intro h; injection h with h1 h2 h3; omega)]; exact j2
theorem cat_new (w : World) (e : TypeId) : CAt (w.alloc (Obj.cells #[.int .i64 0, .int .i64 0, .int .i64 0, .int .i64 0, .int .i64 0, .int .i64 0, .int .i64 0, .int .i64 0, .int .i64 0, .int .i64 0, .int .i64 0, .int .i64 0, .int .i64 0, .int .i64 0, .int .i64 0, .int .i64 0, .int .i64 0, .int .i64 0, .int .i64 0, .int .i64 0, .int .i64 0, .int .i64 0, .int .i64 0, .int .i64 0, .int .i64 0, .int .i64 0] e)) w.heap.size (fun _ => (0, 0)) := by
 refine ⟨fun j hj => ?_, fun i => by simp [go_sem]⟩
 have key : ∀ i, i < 26 → (#[.int .i64 0, .int .i64 0, .int .i64 0, .int .i64 0, .int .i64 0, .int .i64 0, .int .i64 0, .int .i64 0, .int .i64 0, .int .i64 0, .int .i64 0, .int .i64 0, .int .i64 0, .int .i64 0, .int .i64 0, .int .i64 0, .int .i64 0, .int .i64 0, .int .i64 0, .int .i64 0, .int .i64 0, .int .i64 0, .int .i64 0, .int .i64 0, .int .i64 0, .int .i64 0] : Array Value)[i]? = some (.int .i64 0) := by
  intro i hi
  match i, hi with
  | 0, _ => rfl | 1, _ => rfl | 2, _ => rfl | 3, _ => rfl | 4, _ => rfl | 5, _ => rfl | 6, _ => rfl | 7, _ => rfl | 8, _ => rfl | 9, _ => rfl | 10, _ => rfl | 11, _ => rfl | 12, _ => rfl
  | 13, _ => rfl | 14, _ => rfl | 15, _ => rfl | 16, _ => rfl | 17, _ => rfl | 18, _ => rfl | 19, _ => rfl | 20, _ => rfl | 21, _ => rfl | 22, _ => rfl | 23, _ => rfl | 24, _ => rfl | 25, _ => rfl
  | n+26, h => omega
 exact ⟨cells_new w _ _ (key _ (by omega)), cells_new w _ _ (key _ (by omega))⟩
def spCells : List (Int × Int) → List Value
 | [] => []
 | s :: l => .int .i64 s.1 :: .int .i64 s.2 :: spCells l
theorem spCells_append : ∀ l m, spCells (l ++ m) = spCells l ++ spCells m
 | [], m => rfl
 | s :: l, m => by rw [List.cons_append, spCells, spCells, spCells_append l m]; rfl
theorem spCells_at : ∀ (l : List (Int × Int)) (j : Nat) (p : Int × Int), l[j]? = some p → (spCells l)[j * 2]? = some (.int .i64 p.1) ∧ (spCells l)[j * 2 + 1]? = some (.int .i64 p.2)
 | [], j, p, h => by simp at h
 | s :: l, 0, p, h => by
  simp at h; subst h; exact ⟨rfl, rfl⟩
 | s :: l, j+1, p, h => by
  rw [List.getElem?_cons_succ] at h
  obtain ⟨h1, h2⟩ := spCells_at l j p h
  rw [show (j + 1) * 2 = j * 2 + 1 + 1 by omega, spCells]
  exact ⟨h1, h2⟩
theorem sps_of_row {w : World} {B g n cap : Nat} {e : TypeId} {l : List (Int × Int)} (h : w.ownsRow B e 2 (.slice (some ⟨g, 0, none⟩) n cap) n (spCells l)) (hn : n = l.length) : Sps w g 0 l := fun j p hj => by
 obtain ⟨h1, h2⟩ := spCells_at l j p hj
 have hl := (List.getElem?_eq_some_iff.1 hj).1
 rw [Nat.zero_add]
 exact ⟨(h.cellAt (j * 2) (by omega)).trans h1, (h.cellAt (j * 2 + 1) (by omega)).trans h2⟩
theorem Tryz.info24 : (Tryz.prog.info? 24).map (fun i => (i.zero, i.size, i.bytes)) = some (some (.agg #[.int .i64 0, .int .i64 0]), 2, 16) := by kernel_rfl
end Go.Proofs.YtjhpklolpmaopaaGreatDoor
