/- A part of the proof: see the last file. -/
import Derived.Test.YtfhakedgihecoaaGreatDoorPbf
import Derived.Test.YtfhakedgihecoaaGreatDoorPaa
import Derived.Test.YtfhakedgihecoaaGreatDoorPac
set_option linter.unusedVariables false
set_option linter.unusedSimpArgs false
set_option linter.unusedSectionVars false
namespace Go.Proofs.YtfhakedgihecoaaGreatDoor
open Go.RowKit Go.Can
/-- so many integers. -/
def cellsI (F : Nat → Int) (n : Nat) : List Value := (List.range n).map fun i => .int .i64 (F i)
theorem cellsI_succ (F : Nat → Int) (n : Nat) : cellsI F (n + 1) = cellsI F n ++ [.int .i64 (F n)] := by simp [cellsI, List.range_succ]
theorem cellsI_at (F : Nat → Int) {n i : Nat} (hi : i < n) : (cellsI F n)[i]? = some (.int .i64 (F i)) := by simp [cellsI, hi]
theorem own_ints {W : World} {B : Nat} {v : Value} {n : Nat} {F : Nat → Int} (h : W.ownsRow B 3 1 v n (cellsI F n)) (hn : 0 < n) : ∃ a c, v = .slice a n c ∧ n ≤ c ∧ IntsSl W (.slice a n c) n F := by
  rcases ownsRow_lt h with ⟨_, h0⟩ | ⟨g, cap, hv, hg, hcell⟩
  · omega
  · obtain ⟨_, ⟨e, _⟩ | ⟨g', cap', cur, e1, _, _, e4, _⟩⟩ := h
    · rw [hv] at e; cases e
    · rw [hv] at e1
      cases e1
      exact ⟨_, cap, hv, e4, .inr ⟨g, 0, cap, rfl, hg, fun i hi => by rw [Nat.zero_add]; exact hcell i _ (cellsI_at F hi)⟩⟩
theorem MAt.far {W W' : World} {b : Nat} {m : Mach} (h : MAt W b m) (hh : W'.heap[b]? = W.heap[b]?) : MAt W' b m :=
  have c : ∀ j, W'.cell? ⟨b, j, none⟩ = W.cell? ⟨b, j, none⟩ := fun j => World.cell?_of_block hh
  ⟨(c _).trans h.k0, (c _).trans h.k1, (c _).trans h.k2, (c _).trans h.k3, (c _).trans h.k4, (c _).trans h.k5, (c _).trans h.k6, (c _).trans h.k7, (c _).trans h.k8, (c _).trans h.k9⟩
/-- a machine, and two pairs of slices, in blocks of their own. -/
structure CX (M A : Nat) (W : World) (m : Mach) (p q r s : Value) : Prop where
  mach : MAt W M m
  c1 : W.cell? ⟨A, 0, none⟩ = some p
  c2 : W.cell? ⟨A, 1, none⟩ = some q
  c3 : W.cell? ⟨A + 1, 0, none⟩ = some r
  c4 : W.cell? ⟨A + 1, 1, none⟩ = some s
  f1 : W.frozen? ⟨A, 0, none⟩ = false
  f2 : W.frozen? ⟨A, 1, none⟩ = false
  f3 : W.frozen? ⟨A + 1, 0, none⟩ = false
  f4 : W.frozen? ⟨A + 1, 1, none⟩ = false
  lt : M < A
  big : A + 2 ≤ W.heap.size
theorem CX.far {M A : Nat} {W W' : World} {m : Mach} {p q r s : Value} (h : CX M A W m p q r s) (hh : ∀ b, b < A + 2 → W'.heap[b]? = W.heap[b]?) (hb : W.heap.size ≤ W'.heap.size) : CX M A W' m p q r s :=
  have c : ∀ b j, b < A + 2 → W'.cell? ⟨b, j, none⟩ = W.cell? ⟨b, j, none⟩ := fun b j hlt => World.cell?_of_block (hh b hlt)
  have f : ∀ b j, b < A + 2 → W'.frozen? ⟨b, j, none⟩ = W.frozen? ⟨b, j, none⟩ := fun b j hlt => by unfold World.frozen?; rw [hh b hlt]
  have hl := h.lt
  ⟨h.mach.far (hh _ (by omega)), (c _ _ (by omega)).trans h.c1, (c _ _ (by omega)).trans h.c2, (c _ _ (by omega)).trans h.c3, (c _ _ (by omega)).trans h.c4, (f _ _ (by omega)).trans h.f1, (f _ _ (by omega)).trans h.f2, (f _ _ (by omega)).trans h.f3, (f _ _ (by omega)).trans h.f4, hl, Nat.le_trans h.big hb⟩
theorem CX.below {M A : Nat} {W W' : World} {m : Mach} {p q r s : Value} (h : CX M A W m p q r s) (hb : Below W.heap.size W W') : CX M A W' m p q r s :=
  have hg := h.big
  h.far (fun b hlt => hb.block b (by omega)) hb.size
theorem CX.grown {M A : Nat} {W W' : World} {m : Mach} {p q r s : Value} {row : Option Nat} (h : CX M A W m p q r s) (hg : W.grownBy W' row) (hr : ∀ j, row = some j → A + 2 ≤ j) : CX M A W' m p q r s :=
  have hb := h.big
  h.far (fun b hlt => hg.block b (by omega) (fun e => by have := hr b e.symm; omega)) hg.size
theorem setCell_size (W : World) (a : Addr) (v : Value) : (W.setCell a v).heap.size = W.heap.size := World.size_setCell ..
theorem CX.set1 {M A : Nat} {W : World} {m : Mach} {p q r s : Value} (h : CX M A W m p q r s) (v : Value) : CX M A (W.setCell ⟨A, 0, none⟩ v) m v q r s := by
  have hl := h.lt
  refine ⟨h.mach.far (Below.heap_setCell W _ v M (by show M ≠ A; omega)), World.cell?_setCell_same' _ _ _ (by rw [h.c1]; rfl), ?_, ?_, ?_, ?_, ?_, ?_, ?_, hl, by rw [setCell_size]; exact h.big⟩
  · rw [World.cell?_setCell_other W v (a := ⟨A, 0, none⟩) (b := ⟨A, 1, none⟩) (by intro h; cases h)]; exact h.c2
  · rw [World.cell?_setCell_far _ _ _ _ (by simp)]; exact h.c3
  · rw [World.cell?_setCell_far _ _ _ _ (by simp)]; exact h.c4
  all_goals rw [World.frozen?_setCell]
  · exact h.f1
  · exact h.f2
  · exact h.f3
  · exact h.f4
theorem CX.set2 {M A : Nat} {W : World} {m : Mach} {p q r s : Value} (h : CX M A W m p q r s) (v : Value) : CX M A (W.setCell ⟨A, 1, none⟩ v) m p v r s := by
  have hl := h.lt
  refine ⟨h.mach.far (Below.heap_setCell W _ v M (by show M ≠ A; omega)), ?_, World.cell?_setCell_same' _ _ _ (by rw [h.c2]; rfl), ?_, ?_, ?_, ?_, ?_, ?_, hl, by rw [setCell_size]; exact h.big⟩
  · rw [World.cell?_setCell_other W v (a := ⟨A, 1, none⟩) (b := ⟨A, 0, none⟩) (by intro h; cases h)]; exact h.c1
  · rw [World.cell?_setCell_far _ _ _ _ (by simp)]; exact h.c3
  · rw [World.cell?_setCell_far _ _ _ _ (by simp)]; exact h.c4
  all_goals rw [World.frozen?_setCell]
  · exact h.f1
  · exact h.f2
  · exact h.f3
  · exact h.f4
theorem CX.set3 {M A : Nat} {W : World} {m : Mach} {p q r s : Value} (h : CX M A W m p q r s) (v : Value) : CX M A (W.setCell ⟨A + 1, 0, none⟩ v) m p q v s := by
  have hl := h.lt
  refine ⟨h.mach.far (Below.heap_setCell W _ v M (by show M ≠ A + 1; omega)), ?_, ?_, World.cell?_setCell_same' _ _ _ (by rw [h.c3]; rfl), ?_, ?_, ?_, ?_, ?_, hl, by rw [setCell_size]; exact h.big⟩
  · rw [World.cell?_setCell_far _ _ _ _ (by simp)]; exact h.c1
  · rw [World.cell?_setCell_far _ _ _ _ (by simp)]; exact h.c2
  · rw [World.cell?_setCell_other W v (a := ⟨A + 1, 0, none⟩) (b := ⟨A + 1, 1, none⟩) (by intro h; cases h)]; exact h.c4
  all_goals rw [World.frozen?_setCell]
  · exact h.f1
  · exact h.f2
  · exact h.f3
  · exact h.f4
theorem CX.set4 {M A : Nat} {W : World} {m : Mach} {p q r s : Value} (h : CX M A W m p q r s) (v : Value) : CX M A (W.setCell ⟨A + 1, 1, none⟩ v) m p q r v := by
  have hl := h.lt
  refine ⟨h.mach.far (Below.heap_setCell W _ v M (by show M ≠ A + 1; omega)), ?_, ?_, ?_, World.cell?_setCell_same' _ _ _ (by rw [h.c4]; rfl), ?_, ?_, ?_, ?_, hl, by rw [setCell_size]; exact h.big⟩
  · rw [World.cell?_setCell_far _ _ _ _ (by simp)]; exact h.c1
  · rw [World.cell?_setCell_far _ _ _ _ (by simp)]; exact h.c2
  · rw [World.cell?_setCell_other W v (a := ⟨A + 1, 1, none⟩) (b := ⟨A + 1, 0, none⟩) (by intro h; cases h)]; exact h.c3
  all_goals rw [World.frozen?_setCell]
  · exact h.f1
  · exact h.f2
  · exact h.f3
  · exact h.f4
/-- rows apart. -/
def Ap (a b : Value) : Prop := ∀ g, a.ownBlock = some g → b.ownBlock ≠ some g
theorem Ap.symm {a b : Value} (h : Ap a b) : Ap b a := fun g h1 h2 => h g h2 h1
/-- four rows of integers. -/
structure RX (w : World) (B : Nat) (W : World) (n1 n2 n3 n4 : Nat) (p q r s : Value) (F1 F2 F3 F4 : Nat → Int) : Prop where
  o1 : W.ownsRow B 3 1 p n1 (cellsI F1 n1)
  o2 : W.ownsRow B 3 1 q n2 (cellsI F2 n2)
  o3 : W.ownsRow B 3 1 r n3 (cellsI F3 n3)
  o4 : W.ownsRow B 3 1 s n4 (cellsI F4 n4)
  d12 : Ap p q
  d13 : Ap p r
  d14 : Ap p s
  d23 : Ap q r
  d24 : Ap q s
  d34 : Ap r s
  old : Below w.heap.size w W
  low : w.heap.size ≤ B
  big : B ≤ W.heap.size
theorem RX.rot {w : World} {B : Nat} {W : World} {n1 n2 n3 n4 : Nat} {p q r s : Value} {F1 F2 F3 F4 : Nat → Int} (h : RX w B W n1 n2 n3 n4 p q r s F1 F2 F3 F4) : RX w B W n2 n3 n4 n1 q r s p F2 F3 F4 F1 :=
  ⟨h.o2, h.o3, h.o4, h.o1, h.d23, h.d24, h.d12.symm, h.d34, h.d13.symm, h.d14.symm, h.old, h.low, h.big⟩
theorem RX.below {w : World} {B : Nat} {W W' : World} {n1 n2 n3 n4 : Nat} {p q r s : Value} {F1 F2 F3 F4 : Nat → Int} (h : RX w B W n1 n2 n3 n4 p q r s F1 F2 F3 F4) (hb : Below W.heap.size W W') : RX w B W' n1 n2 n3 n4 p q r s F1 F2 F3 F4 :=
  ⟨ownsRow_below h.o1 hb, ownsRow_below h.o2 hb, ownsRow_below h.o3 hb, ownsRow_below h.o4 hb, h.d12, h.d13, h.d14, h.d23, h.d24, h.d34, h.old.trans (hb.mono h.old.size), h.low, Nat.le_trans h.big hb.size⟩
theorem RX.set {w : World} {B : Nat} {W : World} {n1 n2 n3 n4 : Nat} {p q r s : Value} {F1 F2 F3 F4 : Nat → Int} (h : RX w B W n1 n2 n3 n4 p q r s F1 F2 F3 F4) {a : Addr} (h1 : w.heap.size ≤ a.block) (h2 : a.block < B) (v : Value) : RX w B (W.setCell a v) n1 n2 n3 n4 p q r s F1 F2 F3 F4 :=
  ⟨ownsRow_kept h.o1 (KeptFrom.set h2 v), ownsRow_kept h.o2 (KeptFrom.set h2 v), ownsRow_kept h.o3 (KeptFrom.set h2 v), ownsRow_kept h.o4 (KeptFrom.set h2 v), h.d12, h.d13, h.d14, h.d23, h.d24, h.d34, h.old.setCell h1 v, h.low, by rw [setCell_size]; exact h.big⟩
theorem other_kept {W W' : World} {B : Nat} {p q : Value} {n : Nat} {xs : List Value} (h : W.ownsRow B 3 1 q n xs) (hg : W.grownBy W' p.ownBlock) (hd : Ap p q) : W'.ownsRow B 3 1 q n xs := by
  refine h.kept hg ?_
  cases hq : q.ownBlock with
  | none => exact .inl rfl
  | some j =>
    refine .inr fun e => ?_
    rw [← hq] at e
    exact hd j (e ▸ hq) hq
theorem new_apart {W : World} {B : Nat} {p q : Value} {n g k c : Nat} {xs : List Value} (h : W.ownsRow B 3 1 q n xs) (hd : Ap p q) (hat : p.ownBlock = some g ∨ g = W.heap.size) : Ap (.slice (some ⟨g, 0, none⟩) k c) q := fun g' hg' hq => by
  simp [Value.ownBlock] at hg'
  subst hg'
  rcases hat with e | e
  · exact hd _ e hq
  · have := (h.lt _ hq).2; omega
theorem RX.push1 {w : World} {B : Nat} {W W' : World} {n1 n2 n3 n4 : Nat} {p q r s : Value} {F1 F2 F3 F4 : Nat → Int} (h : RX w B W n1 n2 n3 n4 p q r s F1 F2 F3 F4) {g cap : Nat} (hg : W.grownBy W' p.ownBlock)
    (hown : W'.ownsRow B 3 1 (.slice (some ⟨g, 0, none⟩) (n1 + 1) cap) (n1 + 1) (cellsI F1 n1 ++ [.int .i64 (F1 n1)])) (hat : p.ownBlock = some g ∨ g = W.heap.size) : RX w B W' (n1 + 1) n2 n3 n4 (.slice (some ⟨g, 0, none⟩) (n1 + 1) cap) q r s F1 F2 F3 F4 :=
  ⟨by rw [cellsI_succ]; exact hown, other_kept h.o2 hg h.d12, other_kept h.o3 hg h.d13, other_kept h.o4 hg h.d14, new_apart h.o2 h.d12 hat, new_apart h.o3 h.d13 hat, new_apart h.o4 h.d14 hat, h.d23, h.d24, h.d34,
    h.old.grown hg h.old.size fun k hk => Nat.le_trans h.low (h.o1.lt k hk).1, h.low, Nat.le_trans h.big hg.size⟩
theorem RX.push2 {w : World} {B : Nat} {W W' : World} {n1 n2 n3 n4 : Nat} {p q r s : Value} {F1 F2 F3 F4 : Nat → Int} (h : RX w B W n1 n2 n3 n4 p q r s F1 F2 F3 F4) {g cap : Nat} (hg : W.grownBy W' q.ownBlock)
    (hown : W'.ownsRow B 3 1 (.slice (some ⟨g, 0, none⟩) (n2 + 1) cap) (n2 + 1) (cellsI F2 n2 ++ [.int .i64 (F2 n2)])) (hat : q.ownBlock = some g ∨ g = W.heap.size) : RX w B W' n1 (n2 + 1) n3 n4 p (.slice (some ⟨g, 0, none⟩) (n2 + 1) cap) r s F1 F2 F3 F4 := (h.rot.push1 hg hown hat).rot.rot.rot
theorem RX.push3 {w : World} {B : Nat} {W W' : World} {n1 n2 n3 n4 : Nat} {p q r s : Value} {F1 F2 F3 F4 : Nat → Int} (h : RX w B W n1 n2 n3 n4 p q r s F1 F2 F3 F4) {g cap : Nat} (hg : W.grownBy W' r.ownBlock)
    (hown : W'.ownsRow B 3 1 (.slice (some ⟨g, 0, none⟩) (n3 + 1) cap) (n3 + 1) (cellsI F3 n3 ++ [.int .i64 (F3 n3)])) (hat : r.ownBlock = some g ∨ g = W.heap.size) : RX w B W' n1 n2 (n3 + 1) n4 p q (.slice (some ⟨g, 0, none⟩) (n3 + 1) cap) s F1 F2 F3 F4 := (h.rot.rot.push1 hg hown hat).rot.rot
theorem RX.push4 {w : World} {B : Nat} {W W' : World} {n1 n2 n3 n4 : Nat} {p q r s : Value} {F1 F2 F3 F4 : Nat → Int} (h : RX w B W n1 n2 n3 n4 p q r s F1 F2 F3 F4) {g cap : Nat} (hg : W.grownBy W' s.ownBlock)
    (hown : W'.ownsRow B 3 1 (.slice (some ⟨g, 0, none⟩) (n4 + 1) cap) (n4 + 1) (cellsI F4 n4 ++ [.int .i64 (F4 n4)])) (hat : s.ownBlock = some g ∨ g = W.heap.size) : RX w B W' n1 n2 n3 (n4 + 1) p q r (.slice (some ⟨g, 0, none⟩) (n4 + 1) cap) F1 F2 F3 F4 := (h.rot.rot.rot.push1 hg hown hat).rot
theorem hb_alloc {W : World} {b : Nat} {ob : Obj} (h : W.heap[b]? = some ob) (o : Obj) : (W.alloc o).heap[b]? = some ob :=
  (((Below.refl _ W).alloc (Nat.le_refl _) o).block b (Array.getElem?_eq_some_iff.1 h).1).trans h
theorem hb_new2 (W : World) (o : Obj) (l : Array Value) (e : TypeId) : ((W.alloc o).alloc (Obj.cells l e)).heap[W.heap.size + 1]? = some (Obj.cells l e (0, 0)) := by
  have h := World.alloc_heap_new (W.alloc o) (Obj.cells l e)
  rw [World.size_alloc] at h; exact h
theorem hb_grown {W W' : World} {b : Nat} {ob : Obj} {row : Option Nat} (h : W.heap[b]? = some ob) (hg : W.grownBy W' row) (hne : some b ≠ row) : W'.heap[b]? = some ob :=
  (hg.block b (Array.getElem?_eq_some_iff.1 h).1 hne).trans h
end Go.Proofs.YtfhakedgihecoaaGreatDoor
