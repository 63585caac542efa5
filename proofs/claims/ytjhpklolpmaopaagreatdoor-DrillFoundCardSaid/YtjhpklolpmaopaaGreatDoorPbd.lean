/- A part of the proof: see the last file. -/
import Derived.Test.YtjhpklolpmaopaaGreatDoorPar
import Derived.Test.YtjhpklolpmaopaaGreatDoorPas
import Derived.Test.YtjhpklolpmaopaaGreatDoorPat
import Derived.Test.YtjhpklolpmaopaaGreatDoorPau
import Derived.Test.YtjhpklolpmaopaaGreatDoorPav
import Derived.Test.YtjhpklolpmaopaaGreatDoorPaw
import Derived.Test.YtjhpklolpmaopaaGreatDoorPax
import Derived.Test.YtjhpklolpmaopaaGreatDoorPay
import Derived.Test.YtjhpklolpmaopaaGreatDoorPaz
import Derived.Test.YtjhpklolpmaopaaGreatDoorPba
import Derived.Test.YtjhpklolpmaopaaGreatDoorPbb
import Derived.Test.YtjhpklolpmaopaaGreatDoorPbc
import Derived.Test.YtjhpklolpmaopaaGreatDoorPae
import Derived.Test.YtjhpklolpmaopaaGreatDoorPal
import Derived.Test.YtjhpklolpmaopaaGreatDoorPaj
import Derived.Test.YtjhpklolpmaopaaGreatDoorPak
import Derived.Test.YtjhpklolpmaopaaGreatDoorPab
import Derived.Test.YtjhpklolpmaopaaGreatDoorPad
import Derived.Test.YtjhpklolpmaopaaGreatDoorPaa
import Derived.Tactics
import Derived.Tactics2
import Derived.Defers
import Derived.Recover
set_option linter.unusedVariables false
set_option linter.unusedSimpArgs false
set_option linter.unusedSectionVars false
namespace Go.Proofs.YtjhpklolpmaopaaGreatDoor
open Go Go.Proofs Go.Can Go.RowKit
/-- the package-level variables hold what the text lays -/
structure KG (w : World) : Prop where
 g0 : ∃ e f, w.heap[3]? = some (.cells cells0.toArray e f)
 g1 : ∃ e f, w.heap[4]? = some (.cells cells1.toArray e f)
 g2 : ∃ e f, w.heap[2]? = some (.cells cells2.toArray e f)
 g3 : ∃ e f, w.heap[0]? = some (.cells cells3.toArray e f)
theorem KG.below {w w' : World} (h : KG w) (hb : Below w.heap.size w w') : KG w' := by
 have lt : ∀ {i : Nat} {o : Obj}, w.heap[i]? = some o → i < w.heap.size := fun h => (Array.getElem?_eq_some_iff.1 h).1
 obtain ⟨⟨e0, f0, h0⟩, ⟨e1, f1, h1⟩, ⟨e2, f2, h2⟩, ⟨e3, f3, h3⟩⟩ := h
 exact ⟨⟨e0, f0, by rw [hb.block _ (lt h0)]; exact h0⟩, ⟨e1, f1, by rw [hb.block _ (lt h1)]; exact h1⟩, ⟨e2, f2, by rw [hb.block _ (lt h2)]; exact h2⟩, ⟨e3, f3, by rw [hb.block _ (lt h3)]; exact h3⟩⟩
theorem KG.num {w : World} (h : KG w) : Glob.num ≤ w.heap.size := by
 obtain ⟨⟨e0, f0, h0⟩, ⟨e1, f1, h1⟩, ⟨e2, f2, h2⟩, ⟨e3, f3, h3⟩⟩ := h
 exact (Array.getElem?_eq_some_iff.1 h1).1
theorem known_ok (w : World) (h : KG w) : Calls Tryz.prog 12 #[] w fun e w' => e = .returned (.bool true) ∧ Below w.heap.size w w' := by
 have hn := h.num
 obtain ⟨⟨e0, f0, h0⟩, ⟨e1, f1, h1⟩, ⟨e2, f2, h2⟩, ⟨e3, f3, h3⟩⟩ := h
 refine runsM_true fair (ms := [memoF0, memoF1, memoF2, memoF3, memoF4, memoF5, memoF6, memoF7, memoF8, memoJ0]) (fun m hm => ?_) (known_run e0 e1 e2 e3 f0 f1 f2 f3) w ⟨hn, fun g o hg => ?_⟩
 ·simp only [List.mem_cons, List.not_mem_nil, or_false] at hm
  rcases hm with rfl | rfl | rfl | rfl | rfl | rfl | rfl | rfl | rfl | rfl
  ·exact memoF0_ok
  ·exact memoF1_ok
  ·exact memoF2_ok
  ·exact memoF3_ok
  ·exact memoF4_ok
  ·exact memoF5_ok
  ·exact memoF6_ok
  ·exact memoF7_ok
  ·exact memoF8_ok
  ·exact memoJ0_ok
 ·simp only [List.mem_cons, List.not_mem_nil, or_false, Prod.mk.injEq] at hg
  rcases hg with ⟨rfl, rfl⟩ | ⟨rfl, rfl⟩ | ⟨rfl, rfl⟩ | ⟨rfl, rfl⟩
  ·exact ⟨_, h0, .plain (by kernel_rfl)⟩
  ·exact ⟨_, h1, .plain (by kernel_rfl)⟩
  ·exact ⟨_, h2, .plain (by kernel_rfl)⟩
  ·exact ⟨_, h3, .plain (by kernel_rfl)⟩
end Go.Proofs.YtjhpklolpmaopaaGreatDoor
namespace Go.Proofs.YtjhpklolpmaopaaGreatDoor
open Go.RowKit Go.Can
def L2 : List (List Int) := [[0,1],[1,0]]
def L3 : List (List Int) := [[0,1,2],[0,2,1],[1,0,2],[1,2,0],[2,0,1],[2,1,0]]
def L4 : List (List Int) := [[0,1,2,3],[0,1,3,2],[0,2,1,3],[0,2,3,1],[0,3,1,2],[0,3,2,1],[1,0,2,3],[1,0,3,2],[1,2,0,3],[1,2,3,0],[1,3,0,2],[1,3,2,0],[2,0,1,3],[2,0,3,1],[2,1,0,3],[2,1,3,0],[2,3,0,1],[2,3,1,0],[3,0,1,2],[3,0,2,1],[3,1,0,2],[3,1,2,0],[3,2,0,1],[3,2,1,0]]
end Go.Proofs.YtjhpklolpmaopaaGreatDoor
namespace Go.Proofs.YtjhpklolpmaopaaGreatDoor
open Go.RowKit Go.Can
/-- an order in memory. -/
def OrdAt (w : World) (b off n : Nat) (q : List Nat) : Prop := ∀ i, i < n → w.cell? ⟨b, off + i, none⟩ = some (.int .i64 ((q.getD i 0 : Nat) : Int))
theorem OrdAt.below {w w' : World} {b off n : Nat} {q : List Nat} (h : OrdAt w b off n q) (hb : Below w.heap.size w w') (hl : b < w.heap.size) : OrdAt w' b off n q := fun i hi => (hb.cell (p := ⟨b, off + i, none⟩) hl).trans (h i hi)
/-! ### The reference's Match -/
end Go.Proofs.YtjhpklolpmaopaaGreatDoor
namespace Go.Proofs.YtjhpklolpmaopaaGreatDoor
open Go.RowKit Go.Can
end Go.Proofs.YtjhpklolpmaopaaGreatDoor
namespace Go.Proofs.YtjhpklolpmaopaaGreatDoor
open Go.RowKit Go.Shelf
attribute [local go_sem] Oper.semAt_some
/-- the cells of passing while it goes through a box. -/
structure PsX (w W : World) (u0 u1 u2 : Value) (bm k : Nat) (Q : Int → Int → Bool) (v : Value) (cnt : Nat) (xs : List Value) : Prop where
 old : w.grownBy W (some bm)
 t0 : W.cell? ⟨w.heap.size, 0, none⟩ = some u0
 t1 : W.cell? ⟨w.heap.size, 1, none⟩ = some u1
 t2 : W.cell? ⟨w.heap.size, 2, none⟩ = some u2
 f0 : W.cell? ⟨w.heap.size + 1 + 1, 0, none⟩ = some v
 ff : W.frozen? ⟨w.heap.size + 1 + 1, 0, none⟩ = false
 row : W.ownsRow (w.heap.size + 4) 43 2 v cnt xs
 gm : GoodAt W bm k Q
 big : w.heap.size + 4 ≤ W.heap.size
theorem own_base {w : World} {B s n g : Nat} {e : TypeId} {v : Value} {xs : List Value} (h : w.ownsRow B e s v n xs) (hg : v.ownBlock = some g) : B ≤ g ∧ ∃ o, w.heap[g]? = some o ∧ o.isCells = true := by
 obtain ⟨_, ⟨rfl, _⟩ | ⟨g', cap, cur, rfl, h1, h2, _⟩⟩ := h
 ·cases hg
 ·cases hg
  exact ⟨h1, _, h2, rfl⟩
theorem PsX.far {w W W' : World} {u0 u1 u2 : Value} {bm k k' : Nat} {Q : Int → Int → Bool} {v : Value} {cnt : Nat} {xs : List Value} (h : PsX w W u0 u1 u2 bm k Q v cnt xs) (hh : ∀ j, w.heap.size ≤ j → j < w.heap.size + 4 → W'.heap[j]? = W.heap[j]?) (hold : w.grownBy W' (some bm)) (hgm : GoodAt W' bm k' Q) (hrow : W'.ownsRow (w.heap.size + 4) 43 2 v cnt xs) (hz : W.heap.size ≤ W'.heap.size) : PsX w W' u0 u1 u2 bm k' Q v cnt xs :=
 have c : ∀ b j, w.heap.size ≤ b → b < w.heap.size + 4 → W'.cell? ⟨b, j, none⟩ = W.cell? ⟨b, j, none⟩ := fun b j h1 h2 => World.cell?_of_block (hh b h1 h2)
 have f : ∀ b j, w.heap.size ≤ b → b < w.heap.size + 4 → W'.frozen? ⟨b, j, none⟩ = W.frozen? ⟨b, j, none⟩ := fun b j h1 h2 => World.frozen?_of_block (hh b h1 h2)
 ⟨hold, (c _ _ (by omega) (by omega)).trans h.t0, (c _ _ (by omega) (by omega)).trans h.t1, (c _ _ (by omega) (by omega)).trans h.t2, (c _ _ (by omega) (by omega)).trans h.f0, (f _ _ (by omega) (by omega)).trans h.ff, hrow, hgm, Nat.le_trans h.big hz⟩
theorem PsX.mono {w W : World} {u0 u1 u2 : Value} {bm k k' : Nat} {Q : Int → Int → Bool} {v : Value} {cnt : Nat} {xs : List Value} (h : PsX w W u0 u1 u2 bm k Q v cnt xs) (hk : k ≤ k') : PsX w W u0 u1 u2 bm k' Q v cnt xs :=
 ⟨h.old, h.t0, h.t1, h.t2, h.f0, h.ff, h.row, h.gm.mono hk, h.big⟩
theorem PsX.step {w W W' : World} {u0 u1 u2 : Value} {bm k : Nat} {Q : Int → Int → Bool} {v : Value} {cnt : Nat} {xs : List Value} {row : Option Nat} (h : PsX w W u0 u1 u2 bm k Q v cnt xs) (hb : bm < w.heap.size) (hg : W.grownBy W' row) (hr : ∀ r, row = some r → w.heap.size + 4 ≤ r ∧ ∃ o : Obj, W.heap[r]? = some o ∧ o.isCells = false) : PsX w W' u0 u1 u2 bm k Q v cnt xs :=
 have hbig := h.big
 h.far (fun j h1 h2 => hg.block j (by omega) (fun e => by have := (hr j e.symm).1; omega)) (h.old.andThen hg fun j e => .inl (by have := (hr j e).1; omega)) (h.gm.kept hg fun e => by have := (hr bm e.symm).1; omega)
  (h.row.kept hg (by
   cases hv : v.ownBlock with
   | none => exact .inl rfl
   | some g =>
    refine .inr fun e => ?_
    obtain ⟨_, o, ho, hc⟩ := own_base h.row hv
    obtain ⟨_, o', ho', hc'⟩ := hr g e.symm
    rw [ho] at ho'; cases ho'; rw [hc] at hc'; cases hc')) hg.size
theorem PsX.alloc {w W : World} {u0 u1 u2 : Value} {bm k : Nat} {Q : Int → Int → Bool} {v : Value} {cnt : Nat} {xs : List Value} (h : PsX w W u0 u1 u2 bm k Q v cnt xs) (hb : bm < w.heap.size) (o : Obj) : PsX w (W.alloc o) u0 u1 u2 bm k Q v cnt xs :=
 h.step hb (World.grownBy_alloc _ _ none) (fun r e => by cases e)
theorem PsX.does {w W W' : World} {u0 u1 u2 : Value} {bm k k' : Nat} {Q : Int → Int → Bool} {v : Value} {cnt : Nat} {xs : List Value} (h : PsX w W u0 u1 u2 bm k Q v cnt xs) (hb : bm < w.heap.size) (hg : W.grownBy W' (some bm)) (hgm : GoodAt W' bm k' Q) : PsX w W' u0 u1 u2 bm k' Q v cnt xs :=
 have hbig := h.big
 h.far (fun j h1 h2 => hg.block j (by omega) (fun e => by cases e; omega)) (h.old.andThen hg fun j e => .inr e) hgm
  (h.row.kept hg (by
   cases hv : v.ownBlock with
   | none => exact .inl rfl
   | some g => exact .inr fun e => by have := (own_base h.row hv).1; cases e; omega)) hg.size
/-- a point more. -/
theorem PsX.push {w W W' : World} {u0 u1 u2 : Value} {bm k : Nat} {Q : Int → Int → Bool} {v v' : Value} {cnt cnt' : Nat} {xs xs' : List Value} (h : PsX w W u0 u1 u2 bm k Q v cnt xs) (hb : bm < w.heap.size) (hg : W.grownBy W' v.ownBlock) (hown : W'.ownsRow (w.heap.size + 4) 43 2 v' cnt' xs') :
  PsX w (W'.setCell ⟨w.heap.size + 1 + 1, 0, none⟩ v') u0 u1 u2 bm k Q v' cnt' xs' := by
 have hbig := h.big
 have hlo : ∀ g, v.ownBlock = some g → w.heap.size + 4 ≤ g := fun g hv => (own_base h.row hv).1
 have hh : ∀ j, w.heap.size ≤ j → j < w.heap.size + 4 → W'.heap[j]? = W.heap[j]? := fun j h1 h2 => hg.block j (by omega) (fun e => by have := hlo j e.symm; omega)
 have c : ∀ b j, w.heap.size ≤ b → b < w.heap.size + 4 → W'.cell? ⟨b, j, none⟩ = W.cell? ⟨b, j, none⟩ := fun b j h1 h2 => World.cell?_of_block (hh b h1 h2)
 have f : ∀ b j, w.heap.size ≤ b → b < w.heap.size + 4 → W'.frozen? ⟨b, j, none⟩ = W.frozen? ⟨b, j, none⟩ := fun b j h1 h2 => World.frozen?_of_block (hh b h1 h2)
 have hz := hg.size
 refine ⟨(h.old.andThen hg fun j e => .inl (by have := hlo j e; omega)).andThen (grown_set _) (fun j e => .inl (by cases e; show w.heap.size ≤ w.heap.size + 1 + 1; omega)), ?_, ?_, ?_, World.cell?_setCell_same' _ _ _ (by rw [(c _ _ (by omega) (by omega)).trans h.f0]; rfl), ?_, ownsRow_kept hown (KeptFrom.set (by show w.heap.size + 1 + 1 < _; omega) _),
  (h.gm.kept hg fun e => by have := hlo bm e.symm; omega).kept (grown_set _) (by simp; omega), by rw [World.size_setCell]; omega⟩
 ·rw [World.cell?_setCell_far _ _ _ _ (by first | (simp; done) | (simp; omega))]; exact (c _ _ (by omega) (by omega)).trans h.t0
 ·rw [World.cell?_setCell_far _ _ _ _ (by first | (simp; done) | (simp; omega))]; exact (c _ _ (by omega) (by omega)).trans h.t1
 ·rw [World.cell?_setCell_far _ _ _ _ (by first | (simp; done) | (simp; omega))]; exact (c _ _ (by omega) (by omega)).trans h.t2
 ·rw [World.frozen?_setCell]; exact (f _ _ (by omega) (by omega)).trans h.ff
theorem PsX.pushed {w W W' : World} {u0 u1 u2 : Value} {bm k : Nat} {Q : Int → Int → Bool} {va : Option Addr} {vc : Nat} {v' : Value} {cnt cnt' : Nat} {xs xs' : List Value} (h : PsX w W u0 u1 u2 bm k Q (.slice va cnt vc) cnt xs) (hb : bm < w.heap.size) (o : Obj) (hg : (W.alloc o).grownBy W' (Value.slice va cnt vc).ownBlock) (hc1 : 1 ≤ cnt') (hown : W'.ownsRow (w.heap.size + 4) 43 2 v' cnt' xs') :
  ∃ g c, v' = .slice (some ⟨g, 0, none⟩) cnt' c ∧ W'.cell? ⟨w.heap.size + 1 + 1, 0, none⟩ = some (.slice va cnt vc) ∧ W'.frozen? ⟨w.heap.size + 1 + 1, 0, none⟩ = false ∧
   (PsX w (W'.setCell ⟨w.heap.size + 1 + 1, 0, none⟩ (.slice (some ⟨g, 0, none⟩) cnt' c)) u0 u1 u2 bm k Q (.slice (some ⟨g, 0, none⟩) cnt' c) cnt' xs' ∧ KeepsFrom (w.heap.size + 4) W (W'.setCell ⟨w.heap.size + 1 + 1, 0, none⟩ (.slice (some ⟨g, 0, none⟩) cnt' c)) ∧
    KpB (w.heap.size + 1 + 1 + 1) W (W'.setCell ⟨w.heap.size + 1 + 1, 0, none⟩ (.slice (some ⟨g, 0, none⟩) cnt' c))) := by
 have hA := h.alloc hb o
 have hbig := h.big
 have hlo : ∀ g, (Value.slice va cnt vc).ownBlock = some g → w.heap.size + 4 ≤ g := fun g hv => (own_base hA.row hv).1
 obtain ⟨g, c, rfl⟩ := ownsRow_pos hc1 hown
 have hz := hg.size
 rw [World.size_alloc] at hz
 refine ⟨g, c, rfl, hg.cell hA.f0 (by intro e; have := hlo _ e.symm; simp at this; omega), ?_, ⟨hA.push hb hg hown, ?_, ?_⟩⟩
 ·exact (World.frozen?_of_block (hg.block _ (by rw [World.size_alloc]; show w.heap.size + 1 + 1 < _; omega) (by intro e; have := hlo _ e.symm; simp at this; omega))).trans hA.ff
 ·refine (((KeepsOthers.alloc W o).from _).trans ⟨by rw [World.size_alloc]; exact hz, fun j o' hB hj ho => ?_⟩).trans ((KeepsFrom.of_grownBy (grown_set _) fun j e => by cases e; show w.heap.size + 1 + 1 < _; omega))
  rw [hg.block j (by have := (Array.getElem?_eq_some_iff.1 hj).1; omega) (by intro e; obtain ⟨_, o2, ho2, hc2⟩ := own_base hA.row e.symm; rw [hj] at ho2; cases ho2; rw [hc2] at ho; cases ho)]
  exact hj
 ·refine ⟨by rw [World.size_setCell]; omega, ?_⟩
  have e1 : (W'.setCell ⟨w.heap.size + 1 + 1, 0, none⟩ (.slice (some ⟨g, 0, none⟩) cnt' c)).heap[w.heap.size + 1 + 1 + 1]? = W'.heap[w.heap.size + 1 + 1 + 1]? := (grown_set (W := W') _).block _ (by omega) (by intro e; simp at e)
  rw [e1, hg.block _ (by rw [World.size_alloc]; omega) (by intro e; have := hlo _ e.symm; omega)]
  exact Below.heap_alloc _ _ _ (by omega)
theorem none_push {α : Type} {P : α → Bool} {pre : List α} {x : α} {n : Nat} (h : n = 0 ↔ ∀ p ∈ pre, P p = false) (hx : P x = false) : n = 0 ↔ ∀ p ∈ pre ++ [x], P p = false := by
 rw [h]
 constructor
 ·intro h1 p hp
  rcases List.mem_append.1 hp with hp | hp
  ·exact h1 p hp
  ·rw [List.mem_singleton.1 hp]; exact hx
 ·exact fun h1 p hp => h1 p (List.mem_append_left _ hp)
theorem some_push {α : Type} {P : α → Bool} {pre : List α} {x : α} {n : Nat} (hx : P x = true) : n + 1 = 0 ↔ ∀ p ∈ pre ++ [x], P p = false :=
 ⟨fun h => by omega, fun h => by have := h x (List.mem_append_right _ (List.mem_singleton.2 rfl)); rw [hx] at this; cases this⟩
theorem psx_start (w : World) (u0 u1 u2 : Value) (x0 x1 y0 y1 : Int) (bm k : Nat) (Q : Int → Int → Bool) (hb : bm < w.heap.size) (hm : GoodAt w bm k Q) : PsX w ((((w.alloc (Obj.cells #[u0, u1, u2] 103)).alloc (Obj.cells #[.int .i64 x0, .int .i64 x1, .int .i64 y0, .int .i64 y1] 99)).alloc (Obj.cells #[.slice none 0 0] 22)).alloc (Obj.cells #[.int .i64 x0, .int .i64 x1, .int .i64 y0, .int .i64 y1] 99)) u0 u1 u2 bm k Q (.slice none 0 0) 0 [] ∧ ((((w.alloc (Obj.cells #[u0, u1, u2] 103)).alloc (Obj.cells #[.int .i64 x0, .int .i64 x1, .int .i64 y0, .int .i64 y1] 99)).alloc (Obj.cells #[.slice none 0 0] 22)).alloc (Obj.cells #[.int .i64 x0, .int .i64 x1, .int .i64 y0, .int .i64 y1] 99)).heap.size = w.heap.size + 4 ∧
  ∀ j u, (#[.int .i64 x0, .int .i64 x1, .int .i64 y0, .int .i64 y1] : Array Value)[j]? = some u → ((((w.alloc (Obj.cells #[u0, u1, u2] 103)).alloc (Obj.cells #[.int .i64 x0, .int .i64 x1, .int .i64 y0, .int .i64 y1] 99)).alloc (Obj.cells #[.slice none 0 0] 22)).alloc (Obj.cells #[.int .i64 x0, .int .i64 x1, .int .i64 y0, .int .i64 y1] 99)).cell? ⟨w.heap.size + 1 + 1 + 1, j, none⟩ = some u := by
 obtain ⟨A1, hA1⟩ : ∃ A, w.alloc (Obj.cells #[u0, u1, u2] 103) = A := ⟨_, rfl⟩
 obtain ⟨A2, hA2⟩ : ∃ A, A1.alloc (Obj.cells #[.int .i64 x0, .int .i64 x1, .int .i64 y0, .int .i64 y1] 99) = A := ⟨_, rfl⟩
 obtain ⟨A3, hA3⟩ : ∃ A, A2.alloc (Obj.cells #[.slice none 0 0] 22) = A := ⟨_, rfl⟩
 obtain ⟨A4, hA4⟩ : ∃ A, A3.alloc (Obj.cells #[.int .i64 x0, .int .i64 x1, .int .i64 y0, .int .i64 y1] 99) = A := ⟨_, rfl⟩
 rw [hA1, hA2, hA3, hA4]
 have s1 : A1.heap.size = w.heap.size + 1 := by rw [← hA1, World.size_alloc]
 have s2 : A2.heap.size = w.heap.size + 1 + 1 := by rw [← hA2, World.size_alloc, s1]
 have s3 : A3.heap.size = w.heap.size + 1 + 1 + 1 := by rw [← hA3, World.size_alloc, s2]
 have s4 : A4.heap.size = w.heap.size + 1 + 1 + 1 + 1 := by rw [← hA4, World.size_alloc, s3]
 have b1 : Below w.heap.size w A1 := by rw [← hA1]; exact (Below.refl _ _).alloc (Nat.le_refl _) _
 have b2 : Below A1.heap.size A1 A2 := by rw [← hA2]; exact (Below.refl _ _).alloc (Nat.le_refl _) _
 have b3 : Below A2.heap.size A2 A3 := by rw [← hA3]; exact (Below.refl _ _).alloc (Nat.le_refl _) _
 have b4 : Below A3.heap.size A3 A4 := by rw [← hA4]; exact (Below.refl _ _).alloc (Nat.le_refl _) _
 have b24 := b3.trans (b4.mono b3.size)
 have b14 := b2.trans (b24.mono b2.size)
 have b04 := b1.trans (b14.mono b1.size)
 have t := fun j u (h : (#[u0, u1, u2] : Array Value)[j]? = some u) => cells_new w #[u0, u1, u2] 103 h
 rw [hA1] at t
 have e3 := new_cell A2 (.slice none 0 0) 22
 rw [hA3, s2] at e3
 have e4 := fun j u (h : (#[.int .i64 x0, .int .i64 x1, .int .i64 y0, .int .i64 y1] : Array Value)[j]? = some u) => cells_new A3 #[.int .i64 x0, .int .i64 x1, .int .i64 y0, .int .i64 y1] 99 h
 rw [hA4, s3] at e4
 refine ⟨⟨⟨b04.os, b04.tape, b04.output, b04.size, fun i hi _ => b04.block i hi⟩, ?_, ?_, ?_, ?_, ?_, ⟨rfl, .inl ⟨rfl, rfl⟩⟩, hm.below b04 hb, by omega⟩, by omega, e4⟩
 ·exact (b14.cell (p := ⟨w.heap.size, 0, none⟩) (by show w.heap.size < _; omega)).trans (t 0 u0 rfl)
 ·exact (b14.cell (p := ⟨w.heap.size, 1, none⟩) (by show w.heap.size < _; omega)).trans (t 1 u1 rfl)
 ·exact (b14.cell (p := ⟨w.heap.size, 2, none⟩) (by show w.heap.size < _; omega)).trans (t 2 u2 rfl)
 ·exact (b4.cell (p := ⟨_, 0, none⟩) (by show w.heap.size + 1 + 1 < _; omega)).trans e3.1
 ·exact (b4.frozen (p := ⟨_, 0, none⟩) (by show w.heap.size + 1 + 1 < _; omega)).trans e3.2
set_option maxRecDepth 100000 in
set_option maxHeartbeats 2000000 in
theorem passing_in (u0 u1 : Value) (bm k n : Nat) (Q : Int → Int → Bool) (x0 x1 y0 y1 : Int) (w : World) (h1 : -48 ≤ x0) (h2 : x1 ≤ 48) (h3 : -48 ≤ y0) (h4 : y1 ≤ 48) (h5 : x0 ≤ 1000) (h6 : y0 ≤ 1000)
  (hb : bm < w.heap.size) (hm : GoodAt w bm k Q) (hk : k ≤ 1000000) (hn : 3 ≤ n)
  (hdoes : ∀ (W : World) (j : Nat) (x y : Int), w.grownBy W (some bm) → GoodAt W bm j Q → j ≤ 1000000000 → (-48 ≤ x ∧ x ≤ 48) → (-48 ≤ y ∧ y ≤ 48) →
   Calls Tryz.prog 93 #[.agg #[u0, u1, .map (some bm)], ptV x y] W fun e w' => e = .returned (.bool (Q x y)) ∧ GoodAt w' bm (j + 1) Q ∧ W.grownBy w' (some bm)) :
  CallsIn Fence.wide n Tryz.prog 51 #[.agg #[u0, u1, .map (some bm)], .agg #[.int .i64 x0, .int .i64 x1, .int .i64 y0, .int .i64 y1]] w fun e w' => ∃ a cnt c, e = .returned (.slice a cnt c) ∧ cnt ≤ 40401 ∧ (cnt = 0 ↔ ∀ x y, InBox x0 x1 y0 y1 x y → Q x y = false) ∧ GoodAt w' bm (k + 40401) Q ∧ w.grownBy w' (some bm) := by
 refine callsIn_of_wp_marks Tryz.func51 rfl trivial ?_ rfl
 obtain ⟨i0, hi, hz0, hz1, hz2⟩ := info_parts Tryz.info43
 simp only [Tryz.ntmps51, List.size_toArray, List.length_cons, List.length_nil, Nat.reduceAdd, Nat.reduceSub, Array.replicate_succ, Array.replicate_zero, List.push_toArray, List.append_toArray, List.nil_append, List.cons_append]
 gi_wp2_with (refine ⟨trivial, fun h => (by cases h), ?_⟩; gi_at_call 92; refine (callsIn_wide.2 (points_make x0 x1 y0 y1 _)).mono ?_; rintro e w2 ⟨rfl, rfl⟩)
 rename_i Q' K hKK
 obtain ⟨hX0, hW0z, hbx⟩ := psx_start w u0 u1 (.map (some bm)) x0 x1 y0 y1 bm k Q hb hm
 generalize ((((w.alloc (Obj.cells #[u0, u1, Value.map (some bm)] 103)).alloc (Obj.cells #[.int .i64 x0, .int .i64 x1, .int .i64 y0, .int .i64 y1] 99)).alloc (Obj.cells #[.slice none 0 0] 22)).alloc (Obj.cells #[.int .i64 x0, .int .i64 x1, .int .i64 y0, .int .i64 y1] 99)) = W0 at hX0 hW0z hbx ⊢
 refine wpIn_rangeFunc_ownH (α := BoxPt x0 x1 y0 y1) rfl (by omega) (gf := 132) (lb := #[.pointer (some ⟨w.heap.size + 1 + 1 + 1, 0, none⟩)]) rfl trivial (enters_of Tryz.func132 (by kernel_rfl) rfl)
  (points1_stops (n - 1) (w.heap.size + 1 + 1 + 1) x0 x1 y0 y1 W0 (by omega) (by omega) (by omega) (by omega) h5 h6 (by omega) (hbx 0 _ rfl) (hbx 1 _ rfl) (hbx 2 _ rfl) (hbx 3 _ rfl)) (fun h k => KpB.trans h k)
  (fun W l o o' hl ho _ _ => ⟨by rw [World.putObj_size]; exact Nat.le_refl _, World.putObj_heap_other (by omega)⟩) (Below.refl _ _) (fun _ => rfl)
  (fun pre W => ∃ v cnt xs, PsX w W u0 u1 (.map (some bm)) bm (k + pre.length) Q v cnt xs ∧ (cnt = 0 ↔ ∀ p ∈ pre, Q p.1.1 p.1.2 = false) ∧ cnt ≤ pre.length ∧ pre.length ≤ 40401)
  (fun c pre W => False)
  (fun pre A B row hs hg hr => by
   obtain ⟨v, cnt, xs, g1, g2⟩ := hs
   exact ⟨v, cnt, xs, g1.step hb hg fun r e => ⟨by have := (hr r e).1; omega, (hr r e).2⟩, g2⟩)
  (fun c pre A B row hs hg hr => hs)
  ⟨_, 0, [], hX0, by simp, by simp, by simp⟩
  (fun x a' W => ∃ Bx, w.heap.size + 4 ≤ Bx ∧ Bx < W.heap.size ∧ W.cell? ⟨Bx, 0, none⟩ = some (.int .i64 x.1.1) ∧ W.cell? ⟨Bx, 1, none⟩ = some (.int .i64 x.1.2) ∧ a' = { tmps := #[.agg #[u0, u1, .map (some bm)], .agg #[.int .i64 x0, .int .i64 x1, .int .i64 y0, .int .i64 y1], .pointer (some ⟨w.heap.size, 0, none⟩), .pointer (some ⟨w.heap.size + 1, 0, none⟩), .slice none 0 0, .pointer (some ⟨w.heap.size + 1 + 1, 0, none⟩), .pointer (some ⟨Bx, 0, none⟩), .agg #[.int .i64 x0, .int .i64 x1, .int .i64 y0, .int .i64 y1], .func (.func 132) #[] #[.pointer (some ⟨w.heap.size + 1 + 1 + 1, 0, none⟩)], ptV x.1.1 x.1.2, undef, undef, undef, undef, undef, undef, undef, undef], defers := [] })
  (fun x a' _ A B row hs hg hr => by
   obtain ⟨Bx, g1, g2, g3, g4, g5⟩ := hs
   exact ⟨Bx, g1, Nat.lt_of_lt_of_le g2 hg.size, cell_kept g3 hg (fun r e => (hr r e).2), cell_kept g4 hg (fun r e => (hr r e).2), g5⟩)
  ?assign ?body ?done ?stop
 case assign =>
  rintro l pre x W K2 ⟨v, cnt, xs, hX, hr⟩ hK2
  dsimp only [ptEnc]
  gi_wp2
  exact hK2 _ _ ((KeepsOthers.alloc _ _).from _) ⟨by rw [World.size_alloc]; omega, Below.heap_alloc _ _ _ (by have := hX.big; omega)⟩ ⟨v, cnt, xs, hX.alloc hb _, hr⟩ ⟨W.heap.size, hX.big, by rw [World.size_alloc]; omega, cells_new W _ _ rfl, cells_new W _ _ rfl, rfl⟩
 case body =>
  rintro l pre x a' W hl ⟨r, hr⟩ ⟨v, cnt, xs, hX, hcn, hcl, hlp⟩ ⟨Bx, hBx, hlt, e0, e1, rfl⟩ hlen
  have hd := hdoes W (k + pre.length) x.1.1 x.1.2 hX.old hX.gm (by omega) ⟨by have := x.2.1; omega, by have := x.2.2.1; omega⟩ ⟨by have := x.2.2.2.1; omega, by have := x.2.2.2.2; omega⟩
  have hlen' : (pre ++ [x]).length = pre.length + 1 := by simp
  have hbig := hX.big
  have hne : some Bx ≠ some bm := by intro e; simp at e; omega
  have c0 := hX.t0
  have c1 := hX.t1
  have c2 := hX.t2
  obtain ⟨va, vc, rfl⟩ := ownsRow_slice hX.row
  cases hq : Q x.1.1 x.1.2
  ·rw [hq] at hd
   have tok : True := trivial
   gi_wp2_with (have _t := tok; refine ⟨trivial, fun h => (by cases h), ?_⟩; gi_at_call 93; with_reducible refine (CallsIn.inRound l (callsIn_wide.2 hd)).mono ?_; rintro e w3 ⟨rfl, hgm3, hg3⟩; have hX3 := PLift.up (hX.does hb hg3 hgm3); clear tok _t hd hdoes hX hr hgm3)
   have hkf := KeepsFrom.of_grownBy (B := W0.heap.size) hg3 (fun j e => by cases e; omega)
   have hkp : w3.heap[w.heap.size + 1 + 1 + 1]? = W.heap[w.heap.size + 1 + 1 + 1]? := hg3.block _ (by omega) (fun e => by cases e; omega)
   exact ⟨hkf, ⟨hg3.size, hkp⟩, _, cnt, xs, hX3.down.mono (by omega), none_push (P := fun p : BoxPt x0 x1 y0 y1 => Q p.1.1 p.1.2) hcn hq, by omega, by omega⟩
  ·rw [hq] at hd
   have tok : True := trivial
   gi_wp2_with (first
    | (have _t := tok; refine ⟨trivial, fun h => (by cases h), ?_⟩; gi_at_call 93; with_reducible refine (CallsIn.inRound l (callsIn_wide.2 hd)).mono ?_; rintro e w3 ⟨rfl, hgm3, hg3⟩; have hX3 := PLift.up (hX.does hb hg3 hgm3); have q1 := hX3.down.f0; have q2 := hX3.down.ff; have e03 := (hg3.cell (a := ⟨Bx, 0, none⟩) e0 hne); have e13 := (hg3.cell (a := ⟨Bx, 1, none⟩) e1 hne); have hs3 := hg3.size; clear tok _t hd hdoes hX hr hgm3)
    | (gi_at_builtin; go_loud (refine wpListIn_append_own _ rfl _ _ 22 rfl (w.heap.size + 4) 43 i0 (.agg #[.int .i64 0, .int .i64 0]) 2 16 Tryz.underlying22 hi hz0 hz1 hz2 rfl (by decide) _ _ _ rfl (hX3.down.alloc hb _).row ⟨w3.heap.size, 0, none⟩ 1 1 [.int .i64 x.1.1, .int .i64 x.1.2] rfl rfl (cells_two w3 (.int .i64 x.1.1) (.int .i64 x.1.2) 43) (by simp [Value.oneCell']) (by unfold maxLen; omega) (by omega) (by have := hX3.down.big; simp only [World.size_alloc]; omega) ?_; intro v4 w4 hown4 hgrow4 _; obtain ⟨g4, c4, rfl, hb4, hf4, hX4'⟩ := hX3.down.pushed hb _ hgrow4 (Nat.le_add_left _ _) hown4; have hX4 := PLift.up hX4'; clear hX4')))
   have hkf := (KeepsFrom.of_grownBy (B := W0.heap.size) hg3 (fun j e => by cases e; omega)).trans (hW0z ▸ hX4.down.2.1)
   have hkp : KpB (w.heap.size + 1 + 1 + 1) W w3 := ⟨hg3.size, hg3.block _ (by omega) (fun e => by cases e; omega)⟩
   exact ⟨hkf, hkp.trans hX4.down.2.2, _, cnt + 1, _, hX4.down.1.mono (by omega), some_push (P := fun p : BoxPt x0 x1 y0 y1 => Q p.1.1 p.1.2) hq, by omega, by omega⟩
 case done =>
  rintro D pre W' hD hS ⟨v, cnt, xs, hX, hcn, hcl, hlp⟩ hDl
  apply hKK
  have hbig := hX.big
  have c0 := hX.f0
  have c1 := hX.ff
  obtain ⟨va, vc, rfl⟩ := ownsRow_slice hX.row
  have hcn' : cnt = 0 ↔ ∀ x y, InBox x0 x1 y0 y1 x y → Q x y = false := hcn.trans ⟨fun h x y hb => h ⟨(x, y), hb⟩ (hS _), fun h p _ => h _ _ p.2⟩
  have hX' := PLift.up hX
  clear hX hcn
  gi_wp2
  refine ⟨by simp, .inl ⟨_, _, rfl, run_takeDeferred hDl, ?_⟩⟩
  have hF := hX'.down.step hb (grownBy_putObj' W' D (.deferred none)) (fun r e => by cases e; exact ⟨by omega, _, hDl, rfl⟩)
  have r2 := hF.f0
  exact ⟨.slice va cnt vc, by simp [results, Tryz.results51, go_sem, r2], va, cnt, vc, rfl, by omega, hcn', hF.gm.mono (by omega), hF.old⟩
 case stop =>
  rintro D c pre W' hD _ h
  exact h.elim
end Go.Proofs.YtjhpklolpmaopaaGreatDoor
namespace Go.Proofs.YtjhpklolpmaopaaGreatDoor
open Go.RowKit
theorem range_put {W : World} {g : Nat} {A B B' C : List Value} (h : W.rangeAt g 0 (A ++ (B ++ C))) (hl : B'.length = B.length) : (W.setCells g A.length B').rangeAt g 0 (A ++ (B' ++ C)) := fun j v hj => by
 have hs : ∀ i, i < (A ++ (B ++ C)).length → (W.cell? ⟨g, i, none⟩).isSome = true := fun i hi => by
  have := h i _ (List.getElem?_eq_getElem hi)
  rw [Nat.zero_add] at this; rw [this]; rfl
 have hL : (A ++ (B ++ C)).length = A.length + B.length + C.length := by simp [Nat.add_assoc]
 rw [Nat.zero_add]
 by_cases h1 : j < A.length
 ·rw [World.cell?_setCells_out g B' A.length W ⟨g, j, none⟩ (fun _ _ => .inl h1)]
  rw [List.getElem?_append_left h1] at hj
  have := h j v (by rw [List.getElem?_append_left h1]; exact hj)
  rwa [Nat.zero_add] at this
 ·rw [List.getElem?_append_right (by omega)] at hj
  by_cases h2 : j - A.length < B'.length
  ·rw [List.getElem?_append_left h2] at hj
   have := World.cell?_setCells_in g B' A.length W (fun i hi => hs _ (by rw [hL]; omega)) (j - A.length) h2
   rw [show A.length + (j - A.length) = j by omega] at this
   rw [this, ← List.getElem?_eq_getElem h2]; exact hj
  ·rw [List.getElem?_append_right (by omega)] at hj
   rw [World.cell?_setCells_out g B' A.length W ⟨g, j, none⟩ (fun _ _ => .inr (by show A.length + B'.length ≤ j; omega))]
   have := h j v (by rw [List.getElem?_append_right (by omega), List.getElem?_append_right (by omega), ← hl]; exact hj)
   rwa [Nat.zero_add] at this
/-- a row of cells that may be written. -/
structure SAt (W : World) (g : Nat) (L : List Value) : Prop where
 c : W.rangeAt g 0 L
 z : ∀ i, W.frozen? ⟨g, i, none⟩ = false
theorem SAt.far {W W' : World} {g : Nat} {L : List Value} (h : SAt W g L) (hh : W'.heap[g]? = W.heap[g]?) : SAt W' g L :=
 ⟨fun j v hj => (World.cell?_of_block hh).trans (h.c j v hj), fun i => (show W'.frozen? ⟨g, i, none⟩ = W.frozen? ⟨g, i, none⟩ by unfold World.frozen?; rw [hh]).trans (h.z i)⟩
theorem SAt.below {W W' : World} {g B : Nat} {L : List Value} (h : SAt W g L) (hb : Below B W W') (hl : g < B) : SAt W' g L := h.far (hb.block g hl)
theorem SAt.put {W : World} {g : Nat} {A B B' C : List Value} (h : SAt W g (A ++ (B ++ C))) (hl : B'.length = B.length) : SAt (W.setCells g A.length B') g (A ++ (B' ++ C)) :=
 ⟨range_put h.c hl, fun i => by rw [World.frozen?_setCells]; exact h.z i⟩
theorem SAt.there {W : World} {g : Nat} {L : List Value} (h : SAt W g L) (o n : Nat) (hn : o + n ≤ L.length) : W.there g o n := fun j hj => by
 have hl : o + j < L.length := by omega
 have := h.c (o + j) _ (List.getElem?_eq_getElem hl)
 rw [Nat.zero_add] at this
 exact ⟨by rw [this]; rfl, h.z _⟩
theorem SAt.new (w : World) (L : List Value) (e : TypeId) : SAt (w.alloc (Obj.cells L.toArray e)) w.heap.size L :=
 ⟨fun j v hj => by rw [Nat.zero_add]; exact cells_new w _ _ (by rw [List.getElem?_toArray]; exact hj), fun i => by simp [go_sem]⟩
theorem st_put0 {W : World} {g : Nat} {m : Mach} {X X' Y : List Value} (h : SAt W g (m.st X Y)) (hl : X'.length = X.length) : SAt (W.setCells g 10 X') g (m.st X' Y) :=
 SAt.put (A := m.cells) h hl
theorem st_put1 {W : World} {g : Nat} {m : Mach} {X Y Y' : List Value} (h : SAt W g (m.st X Y)) (hx : X.length = 26) (hl : Y'.length = Y.length) : SAt (W.setCells g 36 Y') g (m.st X Y') := by
 have h' : SAt W g ((m.cells ++ X) ++ (Y ++ [])) := by
  rw [List.append_nil, List.append_assoc]; exact h
 have := SAt.put (A := m.cells ++ X) (B' := Y') h' hl
 rw [List.append_nil, List.append_assoc, List.length_append, hx] at this
 exact this
theorem size_setCells (b : Nat) : ∀ (vs : List Value) (o : Nat) (w : World), (w.setCells b o vs).heap.size = w.heap.size
 | [], _, _ => rfl
 | v :: r, o, w => by rw [World.setCells, size_setCells b r, World.size_setCell]
theorem course_yes (a : Axis) (v : Value) (w : World) (hf : a.fine) (hv : CSp w v a.n a.cl) (hc : a.can) :
  Calls Tryz.prog 58 #[.agg #[.int .i64 a.c0, .int .i64 a.c1, .int .i64 a.w0, .int .i64 a.w1, v], .slice none 0 0] w fun e w' => e = .returned (.agg (crsL a.ends 13).toArray) ∧ Below w.heap.size w w' := by
 refine (course_any a v w hf hv).mono ?_
 rintro e w' (⟨_, h⟩ | ⟨h, _⟩)
 ·exact h
 ·exact absurd hc h
theorem course_no (a : Axis) (v : Value) (w : World) (hf : a.fine) (hv : CSp w v a.n a.cl) (hc : ¬ a.can) :
  Calls Tryz.prog 58 #[.agg #[.int .i64 a.c0, .int .i64 a.c1, .int .i64 a.w0, .int .i64 a.w1, v], .slice none 0 0] w fun e w' => e = .panicked [{ v := .iface 225 (.agg #[]), recovered := false }] ∧ Below w.heap.size w w' := by
 refine (course_any a v w hf hv).mono ?_
 rintro e w' (⟨h, _⟩ | ⟨_, h⟩)
 ·exact absurd h hc
 ·exact h
set_option maxRecDepth 100000 in
set_option maxHeartbeats 4000000 in
theorem examine1_can (m : Mach) (g : Nat) (w0 w : World) (hok : m.ok = true) (h : MIn w0 m) (hw : Below w0.heap.size w0 w) (hg0 : w0.heap.size ≤ g) (hg : g < w.heap.size) (hS : SAt w g (m.st zero26 zero26)) (hX : m.axX.can) (hY : m.axY.can) :
  Calls Tryz.prog 89 #[.pointer (some ⟨g, 0, none⟩)] w fun e w' => e = .returned (.tuple #[]) ∧ SAt w' g (m.st (crsL m.axX.ends 13) (crsL m.axY.ends 13)) ∧ Below w0.heap.size w0 w' ∧ w.heap.size ≤ w'.heap.size ∧ (∀ b, b < w.heap.size → b ≠ g → w'.heap[b]? = w.heap[b]?) := by
 have hx0 := idxF0
 have hx1 := idxF1
 have hL := m.st_length (X := zero26) (Y := zero26) rfl rfl
 have hi0 : (Tryz.prog.info? 93).map (·.size) = some 62 := by kernel_rfl
 have hi : (Tryz.prog.info? 93).map (·.size) = some (m.st zero26 zero26).length := by rw [hL]; exact hi0
 have hax := fun (W : World) => axes_any (m.st zero26 zero26) hL W
 have hrg := hS.c
 have hic : (Tryz.prog.info? 90).map (·.size) = some 26 := by kernel_rfl
 have hlX : (crsL m.axX.ends 13).length = 26 := crsL_length _ 13
 have hlY : (crsL m.axY.ends 13).length = 26 := crsL_length _ 13
 have hiX : (Tryz.prog.info? 90).map (·.size) = some (crsL m.axX.ends 13).toArray.size := by rw [List.size_toArray, hlX]; exact hic
 have hiY : (Tryz.prog.info? 90).map (·.size) = some (crsL m.axY.ends 13).toArray.size := by rw [List.size_toArray, hlY]; exact hic
 have hoX := all_oneCell_toArray (crsL_one m.axX.ends 13)
 have hoY := all_oneCell_toArray (crsL_one m.axY.ends 13)
 have hcx := fun (W : World) v (hv : CSp W v m.axX.n m.axX.cl) => course_yes m.axX v W (Mach.fineX hok) hv hX
 have hcy := fun (W : World) v (hv : CSp W v m.axY.n m.axY.cl) => course_yes m.axY v W (Mach.fineY hok) hv hY
 generalize crsL m.axX.ends 13 = CX at *
 generalize crsL m.axY.ends 13 = CY at *
 have hp0 := fun (W : World) (H : SAt W g (m.st zero26 zero26)) => st_put0 (X' := CX) H hlX
 have hp1 := fun (W : World) (H : SAt W g (m.st CX zero26)) => st_put1 (Y' := CY) H hlX hlY
 have ht0 := fun (W : World) (H : SAt W g (m.st zero26 zero26)) => H.there 10 CX.toArray.size (by rw [List.size_toArray, hlX, hL]; omega)
 have ht1 := fun (W : World) (H : SAt W g (m.st CX zero26)) => H.there 36 CY.toArray.size (by rw [List.size_toArray, hlY, m.st_length hlX rfl]; omega)
 have halX := fun (W : World) (hB : Below w0.heap.size w0 W) => alongX_m m zero26 zero26 rfl rfl W hok (h.below hB)
 have halY := fun (W : World) (hB : Below w0.heap.size w0 W) => alongY_m m zero26 zero26 rfl rfl W hok (h.below hB)
 clear hL hi0 hic hlX hlY
 generalize hLL : m.st zero26 zero26 = L at *
 clear hLL
 go_enter Tryz.func89, Tryz.ntmps89
 go_wp2_with (first
  | (refine wpList_load_mid rfl 93 _ rfl g 0 rfl L _ hrg Tryz.underlying93 rfl hi ?_)
  | (go_at_call 57; with_reducible refine (hax _).mono ?_; rintro e w1 ⟨rfl, hb1⟩))
 refine wp_loop_rounds 3 ?_
 rw [rounds_succ]
 have hB := hw.trans (hb1.mono hw.size)
 have hs1 := hb1.size
 go_wp2_with (first
  | (go_at_call 95; with_reducible refine (halX _ hB).mono ?_; rintro e w2 ⟨v2, rfl, hv2, hb2⟩; have hs2 := hb2.size)
  | (go_at_call 58; with_reducible refine (hcx _ _ hv2).mono ?_; rintro e w3 ⟨rfl, hb3⟩; have hs3 := hb3.size; have hS3 := ((hS.below hb1 hg).below hb2 (by omega)).below hb3 (by omega); have hth := ht0 _ hS3)
  | (with_reducible refine wpList_store_mid rfl 90 _ _ rfl g 10 CX.toArray rfl rfl hth hiX hoX ?_))
 have hB3 := (hB.trans (hb2.mono hB.size)).trans (hb3.mono (Nat.le_trans hB.size hs2))
 have hK3 : ∀ b, b < w.heap.size → w3.heap[b]? = w.heap[b]? := fun b hb => (hb3.block b (by omega)).trans ((hb2.block b (by omega)).trans (hb1.block b hb))
 have hK4 : ∀ b, b < w.heap.size → b ≠ g → (w3.setCells g 10 CX).heap[b]? = w.heap[b]? := fun b hb hne => (World.heap_setCells_other w3 g 10 CX (by omega) hne).trans (hK3 b hb)
 have hS4 := hp0 _ hS3
 have hB4 := below_setCells hg0 CX 10 w3 hB3
 have hz4 : (w3.setCells g 10 CX).heap.size = w3.heap.size := size_setCells g CX 10 w3
 generalize w3.setCells g 10 CX = W4 at hS4 hB4 hz4 hK4 ⊢
 rw [rounds_succ]
 go_wp2_with (first
  | (go_at_call 96; with_reducible refine (halY _ hB4).mono ?_; rintro e w5 ⟨v5, rfl, hv5, hb5⟩; have hs5 := hb5.size)
  | (go_at_call 58; with_reducible refine (hcy _ _ hv5).mono ?_; rintro e w6 ⟨rfl, hb6⟩; have hs6 := hb6.size; have hS6 := (hS4.below hb5 (by omega)).below hb6 (by omega); have hth6 := ht1 _ hS6)
  | (with_reducible refine wpList_store_mid rfl 90 _ _ rfl g 36 CY.toArray rfl rfl hth6 hiY hoY ?_))
 have hB6 := (hB4.trans (hb5.mono hB4.size)).trans (hb6.mono (Nat.le_trans hB4.size hs5))
 have hK6 : ∀ b, b < w.heap.size → b ≠ g → w6.heap[b]? = w.heap[b]? := fun b hb hne => (hb6.block b (by omega)).trans ((hb5.block b (by omega)).trans (hK4 b hb hne))
 have hK7 : ∀ b, b < w.heap.size → b ≠ g → (w6.setCells g 36 CY).heap[b]? = w.heap[b]? := fun b hb hne => (World.heap_setCells_other w6 g 36 CY (by omega) hne).trans (hK6 b hb hne)
 have hS7 := hp1 _ hS6
 have hB7 := below_setCells hg0 CY 36 w6 hB6
 have hz7 : (w6.setCells g 36 CY).heap.size = w6.heap.size := size_setCells g CY 36 w6
 generalize w6.setCells g 36 CY = W7 at hS7 hB7 hz7 hK7 ⊢
 rw [rounds_succ]
 go_wp2
 go_end0
 exact ⟨rfl, hS7, hB7, by omega, hK7⟩
end Go.Proofs.YtjhpklolpmaopaaGreatDoor
namespace Go.Proofs.YtjhpklolpmaopaaGreatDoor
open Go.RowKit
set_option maxRecDepth 100000 in
set_option maxHeartbeats 4000000 in
theorem examine1_noX (m : Mach) (g : Nat) (w0 w : World) (hok : m.ok = true) (h : MIn w0 m) (hw : Below w0.heap.size w0 w) (hg0 : w0.heap.size ≤ g) (hg : g < w.heap.size) (hS : SAt w g (m.st zero26 zero26)) (hX : ¬ m.axX.can) :
  Calls Tryz.prog 89 #[.pointer (some ⟨g, 0, none⟩)] w fun e w' => e = .panicked [{ v := .iface 225 (.agg #[]), recovered := false }] ∧ Below w0.heap.size w0 w' ∧ w.heap.size ≤ w'.heap.size ∧ (∀ b, b < w.heap.size → b ≠ g → w'.heap[b]? = w.heap[b]?) := by
 have hx0 := idxF0
 have hx1 := idxF1
 have hL := m.st_length (X := zero26) (Y := zero26) rfl rfl
 have hi0 : (Tryz.prog.info? 93).map (·.size) = some 62 := by kernel_rfl
 have hi : (Tryz.prog.info? 93).map (·.size) = some (m.st zero26 zero26).length := by rw [hL]; exact hi0
 have hax := fun (W : World) => axes_any (m.st zero26 zero26) hL W
 have hrg := hS.c
 have hcx := fun (W : World) v (hv : CSp W v m.axX.n m.axX.cl) => course_no m.axX v W (Mach.fineX hok) hv hX
 have halX := fun (W : World) (hB : Below w0.heap.size w0 W) => alongX_m m zero26 zero26 rfl rfl W hok (h.below hB)
 clear hL hi0
 generalize hLL : m.st zero26 zero26 = L at *
 clear hLL
 go_enter Tryz.func89, Tryz.ntmps89
 go_wp2_with (first
  | (refine wpList_load_mid rfl 93 _ rfl g 0 rfl L _ hrg Tryz.underlying93 rfl hi ?_)
  | (go_at_call 57; with_reducible refine (hax _).mono ?_; rintro e w1 ⟨rfl, hb1⟩))
 refine wp_loop_rounds 3 ?_
 rw [rounds_succ]
 have hB := hw.trans (hb1.mono hw.size)
 have hs1 := hb1.size
 go_wp2_with (first
  | (go_at_call 95; with_reducible refine (halX _ hB).mono ?_; rintro e w2 ⟨v2, rfl, hv2, hb2⟩; have hs2 := hb2.size)
  | (go_at_call 58; with_reducible refine (hcx _ _ hv2).mono ?_; rintro e w3 ⟨rfl, hb3⟩; have hs3 := hb3.size))
 have hB3 := (hB.trans (hb2.mono hB.size)).trans (hb3.mono (Nat.le_trans hB.size hs2))
 exact ⟨rfl, rfl, hB3, by omega, fun b hb _ => (hb3.block b (by omega)).trans ((hb2.block b (by omega)).trans (hb1.block b hb))⟩
set_option maxRecDepth 100000 in
set_option maxHeartbeats 4000000 in
theorem examine1_noY (m : Mach) (g : Nat) (w0 w : World) (hok : m.ok = true) (h : MIn w0 m) (hw : Below w0.heap.size w0 w) (hg0 : w0.heap.size ≤ g) (hg : g < w.heap.size) (hS : SAt w g (m.st zero26 zero26)) (hX : m.axX.can) (hY : ¬ m.axY.can) :
  Calls Tryz.prog 89 #[.pointer (some ⟨g, 0, none⟩)] w fun e w' => e = .panicked [{ v := .iface 225 (.agg #[]), recovered := false }] ∧ Below w0.heap.size w0 w' ∧ w.heap.size ≤ w'.heap.size ∧ (∀ b, b < w.heap.size → b ≠ g → w'.heap[b]? = w.heap[b]?) := by
 have hx0 := idxF0
 have hx1 := idxF1
 have hL := m.st_length (X := zero26) (Y := zero26) rfl rfl
 have hi0 : (Tryz.prog.info? 93).map (·.size) = some 62 := by kernel_rfl
 have hi : (Tryz.prog.info? 93).map (·.size) = some (m.st zero26 zero26).length := by rw [hL]; exact hi0
 have hax := fun (W : World) => axes_any (m.st zero26 zero26) hL W
 have hrg := hS.c
 have hic : (Tryz.prog.info? 90).map (·.size) = some 26 := by kernel_rfl
 have hlX : (crsL m.axX.ends 13).length = 26 := crsL_length _ 13
 have hiX : (Tryz.prog.info? 90).map (·.size) = some (crsL m.axX.ends 13).toArray.size := by rw [List.size_toArray, hlX]; exact hic
 have hoX := all_oneCell_toArray (crsL_one m.axX.ends 13)
 have hcx := fun (W : World) v (hv : CSp W v m.axX.n m.axX.cl) => course_yes m.axX v W (Mach.fineX hok) hv hX
 have hcy := fun (W : World) v (hv : CSp W v m.axY.n m.axY.cl) => course_no m.axY v W (Mach.fineY hok) hv hY
 generalize crsL m.axX.ends 13 = CX at *
 have hp0 := fun (W : World) (H : SAt W g (m.st zero26 zero26)) => st_put0 (X' := CX) H hlX
 have ht0 := fun (W : World) (H : SAt W g (m.st zero26 zero26)) => H.there 10 CX.toArray.size (by rw [List.size_toArray, hlX, hL]; omega)
 have halX := fun (W : World) (hB : Below w0.heap.size w0 W) => alongX_m m zero26 zero26 rfl rfl W hok (h.below hB)
 have halY := fun (W : World) (hB : Below w0.heap.size w0 W) => alongY_m m zero26 zero26 rfl rfl W hok (h.below hB)
 clear hL hi0 hic hlX
 generalize hLL : m.st zero26 zero26 = L at *
 clear hLL
 go_enter Tryz.func89, Tryz.ntmps89
 go_wp2_with (first
  | (refine wpList_load_mid rfl 93 _ rfl g 0 rfl L _ hrg Tryz.underlying93 rfl hi ?_)
  | (go_at_call 57; with_reducible refine (hax _).mono ?_; rintro e w1 ⟨rfl, hb1⟩))
 refine wp_loop_rounds 3 ?_
 rw [rounds_succ]
 have hB := hw.trans (hb1.mono hw.size)
 have hs1 := hb1.size
 go_wp2_with (first
  | (go_at_call 95; with_reducible refine (halX _ hB).mono ?_; rintro e w2 ⟨v2, rfl, hv2, hb2⟩; have hs2 := hb2.size)
  | (go_at_call 58; with_reducible refine (hcx _ _ hv2).mono ?_; rintro e w3 ⟨rfl, hb3⟩; have hs3 := hb3.size; have hS3 := ((hS.below hb1 hg).below hb2 (by omega)).below hb3 (by omega); have hth := ht0 _ hS3)
  | (with_reducible refine wpList_store_mid rfl 90 _ _ rfl g 10 CX.toArray rfl rfl hth hiX hoX ?_))
 have hB3 := (hB.trans (hb2.mono hB.size)).trans (hb3.mono (Nat.le_trans hB.size hs2))
 have hK3 : ∀ b, b < w.heap.size → w3.heap[b]? = w.heap[b]? := fun b hb => (hb3.block b (by omega)).trans ((hb2.block b (by omega)).trans (hb1.block b hb))
 have hK4 : ∀ b, b < w.heap.size → b ≠ g → (w3.setCells g 10 CX).heap[b]? = w.heap[b]? := fun b hb hne => (World.heap_setCells_other w3 g 10 CX (by omega) hne).trans (hK3 b hb)
 have hS4 := hp0 _ hS3
 have hB4 := below_setCells hg0 CX 10 w3 hB3
 have hz4 : (w3.setCells g 10 CX).heap.size = w3.heap.size := size_setCells g CX 10 w3
 generalize w3.setCells g 10 CX = W4 at hS4 hB4 hz4 hK4 ⊢
 rw [rounds_succ]
 go_wp2_with (first
  | (go_at_call 96; with_reducible refine (halY _ hB4).mono ?_; rintro e w5 ⟨v5, rfl, hv5, hb5⟩; have hs5 := hb5.size)
  | (go_at_call 58; with_reducible refine (hcy _ _ hv5).mono ?_; rintro e w6 ⟨rfl, hb6⟩; have hs6 := hb6.size))
 have hB6 := (hB4.trans (hb5.mono hB4.size)).trans (hb6.mono (Nat.le_trans hB4.size hs5))
 exact ⟨rfl, rfl, hB6, by omega, fun b hb hne => (hb6.block b (by omega)).trans ((hb5.block b (by omega)).trans (hK4 b hb hne))⟩
end Go.Proofs.YtjhpklolpmaopaaGreatDoor
namespace Go.Proofs.YtjhpklolpmaopaaGreatDoor
open Go.RowKit
theorem assert_reason (w : World) : (Instr.typeAssert (.iface 225 (.agg #[])) 20 168 true).run Tryz.prog w = .ok (.tuple #[.iface 225 (.agg #[]), .bool true]) w := by kernel_rfl
theorem assert_noreason (w : World) : (Instr.typeAssert .nilIface 20 168 true).run Tryz.prog w = .ok (.tuple #[.nilIface, .bool false]) w := by kernel_rfl
theorem method_impossible (w : World) : (method 395 225 (.agg #[]) "nacre/drill.errno").run Tryz.prog w = .ok (208, .agg #[]) w := by kernel_rfl
set_option maxRecDepth 100000 in
set_option maxHeartbeats 400000 in
theorem impossible_errno (w : World) :
  Calls Tryz.prog 208 #[.agg #[]] w fun e w' => e = .returned (.int .i64 7) ∧ w' = w.alloc (Obj.cells #[] 225) := by
 go_enter Tryz.func208, Tryz.ntmps208
 go_wp2
 go_ret
 exact ⟨rfl, rfl⟩
set_option maxRecDepth 100000 in
set_option maxHeartbeats 1000000 in
theorem catch_idle (p : Addr) (w : World) :
  CallsD Tryz.prog 94 #[.pointer (some p)] .returning w fun e u' w' => e = .returned (.tuple #[]) ∧ u' = .returning ∧ w' = w := by
 have ha := assert_noreason
 refine callsD_of_wpS Tryz.func94 rfl fun c₀ cs hu => ?_
 apply wpS_seq
 apply wpS_region
 simp [wpOpsS, go_sem, recoverD, hu, Tryz.ntmps94, Exit.thenS]
 refine wpS_of_wp ?_
 go_wp2_with (go_at_call 208; refine (impossible_errno _).mono ?_; rintro e w' ⟨rfl, rfl⟩)
 simp [bodyPostS, results, Tryz.results94]
 cases c₀
 simp_all
set_option maxRecDepth 100000 in
set_option maxHeartbeats 1000000 in
theorem catch_panicking (b : Nat) (x : Int) (older : List PanicEntry) (w : World) (hb : b < w.heap.size) (hc : w.cell? ⟨b, 0, none⟩ = some (.int .i64 x)) (hz : w.frozen? ⟨b, 0, none⟩ = false) :
  CallsD Tryz.prog 94 #[.pointer (some ⟨b, 0, none⟩)] (.panicking ({ v := .iface 225 (.agg #[]), recovered := false } :: older)) w fun e u' w' =>
   e = .returned (.tuple #[]) ∧ u' = .panicking ({ v := .iface 225 (.agg #[]), recovered := true } :: older) ∧ w' = (w.setCell ⟨b, 0, none⟩ (.int .i64 7)).alloc (Obj.cells #[] 225) := by
 have ha := assert_reason
 have hm := method_impossible
 have hc1 : (w.alloc (Obj.cells #[] 225)).cell? ⟨b, 0, none⟩ = some (.int .i64 x) := (((Below.refl _ w).alloc (Nat.le_refl _) _).cell (p := ⟨b, 0, none⟩) hb).trans hc
 have hz1 : (w.alloc (Obj.cells #[] 225)).frozen? ⟨b, 0, none⟩ = false := (((Below.refl _ w).alloc (Nat.le_refl _) _).frozen (p := ⟨b, 0, none⟩) hb).trans hz
 refine callsD_of_wpS Tryz.func94 rfl fun c₀ cs hu => ?_
 apply wpS_seq
 apply wpS_region
 simp [wpOpsS, go_sem, recoverD, hu, Tryz.ntmps94, Exit.thenS]
 refine wpS_of_wp ?_
 go_wp2_with (go_at_call 208; refine (impossible_errno _).mono ?_; rintro e w' ⟨rfl, rfl⟩)
 simp [bodyPostS, results, Tryz.results94]
end Go.Proofs.YtjhpklolpmaopaaGreatDoor
namespace Go.Proofs.YtjhpklolpmaopaaGreatDoor
open Go.RowKit
set_option maxRecDepth 100000 in
set_option maxHeartbeats 4000000 in
theorem attempt_ok (g : Nat) (w : World) (R : World → Prop)
  (hdo : Calls Tryz.prog 89 #[.pointer (some ⟨g, 0, none⟩)] (w.alloc (Obj.cells #[.int .i64 0] 37)) fun e w' => e = .returned (.tuple #[]) ∧ w'.cell? ⟨w.heap.size, 0, none⟩ = some (.int .i64 0) ∧ w'.frozen? ⟨w.heap.size, 0, none⟩ = false ∧ R (w'.setCell ⟨w.heap.size, 0, none⟩ (.int .i64 0))) :
  Calls Tryz.prog 55 #[.func (.func 89) #[] #[.pointer (some ⟨g, 0, none⟩)]] w fun e w' => e = .returned (.int .i64 0) ∧ R w' := by
 have hmf : ∀ (fn : Fn) (first cap : Array Value) (w : World), (Instr.makeFunc fn first cap).run Tryz.prog w = .ok (.func fn first cap) w := fun _ _ _ _ => rfl
 go_enter_defers Tryz.func55, Tryz.ntmps55
 go_wp2_with (go_at_call 89; with_reducible refine hdo.mono ?_; rintro e w2 ⟨rfl, c2, z2, hR⟩)
 have c3 : (w2.setCell ⟨w.heap.size, 0, none⟩ (.int .i64 0)).cell? ⟨w.heap.size, 0, none⟩ = some (.int .i64 0) := World.cell?_setCell_same' _ _ _ (by rw [c2]; rfl)
 generalize w2.setCell ⟨w.heap.size, 0, none⟩ (.int .i64 0) = w3 at c3 hR ⊢
 refine leaves_cons (f := 94) (args := #[.pointer (some ⟨w.heap.size, 0, none⟩)]) (by simp) (by simp [go_sem]) ?_
 refine (catch_idle ⟨w.heap.size, 0, none⟩ _).mono ?_
 rintro e u' w'' ⟨rfl, rfl, rfl⟩
 simp [Leaves, settle, results, Tryz.results55, go_sem, c3, hR]
set_option maxRecDepth 100000 in
set_option maxHeartbeats 4000000 in
theorem attempt_no (g : Nat) (w : World) (R : World → Prop)
  (hdo : Calls Tryz.prog 89 #[.pointer (some ⟨g, 0, none⟩)] (w.alloc (Obj.cells #[.int .i64 0] 37)) fun e w' => e = .panicked [{ v := .iface 225 (.agg #[]), recovered := false }] ∧ w.heap.size < w'.heap.size ∧ w'.cell? ⟨w.heap.size, 0, none⟩ = some (.int .i64 0) ∧ w'.frozen? ⟨w.heap.size, 0, none⟩ = false ∧ R ((w'.setCell ⟨w.heap.size, 0, none⟩ (.int .i64 7)).alloc (Obj.cells #[] 225))) :
  Calls Tryz.prog 55 #[.func (.func 89) #[] #[.pointer (some ⟨g, 0, none⟩)]] w fun e w' => e = .returned (.int .i64 7) ∧ R w' := by
 have hmf : ∀ (fn : Fn) (first cap : Array Value) (w : World), (Instr.makeFunc fn first cap).run Tryz.prog w = .ok (.func fn first cap) w := fun _ _ _ _ => rfl
 go_enter_defers Tryz.func55, Tryz.ntmps55
 go_wp2_with (go_at_call 89; with_reducible refine hdo.mono ?_; rintro e w2 ⟨rfl, hl, c2, z2, hR⟩)
 refine leaves_cons (f := 94) (args := #[.pointer (some ⟨w.heap.size, 0, none⟩)]) (by simp) (by simp [go_sem]) ?_
 refine (catch_panicking w.heap.size 0 [] _ hl c2 z2).mono ?_
 rintro e u' w'' ⟨rfl, rfl, rfl⟩
 have c3 : ((w2.setCell ⟨w.heap.size, 0, none⟩ (.int .i64 7)).alloc (Obj.cells #[] 225)).cell? ⟨w.heap.size, 0, none⟩ = some (.int .i64 7) := (((Below.refl _ (w2.setCell ⟨w.heap.size, 0, none⟩ (.int .i64 7))).alloc (Nat.le_refl _) _).cell (p := ⟨w.heap.size, 0, none⟩) (by rw [World.size_setCell]; exact hl)).trans (World.cell?_setCell_same' _ _ _ (by rw [c2]; rfl))
 generalize (w2.setCell ⟨w.heap.size, 0, none⟩ (.int .i64 7)).alloc (Obj.cells #[] 225) = w3 at c3 hR ⊢
 simp [Leaves, settle, results, Tryz.results55, go_sem, c3, hR]
end Go.Proofs.YtjhpklolpmaopaaGreatDoor
