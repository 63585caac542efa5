/- A part of the proof: see the last file. -/
import Derived.Test.YtjhpklolpmaopaaGreatDoorPar
import Derived.Test.YtjhpklolpmaopaaGreatDoorPas
import Derived.Test.YtjhpklolpmaopaaGreatDoorPat
import Derived.Test.YtjhpklolpmaopaaGreatDoorPau
import Derived.Test.YtjhpklolpmaopaaGreatDoorPav
import Derived.Test.YtjhpklolpmaopaaGreatDoorPaw
import Derived.Test.YtjhpklolpmaopaaGreatDoorPax
import Derived.Test.YtjhpklolpmaopaaGreatDoorPay
import Derived.Test.YtjhpklolpmaopaaGreatDoorPaz
import Derived.Test.YtjhpklolpmaopaaGreatDoorPba
import Derived.Test.YtjhpklolpmaopaaGreatDoorPbb
import Derived.Test.YtjhpklolpmaopaaGreatDoorPbc
import Derived.Test.YtjhpklolpmaopaaGreatDoorPae
import Derived.Test.YtjhpklolpmaopaaGreatDoorPal
import Derived.Test.YtjhpklolpmaopaaGreatDoorPaj
import Derived.Test.YtjhpklolpmaopaaGreatDoorPak
import Derived.Test.YtjhpklolpmaopaaGreatDoorPab
import Derived.Test.YtjhpklolpmaopaaGreatDoorPad
import Derived.Test.YtjhpklolpmaopaaGreatDoorPaa
import Derived.Tactics
import Derived.Tactics2
import Derived.Defers
import Derived.Recover
set_option linter.unusedVariables false
set_option linter.unusedSimpArgs false
set_option linter.unusedSectionVars false
namespace Go.Proofs.YtjhpklolpmaopaaGreatDoor
open Go Go.Proofs Go.Can Go.RowKit
/-- the package-level variables hold what the text lays -/
structure KG (w : World) : Prop where
 g0 : ∃ e f, w.heap[3]? = some (.cells cells0.toArray e f)
 g1 : ∃ e f, w.heap[4]? = some (.cells cells1.toArray e f)
 g2 : ∃ e f, w.heap[2]? = some (.cells cells2.toArray e f)
 g3 : ∃ e f, w.heap[0]? = some (.cells cells3.toArray e f)
theorem KG.below {w w' : World} (h : KG w) (hb : Below w.heap.size w w') : KG w' := by
 have lt : ∀ {i : Nat} {o : Obj}, w.heap[i]? = some o → i < w.heap.size := fun h => (Array.getElem?_eq_some_iff.1 h).1
 obtain ⟨⟨e0, f0, h0⟩, ⟨e1, f1, h1⟩, ⟨e2, f2, h2⟩, ⟨e3, f3, h3⟩⟩ := h
 exact ⟨⟨e0, f0, by rw [hb.block _ (lt h0)]; exact h0⟩, ⟨e1, f1, by rw [hb.block _ (lt h1)]; exact h1⟩, ⟨e2, f2, by rw [hb.block _ (lt h2)]; exact h2⟩, ⟨e3, f3, by rw [hb.block _ (lt h3)]; exact h3⟩⟩
theorem KG.num {w : World} (h : KG w) : Glob.num ≤ w.heap.size := by
 obtain ⟨⟨e0, f0, h0⟩, ⟨e1, f1, h1⟩, ⟨e2, f2, h2⟩, ⟨e3, f3, h3⟩⟩ := h
 exact (Array.getElem?_eq_some_iff.1 h1).1
theorem known_ok (w : World) (h : KG w) : Calls Tryz.prog 12 #[] w fun e w' => e = .returned (.bool true) ∧ Below w.heap.size w w' := by
 have hn := h.num
 obtain ⟨⟨e0, f0, h0⟩, ⟨e1, f1, h1⟩, ⟨e2, f2, h2⟩, ⟨e3, f3, h3⟩⟩ := h
 refine runsM_true fair (ms := [memoF0, memoF1, memoF2, memoF3, memoF4, memoF5, memoF6, memoF7, memoF8, memoJ0]) (fun m hm => ?_) (known_run e0 e1 e2 e3 f0 f1 f2 f3) w ⟨hn, fun g o hg => ?_⟩
 ·simp only [List.mem_cons, List.not_mem_nil, or_false] at hm
  rcases hm with rfl | rfl | rfl | rfl | rfl | rfl | rfl | rfl | rfl | rfl
  ·exact memoF0_ok
  ·exact memoF1_ok
  ·exact memoF2_ok
  ·exact memoF3_ok
  ·exact memoF4_ok
  ·exact memoF5_ok
  ·exact memoF6_ok
  ·exact memoF7_ok
  ·exact memoF8_ok
  ·exact memoJ0_ok
 ·simp only [List.mem_cons, List.not_mem_nil, or_false, Prod.mk.injEq] at hg
  rcases hg with ⟨rfl, rfl⟩ | ⟨rfl, rfl⟩ | ⟨rfl, rfl⟩ | ⟨rfl, rfl⟩
  ·exact ⟨_, h0, .plain (by kernel_rfl)⟩
  ·exact ⟨_, h1, .plain (by kernel_rfl)⟩
  ·exact ⟨_, h2, .plain (by kernel_rfl)⟩
  ·exact ⟨_, h3, .plain (by kernel_rfl)⟩
end Go.Proofs.YtjhpklolpmaopaaGreatDoor
namespace Go.Proofs.YtjhpklolpmaopaaGreatDoor
open Go.RowKit Go.Can
def eqL : List Int → List Int → Bool
 | [], [] => true
 | x :: l, y :: m => decide (x = y) && eqL l m
 | _, _ => false
theorem eqL_ok : ∀ {l m : List Int}, eqL l m = true → l = m
 | [], [], _ => rfl
 | x :: l, y :: m, h => by
  simp only [eqL, Bool.and_eq_true, decide_eq_true_iff] at h
  rw [h.1, eqL_ok h.2]
 | [], _ :: _, h => by simp [eqL] at h
 | _ :: _, [], h => by simp [eqL] at h
def eqLL : List (List Int) → List (List Int) → Bool
 | [], [] => true
 | x :: l, y :: m => eqL x y && eqLL l m
 | _, _ => false
theorem eqLL_ok : ∀ {l m : List (List Int)}, eqLL l m = true → l = m
 | [], [], _ => rfl
 | x :: l, y :: m, h => by
  simp only [eqLL, Bool.and_eq_true] at h
  rw [eqL_ok h.1, eqLL_ok h.2]
 | [], _ :: _, h => by simp [eqLL] at h
 | _ :: _, [], h => by simp [eqLL] at h
noncomputable def isII (m : List (List Int)) (v : Value) (c : CW) : Bool := match readII c v with
 | some l => eqLL l m
 | none => false
theorem isII_ok {m : List (List Int)} {v v' : Value} {c : CW} {f : Mp} {w : World} (h : isII m v c = true) (hv : VR f v v') (hh : HR f c w) (hm : 0 < m.length) (hall : ∀ x ∈ m, 0 < x.length) : SlII w v' m := by
 unfold isII at h
 split at h
 ·next l hl => rw [eqLL_ok h] at hl; exact readII_ok hv hh hl hm hall
 ·cases h
/-- the orders as integers. -/
def ordI (many : Nat) : List (List Int) := (ords many).map fun q => q.map Int.ofNat
def L2 : List (List Int) := [[0,1],[1,0]]
def L3 : List (List Int) := [[0,1,2],[0,2,1],[1,0,2],[1,2,0],[2,0,1],[2,1,0]]
def L4 : List (List Int) := [[0,1,2,3],[0,1,3,2],[0,2,1,3],[0,2,3,1],[0,3,1,2],[0,3,2,1],[1,0,2,3],[1,0,3,2],[1,2,0,3],[1,2,3,0],[1,3,0,2],[1,3,2,0],[2,0,1,3],[2,0,3,1],[2,1,0,3],[2,1,3,0],[2,3,0,1],[2,3,1,0],[3,0,1,2],[3,0,2,1],[3,1,0,2],[3,1,2,0],[3,2,0,1],[3,2,1,0]]
set_option maxRecDepth 10000000 in
set_option maxHeartbeats 0 in
theorem ords_run2 : runsA Tryz.prog [] 10000000 100 [.int .i64 2] (isII L2) = true := by kernel_rfl
set_option maxRecDepth 10000000 in
set_option maxHeartbeats 0 in
theorem ords_run3 : runsA Tryz.prog [] 10000000 100 [.int .i64 3] (isII L3) = true := by kernel_rfl
set_option maxRecDepth 10000000 in
set_option maxHeartbeats 0 in
theorem ords_run4 : runsA Tryz.prog [] 10000000 100 [.int .i64 4] (isII L4) = true := by kernel_rfl
theorem rorders_any (many : Nat) (h1 : 2 ≤ many) (h2 : many ≤ 4) (w : World) (hk : KG w) :
  Calls Tryz.prog 100 #[.int .i64 many] w fun e w' => ∃ v, e = .returned v ∧ SlII w' v (ordI many) ∧ Below w.heap.size w w' := by
 obtain rfl | rfl | rfl : many = 2 ∨ many = 3 ∨ many = 4 := by omega
 ·refine (runsA_sound fair (fun _ h => by cases h) (by decide) ords_run2 w hk.num).mono fun e w' ⟨v, v', c, f, he, hc, hv, hh, hb⟩ => ?_
  have e2 : ordI 2 = L2 := by unfold ordI; rw [ords2]; rfl
  exact ⟨v', he, by rw [e2]; exact isII_ok hc hv hh (by decide) (by decide), hb⟩
 ·refine (runsA_sound fair (fun _ h => by cases h) (by decide) ords_run3 w hk.num).mono fun e w' ⟨v, v', c, f, he, hc, hv, hh, hb⟩ => ?_
  have e2 : ordI 3 = L3 := by unfold ordI; rw [ords3]; rfl
  exact ⟨v', he, by rw [e2]; exact isII_ok hc hv hh (by decide) (by decide), hb⟩
 ·refine (runsA_sound fair (fun _ h => by cases h) (by decide) ords_run4 w hk.num).mono fun e w' ⟨v, v', c, f, he, hc, hv, hh, hb⟩ => ?_
  have e2 : ordI 4 = L4 := by unfold ordI; rw [ords4]; rfl
  exact ⟨v', he, by rw [e2]; exact isII_ok hc hv hh (by decide) (by decide), hb⟩
end Go.Proofs.YtjhpklolpmaopaaGreatDoor
namespace Go.Proofs.YtjhpklolpmaopaaGreatDoor
open Go.RowKit Go.Can
/-- an order in memory. -/
def OrdAt (w : World) (b off n : Nat) (q : List Nat) : Prop := ∀ i, i < n → w.cell? ⟨b, off + i, none⟩ = some (.int .i64 ((q.getD i 0 : Nat) : Int))
theorem OrdAt.below {w w' : World} {b off n : Nat} {q : List Nat} (h : OrdAt w b off n q) (hb : Below w.heap.size w w') (hl : b < w.heap.size) : OrdAt w' b off n q := fun i hi => (hb.cell (p := ⟨b, off + i, none⟩) hl).trans (h i hi)
/-! ### The reference's Match -/
theorem ords_perm {many : Nat} (h1 : 2 ≤ many) (h2 : many ≤ 4) : ∀ q ∈ ords many, q.length = many ∧ ∀ i, i < many → q.getD i 0 < many := by
 obtain rfl | rfl | rfl : many = 2 ∨ many = 3 ∨ many = 4 := by omega
 ·rw [ords2]; decide
 ·rw [ords3]; decide
 ·rw [ords4]; decide
theorem SlI_ord {w : World} {v : Value} {q : List Nat} (h : SlI w v (q.map Int.ofNat)) : ∃ b o cap, v = .slice (some ⟨b, o, none⟩) q.length cap ∧ q.length ≤ cap ∧ b < w.heap.size ∧ OrdAt w b o q.length q := by
 obtain ⟨b, o, cap, h1, h0, h2, h3⟩ := h
 rw [List.length_map] at h1 h0
 refine ⟨b, o, cap, h1, h0, h2, fun i hi => ?_⟩
 rw [h3 i (by rw [List.length_map]; exact hi)]
 simp [List.getD, hi]
end Go.Proofs.YtjhpklolpmaopaaGreatDoor
namespace Go.Proofs.YtjhpklolpmaopaaGreatDoor
open Go.RowKit Go.Can
end Go.Proofs.YtjhpklolpmaopaaGreatDoor
namespace Go.Proofs.YtjhpklolpmaopaaGreatDoor
open Go.RowKit Go.Shelf
attribute [local go_sem] Oper.semAt_some
/-- the cells of passing while it goes through a box. -/
structure PsX (w W : World) (u0 u1 u2 : Value) (bm k : Nat) (Q : Int → Int → Bool) (v : Value) (cnt : Nat) (xs : List Value) : Prop where
 old : w.grownBy W (some bm)
 t0 : W.cell? ⟨w.heap.size, 0, none⟩ = some u0
 t1 : W.cell? ⟨w.heap.size, 1, none⟩ = some u1
 t2 : W.cell? ⟨w.heap.size, 2, none⟩ = some u2
 f0 : W.cell? ⟨w.heap.size + 1 + 1, 0, none⟩ = some v
 ff : W.frozen? ⟨w.heap.size + 1 + 1, 0, none⟩ = false
 row : W.ownsRow (w.heap.size + 4) 43 2 v cnt xs
 gm : GoodAt W bm k Q
 big : w.heap.size + 4 ≤ W.heap.size
theorem own_base {w : World} {B s n g : Nat} {e : TypeId} {v : Value} {xs : List Value} (h : w.ownsRow B e s v n xs) (hg : v.ownBlock = some g) : B ≤ g ∧ ∃ o, w.heap[g]? = some o ∧ o.isCells = true := by
 obtain ⟨_, ⟨rfl, _⟩ | ⟨g', cap, cur, rfl, h1, h2, _⟩⟩ := h
 ·cases hg
 ·cases hg
  exact ⟨h1, _, h2, rfl⟩
theorem PsX.far {w W W' : World} {u0 u1 u2 : Value} {bm k k' : Nat} {Q : Int → Int → Bool} {v : Value} {cnt : Nat} {xs : List Value} (h : PsX w W u0 u1 u2 bm k Q v cnt xs) (hh : ∀ j, w.heap.size ≤ j → j < w.heap.size + 4 → W'.heap[j]? = W.heap[j]?) (hold : w.grownBy W' (some bm)) (hgm : GoodAt W' bm k' Q) (hrow : W'.ownsRow (w.heap.size + 4) 43 2 v cnt xs) (hz : W.heap.size ≤ W'.heap.size) : PsX w W' u0 u1 u2 bm k' Q v cnt xs :=
 have c : ∀ b j, w.heap.size ≤ b → b < w.heap.size + 4 → W'.cell? ⟨b, j, none⟩ = W.cell? ⟨b, j, none⟩ := fun b j h1 h2 => World.cell?_of_block (hh b h1 h2)
 have f : ∀ b j, w.heap.size ≤ b → b < w.heap.size + 4 → W'.frozen? ⟨b, j, none⟩ = W.frozen? ⟨b, j, none⟩ := fun b j h1 h2 => World.frozen?_of_block (hh b h1 h2)
 ⟨hold, (c _ _ (by omega) (by omega)).trans h.t0, (c _ _ (by omega) (by omega)).trans h.t1, (c _ _ (by omega) (by omega)).trans h.t2, (c _ _ (by omega) (by omega)).trans h.f0, (f _ _ (by omega) (by omega)).trans h.ff, hrow, hgm, Nat.le_trans h.big hz⟩
theorem PsX.mono {w W : World} {u0 u1 u2 : Value} {bm k k' : Nat} {Q : Int → Int → Bool} {v : Value} {cnt : Nat} {xs : List Value} (h : PsX w W u0 u1 u2 bm k Q v cnt xs) (hk : k ≤ k') : PsX w W u0 u1 u2 bm k' Q v cnt xs :=
 ⟨h.old, h.t0, h.t1, h.t2, h.f0, h.ff, h.row, h.gm.mono hk, h.big⟩
theorem PsX.step {w W W' : World} {u0 u1 u2 : Value} {bm k : Nat} {Q : Int → Int → Bool} {v : Value} {cnt : Nat} {xs : List Value} {row : Option Nat} (h : PsX w W u0 u1 u2 bm k Q v cnt xs) (hb : bm < w.heap.size) (hg : W.grownBy W' row) (hr : ∀ r, row = some r → w.heap.size + 4 ≤ r ∧ ∃ o : Obj, W.heap[r]? = some o ∧ o.isCells = false) : PsX w W' u0 u1 u2 bm k Q v cnt xs :=
 have hbig := h.big
 h.far (fun j h1 h2 => hg.block j (by omega) (fun e => by have := (hr j e.symm).1; omega)) (h.old.andThen hg fun j e => .inl (by have := (hr j e).1; omega)) (h.gm.kept hg fun e => by have := (hr bm e.symm).1; omega)
  (h.row.kept hg (by
   cases hv : v.ownBlock with
   | none => exact .inl rfl
   | some g =>
    refine .inr fun e => ?_
    obtain ⟨_, o, ho, hc⟩ := own_base h.row hv
    obtain ⟨_, o', ho', hc'⟩ := hr g e.symm
    rw [ho] at ho'; cases ho'; rw [hc] at hc'; cases hc')) hg.size
theorem PsX.alloc {w W : World} {u0 u1 u2 : Value} {bm k : Nat} {Q : Int → Int → Bool} {v : Value} {cnt : Nat} {xs : List Value} (h : PsX w W u0 u1 u2 bm k Q v cnt xs) (hb : bm < w.heap.size) (o : Obj) : PsX w (W.alloc o) u0 u1 u2 bm k Q v cnt xs :=
 h.step hb (World.grownBy_alloc _ _ none) (fun r e => by cases e)
theorem PsX.does {w W W' : World} {u0 u1 u2 : Value} {bm k k' : Nat} {Q : Int → Int → Bool} {v : Value} {cnt : Nat} {xs : List Value} (h : PsX w W u0 u1 u2 bm k Q v cnt xs) (hb : bm < w.heap.size) (hg : W.grownBy W' (some bm)) (hgm : GoodAt W' bm k' Q) : PsX w W' u0 u1 u2 bm k' Q v cnt xs :=
 have hbig := h.big
 h.far (fun j h1 h2 => hg.block j (by omega) (fun e => by cases e; omega)) (h.old.andThen hg fun j e => .inr e) hgm
  (h.row.kept hg (by
   cases hv : v.ownBlock with
   | none => exact .inl rfl
   | some g => exact .inr fun e => by have := (own_base h.row hv).1; cases e; omega)) hg.size
/-- a point more. -/
theorem PsX.push {w W W' : World} {u0 u1 u2 : Value} {bm k : Nat} {Q : Int → Int → Bool} {v v' : Value} {cnt cnt' : Nat} {xs xs' : List Value} (h : PsX w W u0 u1 u2 bm k Q v cnt xs) (hb : bm < w.heap.size) (hg : W.grownBy W' v.ownBlock) (hown : W'.ownsRow (w.heap.size + 4) 43 2 v' cnt' xs') :
  PsX w (W'.setCell ⟨w.heap.size + 1 + 1, 0, none⟩ v') u0 u1 u2 bm k Q v' cnt' xs' := by
 have hbig := h.big
 have hlo : ∀ g, v.ownBlock = some g → w.heap.size + 4 ≤ g := fun g hv => (own_base h.row hv).1
 have hh : ∀ j, w.heap.size ≤ j → j < w.heap.size + 4 → W'.heap[j]? = W.heap[j]? := fun j h1 h2 => hg.block j (by omega) (fun e => by have := hlo j e.symm; omega)
 have c : ∀ b j, w.heap.size ≤ b → b < w.heap.size + 4 → W'.cell? ⟨b, j, none⟩ = W.cell? ⟨b, j, none⟩ := fun b j h1 h2 => World.cell?_of_block (hh b h1 h2)
 have f : ∀ b j, w.heap.size ≤ b → b < w.heap.size + 4 → W'.frozen? ⟨b, j, none⟩ = W.frozen? ⟨b, j, none⟩ := fun b j h1 h2 => World.frozen?_of_block (hh b h1 h2)
 have hz := hg.size
 refine ⟨(h.old.andThen hg fun j e => .inl (by have := hlo j e; omega)).andThen (grown_set _) (fun j e => .inl (by cases e; show w.heap.size ≤ w.heap.size + 1 + 1; omega)), ?_, ?_, ?_, World.cell?_setCell_same' _ _ _ (by rw [(c _ _ (by omega) (by omega)).trans h.f0]; rfl), ?_, ownsRow_kept hown (KeptFrom.set (by show w.heap.size + 1 + 1 < _; omega) _),
  (h.gm.kept hg fun e => by have := hlo bm e.symm; omega).kept (grown_set _) (by simp; omega), by rw [World.size_setCell]; omega⟩
 ·rw [World.cell?_setCell_far _ _ _ _ (by first | (simp; done) | (simp; omega))]; exact (c _ _ (by omega) (by omega)).trans h.t0
 ·rw [World.cell?_setCell_far _ _ _ _ (by first | (simp; done) | (simp; omega))]; exact (c _ _ (by omega) (by omega)).trans h.t1
 ·rw [World.cell?_setCell_far _ _ _ _ (by first | (simp; done) | (simp; omega))]; exact (c _ _ (by omega) (by omega)).trans h.t2
 ·rw [World.frozen?_setCell]; exact (f _ _ (by omega) (by omega)).trans h.ff
theorem PsX.pushed {w W W' : World} {u0 u1 u2 : Value} {bm k : Nat} {Q : Int → Int → Bool} {va : Option Addr} {vc : Nat} {v' : Value} {cnt cnt' : Nat} {xs xs' : List Value} (h : PsX w W u0 u1 u2 bm k Q (.slice va cnt vc) cnt xs) (hb : bm < w.heap.size) (o : Obj) (hg : (W.alloc o).grownBy W' (Value.slice va cnt vc).ownBlock) (hc1 : 1 ≤ cnt') (hown : W'.ownsRow (w.heap.size + 4) 43 2 v' cnt' xs') :
  ∃ g c, v' = .slice (some ⟨g, 0, none⟩) cnt' c ∧ W'.cell? ⟨w.heap.size + 1 + 1, 0, none⟩ = some (.slice va cnt vc) ∧ W'.frozen? ⟨w.heap.size + 1 + 1, 0, none⟩ = false ∧
   (PsX w (W'.setCell ⟨w.heap.size + 1 + 1, 0, none⟩ (.slice (some ⟨g, 0, none⟩) cnt' c)) u0 u1 u2 bm k Q (.slice (some ⟨g, 0, none⟩) cnt' c) cnt' xs' ∧ KeepsFrom (w.heap.size + 4) W (W'.setCell ⟨w.heap.size + 1 + 1, 0, none⟩ (.slice (some ⟨g, 0, none⟩) cnt' c)) ∧
    KpB (w.heap.size + 1 + 1 + 1) W (W'.setCell ⟨w.heap.size + 1 + 1, 0, none⟩ (.slice (some ⟨g, 0, none⟩) cnt' c))) := by
 have hA := h.alloc hb o
 have hbig := h.big
 have hlo : ∀ g, (Value.slice va cnt vc).ownBlock = some g → w.heap.size + 4 ≤ g := fun g hv => (own_base hA.row hv).1
 obtain ⟨g, c, rfl⟩ := ownsRow_pos hc1 hown
 have hz := hg.size
 rw [World.size_alloc] at hz
 refine ⟨g, c, rfl, hg.cell hA.f0 (by intro e; have := hlo _ e.symm; simp at this; omega), ?_, ⟨hA.push hb hg hown, ?_, ?_⟩⟩
 ·exact (World.frozen?_of_block (hg.block _ (by rw [World.size_alloc]; show w.heap.size + 1 + 1 < _; omega) (by intro e; have := hlo _ e.symm; simp at this; omega))).trans hA.ff
 ·refine (((KeepsOthers.alloc W o).from _).trans ⟨by rw [World.size_alloc]; exact hz, fun j o' hB hj ho => ?_⟩).trans ((KeepsFrom.of_grownBy (grown_set _) fun j e => by cases e; show w.heap.size + 1 + 1 < _; omega))
  rw [hg.block j (by have := (Array.getElem?_eq_some_iff.1 hj).1; omega) (by intro e; obtain ⟨_, o2, ho2, hc2⟩ := own_base hA.row e.symm; rw [hj] at ho2; cases ho2; rw [hc2] at ho; cases ho)]
  exact hj
 ·refine ⟨by rw [World.size_setCell]; omega, ?_⟩
  have e1 : (W'.setCell ⟨w.heap.size + 1 + 1, 0, none⟩ (.slice (some ⟨g, 0, none⟩) cnt' c)).heap[w.heap.size + 1 + 1 + 1]? = W'.heap[w.heap.size + 1 + 1 + 1]? := (grown_set (W := W') _).block _ (by omega) (by intro e; simp at e)
  rw [e1, hg.block _ (by rw [World.size_alloc]; omega) (by intro e; have := hlo _ e.symm; omega)]
  exact Below.heap_alloc _ _ _ (by omega)
theorem psx_start (w : World) (u0 u1 u2 : Value) (x0 x1 y0 y1 : Int) (bm k : Nat) (Q : Int → Int → Bool) (hb : bm < w.heap.size) (hm : GoodAt w bm k Q) : PsX w ((((w.alloc (Obj.cells #[u0, u1, u2] 103)).alloc (Obj.cells #[.int .i64 x0, .int .i64 x1, .int .i64 y0, .int .i64 y1] 99)).alloc (Obj.cells #[.slice none 0 0] 22)).alloc (Obj.cells #[.int .i64 x0, .int .i64 x1, .int .i64 y0, .int .i64 y1] 99)) u0 u1 u2 bm k Q (.slice none 0 0) 0 [] ∧ ((((w.alloc (Obj.cells #[u0, u1, u2] 103)).alloc (Obj.cells #[.int .i64 x0, .int .i64 x1, .int .i64 y0, .int .i64 y1] 99)).alloc (Obj.cells #[.slice none 0 0] 22)).alloc (Obj.cells #[.int .i64 x0, .int .i64 x1, .int .i64 y0, .int .i64 y1] 99)).heap.size = w.heap.size + 4 ∧
  ∀ j u, (#[.int .i64 x0, .int .i64 x1, .int .i64 y0, .int .i64 y1] : Array Value)[j]? = some u → ((((w.alloc (Obj.cells #[u0, u1, u2] 103)).alloc (Obj.cells #[.int .i64 x0, .int .i64 x1, .int .i64 y0, .int .i64 y1] 99)).alloc (Obj.cells #[.slice none 0 0] 22)).alloc (Obj.cells #[.int .i64 x0, .int .i64 x1, .int .i64 y0, .int .i64 y1] 99)).cell? ⟨w.heap.size + 1 + 1 + 1, j, none⟩ = some u := by
 obtain ⟨A1, hA1⟩ : ∃ A, w.alloc (Obj.cells #[u0, u1, u2] 103) = A := ⟨_, rfl⟩
 obtain ⟨A2, hA2⟩ : ∃ A, A1.alloc (Obj.cells #[.int .i64 x0, .int .i64 x1, .int .i64 y0, .int .i64 y1] 99) = A := ⟨_, rfl⟩
 obtain ⟨A3, hA3⟩ : ∃ A, A2.alloc (Obj.cells #[.slice none 0 0] 22) = A := ⟨_, rfl⟩
 obtain ⟨A4, hA4⟩ : ∃ A, A3.alloc (Obj.cells #[.int .i64 x0, .int .i64 x1, .int .i64 y0, .int .i64 y1] 99) = A := ⟨_, rfl⟩
 rw [hA1, hA2, hA3, hA4]
 have s1 : A1.heap.size = w.heap.size + 1 := by rw [← hA1, World.size_alloc]
 have s2 : A2.heap.size = w.heap.size + 1 + 1 := by rw [← hA2, World.size_alloc, s1]
 have s3 : A3.heap.size = w.heap.size + 1 + 1 + 1 := by rw [← hA3, World.size_alloc, s2]
 have s4 : A4.heap.size = w.heap.size + 1 + 1 + 1 + 1 := by rw [← hA4, World.size_alloc, s3]
 have b1 : Below w.heap.size w A1 := by rw [← hA1]; exact (Below.refl _ _).alloc (Nat.le_refl _) _
 have b2 : Below A1.heap.size A1 A2 := by rw [← hA2]; exact (Below.refl _ _).alloc (Nat.le_refl _) _
 have b3 : Below A2.heap.size A2 A3 := by rw [← hA3]; exact (Below.refl _ _).alloc (Nat.le_refl _) _
 have b4 : Below A3.heap.size A3 A4 := by rw [← hA4]; exact (Below.refl _ _).alloc (Nat.le_refl _) _
 have b24 := b3.trans (b4.mono b3.size)
 have b14 := b2.trans (b24.mono b2.size)
 have b04 := b1.trans (b14.mono b1.size)
 have t := fun j u (h : (#[u0, u1, u2] : Array Value)[j]? = some u) => cells_new w #[u0, u1, u2] 103 h
 rw [hA1] at t
 have e3 := new_cell A2 (.slice none 0 0) 22
 rw [hA3, s2] at e3
 have e4 := fun j u (h : (#[.int .i64 x0, .int .i64 x1, .int .i64 y0, .int .i64 y1] : Array Value)[j]? = some u) => cells_new A3 #[.int .i64 x0, .int .i64 x1, .int .i64 y0, .int .i64 y1] 99 h
 rw [hA4, s3] at e4
 refine ⟨⟨⟨b04.os, b04.tape, b04.output, b04.size, fun i hi _ => b04.block i hi⟩, ?_, ?_, ?_, ?_, ?_, ⟨rfl, .inl ⟨rfl, rfl⟩⟩, hm.below b04 hb, by omega⟩, by omega, e4⟩
 ·exact (b14.cell (p := ⟨w.heap.size, 0, none⟩) (by show w.heap.size < _; omega)).trans (t 0 u0 rfl)
 ·exact (b14.cell (p := ⟨w.heap.size, 1, none⟩) (by show w.heap.size < _; omega)).trans (t 1 u1 rfl)
 ·exact (b14.cell (p := ⟨w.heap.size, 2, none⟩) (by show w.heap.size < _; omega)).trans (t 2 u2 rfl)
 ·exact (b4.cell (p := ⟨_, 0, none⟩) (by show w.heap.size + 1 + 1 < _; omega)).trans e3.1
 ·exact (b4.frozen (p := ⟨_, 0, none⟩) (by show w.heap.size + 1 + 1 < _; omega)).trans e3.2
end Go.Proofs.YtjhpklolpmaopaaGreatDoor
namespace Go.Proofs.YtjhpklolpmaopaaGreatDoor
open Go.RowKit
theorem range_put {W : World} {g : Nat} {A B B' C : List Value} (h : W.rangeAt g 0 (A ++ (B ++ C))) (hl : B'.length = B.length) : (W.setCells g A.length B').rangeAt g 0 (A ++ (B' ++ C)) := fun j v hj => by
 have hs : ∀ i, i < (A ++ (B ++ C)).length → (W.cell? ⟨g, i, none⟩).isSome = true := fun i hi => by
  have := h i _ (List.getElem?_eq_getElem hi)
  rw [Nat.zero_add] at this; rw [this]; rfl
 have hL : (A ++ (B ++ C)).length = A.length + B.length + C.length := by simp [Nat.add_assoc]
 rw [Nat.zero_add]
 by_cases h1 : j < A.length
 ·rw [World.cell?_setCells_out g B' A.length W ⟨g, j, none⟩ (fun _ _ => .inl h1)]
  rw [List.getElem?_append_left h1] at hj
  have := h j v (by rw [List.getElem?_append_left h1]; exact hj)
  rwa [Nat.zero_add] at this
 ·rw [List.getElem?_append_right (by omega)] at hj
  by_cases h2 : j - A.length < B'.length
  ·rw [List.getElem?_append_left h2] at hj
   have := World.cell?_setCells_in g B' A.length W (fun i hi => hs _ (by rw [hL]; omega)) (j - A.length) h2
   rw [show A.length + (j - A.length) = j by omega] at this
   rw [this, ← List.getElem?_eq_getElem h2]; exact hj
  ·rw [List.getElem?_append_right (by omega)] at hj
   rw [World.cell?_setCells_out g B' A.length W ⟨g, j, none⟩ (fun _ _ => .inr (by show A.length + B'.length ≤ j; omega))]
   have := h j v (by rw [List.getElem?_append_right (by omega), List.getElem?_append_right (by omega), ← hl]; exact hj)
   rwa [Nat.zero_add] at this
/-- a row of cells that may be written. -/
structure SAt (W : World) (g : Nat) (L : List Value) : Prop where
 c : W.rangeAt g 0 L
 z : ∀ i, W.frozen? ⟨g, i, none⟩ = false
theorem SAt.far {W W' : World} {g : Nat} {L : List Value} (h : SAt W g L) (hh : W'.heap[g]? = W.heap[g]?) : SAt W' g L :=
 ⟨fun j v hj => (World.cell?_of_block hh).trans (h.c j v hj), fun i => (show W'.frozen? ⟨g, i, none⟩ = W.frozen? ⟨g, i, none⟩ by unfold World.frozen?; rw [hh]).trans (h.z i)⟩
theorem SAt.below {W W' : World} {g B : Nat} {L : List Value} (h : SAt W g L) (hb : Below B W W') (hl : g < B) : SAt W' g L := h.far (hb.block g hl)
theorem SAt.put {W : World} {g : Nat} {A B B' C : List Value} (h : SAt W g (A ++ (B ++ C))) (hl : B'.length = B.length) : SAt (W.setCells g A.length B') g (A ++ (B' ++ C)) :=
 ⟨range_put h.c hl, fun i => by rw [World.frozen?_setCells]; exact h.z i⟩
theorem SAt.there {W : World} {g : Nat} {L : List Value} (h : SAt W g L) (o n : Nat) (hn : o + n ≤ L.length) : W.there g o n := fun j hj => by
 have hl : o + j < L.length := by omega
 have := h.c (o + j) _ (List.getElem?_eq_getElem hl)
 rw [Nat.zero_add] at this
 exact ⟨by rw [this]; rfl, h.z _⟩
theorem SAt.new (w : World) (L : List Value) (e : TypeId) : SAt (w.alloc (Obj.cells L.toArray e)) w.heap.size L :=
 ⟨fun j v hj => by rw [Nat.zero_add]; exact cells_new w _ _ (by rw [List.getElem?_toArray]; exact hj), fun i => by simp [go_sem]⟩
theorem st_put0 {W : World} {g : Nat} {m : Mach} {X X' Y : List Value} (h : SAt W g (m.st X Y)) (hl : X'.length = X.length) : SAt (W.setCells g 10 X') g (m.st X' Y) :=
 SAt.put (A := m.cells) h hl
theorem st_put1 {W : World} {g : Nat} {m : Mach} {X Y Y' : List Value} (h : SAt W g (m.st X Y)) (hx : X.length = 26) (hl : Y'.length = Y.length) : SAt (W.setCells g 36 Y') g (m.st X Y') := by
 have h' : SAt W g ((m.cells ++ X) ++ (Y ++ [])) := by
  rw [List.append_nil, List.append_assoc]; exact h
 have := SAt.put (A := m.cells ++ X) (B' := Y') h' hl
 rw [List.append_nil, List.append_assoc, List.length_append, hx] at this
 exact this
theorem size_setCells (b : Nat) : ∀ (vs : List Value) (o : Nat) (w : World), (w.setCells b o vs).heap.size = w.heap.size
 | [], _, _ => rfl
 | v :: r, o, w => by rw [World.setCells, size_setCells b r, World.size_setCell]
theorem course_yes (a : Axis) (v : Value) (w : World) (hf : a.fine) (hv : CSp w v a.n a.cl) (hc : a.can) :
  Calls Tryz.prog 58 #[.agg #[.int .i64 a.c0, .int .i64 a.c1, .int .i64 a.w0, .int .i64 a.w1, v], .slice none 0 0] w fun e w' => e = .returned (.agg (crsL a.ends 13).toArray) ∧ Below w.heap.size w w' := by
 refine (course_any a v w hf hv).mono ?_
 rintro e w' (⟨_, h⟩ | ⟨h, _⟩)
 ·exact h
 ·exact absurd hc h
theorem course_no (a : Axis) (v : Value) (w : World) (hf : a.fine) (hv : CSp w v a.n a.cl) (hc : ¬ a.can) :
  Calls Tryz.prog 58 #[.agg #[.int .i64 a.c0, .int .i64 a.c1, .int .i64 a.w0, .int .i64 a.w1, v], .slice none 0 0] w fun e w' => e = .panicked [{ v := .iface 225 (.agg #[]), recovered := false }] ∧ Below w.heap.size w w' := by
 refine (course_any a v w hf hv).mono ?_
 rintro e w' (⟨h, _⟩ | ⟨_, h⟩)
 ·exact absurd h hc
 ·exact h
set_option maxRecDepth 100000 in
set_option maxHeartbeats 4000000 in
theorem examine1_can (m : Mach) (g : Nat) (w0 w : World) (hok : m.ok = true) (h : MIn w0 m) (hw : Below w0.heap.size w0 w) (hg0 : w0.heap.size ≤ g) (hg : g < w.heap.size) (hS : SAt w g (m.st zero26 zero26)) (hX : m.axX.can) (hY : m.axY.can) :
  Calls Tryz.prog 89 #[.pointer (some ⟨g, 0, none⟩)] w fun e w' => e = .returned (.tuple #[]) ∧ SAt w' g (m.st (crsL m.axX.ends 13) (crsL m.axY.ends 13)) ∧ Below w0.heap.size w0 w' ∧ w.heap.size ≤ w'.heap.size ∧ (∀ b, b < w.heap.size → b ≠ g → w'.heap[b]? = w.heap[b]?) := by
 have hx0 := idxF0
 have hx1 := idxF1
 have hL := m.st_length (X := zero26) (Y := zero26) rfl rfl
 have hi0 : (Tryz.prog.info? 93).map (·.size) = some 62 := by kernel_rfl
 have hi : (Tryz.prog.info? 93).map (·.size) = some (m.st zero26 zero26).length := by rw [hL]; exact hi0
 have hax := fun (W : World) => axes_any (m.st zero26 zero26) hL W
 have hrg := hS.c
 have hic : (Tryz.prog.info? 90).map (·.size) = some 26 := by kernel_rfl
 have hlX : (crsL m.axX.ends 13).length = 26 := crsL_length _ 13
 have hlY : (crsL m.axY.ends 13).length = 26 := crsL_length _ 13
 have hiX : (Tryz.prog.info? 90).map (·.size) = some (crsL m.axX.ends 13).toArray.size := by rw [List.size_toArray, hlX]; exact hic
 have hiY : (Tryz.prog.info? 90).map (·.size) = some (crsL m.axY.ends 13).toArray.size := by rw [List.size_toArray, hlY]; exact hic
 have hoX := all_oneCell_toArray (crsL_one m.axX.ends 13)
 have hoY := all_oneCell_toArray (crsL_one m.axY.ends 13)
 have hcx := fun (W : World) v (hv : CSp W v m.axX.n m.axX.cl) => course_yes m.axX v W (Mach.fineX hok) hv hX
 have hcy := fun (W : World) v (hv : CSp W v m.axY.n m.axY.cl) => course_yes m.axY v W (Mach.fineY hok) hv hY
 generalize crsL m.axX.ends 13 = CX at *
 generalize crsL m.axY.ends 13 = CY at *
 have hp0 := fun (W : World) (H : SAt W g (m.st zero26 zero26)) => st_put0 (X' := CX) H hlX
 have hp1 := fun (W : World) (H : SAt W g (m.st CX zero26)) => st_put1 (Y' := CY) H hlX hlY
 have ht0 := fun (W : World) (H : SAt W g (m.st zero26 zero26)) => H.there 10 CX.toArray.size (by rw [List.size_toArray, hlX, hL]; omega)
 have ht1 := fun (W : World) (H : SAt W g (m.st CX zero26)) => H.there 36 CY.toArray.size (by rw [List.size_toArray, hlY, m.st_length hlX rfl]; omega)
 have halX := fun (W : World) (hB : Below w0.heap.size w0 W) => alongX_m m zero26 zero26 rfl rfl W hok (h.below hB)
 have halY := fun (W : World) (hB : Below w0.heap.size w0 W) => alongY_m m zero26 zero26 rfl rfl W hok (h.below hB)
 clear hL hi0 hic hlX hlY
 generalize hLL : m.st zero26 zero26 = L at *
 clear hLL
 go_enter Tryz.func89, Tryz.ntmps89
 go_wp2_with (first
  | (refine wpList_load_mid rfl 93 _ rfl g 0 rfl L _ hrg Tryz.underlying93 rfl hi ?_)
  | (go_at_call 57; with_reducible refine (hax _).mono ?_; rintro e w1 ⟨rfl, hb1⟩))
 refine wp_loop_rounds 3 ?_
 rw [rounds_succ]
 have hB := hw.trans (hb1.mono hw.size)
 have hs1 := hb1.size
 go_wp2_with (first
  | (go_at_call 95; with_reducible refine (halX _ hB).mono ?_; rintro e w2 ⟨v2, rfl, hv2, hb2⟩; have hs2 := hb2.size)
  | (go_at_call 58; with_reducible refine (hcx _ _ hv2).mono ?_; rintro e w3 ⟨rfl, hb3⟩; have hs3 := hb3.size; have hS3 := ((hS.below hb1 hg).below hb2 (by omega)).below hb3 (by omega); have hth := ht0 _ hS3)
  | (with_reducible refine wpList_store_mid rfl 90 _ _ rfl g 10 CX.toArray rfl rfl hth hiX hoX ?_))
 have hB3 := (hB.trans (hb2.mono hB.size)).trans (hb3.mono (Nat.le_trans hB.size hs2))
 have hK3 : ∀ b, b < w.heap.size → w3.heap[b]? = w.heap[b]? := fun b hb => (hb3.block b (by omega)).trans ((hb2.block b (by omega)).trans (hb1.block b hb))
 have hK4 : ∀ b, b < w.heap.size → b ≠ g → (w3.setCells g 10 CX).heap[b]? = w.heap[b]? := fun b hb hne => (World.heap_setCells_other w3 g 10 CX (by omega) hne).trans (hK3 b hb)
 have hS4 := hp0 _ hS3
 have hB4 := below_setCells hg0 CX 10 w3 hB3
 have hz4 : (w3.setCells g 10 CX).heap.size = w3.heap.size := size_setCells g CX 10 w3
 generalize w3.setCells g 10 CX = W4 at hS4 hB4 hz4 hK4 ⊢
 rw [rounds_succ]
 go_wp2_with (first
  | (go_at_call 96; with_reducible refine (halY _ hB4).mono ?_; rintro e w5 ⟨v5, rfl, hv5, hb5⟩; have hs5 := hb5.size)
  | (go_at_call 58; with_reducible refine (hcy _ _ hv5).mono ?_; rintro e w6 ⟨rfl, hb6⟩; have hs6 := hb6.size; have hS6 := (hS4.below hb5 (by omega)).below hb6 (by omega); have hth6 := ht1 _ hS6)
  | (with_reducible refine wpList_store_mid rfl 90 _ _ rfl g 36 CY.toArray rfl rfl hth6 hiY hoY ?_))
 have hB6 := (hB4.trans (hb5.mono hB4.size)).trans (hb6.mono (Nat.le_trans hB4.size hs5))
 have hK6 : ∀ b, b < w.heap.size → b ≠ g → w6.heap[b]? = w.heap[b]? := fun b hb hne => (hb6.block b (by omega)).trans ((hb5.block b (by omega)).trans (hK4 b hb hne))
 have hK7 : ∀ b, b < w.heap.size → b ≠ g → (w6.setCells g 36 CY).heap[b]? = w.heap[b]? := fun b hb hne => (World.heap_setCells_other w6 g 36 CY (by omega) hne).trans (hK6 b hb hne)
 have hS7 := hp1 _ hS6
 have hB7 := below_setCells hg0 CY 36 w6 hB6
 have hz7 : (w6.setCells g 36 CY).heap.size = w6.heap.size := size_setCells g CY 36 w6
 generalize w6.setCells g 36 CY = W7 at hS7 hB7 hz7 hK7 ⊢
 rw [rounds_succ]
 go_wp2
 go_end0
 exact ⟨rfl, hS7, hB7, by omega, hK7⟩
end Go.Proofs.YtjhpklolpmaopaaGreatDoor
namespace Go.Proofs.YtjhpklolpmaopaaGreatDoor
open Go.RowKit
set_option maxRecDepth 100000 in
set_option maxHeartbeats 4000000 in
theorem examine1_noX (m : Mach) (g : Nat) (w0 w : World) (hok : m.ok = true) (h : MIn w0 m) (hw : Below w0.heap.size w0 w) (hg0 : w0.heap.size ≤ g) (hg : g < w.heap.size) (hS : SAt w g (m.st zero26 zero26)) (hX : ¬ m.axX.can) :
  Calls Tryz.prog 89 #[.pointer (some ⟨g, 0, none⟩)] w fun e w' => e = .panicked [{ v := .iface 225 (.agg #[]), recovered := false }] ∧ Below w0.heap.size w0 w' ∧ w.heap.size ≤ w'.heap.size ∧ (∀ b, b < w.heap.size → b ≠ g → w'.heap[b]? = w.heap[b]?) := by
 have hx0 := idxF0
 have hx1 := idxF1
 have hL := m.st_length (X := zero26) (Y := zero26) rfl rfl
 have hi0 : (Tryz.prog.info? 93).map (·.size) = some 62 := by kernel_rfl
 have hi : (Tryz.prog.info? 93).map (·.size) = some (m.st zero26 zero26).length := by rw [hL]; exact hi0
 have hax := fun (W : World) => axes_any (m.st zero26 zero26) hL W
 have hrg := hS.c
 have hcx := fun (W : World) v (hv : CSp W v m.axX.n m.axX.cl) => course_no m.axX v W (Mach.fineX hok) hv hX
 have halX := fun (W : World) (hB : Below w0.heap.size w0 W) => alongX_m m zero26 zero26 rfl rfl W hok (h.below hB)
 clear hL hi0
 generalize hLL : m.st zero26 zero26 = L at *
 clear hLL
 go_enter Tryz.func89, Tryz.ntmps89
 go_wp2_with (first
  | (refine wpList_load_mid rfl 93 _ rfl g 0 rfl L _ hrg Tryz.underlying93 rfl hi ?_)
  | (go_at_call 57; with_reducible refine (hax _).mono ?_; rintro e w1 ⟨rfl, hb1⟩))
 refine wp_loop_rounds 3 ?_
 rw [rounds_succ]
 have hB := hw.trans (hb1.mono hw.size)
 have hs1 := hb1.size
 go_wp2_with (first
  | (go_at_call 95; with_reducible refine (halX _ hB).mono ?_; rintro e w2 ⟨v2, rfl, hv2, hb2⟩; have hs2 := hb2.size)
  | (go_at_call 58; with_reducible refine (hcx _ _ hv2).mono ?_; rintro e w3 ⟨rfl, hb3⟩; have hs3 := hb3.size))
 have hB3 := (hB.trans (hb2.mono hB.size)).trans (hb3.mono (Nat.le_trans hB.size hs2))
 exact ⟨rfl, rfl, hB3, by omega, fun b hb _ => (hb3.block b (by omega)).trans ((hb2.block b (by omega)).trans (hb1.block b hb))⟩
set_option maxRecDepth 100000 in
set_option maxHeartbeats 4000000 in
theorem examine1_noY (m : Mach) (g : Nat) (w0 w : World) (hok : m.ok = true) (h : MIn w0 m) (hw : Below w0.heap.size w0 w) (hg0 : w0.heap.size ≤ g) (hg : g < w.heap.size) (hS : SAt w g (m.st zero26 zero26)) (hX : m.axX.can) (hY : ¬ m.axY.can) :
  Calls Tryz.prog 89 #[.pointer (some ⟨g, 0, none⟩)] w fun e w' => e = .panicked [{ v := .iface 225 (.agg #[]), recovered := false }] ∧ Below w0.heap.size w0 w' ∧ w.heap.size ≤ w'.heap.size ∧ (∀ b, b < w.heap.size → b ≠ g → w'.heap[b]? = w.heap[b]?) := by
 have hx0 := idxF0
 have hx1 := idxF1
 have hL := m.st_length (X := zero26) (Y := zero26) rfl rfl
 have hi0 : (Tryz.prog.info? 93).map (·.size) = some 62 := by kernel_rfl
 have hi : (Tryz.prog.info? 93).map (·.size) = some (m.st zero26 zero26).length := by rw [hL]; exact hi0
 have hax := fun (W : World) => axes_any (m.st zero26 zero26) hL W
 have hrg := hS.c
 have hic : (Tryz.prog.info? 90).map (·.size) = some 26 := by kernel_rfl
 have hlX : (crsL m.axX.ends 13).length = 26 := crsL_length _ 13
 have hiX : (Tryz.prog.info? 90).map (·.size) = some (crsL m.axX.ends 13).toArray.size := by rw [List.size_toArray, hlX]; exact hic
 have hoX := all_oneCell_toArray (crsL_one m.axX.ends 13)
 have hcx := fun (W : World) v (hv : CSp W v m.axX.n m.axX.cl) => course_yes m.axX v W (Mach.fineX hok) hv hX
 have hcy := fun (W : World) v (hv : CSp W v m.axY.n m.axY.cl) => course_no m.axY v W (Mach.fineY hok) hv hY
 generalize crsL m.axX.ends 13 = CX at *
 have hp0 := fun (W : World) (H : SAt W g (m.st zero26 zero26)) => st_put0 (X' := CX) H hlX
 have ht0 := fun (W : World) (H : SAt W g (m.st zero26 zero26)) => H.there 10 CX.toArray.size (by rw [List.size_toArray, hlX, hL]; omega)
 have halX := fun (W : World) (hB : Below w0.heap.size w0 W) => alongX_m m zero26 zero26 rfl rfl W hok (h.below hB)
 have halY := fun (W : World) (hB : Below w0.heap.size w0 W) => alongY_m m zero26 zero26 rfl rfl W hok (h.below hB)
 clear hL hi0 hic hlX
 generalize hLL : m.st zero26 zero26 = L at *
 clear hLL
 go_enter Tryz.func89, Tryz.ntmps89
 go_wp2_with (first
  | (refine wpList_load_mid rfl 93 _ rfl g 0 rfl L _ hrg Tryz.underlying93 rfl hi ?_)
  | (go_at_call 57; with_reducible refine (hax _).mono ?_; rintro e w1 ⟨rfl, hb1⟩))
 refine wp_loop_rounds 3 ?_
 rw [rounds_succ]
 have hB := hw.trans (hb1.mono hw.size)
 have hs1 := hb1.size
 go_wp2_with (first
  | (go_at_call 95; with_reducible refine (halX _ hB).mono ?_; rintro e w2 ⟨v2, rfl, hv2, hb2⟩; have hs2 := hb2.size)
  | (go_at_call 58; with_reducible refine (hcx _ _ hv2).mono ?_; rintro e w3 ⟨rfl, hb3⟩; have hs3 := hb3.size; have hS3 := ((hS.below hb1 hg).below hb2 (by omega)).below hb3 (by omega); have hth := ht0 _ hS3)
  | (with_reducible refine wpList_store_mid rfl 90 _ _ rfl g 10 CX.toArray rfl rfl hth hiX hoX ?_))
 have hB3 := (hB.trans (hb2.mono hB.size)).trans (hb3.mono (Nat.le_trans hB.size hs2))
 have hK3 : ∀ b, b < w.heap.size → w3.heap[b]? = w.heap[b]? := fun b hb => (hb3.block b (by omega)).trans ((hb2.block b (by omega)).trans (hb1.block b hb))
 have hK4 : ∀ b, b < w.heap.size → b ≠ g → (w3.setCells g 10 CX).heap[b]? = w.heap[b]? := fun b hb hne => (World.heap_setCells_other w3 g 10 CX (by omega) hne).trans (hK3 b hb)
 have hS4 := hp0 _ hS3
 have hB4 := below_setCells hg0 CX 10 w3 hB3
 have hz4 : (w3.setCells g 10 CX).heap.size = w3.heap.size := size_setCells g CX 10 w3
 generalize w3.setCells g 10 CX = W4 at hS4 hB4 hz4 hK4 ⊢
 rw [rounds_succ]
 go_wp2_with (first
  | (go_at_call 96; with_reducible refine (halY _ hB4).mono ?_; rintro e w5 ⟨v5, rfl, hv5, hb5⟩; have hs5 := hb5.size)
  | (go_at_call 58; with_reducible refine (hcy _ _ hv5).mono ?_; rintro e w6 ⟨rfl, hb6⟩; have hs6 := hb6.size))
 have hB6 := (hB4.trans (hb5.mono hB4.size)).trans (hb6.mono (Nat.le_trans hB4.size hs5))
 exact ⟨rfl, rfl, hB6, by omega, fun b hb hne => (hb6.block b (by omega)).trans ((hb5.block b (by omega)).trans (hK4 b hb hne))⟩
end Go.Proofs.YtjhpklolpmaopaaGreatDoor
namespace Go.Proofs.YtjhpklolpmaopaaGreatDoor
open Go.RowKit
theorem assert_reason (w : World) : (Instr.typeAssert (.iface 225 (.agg #[])) 20 168 true).run Tryz.prog w = .ok (.tuple #[.iface 225 (.agg #[]), .bool true]) w := by kernel_rfl
theorem assert_noreason (w : World) : (Instr.typeAssert .nilIface 20 168 true).run Tryz.prog w = .ok (.tuple #[.nilIface, .bool false]) w := by kernel_rfl
theorem method_impossible (w : World) : (method 395 225 (.agg #[]) "nacre/drill.errno").run Tryz.prog w = .ok (208, .agg #[]) w := by kernel_rfl
set_option maxRecDepth 100000 in
set_option maxHeartbeats 400000 in
theorem impossible_errno (w : World) :
  Calls Tryz.prog 208 #[.agg #[]] w fun e w' => e = .returned (.int .i64 7) ∧ w' = w.alloc (Obj.cells #[] 225) := by
 go_enter Tryz.func208, Tryz.ntmps208
 go_wp2
 go_ret
 exact ⟨rfl, rfl⟩
set_option maxRecDepth 100000 in
set_option maxHeartbeats 1000000 in
theorem catch_idle (p : Addr) (w : World) :
  CallsD Tryz.prog 94 #[.pointer (some p)] .returning w fun e u' w' => e = .returned (.tuple #[]) ∧ u' = .returning ∧ w' = w := by
 have ha := assert_noreason
 refine callsD_of_wpS Tryz.func94 rfl fun c₀ cs hu => ?_
 apply wpS_seq
 apply wpS_region
 simp [wpOpsS, go_sem, recoverD, hu, Tryz.ntmps94, Exit.thenS]
 refine wpS_of_wp ?_
 go_wp2_with (go_at_call 208; refine (impossible_errno _).mono ?_; rintro e w' ⟨rfl, rfl⟩)
 simp [bodyPostS, results, Tryz.results94]
 cases c₀
 simp_all
set_option maxRecDepth 100000 in
set_option maxHeartbeats 1000000 in
theorem catch_panicking (b : Nat) (x : Int) (older : List PanicEntry) (w : World) (hb : b < w.heap.size) (hc : w.cell? ⟨b, 0, none⟩ = some (.int .i64 x)) (hz : w.frozen? ⟨b, 0, none⟩ = false) :
  CallsD Tryz.prog 94 #[.pointer (some ⟨b, 0, none⟩)] (.panicking ({ v := .iface 225 (.agg #[]), recovered := false } :: older)) w fun e u' w' =>
   e = .returned (.tuple #[]) ∧ u' = .panicking ({ v := .iface 225 (.agg #[]), recovered := true } :: older) ∧ w' = (w.setCell ⟨b, 0, none⟩ (.int .i64 7)).alloc (Obj.cells #[] 225) := by
 have ha := assert_reason
 have hm := method_impossible
 have hc1 : (w.alloc (Obj.cells #[] 225)).cell? ⟨b, 0, none⟩ = some (.int .i64 x) := (((Below.refl _ w).alloc (Nat.le_refl _) _).cell (p := ⟨b, 0, none⟩) hb).trans hc
 have hz1 : (w.alloc (Obj.cells #[] 225)).frozen? ⟨b, 0, none⟩ = false := (((Below.refl _ w).alloc (Nat.le_refl _) _).frozen (p := ⟨b, 0, none⟩) hb).trans hz
 refine callsD_of_wpS Tryz.func94 rfl fun c₀ cs hu => ?_
 apply wpS_seq
 apply wpS_region
 simp [wpOpsS, go_sem, recoverD, hu, Tryz.ntmps94, Exit.thenS]
 refine wpS_of_wp ?_
 go_wp2_with (go_at_call 208; refine (impossible_errno _).mono ?_; rintro e w' ⟨rfl, rfl⟩)
 simp [bodyPostS, results, Tryz.results94]
end Go.Proofs.YtjhpklolpmaopaaGreatDoor
namespace Go.Proofs.YtjhpklolpmaopaaGreatDoor
open Go.RowKit
set_option maxRecDepth 100000 in
set_option maxHeartbeats 4000000 in
theorem attempt_ok (g : Nat) (w : World) (R : World → Prop)
  (hdo : Calls Tryz.prog 89 #[.pointer (some ⟨g, 0, none⟩)] (w.alloc (Obj.cells #[.int .i64 0] 37)) fun e w' => e = .returned (.tuple #[]) ∧ w'.cell? ⟨w.heap.size, 0, none⟩ = some (.int .i64 0) ∧ w'.frozen? ⟨w.heap.size, 0, none⟩ = false ∧ R (w'.setCell ⟨w.heap.size, 0, none⟩ (.int .i64 0))) :
  Calls Tryz.prog 55 #[.func (.func 89) #[] #[.pointer (some ⟨g, 0, none⟩)]] w fun e w' => e = .returned (.int .i64 0) ∧ R w' := by
 have hmf : ∀ (fn : Fn) (first cap : Array Value) (w : World), (Instr.makeFunc fn first cap).run Tryz.prog w = .ok (.func fn first cap) w := fun _ _ _ _ => rfl
 go_enter_defers Tryz.func55, Tryz.ntmps55
 go_wp2_with (go_at_call 89; with_reducible refine hdo.mono ?_; rintro e w2 ⟨rfl, c2, z2, hR⟩)
 have c3 : (w2.setCell ⟨w.heap.size, 0, none⟩ (.int .i64 0)).cell? ⟨w.heap.size, 0, none⟩ = some (.int .i64 0) := World.cell?_setCell_same' _ _ _ (by rw [c2]; rfl)
 generalize w2.setCell ⟨w.heap.size, 0, none⟩ (.int .i64 0) = w3 at c3 hR ⊢
 refine leaves_cons (f := 94) (args := #[.pointer (some ⟨w.heap.size, 0, none⟩)]) (by simp) (by simp [go_sem]) ?_
 refine (catch_idle ⟨w.heap.size, 0, none⟩ _).mono ?_
 rintro e u' w'' ⟨rfl, rfl, rfl⟩
 simp [Leaves, settle, results, Tryz.results55, go_sem, c3, hR]
set_option maxRecDepth 100000 in
set_option maxHeartbeats 4000000 in
theorem attempt_no (g : Nat) (w : World) (R : World → Prop)
  (hdo : Calls Tryz.prog 89 #[.pointer (some ⟨g, 0, none⟩)] (w.alloc (Obj.cells #[.int .i64 0] 37)) fun e w' => e = .panicked [{ v := .iface 225 (.agg #[]), recovered := false }] ∧ w.heap.size < w'.heap.size ∧ w'.cell? ⟨w.heap.size, 0, none⟩ = some (.int .i64 0) ∧ w'.frozen? ⟨w.heap.size, 0, none⟩ = false ∧ R ((w'.setCell ⟨w.heap.size, 0, none⟩ (.int .i64 7)).alloc (Obj.cells #[] 225))) :
  Calls Tryz.prog 55 #[.func (.func 89) #[] #[.pointer (some ⟨g, 0, none⟩)]] w fun e w' => e = .returned (.int .i64 7) ∧ R w' := by
 have hmf : ∀ (fn : Fn) (first cap : Array Value) (w : World), (Instr.makeFunc fn first cap).run Tryz.prog w = .ok (.func fn first cap) w := fun _ _ _ _ => rfl
 go_enter_defers Tryz.func55, Tryz.ntmps55
 go_wp2_with (go_at_call 89; with_reducible refine hdo.mono ?_; rintro e w2 ⟨rfl, hl, c2, z2, hR⟩)
 refine leaves_cons (f := 94) (args := #[.pointer (some ⟨w.heap.size, 0, none⟩)]) (by simp) (by simp [go_sem]) ?_
 refine (catch_panicking w.heap.size 0 [] _ hl c2 z2).mono ?_
 rintro e u' w'' ⟨rfl, rfl, rfl⟩
 have c3 : ((w2.setCell ⟨w.heap.size, 0, none⟩ (.int .i64 7)).alloc (Obj.cells #[] 225)).cell? ⟨w.heap.size, 0, none⟩ = some (.int .i64 7) := (((Below.refl _ (w2.setCell ⟨w.heap.size, 0, none⟩ (.int .i64 7))).alloc (Nat.le_refl _) _).cell (p := ⟨w.heap.size, 0, none⟩) (by rw [World.size_setCell]; exact hl)).trans (World.cell?_setCell_same' _ _ _ (by rw [c2]; rfl))
 generalize (w2.setCell ⟨w.heap.size, 0, none⟩ (.int .i64 7)).alloc (Obj.cells #[] 225) = w3 at c3 hR ⊢
 simp [Leaves, settle, results, Tryz.results55, go_sem, c3, hR]
end Go.Proofs.YtjhpklolpmaopaaGreatDoor
