/- A part of the proof: see the last file. -/
import Derived.Test.YtjhpklolpmaopaaGreatDoorPbi
import Derived.Test.YtjhpklolpmaopaaGreatDoorPbj
import Derived.Laws.MakeOwn
import Derived.Test.YtjhpklolpmaopaaGreatDoorPaa
import Derived.Test.YtjhpklolpmaopaaGreatDoorPbh
import Derived.Test.YtjhpklolpmaopaaGreatDoorPbe
import Derived.Test.YtjhpklolpmaopaaGreatDoorPbd
set_option linter.unusedVariables false
set_option linter.unusedSimpArgs false
set_option linter.unusedSectionVars false
namespace Go.Proofs.YtjhpklolpmaopaaGreatDoor
open Go.RowKit Go.Can
/-! ### The holes that are made, and what stands beside them -/
theorem make_points (n : Nat) (hn : n ≤ 4) : ∃ A : Array Value, (∀ j, j < n → A[j * 2]? = some (.int .i64 0) ∧ A[j * 2 + 1]? = some (.int .i64 0)) ∧
  ∀ W, (Instr.makeSlice 22 (.int .i64 (n : Int)) (.int .i64 (n : Int))).run Tryz.prog W = .ok (.slice (some ⟨W.heap.size, 0, none⟩) n n) (W.alloc (.cells A 43)) := by
 have hinfo : (Tryz.prog.info? 43).map (fun i => (i.zero, i.size, i.bytes)) = some (some (.agg #[.int .i64 0, .int .i64 0]), 2, 16) := by kernel_rfl
 obtain ⟨i, hi, hz⟩ := Option.map_eq_some_iff.1 hinfo
 simp only [Prod.mk.injEq] at hz
 obtain ⟨hz, hs, hb⟩ := hz
 refine ⟨madeCells (Value.agg #[.int .i64 0, .int .i64 0]).cells (n * i.size), fun j hj => ?_, fun W => ?_⟩
 ·rw [hs]
  have h : n = 0 ∨ n = 1 ∨ n = 2 ∨ n = 3 ∨ n = 4 := by omega
  have h2 : j = 0 ∨ j = 1 ∨ j = 2 ∨ j = 3 := by omega
  rcases h with rfl | rfl | rfl | rfl | rfl <;> rcases h2 with rfl | rfl | rfl | rfl <;> first | omega | exact ⟨by kernel_rfl, by kernel_rfl⟩
 ·have hr := run_make (P := Tryz.prog) W 22 43 i _ Tryz.underlying22 hi hz .i64 .i64 (n : Int) (n : Int) (by omega) (Int.le_refl _) (by rw [hb]; omega) (by omega)
  simp only [Int.toNat_natCast] at hr
  exact hr
/-- n points in a block of their own, from its head on, not frozen. -/
structure HAt (W : World) (g n : Nat) (H : Nat → Int × Int) : Prop where
 c : ∀ j, j < n → W.cell? ⟨g, j * 2, none⟩ = some (.int .i64 (H j).1) ∧ W.cell? ⟨g, j * 2 + 1, none⟩ = some (.int .i64 (H j).2)
 z : ∀ i, W.frozen? ⟨g, i, none⟩ = false
theorem HAt.far {W W' : World} {g n : Nat} {H : Nat → Int × Int} (h : HAt W g n H) (hh : W'.heap[g]? = W.heap[g]?) : HAt W' g n H :=
 ⟨fun j hj => ⟨(World.cell?_of_block hh).trans (h.c j hj).1, (World.cell?_of_block hh).trans (h.c j hj).2⟩, fun i => (show W'.frozen? ⟨g, i, none⟩ = W.frozen? ⟨g, i, none⟩ by unfold World.frozen?; rw [hh]).trans (h.z i)⟩
theorem HAt.below {W W' : World} {g n B : Nat} {H : Nat → Int × Int} (h : HAt W g n H) (hb : Below B W W') (hl : g < B) : HAt W' g n H := h.far (hb.block g hl)
def putH (H : Nat → Int × Int) (k : Nat) (x y : Int) : Nat → Int × Int := fun j => if j = k then (x, y) else H j
theorem HAt.store {W : World} {g n : Nat} {H : Nat → Int × Int} (h : HAt W g n H) (k : Nat) (hk : k < n) (x y : Int) : HAt ((W.setCell ⟨g, k * 2, none⟩ (.int .i64 x)).setCell ⟨g, k * 2 + 1, none⟩ (.int .i64 y)) g n (putH H k x y) := by
 obtain ⟨k1, k2⟩ := h.c k hk
 refine ⟨fun j hj => ?_, fun i => by rw [World.frozen?_setCell, World.frozen?_setCell]; exact h.z i⟩
 unfold putH
 by_cases hjk : j = k
 ·subst hjk
  simp only [if_true]
  constructor
  ·rw [World.cell?_setCell_other _ _ (a := ⟨g, j * 2 + 1, none⟩) (b := ⟨g, j * 2, none⟩) (by intro h; injection h with h1 h2 h3; omega)]; exact World.cell?_setCell_same' _ _ _ (by rw [k1]; rfl)
  ·exact World.cell?_setCell_same' _ _ _ (by rw [World.cell?_setCell_other _ _ (a := ⟨g, j * 2, none⟩) (b := ⟨g, j * 2 + 1, none⟩) (by intro h; injection h with h1 h2 h3; omega), k2]; rfl)
 ·rw [if_neg hjk]
  obtain ⟨j1, j2⟩ := h.c j hj
  constructor
  ·rw [World.cell?_setCell_other _ _ (a := ⟨g, k * 2 + 1, none⟩) (b := ⟨g, j * 2, none⟩) (by intro h; injection h with h1 h2 h3; omega), World.cell?_setCell_other _ _ (a := ⟨g, k * 2, none⟩) (b := ⟨g, j * 2, none⟩) (by intro h; injection h with h1 h2 h3; omega)]; exact j1
  ·rw [World.cell?_setCell_other _ _ (a := ⟨g, k * 2 + 1, none⟩) (b := ⟨g, j * 2 + 1, none⟩) (by intro h; injection h with h1 h2 h3; omega), World.cell?_setCell_other _ _ (a := ⟨g, k * 2, none⟩) (b := ⟨g, j * 2 + 1, none⟩) (by intro h; injection h with h1 h2 h3; omega)]; exact j2
theorem HAt.new (w : World) (A : Array Value) (e : TypeId) (n : Nat) (hA : ∀ j, j < n → A[j * 2]? = some (.int .i64 0) ∧ A[j * 2 + 1]? = some (.int .i64 0)) : HAt (w.alloc (.cells A e)) w.heap.size n (fun _ => (0, 0)) :=
 ⟨fun j hj => ⟨cells_new w _ _ (hA j hj).1, cells_new w _ _ (hA j hj).2⟩, fun i => by simp [go_sem]⟩
/-- the blocks of the law of what is found. -/
structure FX (w : World) (m : Mach) (a1 : Option Addr) (n1 c1 : Nat) (a2 : Option Addr) (n2 c2 : Nat) (gh gb : Nat) (mo : Int) (H : Nat → Int × Int) (W : World) : Prop where
 mx : MX w W m a1 n1 c1 a2 n2 c2
 h : HAt W gh m.sn H
 b0 : W.cell? ⟨gb, 0, none⟩ = some (.slice (some ⟨gh, 0, none⟩) m.sn m.sn)
 b1 : W.cell? ⟨gb, 1, none⟩ = some (.int .i64 mo)
 lo : w.heap.size + 2 ≤ gh
 lo2 : w.heap.size + 2 ≤ gb
 ne : gb ≠ gh
 lh : gh < W.heap.size
 lb : gb < W.heap.size
theorem MX.far {w W W' : World} {m : Mach} {a1 : Option Addr} {n1 c1 : Nat} {a2 : Option Addr} {n2 c2 : Nat} (h : MX w W m a1 n1 c1 a2 n2 c2) (hb : Below (w.heap.size + 2) W W') : MX w W' m a1 n1 c1 a2 n2 c2 :=
 ⟨h.mach.below hb (by omega), (hb.cell (p := ⟨w.heap.size + 1, 0, none⟩) (by show w.heap.size + 1 < _; omega)).trans h.x0, (hb.cell (p := ⟨w.heap.size + 1, 1, none⟩) (by show w.heap.size + 1 < _; omega)).trans h.x1, h.old.trans (hb.mono (by omega)), Nat.le_trans h.big hb.size⟩
section
variable {w : World} {m : Mach} {a1 : Option Addr} {n1 c1 : Nat} {a2 : Option Addr} {n2 c2 : Nat} {gh gb : Nat} {mo : Int} {H : Nat → Int × Int} {W W' : World}
theorem FX.below (h : FX w m a1 n1 c1 a2 n2 c2 gh gb mo H W) (hb : Below W.heap.size W W') : FX w m a1 n1 c1 a2 n2 c2 gh gb mo H W' :=
 ⟨h.mx.below hb, h.h.below hb h.lh, (hb.cell (p := ⟨gb, 0, none⟩) h.lb).trans h.b0, (hb.cell (p := ⟨gb, 1, none⟩) h.lb).trans h.b1, h.lo, h.lo2, h.ne, Nat.lt_of_lt_of_le h.lh hb.size, Nat.lt_of_lt_of_le h.lb hb.size⟩
theorem FX.drew (h : FX w m a1 n1 c1 a2 n2 c2 gh gb mo H W) : FX w m a1 n1 c1 a2 n2 c2 gh gb mo H W.drew := h.below (Below.refl _ _).drew
theorem FX.alloc (h : FX w m a1 n1 c1 a2 n2 c2 gh gb mo H W) (o : Obj) : FX w m a1 n1 c1 a2 n2 c2 gh gb mo H (W.alloc o) := h.below ((Below.refl _ _).alloc (Nat.le_refl _) o)
theorem FX.store (h : FX w m a1 n1 c1 a2 n2 c2 gh gb mo H W) (k : Nat) (hk : k < m.sn) (x y : Int) : FX w m a1 n1 c1 a2 n2 c2 gh gb mo (putH H k x y) ((W.setCell ⟨gh, k * 2, none⟩ (.int .i64 x)).setCell ⟨gh, k * 2 + 1, none⟩ (.int .i64 y)) := by
 have hB : Below (w.heap.size + 2) W ((W.setCell ⟨gh, k * 2, none⟩ (.int .i64 x)).setCell ⟨gh, k * 2 + 1, none⟩ (.int .i64 y)) := ((Below.refl _ _).setCell (p := ⟨gh, k * 2, none⟩) h.lo _).setCell (p := ⟨gh, k * 2 + 1, none⟩) h.lo _
 have hg : ((W.setCell ⟨gh, k * 2, none⟩ (.int .i64 x)).setCell ⟨gh, k * 2 + 1, none⟩ (.int .i64 y)).heap[gb]? = W.heap[gb]? := (Below.heap_setCell _ ⟨gh, k * 2 + 1, none⟩ _ gb h.ne).trans (Below.heap_setCell _ ⟨gh, k * 2, none⟩ _ gb h.ne)
 exact ⟨h.mx.far hB, h.h.store k hk x y, (World.cell?_of_block hg).trans h.b0, (World.cell?_of_block hg).trans h.b1, h.lo, h.lo2, h.ne, by rw [World.size_setCell, World.size_setCell]; exact h.lh, by rw [World.size_setCell, World.size_setCell]; exact h.lb⟩
theorem FX.new (A : Array Value) (e e2 : TypeId) (hA : ∀ j, j < m.sn → A[j * 2]? = some (.int .i64 0) ∧ A[j * 2 + 1]? = some (.int .i64 0)) (h : MX w W m a1 n1 c1 a2 n2 c2) :
  FX w m a1 n1 c1 a2 n2 c2 W.heap.size (W.heap.size + 1) mo (fun _ => (0, 0)) ((W.alloc (.cells A e)).alloc (Obj.cells #[.slice (some ⟨W.heap.size, 0, none⟩) m.sn m.sn, .int .i64 mo] e2)) := by
 have hb := h.big
 have c := fun j u (hj : (#[.slice (some ⟨W.heap.size, 0, none⟩) m.sn m.sn, .int .i64 mo] : Array Value)[j]? = some u) => cells_new (W.alloc (.cells A e)) _ e2 hj
 rw [World.size_alloc] at c
 have B1 : Below W.heap.size W (W.alloc (.cells A e)) := (Below.refl _ _).alloc (Nat.le_refl _) _
 have B2 : Below (W.alloc (.cells A e)).heap.size (W.alloc (.cells A e)) ((W.alloc (.cells A e)).alloc (Obj.cells #[.slice (some ⟨W.heap.size, 0, none⟩) m.sn m.sn, .int .i64 mo] e2)) := (Below.refl _ _).alloc (Nat.le_refl _) _
 exact ⟨(h.below B1).below B2, (HAt.new W A e m.sn hA).below B2 (by rw [World.size_alloc]; omega), c 0 _ rfl, c 1 _ rfl, hb, by omega, by omega, by rw [World.size_alloc, World.size_alloc]; omega, by rw [World.size_alloc, World.size_alloc]; omega⟩
end
end Go.Proofs.YtjhpklolpmaopaaGreatDoor
namespace Go.Proofs.YtjhpklolpmaopaaGreatDoor
open Go.RowKit Go.Can
set_option maxRecDepth 100000 in
set_option maxHeartbeats 8000000 in
/-- what is proposed is no truth. -/
theorem found_unfit (m : Mach) (a1 : Option Addr) (n1 c1 : Nat) (a2 : Option Addr) (n2 c2 : Nat) (F G : Nat → Int) (bk tn : Int) (a3 : Option Addr) (n3 c3 : Nat) (Q : Nat → Int) (a4 : Option Addr) (n4 c4 : Nat) (R : Nat → Int) (mo ot : Int) (w : World) (hk : KG w) (hc1 : n1 ≤ c1) (hc2 : n2 ≤ c2) (h : MIn w m) (hF : IntsSl w (.slice a1 n1 c1) n1 F) (hG : IntsSl w (.slice a2 n2 c2) n2 G) (hQ : IntsSl w (.slice a3 n3 c3) n3 Q) (hR : IntsSl w (.slice a4 n4 c4) n4 R) (g : FoundOk m n1 n2 F G bk tn n3 Q n4 mo ot) (hno : (m.axX.holdB F && m.axY.holdB G) = false) :
  Calls Tryz.prog 3 #[m.val, .agg #[.slice a1 n1 c1, .slice a2 n2 c2], .int .i64 bk, .int .i64 tn, .slice a3 n3 c3, .slice a4 n4 c4, .int .i64 mo, .int .i64 ot] w fun e w' => e = .returned (.bool true) ∧ Below w.heap.size w w' := by
 obtain ⟨W0, hW⟩ : ∃ W0, (w.alloc (.cells #[.slice m.sa m.sn m.sc, .int .i64 m.c0, .int .i64 m.c1, .int .i64 m.d0, .int .i64 m.d1, .int .i64 m.w0, .int .i64 m.w1, .int .i64 m.v0, .int .i64 m.v1, .slice m.ra m.rn m.rc] 27)).alloc (.cells #[.slice a1 n1 c1, .slice a2 n2 c2] 30) = W0 := ⟨_, rfl⟩
 have hX : MX w W0 m a1 n1 c1 a2 n2 c2 := by rw [← hW]; exact MX.new w m a1 n1 c1 a2 n2 c2
 obtain ⟨g1, g2, l5, l6, hok, g6, g7, g8, g9, g10, l11, l12, l13⟩ := g
 obtain ⟨l1, l2⟩ : m.sn ≤ 6 ∧ m.rn ≤ 6 := by simpa using g1
 obtain ⟨l3, l4⟩ : n1 ≤ 15 ∧ n2 ≤ 15 := by simpa using g2
 obtain ⟨ho1, ho2⟩ : offB n1 F = true ∧ offB n2 G = true := by simpa using g6
 have hsl := fun (W : World) => slim_any m W (by omega) (by omega)
 have hbr := fun (W : World) => brief_any a1 n1 c1 a2 n2 c2 W (by omega) (by omega)
 rw [g1] at hsl
 rw [g2] at hbr
 have hma := fun (W : World) (hB : Below w.heap.size w W) => rmachine_any m W (by omega) (by omega) (h.below hB)
 rw [hok] at hma
 have htr := fun (W : World) (hB : Below w.heap.size w W) => rtruth_any a1 n1 c1 a2 n2 c2 F G W (by omega) (by omega) (isl_below hF hB) (isl_below hG hB)
 rw [g6] at htr
 have hor := fun (W : World) (hB : Below w.heap.size w W) => order_any (.slice a3 n3 c3) n3 Q m.sn W (by omega) (by omega) (by omega) (isl_below hQ hB)
 rw [g10] at hor
 have hba := fun (W : World) => rblank_any bk 1 W
 rw [g7] at hba
 have hbo := fun (W : World) => rblank_any ot 0 W
 rw [g8] at hbo
 have htu := fun (W : World) => turns_in tn W
 rw [g9] at htu
 have hfi := fun (W : World) (hB : Below w.heap.size w W) => Fits_yes m a1 n1 c1 a2 n2 c2 F G W (by omega) (by omega) (h.below hB) (by omega) (by omega) (isl_below hF hB) (isl_below hG hB) hok ho1 ho2 hc1 hc2
 have c3' : ¬ (6 : Int) < (n3 : Int) := by omega
 have c4' : ¬ (12 : Int) < (n4 : Int) := by omega
 have hw2 : IntKind.i64.wrap (2 * (m.sn : Int)) = 2 * (m.sn : Int) := IntWalk.i64_in _ (by omega)
 have c11 : (n4 : Int) = 2 * (m.sn : Int) := by omega
 have c12 : ¬ mo < 0 := by omega
 have c13 : ¬ 4 < mo := by omega
 rw [hno] at hfi
 obtain ⟨⟨q0, q1, q2, q3, q4, q5, q6, q7, q8, q9⟩, y0, y1, _, _⟩ := id hX
 clear g1 g2 hok g6 g7 g8 g9 g10 ho1 ho2 hno
 go_enter Tryz.func3, Tryz.ntmps3
 go_wp2_with (first
  | (go_at_call 5; with_reducible refine (hsl _).mono ?_; rintro e w1 ⟨rfl, hb⟩; replace hX := hX.below hb; obtain ⟨⟨q0, q1, q2, q3, q4, q5, q6, q7, q8, q9⟩, y0, y1, _, _⟩ := id hX)
  | (go_at_call 6; with_reducible refine (hbr _).mono ?_; rintro e w1 ⟨rfl, hb⟩; replace hX := hX.below hb; obtain ⟨⟨q0, q1, q2, q3, q4, q5, q6, q7, q8, q9⟩, y0, y1, _, _⟩ := id hX)
  | (go_at_call 7; with_reducible refine (hma _ hX.old).mono ?_; rintro e w1 ⟨rfl, hb⟩; replace hX := hX.below hb; obtain ⟨⟨q0, q1, q2, q3, q4, q5, q6, q7, q8, q9⟩, y0, y1, _, _⟩ := id hX)
  | (go_at_call 8; with_reducible refine (htr _ hX.old).mono ?_; rintro e w1 ⟨rfl, hb⟩; replace hX := hX.below hb; obtain ⟨⟨q0, q1, q2, q3, q4, q5, q6, q7, q8, q9⟩, y0, y1, _, _⟩ := id hX)
  | (go_at_call 9; with_reducible refine (hba _).mono ?_; rintro e w1 ⟨rfl, rfl⟩)
  | (go_at_call 9; with_reducible refine (hbo _).mono ?_; rintro e w1 ⟨rfl, rfl⟩)
  | (go_at_call 10; with_reducible refine (htu _).mono ?_; rintro e w1 ⟨rfl, rfl⟩)
  | (go_at_call 11; with_reducible refine (hor _ hX.old).mono ?_; rintro e w1 ⟨rfl, hb⟩; replace hX := hX.below hb; obtain ⟨⟨q0, q1, q2, q3, q4, q5, q6, q7, q8, q9⟩, y0, y1, _, _⟩ := id hX)
  | (go_at_call 13; with_reducible refine (hfi _ hX.old).mono ?_; rintro e w1 ⟨rfl, hb⟩; replace hX := hX.below hb; obtain ⟨⟨q0, q1, q2, q3, q4, q5, q6, q7, q8, q9⟩, y0, y1, _, _⟩ := id hX)
  | (go_at_call 12; refine (known_ok _ (hk.below hX.old)).mono ?_; rintro e w1 ⟨rfl, hb⟩; replace hX := hX.below hb))
 go_ret
 exact ⟨rfl, hX.old⟩
end Go.Proofs.YtjhpklolpmaopaaGreatDoor
namespace Go.Proofs.YtjhpklolpmaopaaGreatDoor
open Go.RowKit
/-- four integers in a block. -/
structure Box4 (W : World) (g : Nat) (a b c d : Int) : Prop where
 k0 : W.cell? ⟨g, 0, none⟩ = some (.int .i64 a)
 k1 : W.cell? ⟨g, 1, none⟩ = some (.int .i64 b)
 k2 : W.cell? ⟨g, 2, none⟩ = some (.int .i64 c)
 k3 : W.cell? ⟨g, 3, none⟩ = some (.int .i64 d)
 f0 : W.frozen? ⟨g, 0, none⟩ = false
 f1 : W.frozen? ⟨g, 1, none⟩ = false
 f2 : W.frozen? ⟨g, 2, none⟩ = false
 f3 : W.frozen? ⟨g, 3, none⟩ = false
theorem Box4.far {W W' : World} {g : Nat} {a b c d : Int} (h : Box4 W g a b c d) (hh : W'.heap[g]? = W.heap[g]?) : Box4 W' g a b c d := by
 have e : ∀ j, W'.cell? ⟨g, j, none⟩ = W.cell? ⟨g, j, none⟩ := fun j => World.cell?_of_block hh
 have f : ∀ j, W'.frozen? ⟨g, j, none⟩ = W.frozen? ⟨g, j, none⟩ := fun j => by unfold World.frozen?; rw [hh]
 exact ⟨(e _).trans h.k0, (e _).trans h.k1, (e _).trans h.k2, (e _).trans h.k3, (f _).trans h.f0, (f _).trans h.f1, (f _).trans h.f2, (f _).trans h.f3⟩
theorem Box4.below {W W' : World} {g B : Nat} {a b c d : Int} (h : Box4 W g a b c d) (hb : Below B W W') (hl : g < B) : Box4 W' g a b c d := h.far (hb.block g hl)
theorem Box4.drew {W : World} {g : Nat} {a b c d : Int} (h : Box4 W g a b c d) : Box4 W.drew g a b c d := ⟨h.k0, h.k1, h.k2, h.k3, h.f0, h.f1, h.f2, h.f3⟩
theorem Box4.new (w : World) (e : TypeId) (a b c d : Int) : Box4 (w.alloc (Obj.cells #[.int .i64 a, .int .i64 b, .int .i64 c, .int .i64 d] e)) w.heap.size a b c d :=
 ⟨cells_new w _ _ rfl, cells_new w _ _ rfl, cells_new w _ _ rfl, cells_new w _ _ rfl, by simp [go_sem], by simp [go_sem], by simp [go_sem], by simp [go_sem]⟩
theorem Box4.set01 {W : World} {g : Nat} {a b c d : Int} (h : Box4 W g a b c d) (x y : Int) : Box4 ((W.setCell ⟨g, 0, none⟩ (.int .i64 x)).setCell ⟨g, 1, none⟩ (.int .i64 y)) g x y c d := by
 have o : ∀ (i j : Nat) (V : World) (u : Value), i ≠ j → (V.setCell ⟨g, i, none⟩ u).cell? ⟨g, j, none⟩ = V.cell? ⟨g, j, none⟩ := fun i j V u hij => World.cell?_setCell_other V u (a := ⟨g, i, none⟩) (b := ⟨g, j, none⟩) (by intro h; cases h; exact hij rfl)
 refine ⟨?_, ?_, ?_, ?_, ?_, ?_, ?_, ?_⟩
 ·rw [o 1 0 _ _ (by decide)]; exact World.cell?_setCell_same' _ _ _ (by rw [h.k0]; rfl)
 ·exact World.cell?_setCell_same' _ _ _ (by rw [o 0 1 _ _ (by decide), h.k1]; rfl)
 ·rw [o 1 2 _ _ (by decide), o 0 2 _ _ (by decide)]; exact h.k2
 ·rw [o 1 3 _ _ (by decide), o 0 3 _ _ (by decide)]; exact h.k3
 all_goals rw [World.frozen?_setCell, World.frozen?_setCell]
 ·exact h.f0
 ·exact h.f1
 ·exact h.f2
 ·exact h.f3
theorem Box4.set23 {W : World} {g : Nat} {a b c d : Int} (h : Box4 W g a b c d) (x y : Int) : Box4 ((W.setCell ⟨g, 2, none⟩ (.int .i64 x)).setCell ⟨g, 3, none⟩ (.int .i64 y)) g a b x y := by
 have o : ∀ (i j : Nat) (V : World) (u : Value), i ≠ j → (V.setCell ⟨g, i, none⟩ u).cell? ⟨g, j, none⟩ = V.cell? ⟨g, j, none⟩ := fun i j V u hij => World.cell?_setCell_other V u (a := ⟨g, i, none⟩) (b := ⟨g, j, none⟩) (by intro h; cases h; exact hij rfl)
 refine ⟨?_, ?_, ?_, ?_, ?_, ?_, ?_, ?_⟩
 ·rw [o 3 0 _ _ (by decide), o 2 0 _ _ (by decide)]; exact h.k0
 ·rw [o 3 1 _ _ (by decide), o 2 1 _ _ (by decide)]; exact h.k1
 ·rw [o 3 2 _ _ (by decide)]; exact World.cell?_setCell_same' _ _ _ (by rw [h.k2]; rfl)
 ·exact World.cell?_setCell_same' _ _ _ (by rw [o 2 3 _ _ (by decide), h.k3]; rfl)
 all_goals rw [World.frozen?_setCell, World.frozen?_setCell]
 ·exact h.f0
 ·exact h.f1
 ·exact h.f2
 ·exact h.f3
theorem one_new (w : World) (k lo hh : Int) : OneC (w.alloc (Obj.cells #[.int .i64 k, .int .i64 lo, .int .i64 hh] 117)) w.heap.size 0 k lo hh :=
 ⟨cells_new w _ _ rfl, cells_new w _ _ rfl, cells_new w _ _ rfl, by rw [World.size_alloc]; omega⟩
/-- what stands while the courses of a proof are reckoned. -/
structure P1 (w0 w : World) (m : Mach) (L : List Value) (g gat gof gbl gpr k bl : Nat) (b : Int × Int × Int × Int) (W : World) : Prop where
 old : Below w0.heap.size w0 W
 st : SAt W g L
 ka : W.cell? ⟨gat, 0, none⟩ = some (.int .i64 k)
 o0 : W.cell? ⟨gof, 0, none⟩ = some (.int .i64 b.1)
 o1 : W.cell? ⟨gof, 1, none⟩ = some (.int .i64 b.2.1)
 o2 : W.cell? ⟨gof, 2, none⟩ = some (.int .i64 b.2.2.1)
 o3 : W.cell? ⟨gof, 3, none⟩ = some (.int .i64 b.2.2.2)
 kb : W.cell? ⟨gbl, 0, none⟩ = some (.int .i64 bl)
 l1 : g < W.heap.size
 l2 : gat < W.heap.size
 l3 : gof < W.heap.size
 l4 : gbl < W.heap.size
 l5 : gpr < W.heap.size
 n1 : gpr ≠ g
 n2 : gpr ≠ gat
 n3 : gpr ≠ gof
 n4 : gpr ≠ gbl
 n0 : w0.heap.size ≤ gpr
 hz : w.heap.size ≤ W.heap.size
 kept : ∀ j, j < w.heap.size → j ≠ gpr → W.heap[j]? = w.heap[j]?
theorem P1.below {w0 w : World} {m : Mach} {L : List Value} {g gat gof gbl gpr k bl : Nat} {b : Int × Int × Int × Int} {W W' : World} (h : P1 w0 w m L g gat gof gbl gpr k bl b W) (hb : Below W.heap.size W W') : P1 w0 w m L g gat gof gbl gpr k bl b W' :=
 ⟨h.old.trans (hb.mono h.old.size), h.st.below hb h.l1, (hb.cell (p := ⟨gat, 0, none⟩) h.l2).trans h.ka, (hb.cell (p := ⟨gof, 0, none⟩) h.l3).trans h.o0, (hb.cell (p := ⟨gof, 1, none⟩) h.l3).trans h.o1, (hb.cell (p := ⟨gof, 2, none⟩) h.l3).trans h.o2, (hb.cell (p := ⟨gof, 3, none⟩) h.l3).trans h.o3, (hb.cell (p := ⟨gbl, 0, none⟩) h.l4).trans h.kb, Nat.lt_of_lt_of_le h.l1 hb.size, Nat.lt_of_lt_of_le h.l2 hb.size, Nat.lt_of_lt_of_le h.l3 hb.size, Nat.lt_of_lt_of_le h.l4 hb.size, Nat.lt_of_lt_of_le h.l5 hb.size, h.n1, h.n2, h.n3, h.n4, h.n0, Nat.le_trans h.hz hb.size, fun j hj hne => (hb.block j (Nat.lt_of_lt_of_le hj h.hz)).trans (h.kept j hj hne)⟩
theorem P1.drew {w0 w : World} {m : Mach} {L : List Value} {g gat gof gbl gpr k bl : Nat} {b : Int × Int × Int × Int} {W : World} (h : P1 w0 w m L g gat gof gbl gpr k bl b W) : P1 w0 w m L g gat gof gbl gpr k bl b W.drew := h.below (Below.refl _ _).drew
theorem P1.alloc {w0 w : World} {m : Mach} {L : List Value} {g gat gof gbl gpr k bl : Nat} {b : Int × Int × Int × Int} {W : World} (h : P1 w0 w m L g gat gof gbl gpr k bl b W) (o : Obj) : P1 w0 w m L g gat gof gbl gpr k bl b (W.alloc o) := h.below ((Below.refl _ _).alloc (Nat.le_refl _) o)
theorem P1.put {w0 w : World} {m : Mach} {L : List Value} {g gat gof gbl gpr k bl : Nat} {b : Int × Int × Int × Int} {W : World} (h : P1 w0 w m L g gat gof gbl gpr k bl b W) (i j : Nat) (u v : Value) : P1 w0 w m L g gat gof gbl gpr k bl b ((W.setCell ⟨gpr, i, none⟩ u).setCell ⟨gpr, j, none⟩ v) := by
 have far : ∀ x, x ≠ gpr → ((W.setCell ⟨gpr, i, none⟩ u).setCell ⟨gpr, j, none⟩ v).heap[x]? = W.heap[x]? := fun x hx => (Below.heap_setCell _ ⟨gpr, j, none⟩ v x hx).trans (Below.heap_setCell W ⟨gpr, i, none⟩ u x hx)
 have c : ∀ x o, x ≠ gpr → ((W.setCell ⟨gpr, i, none⟩ u).setCell ⟨gpr, j, none⟩ v).cell? ⟨x, o, none⟩ = W.cell? ⟨x, o, none⟩ := fun x o hx => World.cell?_of_block (far x hx)
 have z : ((W.setCell ⟨gpr, i, none⟩ u).setCell ⟨gpr, j, none⟩ v).heap.size = W.heap.size := by rw [World.size_setCell, World.size_setCell]
 exact ⟨(h.old.setCell (p := ⟨gpr, i, none⟩) h.n0 u).setCell (p := ⟨gpr, j, none⟩) h.n0 v, h.st.far (far g (Ne.symm h.n1)), (c gat 0 (Ne.symm h.n2)).trans h.ka, (c gof 0 (Ne.symm h.n3)).trans h.o0, (c gof 1 (Ne.symm h.n3)).trans h.o1, (c gof 2 (Ne.symm h.n3)).trans h.o2, (c gof 3 (Ne.symm h.n3)).trans h.o3, (c gbl 0 (Ne.symm h.n4)).trans h.kb, by rw [z]; exact h.l1, by rw [z]; exact h.l2, by rw [z]; exact h.l3, by rw [z]; exact h.l4, by rw [z]; exact h.l5, h.n1, h.n2, h.n3, h.n4, h.n0, by rw [z]; exact h.hz, fun x hx hne => (far x hne).trans (h.kept x hx hne)⟩
set_option maxRecDepth 100000 in
theorem idxC0 (f : Nat → Int × Int) (w : World) : (Instr.index 90 (.agg (crsL f 13).toArray) (.int .i64 0)).run Tryz.prog w = .ok (.agg #[.int .i64 (f 0).1, .int .i64 (f 0).2]) w := by kernel_rfl
set_option maxRecDepth 100000 in
theorem idxC1 (f : Nat → Int × Int) (w : World) : (Instr.index 90 (.agg (crsL f 13).toArray) (.int .i64 1)).run Tryz.prog w = .ok (.agg #[.int .i64 (f 1).1, .int .i64 (f 1).2]) w := by kernel_rfl
set_option maxRecDepth 100000 in
theorem idxC2 (f : Nat → Int × Int) (w : World) : (Instr.index 90 (.agg (crsL f 13).toArray) (.int .i64 2)).run Tryz.prog w = .ok (.agg #[.int .i64 (f 2).1, .int .i64 (f 2).2]) w := by kernel_rfl
set_option maxRecDepth 100000 in
theorem idxC3 (f : Nat → Int × Int) (w : World) : (Instr.index 90 (.agg (crsL f 13).toArray) (.int .i64 3)).run Tryz.prog w = .ok (.agg #[.int .i64 (f 3).1, .int .i64 (f 3).2]) w := by kernel_rfl
set_option maxRecDepth 100000 in
theorem idxC4 (f : Nat → Int × Int) (w : World) : (Instr.index 90 (.agg (crsL f 13).toArray) (.int .i64 4)).run Tryz.prog w = .ok (.agg #[.int .i64 (f 4).1, .int .i64 (f 4).2]) w := by kernel_rfl
set_option maxRecDepth 100000 in
theorem idxC5 (f : Nat → Int × Int) (w : World) : (Instr.index 90 (.agg (crsL f 13).toArray) (.int .i64 5)).run Tryz.prog w = .ok (.agg #[.int .i64 (f 5).1, .int .i64 (f 5).2]) w := by kernel_rfl
set_option maxRecDepth 100000 in
theorem idxC6 (f : Nat → Int × Int) (w : World) : (Instr.index 90 (.agg (crsL f 13).toArray) (.int .i64 6)).run Tryz.prog w = .ok (.agg #[.int .i64 (f 6).1, .int .i64 (f 6).2]) w := by kernel_rfl
set_option maxRecDepth 100000 in
theorem idxC7 (f : Nat → Int × Int) (w : World) : (Instr.index 90 (.agg (crsL f 13).toArray) (.int .i64 7)).run Tryz.prog w = .ok (.agg #[.int .i64 (f 7).1, .int .i64 (f 7).2]) w := by kernel_rfl
set_option maxRecDepth 100000 in
theorem idxC8 (f : Nat → Int × Int) (w : World) : (Instr.index 90 (.agg (crsL f 13).toArray) (.int .i64 8)).run Tryz.prog w = .ok (.agg #[.int .i64 (f 8).1, .int .i64 (f 8).2]) w := by kernel_rfl
set_option maxRecDepth 100000 in
theorem idxC9 (f : Nat → Int × Int) (w : World) : (Instr.index 90 (.agg (crsL f 13).toArray) (.int .i64 9)).run Tryz.prog w = .ok (.agg #[.int .i64 (f 9).1, .int .i64 (f 9).2]) w := by kernel_rfl
set_option maxRecDepth 100000 in
theorem idxC10 (f : Nat → Int × Int) (w : World) : (Instr.index 90 (.agg (crsL f 13).toArray) (.int .i64 10)).run Tryz.prog w = .ok (.agg #[.int .i64 (f 10).1, .int .i64 (f 10).2]) w := by kernel_rfl
set_option maxRecDepth 100000 in
theorem idxC11 (f : Nat → Int × Int) (w : World) : (Instr.index 90 (.agg (crsL f 13).toArray) (.int .i64 11)).run Tryz.prog w = .ok (.agg #[.int .i64 (f 11).1, .int .i64 (f 11).2]) w := by kernel_rfl
set_option maxRecDepth 100000 in
theorem idxC12 (f : Nat → Int × Int) (w : World) : (Instr.index 90 (.agg (crsL f 13).toArray) (.int .i64 12)).run Tryz.prog w = .ok (.agg #[.int .i64 (f 12).1, .int .i64 (f 12).2]) w := by kernel_rfl
theorem idxC (f : Nat → Int × Int) (b : Nat) (hb : b ≤ 12) (w : World) : (Instr.index 90 (.agg (crsL f 13).toArray) (.int .i64 b)).run Tryz.prog w = .ok (.agg #[.int .i64 (f b).1, .int .i64 (f b).2]) w := by
 obtain rfl | rfl | rfl | rfl | rfl | rfl | rfl | rfl | rfl | rfl | rfl | rfl | rfl : b = 0 ∨ b = 1 ∨ b = 2 ∨ b = 3 ∨ b = 4 ∨ b = 5 ∨ b = 6 ∨ b = 7 ∨ b = 8 ∨ b = 9 ∨ b = 10 ∨ b = 11 ∨ b = 12 := by omega
 ·exact idxC0 f w
 ·exact idxC1 f w
 ·exact idxC2 f w
 ·exact idxC3 f w
 ·exact idxC4 f w
 ·exact idxC5 f w
 ·exact idxC6 f w
 ·exact idxC7 f w
 ·exact idxC8 f w
 ·exact idxC9 f w
 ·exact idxC10 f w
 ·exact idxC11 f w
 ·exact idxC12 f w
theorem plusCX (m : Mach) (k : Nat) (b : Int × Int × Int × Int) : PlusC m.rn m.axX.cl (k : Int) b.1 b.2.1 (wX m k b) := ⟨(plusX m k b).n, (plusX m k b).old, (plusX m k b).new⟩
theorem plusCY (m : Mach) (k : Nat) (b : Int × Int × Int × Int) : PlusC m.rn m.axY.cl (k : Int) b.2.2.1 b.2.2.2 (wY m k b) := ⟨(plusY m k b).n, (plusY m k b).old, (plusY m k b).new⟩
set_option maxRecDepth 100000 in
set_option maxHeartbeats 8000000 in
theorem proves1_can (m : Mach) (EX EY : Nat → Int × Int) (g gat gof gbl gpr k bl : Nat) (b : Int × Int × Int × Int) (p0 p1 q0 q1 : Int) (w0 w : World) (hok : m.ok = true) (h : MIn w0 m) (hk : k ≤ 12) (hbl : bl ≤ 12) (hbd : bdB b) (hP : P1 w0 w m (m.st (crsL EX 13) (crsL EY 13)) g gat gof gbl gpr k bl b w) (hBx : Box4 w gpr p0 p1 q0 q1) (hX : (wX m k b).can) (hY : (wY m k b).can) :
  Calls Tryz.prog 56 #[.pointer (some ⟨g, 0, none⟩), .pointer (some ⟨gat, 0, none⟩), .pointer (some ⟨gof, 0, none⟩), .pointer (some ⟨gbl, 0, none⟩), .pointer (some ⟨gpr, 0, none⟩)] w fun e w' => e = .returned (.tuple #[]) ∧ P1 w0 w m (m.st (crsL EX 13) (crsL EY 13)) g gat gof gbl gpr k bl b w' ∧ Box4 w' gpr ((wX m k b).ends bl).1 ((wX m k b).ends bl).2 ((wY m k b).ends bl).1 ((wY m k b).ends bl).2 := by
 have hx0 := idxF0
 have hx1 := idxF1
 have hlX := crsL_length EX 13
 have hlY := crsL_length EY 13
 have hL := m.st_length hlX hlY
 have hi0 : (Tryz.prog.info? 93).map (·.size) = some 62 := by kernel_rfl
 have hi : (Tryz.prog.info? 93).map (·.size) = some (m.st (crsL EX 13) (crsL EY 13)).length := by rw [hL]; exact hi0
 have hax := fun (W : World) => axes_any (m.st (crsL EX 13) (crsL EY 13)) hL W
 have halX := fun (W : World) (hB : Below w0.heap.size w0 W) => alongX_m m (crsL EX 13) (crsL EY 13) hlX hlY W hok (h.below hB)
 have halY := fun (W : World) (hB : Below w0.heap.size w0 W) => alongY_m m (crsL EX 13) (crsL EY 13) hlX hlY W hok (h.below hB)
 have hcX : ∀ (W : World) v (gm : Nat), CSp W v m.rn m.axX.cl → OneC W gm 0 k b.1 b.2.1 → Calls Tryz.prog 58 #[.agg #[.int .i64 m.axX.c0, .int .i64 m.axX.c1, .int .i64 m.axX.w0, .int .i64 m.axX.w1, v], .slice (some ⟨gm, 0, none⟩) 1 1] W fun e w' => e = .returned (.agg (crsL (wX m k b).ends 13).toArray) ∧ Below W.heap.size W w' := fun W v gm hv hm => by
  refine (course_plus (wX m k b) v m.rn m.axX.cl gm 0 k b.1 b.2.1 W (wX_fine hok hk hbd) hv hm (plusCX m k b)).mono ?_
  rintro e w' (⟨_, h⟩ | ⟨h, _⟩)
  ·exact h
  ·exact absurd hX h
 have hcY : ∀ (W : World) v (gm : Nat), CSp W v m.rn m.axY.cl → OneC W gm 0 k b.2.2.1 b.2.2.2 → Calls Tryz.prog 58 #[.agg #[.int .i64 m.axY.c0, .int .i64 m.axY.c1, .int .i64 m.axY.w0, .int .i64 m.axY.w1, v], .slice (some ⟨gm, 0, none⟩) 1 1] W fun e w' => e = .returned (.agg (crsL (wY m k b).ends 13).toArray) ∧ Below W.heap.size W w' := fun W v gm hv hm => by
  refine (course_plus (wY m k b) v m.rn m.axY.cl gm 0 k b.2.2.1 b.2.2.2 W (wY_fine hok hk hbd) hv hm (plusCY m k b)).mono ?_
  rintro e w' (⟨_, h⟩ | ⟨h, _⟩)
  ·exact h
  ·exact absurd hY h
 have hiX := fun W => idxC (wX m k b).ends bl hbl W
 have hiY := fun W => idxC (wY m k b).ends bl hbl W
 have hrg := hP.st.c
 clear hlX hlY hL hi0 hX hY hbd
 generalize crsL (wX m k b).ends 13 = LX at *
 generalize crsL (wY m k b).ends 13 = LY at *
 generalize (wX m k b).ends bl = CX at *
 generalize (wY m k b).ends bl = CY at *
 generalize m.st (crsL EX 13) (crsL EY 13) = L at *
 go_enter Tryz.func56, Tryz.ntmps56
 go_wp2_with (first
  | (refine wpList_load_mid rfl 93 _ rfl g 0 rfl L _ hrg Tryz.underlying93 rfl hi ?_)
  | (go_at_call 57; with_reducible refine (hax _).mono ?_; rintro e w1 ⟨rfl, hb1⟩))
 refine wp_loop_rounds 3 ?_
 rw [rounds_succ]
 have hl5 := hP.l5
 replace hP := hP.below hb1
 replace hBx := hBx.below hb1 hl5
 clear hrg
 go_wp2_with fail
 refine wp_region_late [13] (fun w9 => P1 w0 w m L g gat gof gbl gpr k bl b w9) (fun w9 => Box4 w9 gpr p0 p1 q0 q1) (by kernel_rfl) ?_ (fun hHeld => ?_)
 ·(exact ⟨hP.drew, hBx.drew⟩)
 generalize w1.drew = V0 at hHeld ⊢
 refine tk0 0 ?_ rfl (Or.inl ⟨by rfl, ?_⟩) hHeld ?_
 rotate_left 1
 ·((intro w9 hSw; clear hSw; go_simp) <;> with_reducible rfl)
 (try simp only [Act.put, pA, pZ, pS])
 refine tk0 1 ?_ rfl (Or.inl ⟨by rfl, ?_⟩) hHeld ?_
 rotate_left 1
 ·((intro w9 hSw; clear hSw; go_simp) <;> with_reducible rfl)
 (try simp only [Act.put, pA, pZ, pS])
 refine tk0 3 ?_ rfl (Or.inl ⟨by rfl, ?_⟩) hHeld ?_
 rotate_left 1
 ·((intro w9 hSw; have z0 := hSw.ka; clear hSw; go_simp) <;> with_reducible rfl)
 (try simp only [Act.put, pA, pZ, pS])
 refine tk0 4 ?_ rfl (Or.inl ⟨by rfl, ?_⟩) hHeld ?_
 rotate_left 1
 ·((intro w9 hSw; clear hSw; go_simp) <;> with_reducible rfl)
 (try simp only [Act.put, pA, pZ, pS])
 refine tk0 5 ?_ rfl (Or.inl ⟨by rfl, ?_⟩) hHeld ?_
 rotate_left 1
 ·((intro w9 hSw; clear hSw; go_simp) <;> with_reducible rfl)
 (try simp only [Act.put, pA, pZ, pS])
 refine tk0 6 ?_ rfl (Or.inl ⟨by rfl, ?_⟩) hHeld ?_
 rotate_left 1
 ·((intro w9 hSw; have z0 := hSw.o0; have z1 := hSw.o1; clear hSw; go_simp) <;> with_reducible rfl)
 (try simp only [Act.put, pA, pZ, pS])
 refine tk0 7 ?_ rfl (Or.inl ⟨by rfl, ?_⟩) hHeld ?_
 rotate_left 1
 ·((intro w9 hSw; clear hSw; go_simp) <;> with_reducible rfl)
 (try simp only [Act.put, pA, pZ, pS])
 refine tk0 10 ?_ rfl (Or.inl ⟨by rfl, ?_⟩) hHeld ?_
 rotate_left 1
 ·((intro w9 hSw; have z0 := hSw.kb; clear hSw; go_simp) <;> with_reducible rfl)
 (try simp only [Act.put, pA, pZ, pS])
 refine wpAnyP_ready (rs := [2, 8]) (by kernel_rfl) (by simp) ?_
 refine AllReadyP.cons (o := _) rfl (fun K hK => ?_) (AllReadyP.cons (o := _) rfl (fun K hK => ?_) AllReadyP.nil)
 ·go_simp
  (go_at_call 95; with_reducible refine (halX _ hHeld.1.old).mono ?_; rintro e w2 ⟨v2, rfl, hv2, hb2⟩)
  refine hK.out _ _ ?_ (fun hHeld => ?_)
  ·(exact ⟨hHeld.1.below hb2, hHeld.2.below hb2 hHeld.1.l5⟩)
  clear hK K
  (try simp only [Act.put, pA, pZ, pS])
  refine rd1 8 rfl (fun K hK => ?_)
  go_simp
  have hn6 := one_new w2 (k : Int) b.1 b.2.1
  have hv3 := hv2.below ((Below.refl w2.heap.size w2).alloc (Nat.le_refl _) (Obj.cells #[.int .i64 k, .int .i64 b.1, .int .i64 b.2.1] 117))
  refine hK.out _ _ ?_ (fun hHeld => ?_)
  ·(exact ⟨hHeld.1.alloc _, hHeld.2.below ((Below.refl _ _).alloc (Nat.le_refl _) _) hHeld.1.l5⟩)
  clear hK K
  (try simp only [Act.put, pA, pZ, pS])
  refine rd1 9 rfl (fun K hK => ?_)
  go_simp
  (go_at_call 58; with_reducible refine (hcX _ _ _ hv3 hn6).mono ?_; rintro e w4 ⟨rfl, hb4⟩)
  refine hK.out _ _ ?_ (fun hHeld => ?_)
  ·(exact ⟨hHeld.1.below hb4, hHeld.2.below hb4 hHeld.1.l5⟩)
  clear hK K
  (try simp only [Act.put, pA, pZ, pS])
  refine tk0 11 ?_ rfl (Or.inl ⟨by rfl, ?_⟩) hHeld ?_
  rotate_left 1
  ·((intro w9 hSw; have z0 := hiX w9; clear hSw; go_simp) <;> with_reducible rfl)
  (try simp only [Act.put, pA, pZ, pS])
  refine tk0 12 ?_ rfl (Or.inl ⟨by rfl, ?_⟩) hHeld ?_
  rotate_left 1
  ·((intro w9 hSw; clear hSw; go_simp) <;> with_reducible rfl)
  (try simp only [Act.put, pA, pZ, pS])
  refine wpAnyP_ready (rs := [13]) (by kernel_rfl) (by simp) ?_
  refine AllReadyP.behind (o := _) rfl (by kernel_rfl) (fun K hK => ?_) AllReadyP.nil
  ·have c0 := hHeld.2.k0
   have c1 := hHeld.2.k1
   have y0 := hHeld.2.f0
   have y1 := hHeld.2.f1
   go_simp
   clear c0 c1 y0 y1
   have hK1 := hHeld.1.put 0 1 (.int .i64 CX.1) (.int .i64 CX.2)
   have hB := hHeld.2.set01 CX.1 CX.2
   refine hK.out _ _ ?_ (fun hHeld => ?_)
   ·(exact hK1)
   clear hK K
   (try simp only [Act.put, pA, pZ, pS])
   refine wpAnyP_done (by kernel_rfl) ?_ _
   (try simp only [Act.put, List.getElem_toArray, List.getElem_cons_zero, List.getElem_cons_succ, pA, pZ, pS])
   have hP := hHeld
   clear hHeld hK1
   have hBx := hB
   clear hB
   generalize (w4.setCell ⟨gpr, 0, none⟩ (.int .i64 CX.1)).setCell ⟨gpr, 1, none⟩ (.int .i64 CX.2) = W4 at hBx hP ⊢
   go_wp2_with fail
   rw [rounds_succ]
   go_wp2_with fail
   refine wp_region_late [13] (fun w9 => P1 w0 w m L g gat gof gbl gpr k bl b w9) (fun w9 => Box4 w9 gpr CX.1 CX.2 q0 q1) (by kernel_rfl) ?_ (fun hHeld => ?_)
   ·(exact ⟨hP.drew, hBx.drew⟩)
   generalize W4.drew = V1 at hHeld ⊢
   refine tk0 0 ?_ rfl (Or.inl ⟨by rfl, ?_⟩) hHeld ?_
   rotate_left 1
   ·((intro w9 hSw; clear hSw; go_simp) <;> with_reducible rfl)
   (try simp only [Act.put, pA, pZ, pS])
   refine tk0 1 ?_ rfl (Or.inl ⟨by rfl, ?_⟩) hHeld ?_
   rotate_left 1
   ·((intro w9 hSw; clear hSw; go_simp) <;> with_reducible rfl)
   (try simp only [Act.put, pA, pZ, pS])
   refine tk0 3 ?_ rfl (Or.inl ⟨by rfl, ?_⟩) hHeld ?_
   rotate_left 1
   ·((intro w9 hSw; have z0 := hSw.ka; clear hSw; go_simp) <;> with_reducible rfl)
   (try simp only [Act.put, pA, pZ, pS])
   refine tk0 4 ?_ rfl (Or.inl ⟨by rfl, ?_⟩) hHeld ?_
   rotate_left 1
   ·((intro w9 hSw; clear hSw; go_simp) <;> with_reducible rfl)
   (try simp only [Act.put, pA, pZ, pS])
   refine tk0 5 ?_ rfl (Or.inl ⟨by rfl, ?_⟩) hHeld ?_
   rotate_left 1
   ·((intro w9 hSw; clear hSw; go_simp) <;> with_reducible rfl)
   (try simp only [Act.put, pA, pZ, pS])
   refine tk0 6 ?_ rfl (Or.inl ⟨by rfl, ?_⟩) hHeld ?_
   rotate_left 1
   ·((intro w9 hSw; have z0 := hSw.o2; have z1 := hSw.o3; clear hSw; go_simp) <;> with_reducible rfl)
   (try simp only [Act.put, pA, pZ, pS])
   refine tk0 7 ?_ rfl (Or.inl ⟨by rfl, ?_⟩) hHeld ?_
   rotate_left 1
   ·((intro w9 hSw; clear hSw; go_simp) <;> with_reducible rfl)
   (try simp only [Act.put, pA, pZ, pS])
   refine tk0 10 ?_ rfl (Or.inl ⟨by rfl, ?_⟩) hHeld ?_
   rotate_left 1
   ·((intro w9 hSw; have z0 := hSw.kb; clear hSw; go_simp) <;> with_reducible rfl)
   (try simp only [Act.put, pA, pZ, pS])
   refine wpAnyP_ready (rs := [2, 8]) (by kernel_rfl) (by simp) ?_
   refine AllReadyP.cons (o := _) rfl (fun K hK => ?_) (AllReadyP.cons (o := _) rfl (fun K hK => ?_) AllReadyP.nil)
   ·go_simp
    (go_at_call 96; with_reducible refine (halY _ hHeld.1.old).mono ?_; rintro e w2 ⟨v2, rfl, hv2, hb2⟩)
    refine hK.out _ _ ?_ (fun hHeld => ?_)
    ·(exact ⟨hHeld.1.below hb2, hHeld.2.below hb2 hHeld.1.l5⟩)
    clear hK K
    (try simp only [Act.put, pA, pZ, pS])
    refine rd1 8 rfl (fun K hK => ?_)
    go_simp
    have hn6 := one_new w2 (k : Int) b.2.2.1 b.2.2.2
    have hv3 := hv2.below ((Below.refl w2.heap.size w2).alloc (Nat.le_refl _) (Obj.cells #[.int .i64 k, .int .i64 b.2.2.1, .int .i64 b.2.2.2] 117))
    refine hK.out _ _ ?_ (fun hHeld => ?_)
    ·(exact ⟨hHeld.1.alloc _, hHeld.2.below ((Below.refl _ _).alloc (Nat.le_refl _) _) hHeld.1.l5⟩)
    clear hK K
    (try simp only [Act.put, pA, pZ, pS])
    refine rd1 9 rfl (fun K hK => ?_)
    go_simp
    (go_at_call 58; with_reducible refine (hcY _ _ _ hv3 hn6).mono ?_; rintro e w4 ⟨rfl, hb4⟩)
    refine hK.out _ _ ?_ (fun hHeld => ?_)
    ·(exact ⟨hHeld.1.below hb4, hHeld.2.below hb4 hHeld.1.l5⟩)
    clear hK K
    (try simp only [Act.put, pA, pZ, pS])
    refine tk0 11 ?_ rfl (Or.inl ⟨by rfl, ?_⟩) hHeld ?_
    rotate_left 1
    ·((intro w9 hSw; have z0 := hiY w9; clear hSw; go_simp) <;> with_reducible rfl)
    (try simp only [Act.put, pA, pZ, pS])
    refine tk0 12 ?_ rfl (Or.inl ⟨by rfl, ?_⟩) hHeld ?_
    rotate_left 1
    ·((intro w9 hSw; clear hSw; go_simp) <;> with_reducible rfl)
    (try simp only [Act.put, pA, pZ, pS])
    refine wpAnyP_ready (rs := [13]) (by kernel_rfl) (by simp) ?_
    refine AllReadyP.behind (o := _) rfl (by kernel_rfl) (fun K hK => ?_) AllReadyP.nil
    ·have c0 := hHeld.2.k2
     have c1 := hHeld.2.k3
     have y0 := hHeld.2.f2
     have y1 := hHeld.2.f3
     go_simp
     clear c0 c1 y0 y1
     have hK1 := hHeld.1.put 2 3 (.int .i64 CY.1) (.int .i64 CY.2)
     have hB := hHeld.2.set23 CY.1 CY.2
     refine hK.out _ _ ?_ (fun hHeld => ?_)
     ·(exact hK1)
     clear hK K
     (try simp only [Act.put, pA, pZ, pS])
     refine wpAnyP_done (by kernel_rfl) ?_ _
     (try simp only [Act.put, List.getElem_toArray, List.getElem_cons_zero, List.getElem_cons_succ, pA, pZ, pS])
     have hP := hHeld
     clear hHeld hK1
     have hBx := hB
     clear hB
     generalize (w4.setCell ⟨gpr, 2, none⟩ (.int .i64 CY.1)).setCell ⟨gpr, 3, none⟩ (.int .i64 CY.2) = W7 at hBx hP ⊢
     go_wp2_with fail
     rw [rounds_succ]
     go_wp2
     go_end0
     exact ⟨rfl, hP, hBx⟩
   ·go_simp
    have hn5 := one_new V1 (k : Int) b.2.2.1 b.2.2.2
    refine hK.out _ _ ?_ (fun hHeld => ?_)
    ·(exact ⟨hHeld.1.alloc _, hHeld.2.below ((Below.refl _ _).alloc (Nat.le_refl _) _) hHeld.1.l5⟩)
    clear hK K
    (try simp only [Act.put, pA, pZ, pS])
    refine rd1 2 rfl (fun K hK => ?_)
    go_simp
    (go_at_call 96; with_reducible refine (halY _ hHeld.1.old).mono ?_; rintro e w2 ⟨v2, rfl, hv2, hb2⟩)
    have hn6 := hn5.below hb2
    have hv3 := hv2
    refine hK.out _ _ ?_ (fun hHeld => ?_)
    ·(exact ⟨hHeld.1.below hb2, hHeld.2.below hb2 hHeld.1.l5⟩)
    clear hK K
    (try simp only [Act.put, pA, pZ, pS])
    refine rd1 9 rfl (fun K hK => ?_)
    go_simp
    (go_at_call 58; with_reducible refine (hcY _ _ _ hv3 hn6).mono ?_; rintro e w4 ⟨rfl, hb4⟩)
    refine hK.out _ _ ?_ (fun hHeld => ?_)
    ·(exact ⟨hHeld.1.below hb4, hHeld.2.below hb4 hHeld.1.l5⟩)
    clear hK K
    (try simp only [Act.put, pA, pZ, pS])
    refine tk0 11 ?_ rfl (Or.inl ⟨by rfl, ?_⟩) hHeld ?_
    rotate_left 1
    ·((intro w9 hSw; have z0 := hiY w9; clear hSw; go_simp) <;> with_reducible rfl)
    (try simp only [Act.put, pA, pZ, pS])
    refine tk0 12 ?_ rfl (Or.inl ⟨by rfl, ?_⟩) hHeld ?_
    rotate_left 1
    ·((intro w9 hSw; clear hSw; go_simp) <;> with_reducible rfl)
    (try simp only [Act.put, pA, pZ, pS])
    refine wpAnyP_ready (rs := [13]) (by kernel_rfl) (by simp) ?_
    refine AllReadyP.behind (o := _) rfl (by kernel_rfl) (fun K hK => ?_) AllReadyP.nil
    ·have c0 := hHeld.2.k2
     have c1 := hHeld.2.k3
     have y0 := hHeld.2.f2
     have y1 := hHeld.2.f3
     go_simp
     clear c0 c1 y0 y1
     have hK1 := hHeld.1.put 2 3 (.int .i64 CY.1) (.int .i64 CY.2)
     have hB := hHeld.2.set23 CY.1 CY.2
     refine hK.out _ _ ?_ (fun hHeld => ?_)
     ·(exact hK1)
     clear hK K
     (try simp only [Act.put, pA, pZ, pS])
     refine wpAnyP_done (by kernel_rfl) ?_ _
     (try simp only [Act.put, List.getElem_toArray, List.getElem_cons_zero, List.getElem_cons_succ, pA, pZ, pS])
     have hP := hHeld
     clear hHeld hK1
     have hBx := hB
     clear hB
     generalize (w4.setCell ⟨gpr, 2, none⟩ (.int .i64 CY.1)).setCell ⟨gpr, 3, none⟩ (.int .i64 CY.2) = W7 at hBx hP ⊢
     go_wp2_with fail
     rw [rounds_succ]
     go_wp2
     go_end0
     exact ⟨rfl, hP, hBx⟩
 ·go_simp
  have hn5 := one_new V0 (k : Int) b.1 b.2.1
  refine hK.out _ _ ?_ (fun hHeld => ?_)
  ·(exact ⟨hHeld.1.alloc _, hHeld.2.below ((Below.refl _ _).alloc (Nat.le_refl _) _) hHeld.1.l5⟩)
  clear hK K
  (try simp only [Act.put, pA, pZ, pS])
  refine rd1 2 rfl (fun K hK => ?_)
  go_simp
  (go_at_call 95; with_reducible refine (halX _ hHeld.1.old).mono ?_; rintro e w2 ⟨v2, rfl, hv2, hb2⟩)
  have hn6 := hn5.below hb2
  have hv3 := hv2
  refine hK.out _ _ ?_ (fun hHeld => ?_)
  ·(exact ⟨hHeld.1.below hb2, hHeld.2.below hb2 hHeld.1.l5⟩)
  clear hK K
  (try simp only [Act.put, pA, pZ, pS])
  refine rd1 9 rfl (fun K hK => ?_)
  go_simp
  (go_at_call 58; with_reducible refine (hcX _ _ _ hv3 hn6).mono ?_; rintro e w4 ⟨rfl, hb4⟩)
  refine hK.out _ _ ?_ (fun hHeld => ?_)
  ·(exact ⟨hHeld.1.below hb4, hHeld.2.below hb4 hHeld.1.l5⟩)
  clear hK K
  (try simp only [Act.put, pA, pZ, pS])
  refine tk0 11 ?_ rfl (Or.inl ⟨by rfl, ?_⟩) hHeld ?_
  rotate_left 1
  ·((intro w9 hSw; have z0 := hiX w9; clear hSw; go_simp) <;> with_reducible rfl)
  (try simp only [Act.put, pA, pZ, pS])
  refine tk0 12 ?_ rfl (Or.inl ⟨by rfl, ?_⟩) hHeld ?_
  rotate_left 1
  ·((intro w9 hSw; clear hSw; go_simp) <;> with_reducible rfl)
  (try simp only [Act.put, pA, pZ, pS])
  refine wpAnyP_ready (rs := [13]) (by kernel_rfl) (by simp) ?_
  refine AllReadyP.behind (o := _) rfl (by kernel_rfl) (fun K hK => ?_) AllReadyP.nil
  ·have c0 := hHeld.2.k0
   have c1 := hHeld.2.k1
   have y0 := hHeld.2.f0
   have y1 := hHeld.2.f1
   go_simp
   clear c0 c1 y0 y1
   have hK1 := hHeld.1.put 0 1 (.int .i64 CX.1) (.int .i64 CX.2)
   have hB := hHeld.2.set01 CX.1 CX.2
   refine hK.out _ _ ?_ (fun hHeld => ?_)
   ·(exact hK1)
   clear hK K
   (try simp only [Act.put, pA, pZ, pS])
   refine wpAnyP_done (by kernel_rfl) ?_ _
   (try simp only [Act.put, List.getElem_toArray, List.getElem_cons_zero, List.getElem_cons_succ, pA, pZ, pS])
   have hP := hHeld
   clear hHeld hK1
   have hBx := hB
   clear hB
   generalize (w4.setCell ⟨gpr, 0, none⟩ (.int .i64 CX.1)).setCell ⟨gpr, 1, none⟩ (.int .i64 CX.2) = W4 at hBx hP ⊢
   go_wp2_with fail
   rw [rounds_succ]
   go_wp2_with fail
   refine wp_region_late [13] (fun w9 => P1 w0 w m L g gat gof gbl gpr k bl b w9) (fun w9 => Box4 w9 gpr CX.1 CX.2 q0 q1) (by kernel_rfl) ?_ (fun hHeld => ?_)
   ·(exact ⟨hP.drew, hBx.drew⟩)
   generalize W4.drew = V1 at hHeld ⊢
   refine tk0 0 ?_ rfl (Or.inl ⟨by rfl, ?_⟩) hHeld ?_
   rotate_left 1
   ·((intro w9 hSw; clear hSw; go_simp) <;> with_reducible rfl)
   (try simp only [Act.put, pA, pZ, pS])
   refine tk0 1 ?_ rfl (Or.inl ⟨by rfl, ?_⟩) hHeld ?_
   rotate_left 1
   ·((intro w9 hSw; clear hSw; go_simp) <;> with_reducible rfl)
   (try simp only [Act.put, pA, pZ, pS])
   refine tk0 3 ?_ rfl (Or.inl ⟨by rfl, ?_⟩) hHeld ?_
   rotate_left 1
   ·((intro w9 hSw; have z0 := hSw.ka; clear hSw; go_simp) <;> with_reducible rfl)
   (try simp only [Act.put, pA, pZ, pS])
   refine tk0 4 ?_ rfl (Or.inl ⟨by rfl, ?_⟩) hHeld ?_
   rotate_left 1
   ·((intro w9 hSw; clear hSw; go_simp) <;> with_reducible rfl)
   (try simp only [Act.put, pA, pZ, pS])
   refine tk0 5 ?_ rfl (Or.inl ⟨by rfl, ?_⟩) hHeld ?_
   rotate_left 1
   ·((intro w9 hSw; clear hSw; go_simp) <;> with_reducible rfl)
   (try simp only [Act.put, pA, pZ, pS])
   refine tk0 6 ?_ rfl (Or.inl ⟨by rfl, ?_⟩) hHeld ?_
   rotate_left 1
   ·((intro w9 hSw; have z0 := hSw.o2; have z1 := hSw.o3; clear hSw; go_simp) <;> with_reducible rfl)
   (try simp only [Act.put, pA, pZ, pS])
   refine tk0 7 ?_ rfl (Or.inl ⟨by rfl, ?_⟩) hHeld ?_
   rotate_left 1
   ·((intro w9 hSw; clear hSw; go_simp) <;> with_reducible rfl)
   (try simp only [Act.put, pA, pZ, pS])
   refine tk0 10 ?_ rfl (Or.inl ⟨by rfl, ?_⟩) hHeld ?_
   rotate_left 1
   ·((intro w9 hSw; have z0 := hSw.kb; clear hSw; go_simp) <;> with_reducible rfl)
   (try simp only [Act.put, pA, pZ, pS])
   refine wpAnyP_ready (rs := [2, 8]) (by kernel_rfl) (by simp) ?_
   refine AllReadyP.cons (o := _) rfl (fun K hK => ?_) (AllReadyP.cons (o := _) rfl (fun K hK => ?_) AllReadyP.nil)
   ·go_simp
    (go_at_call 96; with_reducible refine (halY _ hHeld.1.old).mono ?_; rintro e w2 ⟨v2, rfl, hv2, hb2⟩)
    refine hK.out _ _ ?_ (fun hHeld => ?_)
    ·(exact ⟨hHeld.1.below hb2, hHeld.2.below hb2 hHeld.1.l5⟩)
    clear hK K
    (try simp only [Act.put, pA, pZ, pS])
    refine rd1 8 rfl (fun K hK => ?_)
    go_simp
    have hn6 := one_new w2 (k : Int) b.2.2.1 b.2.2.2
    have hv3 := hv2.below ((Below.refl w2.heap.size w2).alloc (Nat.le_refl _) (Obj.cells #[.int .i64 k, .int .i64 b.2.2.1, .int .i64 b.2.2.2] 117))
    refine hK.out _ _ ?_ (fun hHeld => ?_)
    ·(exact ⟨hHeld.1.alloc _, hHeld.2.below ((Below.refl _ _).alloc (Nat.le_refl _) _) hHeld.1.l5⟩)
    clear hK K
    (try simp only [Act.put, pA, pZ, pS])
    refine rd1 9 rfl (fun K hK => ?_)
    go_simp
    (go_at_call 58; with_reducible refine (hcY _ _ _ hv3 hn6).mono ?_; rintro e w4 ⟨rfl, hb4⟩)
    refine hK.out _ _ ?_ (fun hHeld => ?_)
    ·(exact ⟨hHeld.1.below hb4, hHeld.2.below hb4 hHeld.1.l5⟩)
    clear hK K
    (try simp only [Act.put, pA, pZ, pS])
    refine tk0 11 ?_ rfl (Or.inl ⟨by rfl, ?_⟩) hHeld ?_
    rotate_left 1
    ·((intro w9 hSw; have z0 := hiY w9; clear hSw; go_simp) <;> with_reducible rfl)
    (try simp only [Act.put, pA, pZ, pS])
    refine tk0 12 ?_ rfl (Or.inl ⟨by rfl, ?_⟩) hHeld ?_
    rotate_left 1
    ·((intro w9 hSw; clear hSw; go_simp) <;> with_reducible rfl)
    (try simp only [Act.put, pA, pZ, pS])
    refine wpAnyP_ready (rs := [13]) (by kernel_rfl) (by simp) ?_
    refine AllReadyP.behind (o := _) rfl (by kernel_rfl) (fun K hK => ?_) AllReadyP.nil
    ·have c0 := hHeld.2.k2
     have c1 := hHeld.2.k3
     have y0 := hHeld.2.f2
     have y1 := hHeld.2.f3
     go_simp
     clear c0 c1 y0 y1
     have hK1 := hHeld.1.put 2 3 (.int .i64 CY.1) (.int .i64 CY.2)
     have hB := hHeld.2.set23 CY.1 CY.2
     refine hK.out _ _ ?_ (fun hHeld => ?_)
     ·(exact hK1)
     clear hK K
     (try simp only [Act.put, pA, pZ, pS])
     refine wpAnyP_done (by kernel_rfl) ?_ _
     (try simp only [Act.put, List.getElem_toArray, List.getElem_cons_zero, List.getElem_cons_succ, pA, pZ, pS])
     have hP := hHeld
     clear hHeld hK1
     have hBx := hB
     clear hB
     generalize (w4.setCell ⟨gpr, 2, none⟩ (.int .i64 CY.1)).setCell ⟨gpr, 3, none⟩ (.int .i64 CY.2) = W7 at hBx hP ⊢
     go_wp2_with fail
     rw [rounds_succ]
     go_wp2
     go_end0
     exact ⟨rfl, hP, hBx⟩
   ·go_simp
    have hn5 := one_new V1 (k : Int) b.2.2.1 b.2.2.2
    refine hK.out _ _ ?_ (fun hHeld => ?_)
    ·(exact ⟨hHeld.1.alloc _, hHeld.2.below ((Below.refl _ _).alloc (Nat.le_refl _) _) hHeld.1.l5⟩)
    clear hK K
    (try simp only [Act.put, pA, pZ, pS])
    refine rd1 2 rfl (fun K hK => ?_)
    go_simp
    (go_at_call 96; with_reducible refine (halY _ hHeld.1.old).mono ?_; rintro e w2 ⟨v2, rfl, hv2, hb2⟩)
    have hn6 := hn5.below hb2
    have hv3 := hv2
    refine hK.out _ _ ?_ (fun hHeld => ?_)
    ·(exact ⟨hHeld.1.below hb2, hHeld.2.below hb2 hHeld.1.l5⟩)
    clear hK K
    (try simp only [Act.put, pA, pZ, pS])
    refine rd1 9 rfl (fun K hK => ?_)
    go_simp
    (go_at_call 58; with_reducible refine (hcY _ _ _ hv3 hn6).mono ?_; rintro e w4 ⟨rfl, hb4⟩)
    refine hK.out _ _ ?_ (fun hHeld => ?_)
    ·(exact ⟨hHeld.1.below hb4, hHeld.2.below hb4 hHeld.1.l5⟩)
    clear hK K
    (try simp only [Act.put, pA, pZ, pS])
    refine tk0 11 ?_ rfl (Or.inl ⟨by rfl, ?_⟩) hHeld ?_
    rotate_left 1
    ·((intro w9 hSw; have z0 := hiY w9; clear hSw; go_simp) <;> with_reducible rfl)
    (try simp only [Act.put, pA, pZ, pS])
    refine tk0 12 ?_ rfl (Or.inl ⟨by rfl, ?_⟩) hHeld ?_
    rotate_left 1
    ·((intro w9 hSw; clear hSw; go_simp) <;> with_reducible rfl)
    (try simp only [Act.put, pA, pZ, pS])
    refine wpAnyP_ready (rs := [13]) (by kernel_rfl) (by simp) ?_
    refine AllReadyP.behind (o := _) rfl (by kernel_rfl) (fun K hK => ?_) AllReadyP.nil
    ·have c0 := hHeld.2.k2
     have c1 := hHeld.2.k3
     have y0 := hHeld.2.f2
     have y1 := hHeld.2.f3
     go_simp
     clear c0 c1 y0 y1
     have hK1 := hHeld.1.put 2 3 (.int .i64 CY.1) (.int .i64 CY.2)
     have hB := hHeld.2.set23 CY.1 CY.2
     refine hK.out _ _ ?_ (fun hHeld => ?_)
     ·(exact hK1)
     clear hK K
     (try simp only [Act.put, pA, pZ, pS])
     refine wpAnyP_done (by kernel_rfl) ?_ _
     (try simp only [Act.put, List.getElem_toArray, List.getElem_cons_zero, List.getElem_cons_succ, pA, pZ, pS])
     have hP := hHeld
     clear hHeld hK1
     have hBx := hB
     clear hB
     generalize (w4.setCell ⟨gpr, 2, none⟩ (.int .i64 CY.1)).setCell ⟨gpr, 3, none⟩ (.int .i64 CY.2) = W7 at hBx hP ⊢
     go_wp2_with fail
     rw [rounds_succ]
     go_wp2
     go_end0
     exact ⟨rfl, hP, hBx⟩
set_option maxRecDepth 100000 in
set_option maxHeartbeats 8000000 in
theorem proves1_noX (m : Mach) (EX EY : Nat → Int × Int) (g gat gof gbl gpr k bl : Nat) (b : Int × Int × Int × Int) (p0 p1 q0 q1 : Int) (w0 w : World) (hok : m.ok = true) (h : MIn w0 m) (hk : k ≤ 12) (hbl : bl ≤ 12) (hbd : bdB b) (hP : P1 w0 w m (m.st (crsL EX 13) (crsL EY 13)) g gat gof gbl gpr k bl b w) (hBx : Box4 w gpr p0 p1 q0 q1) (hX : ¬ (wX m k b).can) :
  Calls Tryz.prog 56 #[.pointer (some ⟨g, 0, none⟩), .pointer (some ⟨gat, 0, none⟩), .pointer (some ⟨gof, 0, none⟩), .pointer (some ⟨gbl, 0, none⟩), .pointer (some ⟨gpr, 0, none⟩)] w fun e w' => e = .panicked [{ v := .iface 225 (.agg #[]), recovered := false }] ∧ P1 w0 w m (m.st (crsL EX 13) (crsL EY 13)) g gat gof gbl gpr k bl b w' := by
 have hx0 := idxF0
 have hx1 := idxF1
 have hlX := crsL_length EX 13
 have hlY := crsL_length EY 13
 have hL := m.st_length hlX hlY
 have hi0 : (Tryz.prog.info? 93).map (·.size) = some 62 := by kernel_rfl
 have hi : (Tryz.prog.info? 93).map (·.size) = some (m.st (crsL EX 13) (crsL EY 13)).length := by rw [hL]; exact hi0
 have hax := fun (W : World) => axes_any (m.st (crsL EX 13) (crsL EY 13)) hL W
 have halX := fun (W : World) (hB : Below w0.heap.size w0 W) => alongX_m m (crsL EX 13) (crsL EY 13) hlX hlY W hok (h.below hB)
 have halY := fun (W : World) (hB : Below w0.heap.size w0 W) => alongY_m m (crsL EX 13) (crsL EY 13) hlX hlY W hok (h.below hB)
 have hcX : ∀ (W : World) v (gm : Nat), CSp W v m.rn m.axX.cl → OneC W gm 0 k b.1 b.2.1 → Calls Tryz.prog 58 #[.agg #[.int .i64 m.axX.c0, .int .i64 m.axX.c1, .int .i64 m.axX.w0, .int .i64 m.axX.w1, v], .slice (some ⟨gm, 0, none⟩) 1 1] W fun e w' => e = .panicked [{ v := .iface 225 (.agg #[]), recovered := false }] ∧ Below W.heap.size W w' := fun W v gm hv hm => by
  refine (course_plus (wX m k b) v m.rn m.axX.cl gm 0 k b.1 b.2.1 W (wX_fine hok hk hbd) hv hm (plusCX m k b)).mono ?_
  rintro e w' (⟨h, _⟩ | ⟨_, h⟩)
  ·exact absurd h hX
  ·exact h
 have hiX := fun W => idxC (wX m k b).ends bl hbl W
 have hiY := fun W => idxC (wY m k b).ends bl hbl W
 have hrg := hP.st.c
 clear hlX hlY hL hi0 hX hbd
 generalize crsL (wX m k b).ends 13 = LX at *
 generalize crsL (wY m k b).ends 13 = LY at *
 generalize (wX m k b).ends bl = CX at *
 generalize (wY m k b).ends bl = CY at *
 generalize m.st (crsL EX 13) (crsL EY 13) = L at *
 go_enter Tryz.func56, Tryz.ntmps56
 go_wp2_with (first
  | (refine wpList_load_mid rfl 93 _ rfl g 0 rfl L _ hrg Tryz.underlying93 rfl hi ?_)
  | (go_at_call 57; with_reducible refine (hax _).mono ?_; rintro e w1 ⟨rfl, hb1⟩))
 refine wp_loop_rounds 3 ?_
 rw [rounds_succ]
 have hl5 := hP.l5
 replace hP := hP.below hb1
 replace hBx := hBx.below hb1 hl5
 clear hrg
 go_wp2_with fail
 refine wp_region_late [13] (fun w9 => P1 w0 w m L g gat gof gbl gpr k bl b w9) (fun w9 => Box4 w9 gpr p0 p1 q0 q1) (by kernel_rfl) ?_ (fun hHeld => ?_)
 ·(exact ⟨hP.drew, hBx.drew⟩)
 generalize w1.drew = V0 at hHeld ⊢
 refine tk0 0 ?_ rfl (Or.inl ⟨by rfl, ?_⟩) hHeld ?_
 rotate_left 1
 ·((intro w9 hSw; clear hSw; go_simp) <;> with_reducible rfl)
 (try simp only [Act.put, pA, pZ, pS])
 refine tk0 1 ?_ rfl (Or.inl ⟨by rfl, ?_⟩) hHeld ?_
 rotate_left 1
 ·((intro w9 hSw; clear hSw; go_simp) <;> with_reducible rfl)
 (try simp only [Act.put, pA, pZ, pS])
 refine tk0 3 ?_ rfl (Or.inl ⟨by rfl, ?_⟩) hHeld ?_
 rotate_left 1
 ·((intro w9 hSw; have z0 := hSw.ka; clear hSw; go_simp) <;> with_reducible rfl)
 (try simp only [Act.put, pA, pZ, pS])
 refine tk0 4 ?_ rfl (Or.inl ⟨by rfl, ?_⟩) hHeld ?_
 rotate_left 1
 ·((intro w9 hSw; clear hSw; go_simp) <;> with_reducible rfl)
 (try simp only [Act.put, pA, pZ, pS])
 refine tk0 5 ?_ rfl (Or.inl ⟨by rfl, ?_⟩) hHeld ?_
 rotate_left 1
 ·((intro w9 hSw; clear hSw; go_simp) <;> with_reducible rfl)
 (try simp only [Act.put, pA, pZ, pS])
 refine tk0 6 ?_ rfl (Or.inl ⟨by rfl, ?_⟩) hHeld ?_
 rotate_left 1
 ·((intro w9 hSw; have z0 := hSw.o0; have z1 := hSw.o1; clear hSw; go_simp) <;> with_reducible rfl)
 (try simp only [Act.put, pA, pZ, pS])
 refine tk0 7 ?_ rfl (Or.inl ⟨by rfl, ?_⟩) hHeld ?_
 rotate_left 1
 ·((intro w9 hSw; clear hSw; go_simp) <;> with_reducible rfl)
 (try simp only [Act.put, pA, pZ, pS])
 refine tk0 10 ?_ rfl (Or.inl ⟨by rfl, ?_⟩) hHeld ?_
 rotate_left 1
 ·((intro w9 hSw; have z0 := hSw.kb; clear hSw; go_simp) <;> with_reducible rfl)
 (try simp only [Act.put, pA, pZ, pS])
 refine wpAnyP_ready (rs := [2, 8]) (by kernel_rfl) (by simp) ?_
 refine AllReadyP.cons (o := _) rfl (fun K hK => ?_) (AllReadyP.cons (o := _) rfl (fun K hK => ?_) AllReadyP.nil)
 ·go_simp
  (go_at_call 95; with_reducible refine (halX _ hHeld.1.old).mono ?_; rintro e w2 ⟨v2, rfl, hv2, hb2⟩)
  refine hK.out _ _ ?_ (fun hHeld => ?_)
  ·(exact ⟨hHeld.1.below hb2, hHeld.2.below hb2 hHeld.1.l5⟩)
  clear hK K
  (try simp only [Act.put, pA, pZ, pS])
  refine rd1 8 rfl (fun K hK => ?_)
  go_simp
  have hn6 := one_new w2 (k : Int) b.1 b.2.1
  have hv3 := hv2.below ((Below.refl w2.heap.size w2).alloc (Nat.le_refl _) (Obj.cells #[.int .i64 k, .int .i64 b.1, .int .i64 b.2.1] 117))
  refine hK.out _ _ ?_ (fun hHeld => ?_)
  ·(exact ⟨hHeld.1.alloc _, hHeld.2.below ((Below.refl _ _).alloc (Nat.le_refl _) _) hHeld.1.l5⟩)
  clear hK K
  (try simp only [Act.put, pA, pZ, pS])
  refine rd1 9 rfl (fun K hK => ?_)
  go_simp
  (go_at_call 58; with_reducible refine (hcX _ _ _ hv3 hn6).mono ?_; rintro e w4 ⟨rfl, hb4⟩)
  exact ⟨rfl, rfl, hHeld.1.below hb4⟩
 ·go_simp
  have hn5 := one_new V0 (k : Int) b.1 b.2.1
  refine hK.out _ _ ?_ (fun hHeld => ?_)
  ·(exact ⟨hHeld.1.alloc _, hHeld.2.below ((Below.refl _ _).alloc (Nat.le_refl _) _) hHeld.1.l5⟩)
  clear hK K
  (try simp only [Act.put, pA, pZ, pS])
  refine rd1 2 rfl (fun K hK => ?_)
  go_simp
  (go_at_call 95; with_reducible refine (halX _ hHeld.1.old).mono ?_; rintro e w2 ⟨v2, rfl, hv2, hb2⟩)
  have hn6 := hn5.below hb2
  have hv3 := hv2
  refine hK.out _ _ ?_ (fun hHeld => ?_)
  ·(exact ⟨hHeld.1.below hb2, hHeld.2.below hb2 hHeld.1.l5⟩)
  clear hK K
  (try simp only [Act.put, pA, pZ, pS])
  refine rd1 9 rfl (fun K hK => ?_)
  go_simp
  (go_at_call 58; with_reducible refine (hcX _ _ _ hv3 hn6).mono ?_; rintro e w4 ⟨rfl, hb4⟩)
  exact ⟨rfl, rfl, hHeld.1.below hb4⟩
set_option maxRecDepth 100000 in
set_option maxHeartbeats 8000000 in
theorem proves1_noY (m : Mach) (EX EY : Nat → Int × Int) (g gat gof gbl gpr k bl : Nat) (b : Int × Int × Int × Int) (p0 p1 q0 q1 : Int) (w0 w : World) (hok : m.ok = true) (h : MIn w0 m) (hk : k ≤ 12) (hbl : bl ≤ 12) (hbd : bdB b) (hP : P1 w0 w m (m.st (crsL EX 13) (crsL EY 13)) g gat gof gbl gpr k bl b w) (hBx : Box4 w gpr p0 p1 q0 q1) (hX : (wX m k b).can) (hY : ¬ (wY m k b).can) :
  Calls Tryz.prog 56 #[.pointer (some ⟨g, 0, none⟩), .pointer (some ⟨gat, 0, none⟩), .pointer (some ⟨gof, 0, none⟩), .pointer (some ⟨gbl, 0, none⟩), .pointer (some ⟨gpr, 0, none⟩)] w fun e w' => e = .panicked [{ v := .iface 225 (.agg #[]), recovered := false }] ∧ P1 w0 w m (m.st (crsL EX 13) (crsL EY 13)) g gat gof gbl gpr k bl b w' := by
 have hx0 := idxF0
 have hx1 := idxF1
 have hlX := crsL_length EX 13
 have hlY := crsL_length EY 13
 have hL := m.st_length hlX hlY
 have hi0 : (Tryz.prog.info? 93).map (·.size) = some 62 := by kernel_rfl
 have hi : (Tryz.prog.info? 93).map (·.size) = some (m.st (crsL EX 13) (crsL EY 13)).length := by rw [hL]; exact hi0
 have hax := fun (W : World) => axes_any (m.st (crsL EX 13) (crsL EY 13)) hL W
 have halX := fun (W : World) (hB : Below w0.heap.size w0 W) => alongX_m m (crsL EX 13) (crsL EY 13) hlX hlY W hok (h.below hB)
 have halY := fun (W : World) (hB : Below w0.heap.size w0 W) => alongY_m m (crsL EX 13) (crsL EY 13) hlX hlY W hok (h.below hB)
 have hcX : ∀ (W : World) v (gm : Nat), CSp W v m.rn m.axX.cl → OneC W gm 0 k b.1 b.2.1 → Calls Tryz.prog 58 #[.agg #[.int .i64 m.axX.c0, .int .i64 m.axX.c1, .int .i64 m.axX.w0, .int .i64 m.axX.w1, v], .slice (some ⟨gm, 0, none⟩) 1 1] W fun e w' => e = .returned (.agg (crsL (wX m k b).ends 13).toArray) ∧ Below W.heap.size W w' := fun W v gm hv hm => by
  refine (course_plus (wX m k b) v m.rn m.axX.cl gm 0 k b.1 b.2.1 W (wX_fine hok hk hbd) hv hm (plusCX m k b)).mono ?_
  rintro e w' (⟨_, h⟩ | ⟨h, _⟩)
  ·exact h
  ·exact absurd hX h
 have hcY : ∀ (W : World) v (gm : Nat), CSp W v m.rn m.axY.cl → OneC W gm 0 k b.2.2.1 b.2.2.2 → Calls Tryz.prog 58 #[.agg #[.int .i64 m.axY.c0, .int .i64 m.axY.c1, .int .i64 m.axY.w0, .int .i64 m.axY.w1, v], .slice (some ⟨gm, 0, none⟩) 1 1] W fun e w' => e = .panicked [{ v := .iface 225 (.agg #[]), recovered := false }] ∧ Below W.heap.size W w' := fun W v gm hv hm => by
  refine (course_plus (wY m k b) v m.rn m.axY.cl gm 0 k b.2.2.1 b.2.2.2 W (wY_fine hok hk hbd) hv hm (plusCY m k b)).mono ?_
  rintro e w' (⟨h, _⟩ | ⟨_, h⟩)
  ·exact absurd h hY
  ·exact h
 have hiX := fun W => idxC (wX m k b).ends bl hbl W
 have hiY := fun W => idxC (wY m k b).ends bl hbl W
 have hrg := hP.st.c
 clear hlX hlY hL hi0 hX hY hbd
 generalize crsL (wX m k b).ends 13 = LX at *
 generalize crsL (wY m k b).ends 13 = LY at *
 generalize (wX m k b).ends bl = CX at *
 generalize (wY m k b).ends bl = CY at *
 generalize m.st (crsL EX 13) (crsL EY 13) = L at *
 go_enter Tryz.func56, Tryz.ntmps56
 go_wp2_with (first
  | (refine wpList_load_mid rfl 93 _ rfl g 0 rfl L _ hrg Tryz.underlying93 rfl hi ?_)
  | (go_at_call 57; with_reducible refine (hax _).mono ?_; rintro e w1 ⟨rfl, hb1⟩))
 refine wp_loop_rounds 3 ?_
 rw [rounds_succ]
 have hl5 := hP.l5
 replace hP := hP.below hb1
 replace hBx := hBx.below hb1 hl5
 clear hrg
 go_wp2_with fail
 refine wp_region_late [13] (fun w9 => P1 w0 w m L g gat gof gbl gpr k bl b w9) (fun w9 => Box4 w9 gpr p0 p1 q0 q1) (by kernel_rfl) ?_ (fun hHeld => ?_)
 ·(exact ⟨hP.drew, hBx.drew⟩)
 generalize w1.drew = V0 at hHeld ⊢
 refine tk0 0 ?_ rfl (Or.inl ⟨by rfl, ?_⟩) hHeld ?_
 rotate_left 1
 ·((intro w9 hSw; clear hSw; go_simp) <;> with_reducible rfl)
 (try simp only [Act.put, pA, pZ, pS])
 refine tk0 1 ?_ rfl (Or.inl ⟨by rfl, ?_⟩) hHeld ?_
 rotate_left 1
 ·((intro w9 hSw; clear hSw; go_simp) <;> with_reducible rfl)
 (try simp only [Act.put, pA, pZ, pS])
 refine tk0 3 ?_ rfl (Or.inl ⟨by rfl, ?_⟩) hHeld ?_
 rotate_left 1
 ·((intro w9 hSw; have z0 := hSw.ka; clear hSw; go_simp) <;> with_reducible rfl)
 (try simp only [Act.put, pA, pZ, pS])
 refine tk0 4 ?_ rfl (Or.inl ⟨by rfl, ?_⟩) hHeld ?_
 rotate_left 1
 ·((intro w9 hSw; clear hSw; go_simp) <;> with_reducible rfl)
 (try simp only [Act.put, pA, pZ, pS])
 refine tk0 5 ?_ rfl (Or.inl ⟨by rfl, ?_⟩) hHeld ?_
 rotate_left 1
 ·((intro w9 hSw; clear hSw; go_simp) <;> with_reducible rfl)
 (try simp only [Act.put, pA, pZ, pS])
 refine tk0 6 ?_ rfl (Or.inl ⟨by rfl, ?_⟩) hHeld ?_
 rotate_left 1
 ·((intro w9 hSw; have z0 := hSw.o0; have z1 := hSw.o1; clear hSw; go_simp) <;> with_reducible rfl)
 (try simp only [Act.put, pA, pZ, pS])
 refine tk0 7 ?_ rfl (Or.inl ⟨by rfl, ?_⟩) hHeld ?_
 rotate_left 1
 ·((intro w9 hSw; clear hSw; go_simp) <;> with_reducible rfl)
 (try simp only [Act.put, pA, pZ, pS])
 refine tk0 10 ?_ rfl (Or.inl ⟨by rfl, ?_⟩) hHeld ?_
 rotate_left 1
 ·((intro w9 hSw; have z0 := hSw.kb; clear hSw; go_simp) <;> with_reducible rfl)
 (try simp only [Act.put, pA, pZ, pS])
 refine wpAnyP_ready (rs := [2, 8]) (by kernel_rfl) (by simp) ?_
 refine AllReadyP.cons (o := _) rfl (fun K hK => ?_) (AllReadyP.cons (o := _) rfl (fun K hK => ?_) AllReadyP.nil)
 ·go_simp
  (go_at_call 95; with_reducible refine (halX _ hHeld.1.old).mono ?_; rintro e w2 ⟨v2, rfl, hv2, hb2⟩)
  refine hK.out _ _ ?_ (fun hHeld => ?_)
  ·(exact ⟨hHeld.1.below hb2, hHeld.2.below hb2 hHeld.1.l5⟩)
  clear hK K
  (try simp only [Act.put, pA, pZ, pS])
  refine rd1 8 rfl (fun K hK => ?_)
  go_simp
  have hn6 := one_new w2 (k : Int) b.1 b.2.1
  have hv3 := hv2.below ((Below.refl w2.heap.size w2).alloc (Nat.le_refl _) (Obj.cells #[.int .i64 k, .int .i64 b.1, .int .i64 b.2.1] 117))
  refine hK.out _ _ ?_ (fun hHeld => ?_)
  ·(exact ⟨hHeld.1.alloc _, hHeld.2.below ((Below.refl _ _).alloc (Nat.le_refl _) _) hHeld.1.l5⟩)
  clear hK K
  (try simp only [Act.put, pA, pZ, pS])
  refine rd1 9 rfl (fun K hK => ?_)
  go_simp
  (go_at_call 58; with_reducible refine (hcX _ _ _ hv3 hn6).mono ?_; rintro e w4 ⟨rfl, hb4⟩)
  refine hK.out _ _ ?_ (fun hHeld => ?_)
  ·(exact ⟨hHeld.1.below hb4, hHeld.2.below hb4 hHeld.1.l5⟩)
  clear hK K
  (try simp only [Act.put, pA, pZ, pS])
  refine tk0 11 ?_ rfl (Or.inl ⟨by rfl, ?_⟩) hHeld ?_
  rotate_left 1
  ·((intro w9 hSw; have z0 := hiX w9; clear hSw; go_simp) <;> with_reducible rfl)
  (try simp only [Act.put, pA, pZ, pS])
  refine tk0 12 ?_ rfl (Or.inl ⟨by rfl, ?_⟩) hHeld ?_
  rotate_left 1
  ·((intro w9 hSw; clear hSw; go_simp) <;> with_reducible rfl)
  (try simp only [Act.put, pA, pZ, pS])
  refine wpAnyP_ready (rs := [13]) (by kernel_rfl) (by simp) ?_
  refine AllReadyP.behind (o := _) rfl (by kernel_rfl) (fun K hK => ?_) AllReadyP.nil
  ·have c0 := hHeld.2.k0
   have c1 := hHeld.2.k1
   have y0 := hHeld.2.f0
   have y1 := hHeld.2.f1
   go_simp
   clear c0 c1 y0 y1
   have hK1 := hHeld.1.put 0 1 (.int .i64 CX.1) (.int .i64 CX.2)
   have hB := hHeld.2.set01 CX.1 CX.2
   refine hK.out _ _ ?_ (fun hHeld => ?_)
   ·(exact hK1)
   clear hK K
   (try simp only [Act.put, pA, pZ, pS])
   refine wpAnyP_done (by kernel_rfl) ?_ _
   (try simp only [Act.put, List.getElem_toArray, List.getElem_cons_zero, List.getElem_cons_succ, pA, pZ, pS])
   have hP := hHeld
   clear hHeld hK1
   have hBx := hB
   clear hB
   generalize (w4.setCell ⟨gpr, 0, none⟩ (.int .i64 CX.1)).setCell ⟨gpr, 1, none⟩ (.int .i64 CX.2) = W4 at hBx hP ⊢
   go_wp2_with fail
   rw [rounds_succ]
   go_wp2_with fail
   refine wp_region_late [13] (fun w9 => P1 w0 w m L g gat gof gbl gpr k bl b w9) (fun w9 => Box4 w9 gpr CX.1 CX.2 q0 q1) (by kernel_rfl) ?_ (fun hHeld => ?_)
   ·(exact ⟨hP.drew, hBx.drew⟩)
   generalize W4.drew = V1 at hHeld ⊢
   refine tk0 0 ?_ rfl (Or.inl ⟨by rfl, ?_⟩) hHeld ?_
   rotate_left 1
   ·((intro w9 hSw; clear hSw; go_simp) <;> with_reducible rfl)
   (try simp only [Act.put, pA, pZ, pS])
   refine tk0 1 ?_ rfl (Or.inl ⟨by rfl, ?_⟩) hHeld ?_
   rotate_left 1
   ·((intro w9 hSw; clear hSw; go_simp) <;> with_reducible rfl)
   (try simp only [Act.put, pA, pZ, pS])
   refine tk0 3 ?_ rfl (Or.inl ⟨by rfl, ?_⟩) hHeld ?_
   rotate_left 1
   ·((intro w9 hSw; have z0 := hSw.ka; clear hSw; go_simp) <;> with_reducible rfl)
   (try simp only [Act.put, pA, pZ, pS])
   refine tk0 4 ?_ rfl (Or.inl ⟨by rfl, ?_⟩) hHeld ?_
   rotate_left 1
   ·((intro w9 hSw; clear hSw; go_simp) <;> with_reducible rfl)
   (try simp only [Act.put, pA, pZ, pS])
   refine tk0 5 ?_ rfl (Or.inl ⟨by rfl, ?_⟩) hHeld ?_
   rotate_left 1
   ·((intro w9 hSw; clear hSw; go_simp) <;> with_reducible rfl)
   (try simp only [Act.put, pA, pZ, pS])
   refine tk0 6 ?_ rfl (Or.inl ⟨by rfl, ?_⟩) hHeld ?_
   rotate_left 1
   ·((intro w9 hSw; have z0 := hSw.o2; have z1 := hSw.o3; clear hSw; go_simp) <;> with_reducible rfl)
   (try simp only [Act.put, pA, pZ, pS])
   refine tk0 7 ?_ rfl (Or.inl ⟨by rfl, ?_⟩) hHeld ?_
   rotate_left 1
   ·((intro w9 hSw; clear hSw; go_simp) <;> with_reducible rfl)
   (try simp only [Act.put, pA, pZ, pS])
   refine tk0 10 ?_ rfl (Or.inl ⟨by rfl, ?_⟩) hHeld ?_
   rotate_left 1
   ·((intro w9 hSw; have z0 := hSw.kb; clear hSw; go_simp) <;> with_reducible rfl)
   (try simp only [Act.put, pA, pZ, pS])
   refine wpAnyP_ready (rs := [2, 8]) (by kernel_rfl) (by simp) ?_
   refine AllReadyP.cons (o := _) rfl (fun K hK => ?_) (AllReadyP.cons (o := _) rfl (fun K hK => ?_) AllReadyP.nil)
   ·go_simp
    (go_at_call 96; with_reducible refine (halY _ hHeld.1.old).mono ?_; rintro e w2 ⟨v2, rfl, hv2, hb2⟩)
    refine hK.out _ _ ?_ (fun hHeld => ?_)
    ·(exact ⟨hHeld.1.below hb2, hHeld.2.below hb2 hHeld.1.l5⟩)
    clear hK K
    (try simp only [Act.put, pA, pZ, pS])
    refine rd1 8 rfl (fun K hK => ?_)
    go_simp
    have hn6 := one_new w2 (k : Int) b.2.2.1 b.2.2.2
    have hv3 := hv2.below ((Below.refl w2.heap.size w2).alloc (Nat.le_refl _) (Obj.cells #[.int .i64 k, .int .i64 b.2.2.1, .int .i64 b.2.2.2] 117))
    refine hK.out _ _ ?_ (fun hHeld => ?_)
    ·(exact ⟨hHeld.1.alloc _, hHeld.2.below ((Below.refl _ _).alloc (Nat.le_refl _) _) hHeld.1.l5⟩)
    clear hK K
    (try simp only [Act.put, pA, pZ, pS])
    refine rd1 9 rfl (fun K hK => ?_)
    go_simp
    (go_at_call 58; with_reducible refine (hcY _ _ _ hv3 hn6).mono ?_; rintro e w4 ⟨rfl, hb4⟩)
    exact ⟨rfl, rfl, hHeld.1.below hb4⟩
   ·go_simp
    have hn5 := one_new V1 (k : Int) b.2.2.1 b.2.2.2
    refine hK.out _ _ ?_ (fun hHeld => ?_)
    ·(exact ⟨hHeld.1.alloc _, hHeld.2.below ((Below.refl _ _).alloc (Nat.le_refl _) _) hHeld.1.l5⟩)
    clear hK K
    (try simp only [Act.put, pA, pZ, pS])
    refine rd1 2 rfl (fun K hK => ?_)
    go_simp
    (go_at_call 96; with_reducible refine (halY _ hHeld.1.old).mono ?_; rintro e w2 ⟨v2, rfl, hv2, hb2⟩)
    have hn6 := hn5.below hb2
    have hv3 := hv2
    refine hK.out _ _ ?_ (fun hHeld => ?_)
    ·(exact ⟨hHeld.1.below hb2, hHeld.2.below hb2 hHeld.1.l5⟩)
    clear hK K
    (try simp only [Act.put, pA, pZ, pS])
    refine rd1 9 rfl (fun K hK => ?_)
    go_simp
    (go_at_call 58; with_reducible refine (hcY _ _ _ hv3 hn6).mono ?_; rintro e w4 ⟨rfl, hb4⟩)
    exact ⟨rfl, rfl, hHeld.1.below hb4⟩
 ·go_simp
  have hn5 := one_new V0 (k : Int) b.1 b.2.1
  refine hK.out _ _ ?_ (fun hHeld => ?_)
  ·(exact ⟨hHeld.1.alloc _, hHeld.2.below ((Below.refl _ _).alloc (Nat.le_refl _) _) hHeld.1.l5⟩)
  clear hK K
  (try simp only [Act.put, pA, pZ, pS])
  refine rd1 2 rfl (fun K hK => ?_)
  go_simp
  (go_at_call 95; with_reducible refine (halX _ hHeld.1.old).mono ?_; rintro e w2 ⟨v2, rfl, hv2, hb2⟩)
  have hn6 := hn5.below hb2
  have hv3 := hv2
  refine hK.out _ _ ?_ (fun hHeld => ?_)
  ·(exact ⟨hHeld.1.below hb2, hHeld.2.below hb2 hHeld.1.l5⟩)
  clear hK K
  (try simp only [Act.put, pA, pZ, pS])
  refine rd1 9 rfl (fun K hK => ?_)
  go_simp
  (go_at_call 58; with_reducible refine (hcX _ _ _ hv3 hn6).mono ?_; rintro e w4 ⟨rfl, hb4⟩)
  refine hK.out _ _ ?_ (fun hHeld => ?_)
  ·(exact ⟨hHeld.1.below hb4, hHeld.2.below hb4 hHeld.1.l5⟩)
  clear hK K
  (try simp only [Act.put, pA, pZ, pS])
  refine tk0 11 ?_ rfl (Or.inl ⟨by rfl, ?_⟩) hHeld ?_
  rotate_left 1
  ·((intro w9 hSw; have z0 := hiX w9; clear hSw; go_simp) <;> with_reducible rfl)
  (try simp only [Act.put, pA, pZ, pS])
  refine tk0 12 ?_ rfl (Or.inl ⟨by rfl, ?_⟩) hHeld ?_
  rotate_left 1
  ·((intro w9 hSw; clear hSw; go_simp) <;> with_reducible rfl)
  (try simp only [Act.put, pA, pZ, pS])
  refine wpAnyP_ready (rs := [13]) (by kernel_rfl) (by simp) ?_
  refine AllReadyP.behind (o := _) rfl (by kernel_rfl) (fun K hK => ?_) AllReadyP.nil
  ·have c0 := hHeld.2.k0
   have c1 := hHeld.2.k1
   have y0 := hHeld.2.f0
   have y1 := hHeld.2.f1
   go_simp
   clear c0 c1 y0 y1
   have hK1 := hHeld.1.put 0 1 (.int .i64 CX.1) (.int .i64 CX.2)
   have hB := hHeld.2.set01 CX.1 CX.2
   refine hK.out _ _ ?_ (fun hHeld => ?_)
   ·(exact hK1)
   clear hK K
   (try simp only [Act.put, pA, pZ, pS])
   refine wpAnyP_done (by kernel_rfl) ?_ _
   (try simp only [Act.put, List.getElem_toArray, List.getElem_cons_zero, List.getElem_cons_succ, pA, pZ, pS])
   have hP := hHeld
   clear hHeld hK1
   have hBx := hB
   clear hB
   generalize (w4.setCell ⟨gpr, 0, none⟩ (.int .i64 CX.1)).setCell ⟨gpr, 1, none⟩ (.int .i64 CX.2) = W4 at hBx hP ⊢
   go_wp2_with fail
   rw [rounds_succ]
   go_wp2_with fail
   refine wp_region_late [13] (fun w9 => P1 w0 w m L g gat gof gbl gpr k bl b w9) (fun w9 => Box4 w9 gpr CX.1 CX.2 q0 q1) (by kernel_rfl) ?_ (fun hHeld => ?_)
   ·(exact ⟨hP.drew, hBx.drew⟩)
   generalize W4.drew = V1 at hHeld ⊢
   refine tk0 0 ?_ rfl (Or.inl ⟨by rfl, ?_⟩) hHeld ?_
   rotate_left 1
   ·((intro w9 hSw; clear hSw; go_simp) <;> with_reducible rfl)
   (try simp only [Act.put, pA, pZ, pS])
   refine tk0 1 ?_ rfl (Or.inl ⟨by rfl, ?_⟩) hHeld ?_
   rotate_left 1
   ·((intro w9 hSw; clear hSw; go_simp) <;> with_reducible rfl)
   (try simp only [Act.put, pA, pZ, pS])
   refine tk0 3 ?_ rfl (Or.inl ⟨by rfl, ?_⟩) hHeld ?_
   rotate_left 1
   ·((intro w9 hSw; have z0 := hSw.ka; clear hSw; go_simp) <;> with_reducible rfl)
   (try simp only [Act.put, pA, pZ, pS])
   refine tk0 4 ?_ rfl (Or.inl ⟨by rfl, ?_⟩) hHeld ?_
   rotate_left 1
   ·((intro w9 hSw; clear hSw; go_simp) <;> with_reducible rfl)
   (try simp only [Act.put, pA, pZ, pS])
   refine tk0 5 ?_ rfl (Or.inl ⟨by rfl, ?_⟩) hHeld ?_
   rotate_left 1
   ·((intro w9 hSw; clear hSw; go_simp) <;> with_reducible rfl)
   (try simp only [Act.put, pA, pZ, pS])
   refine tk0 6 ?_ rfl (Or.inl ⟨by rfl, ?_⟩) hHeld ?_
   rotate_left 1
   ·((intro w9 hSw; have z0 := hSw.o2; have z1 := hSw.o3; clear hSw; go_simp) <;> with_reducible rfl)
   (try simp only [Act.put, pA, pZ, pS])
   refine tk0 7 ?_ rfl (Or.inl ⟨by rfl, ?_⟩) hHeld ?_
   rotate_left 1
   ·((intro w9 hSw; clear hSw; go_simp) <;> with_reducible rfl)
   (try simp only [Act.put, pA, pZ, pS])
   refine tk0 10 ?_ rfl (Or.inl ⟨by rfl, ?_⟩) hHeld ?_
   rotate_left 1
   ·((intro w9 hSw; have z0 := hSw.kb; clear hSw; go_simp) <;> with_reducible rfl)
   (try simp only [Act.put, pA, pZ, pS])
   refine wpAnyP_ready (rs := [2, 8]) (by kernel_rfl) (by simp) ?_
   refine AllReadyP.cons (o := _) rfl (fun K hK => ?_) (AllReadyP.cons (o := _) rfl (fun K hK => ?_) AllReadyP.nil)
   ·go_simp
    (go_at_call 96; with_reducible refine (halY _ hHeld.1.old).mono ?_; rintro e w2 ⟨v2, rfl, hv2, hb2⟩)
    refine hK.out _ _ ?_ (fun hHeld => ?_)
    ·(exact ⟨hHeld.1.below hb2, hHeld.2.below hb2 hHeld.1.l5⟩)
    clear hK K
    (try simp only [Act.put, pA, pZ, pS])
    refine rd1 8 rfl (fun K hK => ?_)
    go_simp
    have hn6 := one_new w2 (k : Int) b.2.2.1 b.2.2.2
    have hv3 := hv2.below ((Below.refl w2.heap.size w2).alloc (Nat.le_refl _) (Obj.cells #[.int .i64 k, .int .i64 b.2.2.1, .int .i64 b.2.2.2] 117))
    refine hK.out _ _ ?_ (fun hHeld => ?_)
    ·(exact ⟨hHeld.1.alloc _, hHeld.2.below ((Below.refl _ _).alloc (Nat.le_refl _) _) hHeld.1.l5⟩)
    clear hK K
    (try simp only [Act.put, pA, pZ, pS])
    refine rd1 9 rfl (fun K hK => ?_)
    go_simp
    (go_at_call 58; with_reducible refine (hcY _ _ _ hv3 hn6).mono ?_; rintro e w4 ⟨rfl, hb4⟩)
    exact ⟨rfl, rfl, hHeld.1.below hb4⟩
   ·go_simp
    have hn5 := one_new V1 (k : Int) b.2.2.1 b.2.2.2
    refine hK.out _ _ ?_ (fun hHeld => ?_)
    ·(exact ⟨hHeld.1.alloc _, hHeld.2.below ((Below.refl _ _).alloc (Nat.le_refl _) _) hHeld.1.l5⟩)
    clear hK K
    (try simp only [Act.put, pA, pZ, pS])
    refine rd1 2 rfl (fun K hK => ?_)
    go_simp
    (go_at_call 96; with_reducible refine (halY _ hHeld.1.old).mono ?_; rintro e w2 ⟨v2, rfl, hv2, hb2⟩)
    have hn6 := hn5.below hb2
    have hv3 := hv2
    refine hK.out _ _ ?_ (fun hHeld => ?_)
    ·(exact ⟨hHeld.1.below hb2, hHeld.2.below hb2 hHeld.1.l5⟩)
    clear hK K
    (try simp only [Act.put, pA, pZ, pS])
    refine rd1 9 rfl (fun K hK => ?_)
    go_simp
    (go_at_call 58; with_reducible refine (hcY _ _ _ hv3 hn6).mono ?_; rintro e w4 ⟨rfl, hb4⟩)
    exact ⟨rfl, rfl, hHeld.1.below hb4⟩
end Go.Proofs.YtjhpklolpmaopaaGreatDoor
namespace Go.Proofs.YtjhpklolpmaopaaGreatDoor
open Go.RowKit
set_option maxRecDepth 100000 in
set_option maxHeartbeats 4000000 in
theorem attempt_okP (g gat gof gbl gpr : Nat) (w : World) (R : World → Prop)
  (hdo : Calls Tryz.prog 56 #[.pointer (some ⟨g, 0, none⟩), .pointer (some ⟨gat, 0, none⟩), .pointer (some ⟨gof, 0, none⟩), .pointer (some ⟨gbl, 0, none⟩), .pointer (some ⟨gpr, 0, none⟩)] (w.alloc (Obj.cells #[.int .i64 0] 37)) fun e w' => e = .returned (.tuple #[]) ∧ w'.cell? ⟨w.heap.size, 0, none⟩ = some (.int .i64 0) ∧ w'.frozen? ⟨w.heap.size, 0, none⟩ = false ∧ R (w'.setCell ⟨w.heap.size, 0, none⟩ (.int .i64 0))) :
  Calls Tryz.prog 55 #[.func (.func 56) #[] #[.pointer (some ⟨g, 0, none⟩), .pointer (some ⟨gat, 0, none⟩), .pointer (some ⟨gof, 0, none⟩), .pointer (some ⟨gbl, 0, none⟩), .pointer (some ⟨gpr, 0, none⟩)]] w fun e w' => e = .returned (.int .i64 0) ∧ R w' := by
 have hmf : ∀ (fn : Fn) (first cap : Array Value) (w : World), (Instr.makeFunc fn first cap).run Tryz.prog w = .ok (.func fn first cap) w := fun _ _ _ _ => rfl
 go_enter_defers Tryz.func55, Tryz.ntmps55
 go_wp2_with (go_at_call 56; with_reducible refine hdo.mono ?_; rintro e w2 ⟨rfl, c2, z2, hR⟩)
 have c3 : (w2.setCell ⟨w.heap.size, 0, none⟩ (.int .i64 0)).cell? ⟨w.heap.size, 0, none⟩ = some (.int .i64 0) := World.cell?_setCell_same' _ _ _ (by rw [c2]; rfl)
 generalize w2.setCell ⟨w.heap.size, 0, none⟩ (.int .i64 0) = w3 at c3 hR ⊢
 refine leaves_cons (f := 94) (args := #[.pointer (some ⟨w.heap.size, 0, none⟩)]) (by simp) (by simp [go_sem]) ?_
 refine (catch_idle ⟨w.heap.size, 0, none⟩ _).mono ?_
 rintro e u' w'' ⟨rfl, rfl, rfl⟩
 simp [Leaves, settle, results, Tryz.results55, go_sem, c3, hR]
set_option maxRecDepth 100000 in
set_option maxHeartbeats 4000000 in
theorem attempt_noP (g gat gof gbl gpr : Nat) (w : World) (R : World → Prop)
  (hdo : Calls Tryz.prog 56 #[.pointer (some ⟨g, 0, none⟩), .pointer (some ⟨gat, 0, none⟩), .pointer (some ⟨gof, 0, none⟩), .pointer (some ⟨gbl, 0, none⟩), .pointer (some ⟨gpr, 0, none⟩)] (w.alloc (Obj.cells #[.int .i64 0] 37)) fun e w' => e = .panicked [{ v := .iface 225 (.agg #[]), recovered := false }] ∧ w.heap.size < w'.heap.size ∧ w'.cell? ⟨w.heap.size, 0, none⟩ = some (.int .i64 0) ∧ w'.frozen? ⟨w.heap.size, 0, none⟩ = false ∧ R ((w'.setCell ⟨w.heap.size, 0, none⟩ (.int .i64 7)).alloc (Obj.cells #[] 225))) :
  Calls Tryz.prog 55 #[.func (.func 56) #[] #[.pointer (some ⟨g, 0, none⟩), .pointer (some ⟨gat, 0, none⟩), .pointer (some ⟨gof, 0, none⟩), .pointer (some ⟨gbl, 0, none⟩), .pointer (some ⟨gpr, 0, none⟩)]] w fun e w' => e = .returned (.int .i64 7) ∧ R w' := by
 have hmf : ∀ (fn : Fn) (first cap : Array Value) (w : World), (Instr.makeFunc fn first cap).run Tryz.prog w = .ok (.func fn first cap) w := fun _ _ _ _ => rfl
 go_enter_defers Tryz.func55, Tryz.ntmps55
 go_wp2_with (go_at_call 56; with_reducible refine hdo.mono ?_; rintro e w2 ⟨rfl, hl, c2, z2, hR⟩)
 refine leaves_cons (f := 94) (args := #[.pointer (some ⟨w.heap.size, 0, none⟩)]) (by simp) (by simp [go_sem]) ?_
 refine (catch_panicking w.heap.size 0 [] _ hl c2 z2).mono ?_
 rintro e u' w'' ⟨rfl, rfl, rfl⟩
 have c3 : ((w2.setCell ⟨w.heap.size, 0, none⟩ (.int .i64 7)).alloc (Obj.cells #[] 225)).cell? ⟨w.heap.size, 0, none⟩ = some (.int .i64 7) := (((Below.refl _ (w2.setCell ⟨w.heap.size, 0, none⟩ (.int .i64 7))).alloc (Nat.le_refl _) _).cell (p := ⟨w.heap.size, 0, none⟩) (by rw [World.size_setCell]; exact hl)).trans (World.cell?_setCell_same' _ _ _ (by rw [c2]; rfl))
 generalize (w2.setCell ⟨w.heap.size, 0, none⟩ (.int .i64 7)).alloc (Obj.cells #[] 225) = w3 at c3 hR ⊢
 simp [Leaves, settle, results, Tryz.results55, go_sem, c3, hR]
/-- what stands after a proof was tried. -/
structure Left2 (w0 W w' : World) (gpr : Nat) : Prop where
 old : Below w0.heap.size w0 w'
 lt : W.heap.size ≤ w'.heap.size
 kept : ∀ j, j < W.heap.size → j ≠ gpr → w'.heap[j]? = W.heap[j]?
theorem P1.base {w0 w : World} {m : Mach} {L : List Value} {g gat gof gbl gpr k bl : Nat} {b : Int × Int × Int × Int} {W : World} (h : P1 w0 w m L g gat gof gbl gpr k bl b W) : P1 w0 W m L g gat gof gbl gpr k bl b W :=
 ⟨h.old, h.st, h.ka, h.o0, h.o1, h.o2, h.o3, h.kb, h.l1, h.l2, h.l3, h.l4, h.l5, h.n1, h.n2, h.n3, h.n4, h.n0, Nat.le_refl _, fun _ _ _ => rfl⟩
theorem attempt_yesP (m : Mach) (EX EY : Nat → Int × Int) (g gat gof gbl gpr k bl : Nat) (b : Int × Int × Int × Int) (p0 p1 q0 q1 : Int) (w0 w : World) (hok : m.ok = true) (h : MIn w0 m) (hk : k ≤ 12) (hbl : bl ≤ 12) (hbd : bdB b) (hP : P1 w0 w m (m.st (crsL EX 13) (crsL EY 13)) g gat gof gbl gpr k bl b w) (hBx : Box4 w gpr p0 p1 q0 q1) (hX : (wX m k b).can) (hY : (wY m k b).can) :
  Calls Tryz.prog 55 #[.func (.func 56) #[] #[.pointer (some ⟨g, 0, none⟩), .pointer (some ⟨gat, 0, none⟩), .pointer (some ⟨gof, 0, none⟩), .pointer (some ⟨gbl, 0, none⟩), .pointer (some ⟨gpr, 0, none⟩)]] w fun e w' => e = .returned (.int .i64 0) ∧ (Left2 w0 w w' gpr ∧ Box4 w' gpr ((wX m k b).ends bl).1 ((wX m k b).ends bl).2 ((wY m k b).ends bl).1 ((wY m k b).ends bl).2) := by
 refine attempt_okP g gat gof gbl gpr w (fun w' => Left2 w0 w w' gpr ∧ Box4 w' gpr ((wX m k b).ends bl).1 ((wX m k b).ends bl).2 ((wY m k b).ends bl).1 ((wY m k b).ends bl).2) ?_
 have hb3 : Below w.heap.size w (w.alloc (Obj.cells #[.int .i64 0] 37)) := (Below.refl _ _).alloc (Nat.le_refl _) _
 have c3 : (w.alloc (Obj.cells #[.int .i64 0] 37)).cell? ⟨w.heap.size, 0, none⟩ = some (.int .i64 0) := cells_new w _ _ rfl
 have f3 : (w.alloc (Obj.cells #[.int .i64 0] 37)).frozen? ⟨w.heap.size, 0, none⟩ = false := by simp [go_sem]
 have hz3 : (w.alloc (Obj.cells #[.int .i64 0] 37)).heap.size = w.heap.size + 1 := World.size_alloc _ _
 have hP3 := (hP.below hb3).base
 have hB3 := hBx.below hb3 hP.l5
 have hl5 := hP.l5
 have hn0 := hP.n0
 generalize w.alloc (Obj.cells #[.int .i64 0] 37) = W3 at *
 refine (proves1_can m EX EY g gat gof gbl gpr k bl b p0 p1 q0 q1 w0 W3 hok h hk hbl hbd hP3 hB3 hX hY).mono ?_
 rintro e w' ⟨rfl, hP', hB'⟩
 have hne : w.heap.size ≠ gpr := by omega
 have hblk := hP'.kept w.heap.size (by omega) hne
 have hz' := hP'.hz
 refine ⟨rfl, (World.cell?_of_block hblk).trans c3, (frozen_of_block hblk 0).trans f3, ⟨hP'.old.setCell (p := ⟨w.heap.size, 0, none⟩) (by show w0.heap.size ≤ w.heap.size; omega) _, by rw [World.size_setCell]; omega, fun j hj hne' => ?_⟩, hB'.far (Below.heap_setCell w' ⟨w.heap.size, 0, none⟩ _ gpr (by show gpr ≠ w.heap.size; omega))⟩
 rw [Below.heap_setCell w' ⟨w.heap.size, 0, none⟩ _ j (by show j ≠ w.heap.size; omega), hP'.kept j (by omega) hne', hb3.block j hj]
theorem attempt_ruleP (m : Mach) (EX EY : Nat → Int × Int) (g gat gof gbl gpr k bl : Nat) (b : Int × Int × Int × Int) (p0 p1 q0 q1 : Int) (w0 w : World) (hok : m.ok = true) (h : MIn w0 m) (hk : k ≤ 12) (hbl : bl ≤ 12) (hbd : bdB b) (hP : P1 w0 w m (m.st (crsL EX 13) (crsL EY 13)) g gat gof gbl gpr k bl b w) (hBx : Box4 w gpr p0 p1 q0 q1) (hno : ¬ canW m k b) :
  Calls Tryz.prog 55 #[.func (.func 56) #[] #[.pointer (some ⟨g, 0, none⟩), .pointer (some ⟨gat, 0, none⟩), .pointer (some ⟨gof, 0, none⟩), .pointer (some ⟨gbl, 0, none⟩), .pointer (some ⟨gpr, 0, none⟩)]] w fun e w' => e = .returned (.int .i64 7) ∧ Left2 w0 w w' gpr := by
 refine attempt_noP g gat gof gbl gpr w (fun w' => Left2 w0 w w' gpr) ?_
 have hb3 : Below w.heap.size w (w.alloc (Obj.cells #[.int .i64 0] 37)) := (Below.refl _ _).alloc (Nat.le_refl _) _
 have c3 : (w.alloc (Obj.cells #[.int .i64 0] 37)).cell? ⟨w.heap.size, 0, none⟩ = some (.int .i64 0) := cells_new w _ _ rfl
 have f3 : (w.alloc (Obj.cells #[.int .i64 0] 37)).frozen? ⟨w.heap.size, 0, none⟩ = false := by simp [go_sem]
 have hz3 : (w.alloc (Obj.cells #[.int .i64 0] 37)).heap.size = w.heap.size + 1 := World.size_alloc _ _
 have hP3 := (hP.below hb3).base
 have hB3 := hBx.below hb3 hP.l5
 have hl5 := hP.l5
 have hn0 := hP.n0
 generalize w.alloc (Obj.cells #[.int .i64 0] 37) = W3 at *
 have key : Calls Tryz.prog 56 #[.pointer (some ⟨g, 0, none⟩), .pointer (some ⟨gat, 0, none⟩), .pointer (some ⟨gof, 0, none⟩), .pointer (some ⟨gbl, 0, none⟩), .pointer (some ⟨gpr, 0, none⟩)] W3 fun e w' => e = .panicked [{ v := .iface 225 (.agg #[]), recovered := false }] ∧ P1 w0 W3 m (m.st (crsL EX 13) (crsL EY 13)) g gat gof gbl gpr k bl b w' := by
  by_cases hX : (wX m k b).can
  ·exact proves1_noY m EX EY g gat gof gbl gpr k bl b p0 p1 q0 q1 w0 W3 hok h hk hbl hbd hP3 hB3 hX fun hY => hno ⟨hX, hY⟩
  ·exact proves1_noX m EX EY g gat gof gbl gpr k bl b p0 p1 q0 q1 w0 W3 hok h hk hbl hbd hP3 hB3 hX
 refine key.mono ?_
 rintro e w' ⟨rfl, hP'⟩
 have hne : w.heap.size ≠ gpr := by omega
 have hblk := hP'.kept w.heap.size (by omega) hne
 have hz' := hP'.hz
 have hBs : Below w0.heap.size w0 (w'.setCell ⟨w.heap.size, 0, none⟩ (.int .i64 7)) := hP'.old.setCell (p := ⟨w.heap.size, 0, none⟩) (by show w0.heap.size ≤ w.heap.size; omega) _
 refine ⟨rfl, by omega, (World.cell?_of_block hblk).trans c3, (frozen_of_block hblk 0).trans f3, hBs.alloc hBs.size _, by rw [World.size_alloc, World.size_setCell]; omega, fun j hj hne' => ?_⟩
 rw [((Below.refl (w'.setCell ⟨w.heap.size, 0, none⟩ (.int .i64 7)).heap.size _).alloc (Nat.le_refl _) _).block j (by rw [World.size_setCell]; omega), Below.heap_setCell w' ⟨w.heap.size, 0, none⟩ _ j (by show j ≠ w.heap.size; omega), hP'.kept j (by omega) hne', hb3.block j hj]
end Go.Proofs.YtjhpklolpmaopaaGreatDoor
