/- A part of the proof: see the last file. -/
import Derived.Test.YtjhpklolpmaopaaGreatDoorPaa
import Derived.Test.YtjhpklolpmaopaaGreatDoorPbk
import Derived.Test.YtjhpklolpmaopaaGreatDoorPbh
import Derived.Test.YtjhpklolpmaopaaGreatDoorPbi
import Derived.Test.YtjhpklolpmaopaaGreatDoorPbj
import Derived.Test.YtjhpklolpmaopaaGreatDoorPbg
import Derived.Test.YtjhpklolpmaopaaGreatDoorPak
set_option linter.unusedVariables false
set_option linter.unusedSimpArgs false
set_option linter.unusedSectionVars false
namespace Go.Proofs.YtjhpklolpmaopaaGreatDoor
open Go.RowKit
structure W6 (w W : World) (gs : Nat) (s0 s1 : Int) : Prop where
 old : Below w.heap.size w W
 two : Two W gs s0 s1
 res : Box4 W (w.heap.size + 2) 0 0 0 0
 lg : w.heap.size + 3 ≤ gs
 lt : gs < W.heap.size
theorem W6.drew {w W : World} {gs : Nat} {s0 s1 : Int} (h : W6 w W gs s0 s1) : W6 w W.drew gs s0 s1 := ⟨h.old.drew, h.two.drew, h.res.drew, h.lg, h.lt⟩
theorem W6.l0 {w W : World} {gs : Nat} {s0 s1 : Int} (h : W6 w W gs s0 s1) : w.heap.size < W.heap.size := by have := h.lg; have := h.lt; omega
theorem W6.put {w W : World} {gs : Nat} {s0 s1 : Int} (h : W6 w W gs s0 s1) (i j : Nat) (u v : Value) : W6 w ((W.setCell ⟨w.heap.size, i, none⟩ u).setCell ⟨w.heap.size, j, none⟩ v) gs s0 s1 := by
 have far : ∀ x, x ≠ w.heap.size → ((W.setCell ⟨w.heap.size, i, none⟩ u).setCell ⟨w.heap.size, j, none⟩ v).heap[x]? = W.heap[x]? := fun x hx => (Below.heap_setCell _ ⟨w.heap.size, j, none⟩ v x hx).trans (Below.heap_setCell W ⟨w.heap.size, i, none⟩ u x hx)
 have hg := h.lg
 exact ⟨(h.old.setCell (p := ⟨w.heap.size, i, none⟩) (Nat.le_refl _) u).setCell (p := ⟨w.heap.size, j, none⟩) (Nat.le_refl _) v, h.two.far (far gs (by omega)), h.res.far (far _ (by omega)), h.lg, by rw [World.size_setCell, World.size_setCell]; exact h.lt⟩
theorem W6.next {w W : World} {gs : Nat} {s0 s1 : Int} (h : W6 w W gs s0 s1) (x y : Int) : W6 w (W.alloc (Obj.cells #[.int .i64 x, .int .i64 y] 24)) W.heap.size x y := by
 have hg := h.lg
 have hl := h.lt
 have hb : Below W.heap.size W (W.alloc (Obj.cells #[.int .i64 x, .int .i64 y] 24)) := (Below.refl _ _).alloc (Nat.le_refl _) _
 exact ⟨h.old.trans (hb.mono h.old.size), Two.new W _ x y, h.res.below hb (by omega), by omega, by rw [World.size_alloc]; omega⟩
theorem if_min (x y : Int) : (if y < x then y else x) = min x y := by omega
theorem if_max (x y : Int) : (if x < y then y else x) = max x y := by omega
theorem idxB0 (a b c d : Int) (w : World) : (Instr.index 99 (.agg #[.int .i64 a, .int .i64 b, .int .i64 c, .int .i64 d]) (.int .i64 0)).run Tryz.prog w = .ok (.agg #[.int .i64 a, .int .i64 b]) w := by kernel_rfl
theorem idxB1 (a b c d : Int) (w : World) : (Instr.index 99 (.agg #[.int .i64 a, .int .i64 b, .int .i64 c, .int .i64 d]) (.int .i64 1)).run Tryz.prog w = .ok (.agg #[.int .i64 c, .int .i64 d]) w := by kernel_rfl
set_option maxRecDepth 100000 in
set_option maxHeartbeats 4000000 in
theorem with_any (a b c d a' b' c' d' : Int) (w : World) :
  Calls Tryz.prog 53 #[.agg #[.int .i64 a, .int .i64 b, .int .i64 c, .int .i64 d], .agg #[.int .i64 a', .int .i64 b', .int .i64 c', .int .i64 d']] w fun e w' => e = .returned (.agg #[.int .i64 (min a a'), .int .i64 (max b b'), .int .i64 (min c c'), .int .i64 (max d d')]) ∧ Below w.heap.size w w' := by
 have hi0 := idxB0 a' b' c' d'
 have hi1 := idxB1 a' b' c' d'
 obtain ⟨A1, hA1⟩ : ∃ A, w.alloc (Obj.cells #[.int .i64 a, .int .i64 b, .int .i64 c, .int .i64 d] 99) = A := ⟨_, rfl⟩
 obtain ⟨A2, hA2⟩ : ∃ A, A1.alloc (Obj.cells #[.int .i64 a', .int .i64 b', .int .i64 c', .int .i64 d'] 99) = A := ⟨_, rfl⟩
 obtain ⟨A3, hA3⟩ : ∃ A, A2.alloc (Obj.cells #[.int .i64 0, .int .i64 0, .int .i64 0, .int .i64 0] 99) = A := ⟨_, rfl⟩
 have s1 : A1.heap.size = w.heap.size + 1 := by rw [← hA1, World.size_alloc]
 have s2 : A2.heap.size = w.heap.size + 1 + 1 := by rw [← hA2, World.size_alloc, s1]
 have s3 : A3.heap.size = w.heap.size + 1 + 1 + 1 := by rw [← hA3, World.size_alloc, s2]
 have b1 : Below w.heap.size w A1 := by rw [← hA1]; exact (Below.refl _ _).alloc (Nat.le_refl _) _
 have b2 : Below A1.heap.size A1 A2 := by rw [← hA2]; exact (Below.refl _ _).alloc (Nat.le_refl _) _
 have b3 : Below A2.heap.size A2 A3 := by rw [← hA3]; exact (Below.refl _ _).alloc (Nat.le_refl _) _
 have b4 : Below A3.heap.size A3 (A3.alloc (Obj.cells #[.int .i64 a', .int .i64 b'] 24)) := (Below.refl _ _).alloc (Nat.le_refl _) _
 have n1 := Box4.new w 99 a b c d
 rw [hA1] at n1
 have n2 := Box4.new A1 99 a' b' c' d'
 rw [hA2, s1] at n2
 have n3 := Box4.new A2 99 0 0 0 0
 rw [hA3, s2] at n3
 have n13 := (n1.below b2 (by omega)).below b3 (by omega)
 have n23 := n2.below b3 (by omega)
 obtain ⟨o0, o1, o2, o3, _, _, _, _⟩ := n23
 obtain ⟨W1, hW1⟩ : ∃ W, A3.alloc (Obj.cells #[.int .i64 a', .int .i64 b'] 24) = W := ⟨_, rfl⟩
 have hP : W6 w W1 A3.heap.size a' b' := by
  rw [← hW1]
  exact ⟨((b1.trans (b2.mono (by omega))).trans (b3.mono (by omega))).trans (b4.mono (by omega)), Two.new A3 _ a' b', n3.below b4 (by omega), by omega, by rw [World.size_alloc]; omega⟩
 have hBx : Box4 W1 w.heap.size a b c d := by rw [← hW1]; exact n13.below b4 (by omega)
 clear n1 n2 n3 n13 b1 b2 b3 b4
 go_enter Tryz.func53, Tryz.ntmps53
 go_wp2
 refine wp_loop_rounds 3 ?_
 rw [rounds_succ]
 go_wp2_with fail
 try rw [hA1, hA2, hA3, hW1]
 clear o0 o1 o2 o3
 rw [s3] at hP
 generalize w.heap.size + 1 + 1 + 1 = g0 at hP ⊢
 refine wp_region_late [17] (fun w9 => W6 w w9 g0 a' b') (fun w9 => Box4 w9 w.heap.size a b c d) (by kernel_rfl) ?_ (fun hHeld => ?_)
 ·(exact ⟨hP.drew, hBx.drew⟩)
 generalize W1.drew = V0 at hHeld ⊢
 refine tk1 0 rfl hHeld ?_
 refine tk1 1 rfl hHeld ?_
 refine tk1 2 rfl hHeld ?_
 refine tk1 3 rfl hHeld ?_
 refine wpAnyP_take 1 (i := 4) (v := ?_) rfl (by kernel_rfl) (by kernel_rfl) (by kernel_rfl) (by kernel_rfl) (by rfl) (waits_one [] (by kernel_rfl)) (fun _ _ _ h => h) (Or.inl ⟨by rfl, ?_⟩) hHeld ?_
 rotate_left 1
 ·((intro w9 hSw; have z0 := hSw.2.k0; clear hSw; go_simp) <;> with_reducible rfl)
 (try simp only [Act.put, xpA, xpZ, xpS])
 refine tk1 5 rfl hHeld ?_
 refine tk2 6 rfl (by (intro w9 hSw; have z0 := hSw.two.k0; clear hSw; go_simp) <;> with_reducible rfl) hHeld ?_
 refine tk1 7 rfl hHeld ?_
 refine tk1 8 rfl hHeld ?_
 refine tk1 9 rfl hHeld ?_
 refine tk1 10 rfl hHeld ?_
 refine wpAnyP_take 1 (i := 11) (v := ?_) rfl (by kernel_rfl) (by kernel_rfl) (by kernel_rfl) (by kernel_rfl) (by rfl) (waits_one [] (by kernel_rfl)) (fun _ _ _ h => h) (Or.inl ⟨by rfl, ?_⟩) hHeld ?_
 rotate_left 1
 ·((intro w9 hSw; have z0 := hSw.2.k1; clear hSw; go_simp) <;> with_reducible rfl)
 (try simp only [Act.put, xpA, xpZ, xpS])
 refine tk1 12 rfl hHeld ?_
 refine tk2 13 rfl (by (intro w9 hSw; have z0 := hSw.two.k1; clear hSw; go_simp) <;> with_reducible rfl) hHeld ?_
 refine tk1 14 rfl hHeld ?_
 refine tk1 15 rfl hHeld ?_
 refine tk1 16 rfl hHeld ?_
 refine wpAnyP_ready (rs := [17]) (by kernel_rfl) (by simp) ?_
 refine AllReadyP.behind (o := _) rfl (by kernel_rfl) (fun K hK => ?_) AllReadyP.nil
 ·have c0 := hHeld.2.k0
  have c1 := hHeld.2.k1
  have y0 := hHeld.2.f0
  have y1 := hHeld.2.f1
  go_simp
  clear c0 c1 y0 y1
  try rw [if_min]
  try rw [if_max]
  have hK1 := hHeld.1.put 0 1 (.int .i64 (min a a')) (.int .i64 (max b b'))
  have hB := hHeld.2.set01 (min a a') (max b b')
  refine hK.out _ _ ?_ (fun hHeld => ?_)
  ·(exact hK1)
  clear hK K
  (try simp only [Act.put, xpA, xpZ, xpS])
  refine wpAnyP_done (by kernel_rfl) ?_ _
  (try simp only [Act.put, List.getElem_toArray, List.getElem_cons_zero, List.getElem_cons_succ, xpA, xpZ, xpS])
  have hP := hHeld
  clear hHeld hK1
  have hBx := hB
  clear hB
  generalize (V0.setCell ⟨w.heap.size, 0, none⟩ (.int .i64 (min a a'))).setCell ⟨w.heap.size, 1, none⟩ (.int .i64 (max b b')) = W4 at hBx hP ⊢
  go_wp2_with fail
  rw [rounds_succ]
  obtain ⟨W5, hW5⟩ : ∃ W, W4.alloc (Obj.cells #[.int .i64 c', .int .i64 d'] 24) = W := ⟨_, rfl⟩
  have hP5 := hP.next c' d'
  have hB5 := hBx.below ((Below.refl W4.heap.size W4).alloc (Nat.le_refl _) (Obj.cells #[.int .i64 c', .int .i64 d'] 24)) hP.l0
  rw [hW5] at hP5 hB5
  go_wp2_with fail
  try rw [hW5]
  generalize W4.heap.size = g1 at hP5 ⊢
  clear hP hBx
  have hP := hP5
  have hBx := hB5
  refine wp_region_late [17] (fun w9 => W6 w w9 g1 c' d') (fun w9 => Box4 w9 w.heap.size (min a a') (max b b') c d) (by kernel_rfl) ?_ (fun hHeld => ?_)
  ·(exact ⟨hP.drew, hBx.drew⟩)
  generalize W5.drew = V1 at hHeld ⊢
  refine tk1 0 rfl hHeld ?_
  refine tk1 1 rfl hHeld ?_
  refine tk1 2 rfl hHeld ?_
  refine tk1 3 rfl hHeld ?_
  refine wpAnyP_take 1 (i := 4) (v := ?_) rfl (by kernel_rfl) (by kernel_rfl) (by kernel_rfl) (by kernel_rfl) (by rfl) (waits_one [] (by kernel_rfl)) (fun _ _ _ h => h) (Or.inl ⟨by rfl, ?_⟩) hHeld ?_
  rotate_left 1
  ·((intro w9 hSw; have z0 := hSw.2.k2; clear hSw; go_simp) <;> with_reducible rfl)
  (try simp only [Act.put, xpA, xpZ, xpS])
  refine tk1 5 rfl hHeld ?_
  refine tk2 6 rfl (by (intro w9 hSw; have z0 := hSw.two.k0; clear hSw; go_simp) <;> with_reducible rfl) hHeld ?_
  refine tk1 7 rfl hHeld ?_
  refine tk1 8 rfl hHeld ?_
  refine tk1 9 rfl hHeld ?_
  refine tk1 10 rfl hHeld ?_
  refine wpAnyP_take 1 (i := 11) (v := ?_) rfl (by kernel_rfl) (by kernel_rfl) (by kernel_rfl) (by kernel_rfl) (by rfl) (waits_one [] (by kernel_rfl)) (fun _ _ _ h => h) (Or.inl ⟨by rfl, ?_⟩) hHeld ?_
  rotate_left 1
  ·((intro w9 hSw; have z0 := hSw.2.k3; clear hSw; go_simp) <;> with_reducible rfl)
  (try simp only [Act.put, xpA, xpZ, xpS])
  refine tk1 12 rfl hHeld ?_
  refine tk2 13 rfl (by (intro w9 hSw; have z0 := hSw.two.k1; clear hSw; go_simp) <;> with_reducible rfl) hHeld ?_
  refine tk1 14 rfl hHeld ?_
  refine tk1 15 rfl hHeld ?_
  refine tk1 16 rfl hHeld ?_
  refine wpAnyP_ready (rs := [17]) (by kernel_rfl) (by simp) ?_
  refine AllReadyP.behind (o := _) rfl (by kernel_rfl) (fun K hK => ?_) AllReadyP.nil
  ·have c0 := hHeld.2.k2
   have c1 := hHeld.2.k3
   have y0 := hHeld.2.f2
   have y1 := hHeld.2.f3
   go_simp
   clear c0 c1 y0 y1
   try rw [if_min]
   try rw [if_max]
   have hK1 := hHeld.1.put 2 3 (.int .i64 (min c c')) (.int .i64 (max d d'))
   have hB := hHeld.2.set23 (min c c') (max d d')
   refine hK.out _ _ ?_ (fun hHeld => ?_)
   ·(exact hK1)
   clear hK K
   (try simp only [Act.put, xpA, xpZ, xpS])
   refine wpAnyP_done (by kernel_rfl) ?_ _
   (try simp only [Act.put, List.getElem_toArray, List.getElem_cons_zero, List.getElem_cons_succ, xpA, xpZ, xpS])
   have hP := hHeld
   clear hHeld hK1
   have hBx := hB
   clear hB
   generalize (V1.setCell ⟨w.heap.size, 2, none⟩ (.int .i64 (min c c'))).setCell ⟨w.heap.size, 3, none⟩ (.int .i64 (max d d')) = W7 at hBx hP ⊢
   go_wp2_with fail
   rw [rounds_succ]
   have hO := hP.old
   have hR := (hP.res.set01 (min a a') (max b b')).set23 (min c c') (max d d')
   have hO8 : Below w.heap.size w ((((W7.setCell ⟨w.heap.size + 2, 0, none⟩ (.int .i64 (min a a'))).setCell ⟨w.heap.size + 2, 1, none⟩ (.int .i64 (max b b'))).setCell ⟨w.heap.size + 2, 2, none⟩ (.int .i64 (min c c'))).setCell ⟨w.heap.size + 2, 3, none⟩ (.int .i64 (max d d'))) := (((hO.setCell (p := ⟨w.heap.size + 2, 0, none⟩) (Nat.le_add_right _ _) _).setCell (p := ⟨w.heap.size + 2, 1, none⟩) (Nat.le_add_right _ _) _).setCell (p := ⟨w.heap.size + 2, 2, none⟩) (Nat.le_add_right _ _) _).setCell (p := ⟨w.heap.size + 2, 3, none⟩) (Nat.le_add_right _ _) _
   obtain ⟨z0, z1, z2, z3, y0, y1, y2, y3⟩ := hP.res
   obtain ⟨x0, x1, x2, x3, _, _, _, _⟩ := hBx
   clear hP
   go_wp2
   clear z0 z1 z2 z3 y0 y1 y2 y3 x0 x1 x2 x3 hO
   generalize (((W7.setCell ⟨w.heap.size + 2, 0, none⟩ (.int .i64 (min a a'))).setCell ⟨w.heap.size + 2, 1, none⟩ (.int .i64 (max b b'))).setCell ⟨w.heap.size + 2, 2, none⟩ (.int .i64 (min c c'))).setCell ⟨w.heap.size + 2, 3, none⟩ (.int .i64 (max d d')) = W8 at hR hO8 ⊢
   obtain ⟨r0, r1, r2, r3, _, _, _, _⟩ := hR
   refine bodyPost_ret (v := .agg #[.int .i64 (min a a'), .int .i64 (max b b'), .int .i64 (min c c'), .int .i64 (max d d')]) ?_ rfl ⟨rfl, hO8⟩
   simp [results, Tryz.results53, go_sem, r0, r1, r2, r3]
end Go.Proofs.YtjhpklolpmaopaaGreatDoor
namespace Go.Proofs.YtjhpklolpmaopaaGreatDoor
open Go.RowKit Go.Maps
/-- what a proof's function boxes. -/
structure PV (w : World) (m : Mach) (v1 : Value) (r : Int) (k bl : Nat) (W : World) : Prop where
  old : Below w.heap.size w W
  mach : MAt W w.heap.size m
  c0 : W.cell? ⟨w.heap.size + 1, 0, none⟩ = some v1
  c1 : W.cell? ⟨w.heap.size + 1, 1, none⟩ = some (.int .i64 r)
  ka : W.cell? ⟨w.heap.size + 2, 0, none⟩ = some (.int .i64 k)
  kb : W.cell? ⟨w.heap.size + 3, 0, none⟩ = some (.int .i64 bl)
  t8 : Two W (w.heap.size + 4) 0 0
  t9 : Two W (w.heap.size + 5) 0 0
  big : w.heap.size + 6 ≤ W.heap.size
theorem PV.of_far {w : World} {m : Mach} {v1 : Value} {r : Int} {k bl : Nat} {W W' : World} (h : PV w m v1 r k bl W) (hh : ∀ b, b < w.heap.size + 6 → W'.heap[b]? = W.heap[b]?) (ho : Below w.heap.size w W') (hz : W.heap.size ≤ W'.heap.size) : PV w m v1 r k bl W' := by
  have c : ∀ b o, b < w.heap.size + 6 → W'.cell? ⟨b, o, none⟩ = W.cell? ⟨b, o, none⟩ := fun b o hb => World.cell?_of_block (hh b hb)
  obtain ⟨y0, y1, y2, y3, y4, y5, y6, y7, y8, y9⟩ := h.mach
  exact ⟨ho, ⟨(c _ 0 (by omega)).trans y0, (c _ 1 (by omega)).trans y1, (c _ 2 (by omega)).trans y2, (c _ 3 (by omega)).trans y3, (c _ 4 (by omega)).trans y4, (c _ 5 (by omega)).trans y5, (c _ 6 (by omega)).trans y6, (c _ 7 (by omega)).trans y7, (c _ 8 (by omega)).trans y8, (c _ 9 (by omega)).trans y9⟩,
    (c _ 0 (by omega)).trans h.c0, (c _ 1 (by omega)).trans h.c1, (c _ 0 (by omega)).trans h.ka, (c _ 0 (by omega)).trans h.kb, h.t8.far (hh _ (by omega)), h.t9.far (hh _ (by omega)), Nat.le_trans h.big hz⟩
theorem PV.far {w : World} {m : Mach} {v1 : Value} {r : Int} {k bl : Nat} {W W' : World} {B : Nat} (h : PV w m v1 r k bl W) (hB : w.heap.size + 6 ≤ B) (hb : Below B W W') : PV w m v1 r k bl W' :=
  h.of_far (fun b hl => hb.block b (by omega)) (h.old.trans (hb.mono (by omega))) hb.size
theorem PV.below {w : World} {m : Mach} {v1 : Value} {r : Int} {k bl : Nat} {W W' : World} (h : PV w m v1 r k bl W) (hb : Below W.heap.size W W') : PV w m v1 r k bl W' := h.far h.big hb
theorem PV.drew {w : World} {m : Mach} {v1 : Value} {r : Int} {k bl : Nat} {W : World} (h : PV w m v1 r k bl W) : PV w m v1 r k bl W.drew := h.below (Below.refl _ _).drew
theorem PV.alloc {w : World} {m : Mach} {v1 : Value} {r : Int} {k bl : Nat} {W : World} (h : PV w m v1 r k bl W) (o : Obj) : PV w m v1 r k bl (W.alloc o) := h.below ((Below.refl _ _).alloc (Nat.le_refl _) o)
theorem PV.put {w : World} {m : Mach} {v1 : Value} {r : Int} {k bl : Nat} {W : World} (h : PV w m v1 r k bl W) {g : Nat} (hg : w.heap.size + 6 ≤ g) (L : List Value) : PV w m v1 r k bl (W.setCells g 0 L) :=
  h.far (Nat.le_refl _) (below_setCells hg L 0 W (Below.refl _ _))
/-- the studied machine and the hull in blocks of their own, below B. -/
structure PW (w : World) (m : Mach) (v1 : Value) (r : Int) (k bl : Nat) (L : List Value) (g gof B : Nat) (W : World) : Prop where
  pv : PV w m v1 r k bl W
  st : SAt W g L
  g1 : w.heap.size + 6 ≤ g
  g2 : g < gof
  g3 : gof < B
  lb0 : B ≤ W.heap.size
theorem PW.lb {w : World} {m : Mach} {v1 : Value} {r : Int} {k bl : Nat} {L : List Value} {g gof B : Nat} {W : World} (h : PW w m v1 r k bl L g gof B W) : gof < W.heap.size := Nat.lt_of_lt_of_le h.g3 h.lb0
theorem PW.lsz {w : World} {m : Mach} {v1 : Value} {r : Int} {k bl : Nat} {L : List Value} {g gof B : Nat} {W : World} (h : PW w m v1 r k bl L g gof B W) : w.heap.size < B := by have := h.g1; have := h.g2; have := h.g3; omega
theorem PW.of_far {w : World} {m : Mach} {v1 : Value} {r : Int} {k bl : Nat} {L : List Value} {g gof B : Nat} {W W' : World} (h : PW w m v1 r k bl L g gof B W) (hh : ∀ b, b < gof → W'.heap[b]? = W.heap[b]?) (ho : Below w.heap.size w W') (hz : W.heap.size ≤ W'.heap.size) : PW w m v1 r k bl L g gof B W' := by
  have h1 := h.g1; have h2 := h.g2
  exact ⟨h.pv.of_far (fun b hb => hh b (by omega)) ho hz, h.st.far (hh g h2), h1, h2, h.g3, Nat.le_trans h.lb0 hz⟩
theorem PW.far {w : World} {m : Mach} {v1 : Value} {r : Int} {k bl : Nat} {L : List Value} {g gof B : Nat} {W W' : World} (h : PW w m v1 r k bl L g gof B W) (hb : Below (gof + 1) W W') : PW w m v1 r k bl L g gof B W' := by
  have h1 := h.g1; have h2 := h.g2
  exact h.of_far (fun b hl => hb.block b (by omega)) (h.pv.old.trans (hb.mono (by omega))) hb.size
theorem PW.below {w : World} {m : Mach} {v1 : Value} {r : Int} {k bl : Nat} {L : List Value} {g gof B : Nat} {W W' : World} (h : PW w m v1 r k bl L g gof B W) (hb : Below W.heap.size W W') : PW w m v1 r k bl L g gof B W' := h.far (hb.mono h.lb)
theorem PW.drew {w : World} {m : Mach} {v1 : Value} {r : Int} {k bl : Nat} {L : List Value} {g gof B : Nat} {W : World} (h : PW w m v1 r k bl L g gof B W) : PW w m v1 r k bl L g gof B W.drew := h.below (Below.refl _ _).drew
/-- one point of the list in a block of its own. -/
structure P9 (w : World) (m : Mach) (v1 : Value) (r : Int) (k bl : Nat) (L : List Value) (g gof B : Nat) (la : Option Addr) (PL : List (Int × Int)) (lc gp : Nat) (x y : Int) (W : World) : Prop where
  pw : PW w m v1 r k bl L g gof B W
  two : Two W gp x y
  lg : gof < gp
  lp : gp < W.heap.size
  row : W.ownsRow B 43 2 (.slice la PL.length lc) PL.length (spCells PL)
theorem P9.below {w : World} {m : Mach} {v1 : Value} {r : Int} {k bl : Nat} {L : List Value} {g gof B : Nat} {la : Option Addr} {PL : List (Int × Int)} {lc gp : Nat} {x y : Int} {W W' : World} (h : P9 w m v1 r k bl L g gof B la PL lc gp x y W) (hb : Below W.heap.size W W') : P9 w m v1 r k bl L g gof B la PL lc gp x y W' :=
  ⟨h.pw.below hb, h.two.below hb h.lp, h.lg, Nat.lt_of_lt_of_le h.lp hb.size, ownsRow_below h.row hb⟩
theorem P9.drew {w : World} {m : Mach} {v1 : Value} {r : Int} {k bl : Nat} {L : List Value} {g gof B : Nat} {la : Option Addr} {PL : List (Int × Int)} {lc gp : Nat} {x y : Int} {W : World} (h : P9 w m v1 r k bl L g gof B la PL lc gp x y W) : P9 w m v1 r k bl L g gof B la PL lc gp x y W.drew := h.below (Below.refl _ _).drew
theorem P9.put {w : World} {m : Mach} {v1 : Value} {r : Int} {k bl : Nat} {L : List Value} {g gof B : Nat} {la : Option Addr} {PL : List (Int × Int)} {lc gp : Nat} {x y : Int} {W : World} (h : P9 w m v1 r k bl L g gof B la PL lc gp x y W) (i0 i1 i2 i3 : Int) : P9 w m v1 r k bl L g gof B la PL lc gp x y ((((W.setCell ⟨gof, 0, none⟩ (.int .i64 i0)).setCell ⟨gof, 1, none⟩ (.int .i64 i1)).setCell ⟨gof, 2, none⟩ (.int .i64 i2)).setCell ⟨gof, 3, none⟩ (.int .i64 i3)) := by
  have h1 := h.pw.g1; have h2 := h.pw.g2; have h3 := h.pw.g3; have h4 := h.lg
  have f : ∀ (V : World) (j : Nat) (u : Value) (b : Nat), b ≠ gof → (V.setCell ⟨gof, j, none⟩ u).heap[b]? = V.heap[b]? := fun V j u b hb => Below.heap_setCell V ⟨gof, j, none⟩ u b hb
  have far : ∀ b, b ≠ gof → ((((W.setCell ⟨gof, 0, none⟩ (.int .i64 i0)).setCell ⟨gof, 1, none⟩ (.int .i64 i1)).setCell ⟨gof, 2, none⟩ (.int .i64 i2)).setCell ⟨gof, 3, none⟩ (.int .i64 i3)).heap[b]? = W.heap[b]? := fun b hb => (f _ 3 _ b hb).trans ((f _ 2 _ b hb).trans ((f _ 1 _ b hb).trans (f _ 0 _ b hb)))
  have z : ((((W.setCell ⟨gof, 0, none⟩ (.int .i64 i0)).setCell ⟨gof, 1, none⟩ (.int .i64 i1)).setCell ⟨gof, 2, none⟩ (.int .i64 i2)).setCell ⟨gof, 3, none⟩ (.int .i64 i3)).heap.size = W.heap.size := by rw [World.size_setCell, World.size_setCell, World.size_setCell, World.size_setCell]
  have ho := (((h.pw.pv.old.setCell (p := ⟨gof, 0, none⟩) (by show w.heap.size ≤ gof; omega) (.int .i64 i0)).setCell (p := ⟨gof, 1, none⟩) (by show w.heap.size ≤ gof; omega) (.int .i64 i1)).setCell (p := ⟨gof, 2, none⟩) (by show w.heap.size ≤ gof; omega) (.int .i64 i2)).setCell (p := ⟨gof, 3, none⟩) (by show w.heap.size ≤ gof; omega) (.int .i64 i3)
  exact ⟨h.pw.of_far (fun b hb => far b (by omega)) ho (by rw [z]; exact Nat.le_refl _), h.two.far (far gp (by omega)), h.lg, by rw [z]; exact h.lp, ownsRow_setCell_below (ownsRow_setCell_below (ownsRow_setCell_below (ownsRow_setCell_below h.row (a := ⟨gof, 0, none⟩) h3 _) (a := ⟨gof, 1, none⟩) h3 _) (a := ⟨gof, 2, none⟩) h3 _) (a := ⟨gof, 3, none⟩) h3 _⟩
set_option maxRecDepth 100000 in
set_option maxHeartbeats 16000000 in
theorem Proves_ok (a1 : Option Addr) (c1 : Nat) (r : Int) (HX HY : Nat → Int) (m : Mach) (k bl : Nat) (w : World) (hn : m.sn ≤ 1000) (hr : m.rn ≤ 9223372036854775807) (hp : PSl w (.slice a1 m.sn c1) m.sn HX HY) (h : MIn w m) (hok : m.ok = true) (hc : m.can)
    (hbu : butB m.sn HX HY r = true) (hk1 : 1 ≤ k) (hk : k ≤ 12) (hbl : bl ≤ 12) :
    Calls Tryz.prog 19 #[m.val, .agg #[.slice a1 m.sn c1, .int .i64 r], .int .i64 k, .int .i64 bl] w fun e w' => ∃ PL : List (Int × Int), (∀ x y, (x, y) ∈ PL ↔ InBox (m.axX.ends k).1 (m.axX.ends k).2 (m.axY.ends k).1 (m.axY.ends k).2 x y ∧ agreeB m.sn HX HY m.SX m.SY r x y = true) ∧
      ((canW m k (hullL PL) ∧ e = .returned (.tuple #[.agg #[.int .i64 ((wX m k (hullL PL)).ends bl).1, .int .i64 ((wX m k (hullL PL)).ends bl).2], .agg #[.int .i64 ((wY m k (hullL PL)).ends bl).1, .int .i64 ((wY m k (hullL PL)).ends bl).2], .int .i64 0])) ∨
       (¬ canW m k (hullL PL) ∧ e = .returned (.tuple #[.agg #[.int .i64 0, .int .i64 0], .agg #[.int .i64 0, .int .i64 0], .int .i64 7]))) ∧ Below w.heap.size w w' := by
  obtain ⟨⟨q1, q2⟩, ⟨q3, q4⟩, q5⟩ := but_parts hbu
  obtain ⟨b1, o1, k1, e1, l1, p1⟩ := PSl_posD hp (by omega)
  cases e1
  obtain ⟨sb, so, k0, e0, lsb, pS⟩ := PSl_posD h.stops (by omega)
  have hsa : PLift (m.sa = some ⟨sb, so, none⟩) := ⟨by injection e0⟩
  clear e0
  have hst := (Mach.ok_parts hok).1
  have hsS : ∀ i, i < m.sn → (-20 ≤ m.SX i ∧ m.SX i ≤ 20) ∧ (-20 ≤ m.SY i ∧ m.SY i ≤ 20) := fun i hi => by
    unfold Mach.okStops arB at hst
    rw [Bool.and_eq_true, allB_iff] at hst
    have := hst.2 i hi
    unfold ptB at this
    rw [Bool.and_eq_true, inB_iff, inB_iff] at this
    omega
  have hbX0 := Axis.any_bound (Mach.fineX hok) k hk
  have hbY0 := Axis.any_bound (Mach.fineY hok) k hk
  have hbX : -48 ≤ (m.axX.ends k).1 ∧ (m.axX.ends k).2 ≤ 48 ∧ (m.axX.ends k).1 ≤ 1000 := ⟨hbX0.1, hbX0.2.1, by omega⟩
  have hbY : -48 ≤ (m.axY.ends k).1 ∧ (m.axY.ends k).2 ≤ 48 ∧ (m.axY.ends k).1 ≤ 1000 := ⟨hbY0.1, hbY0.2.1, by omega⟩
  obtain ⟨L, er, hE, hC⟩ := examine_any m true w hn hr h
  obtain ⟨hLe, rfl⟩ := hE.ok (by rw [hok]; rfl) hc
  have hif := fun (W : World) (hB : Below w.heap.size w W) => isOf_any (.slice (some ⟨b1, o1, none⟩) m.sn c1) (some ⟨b1, o1, none⟩) m.sn c1 r HX HY m W rfl hn (by omega) (hp.below hB)
  rw [show (butB m.sn HX HY r && decide (m.sn = m.sn)) = true by rw [hbu]; simp] at hif
  have hwa := fun (W : World) => within_any (k : Int) 1 12 W
  rw [show inB (k : Int) 1 12 = true from inB_yes (by omega) (by omega)] at hwa
  have hwb := fun (W : World) => within_any (bl : Int) 0 12 W
  rw [show inB (bl : Int) 0 12 = true from inB_yes (by omega) (by omega)] at hwb
  obtain ⟨A1, hA1⟩ : ∃ A, (w.alloc (.cells #[.slice m.sa m.sn m.sc, .int .i64 m.c0, .int .i64 m.c1, .int .i64 m.d0, .int .i64 m.d1, .int .i64 m.w0, .int .i64 m.w1, .int .i64 m.v0, .int .i64 m.v1, .slice m.ra m.rn m.rc] 27)).alloc (Obj.cells #[.slice (some ⟨b1, o1, none⟩) m.sn c1, .int .i64 r] 41) = A := ⟨_, rfl⟩
  obtain ⟨A2, hA2⟩ : ∃ A, A1.alloc (Obj.cells #[.int .i64 (k : Int)] 3) = A := ⟨_, rfl⟩
  obtain ⟨A3, hA3⟩ : ∃ A, A2.alloc (Obj.cells #[.int .i64 (bl : Int)] 3) = A := ⟨_, rfl⟩
  obtain ⟨A4, hA4⟩ : ∃ A, A3.alloc (Obj.cells #[.int .i64 0, .int .i64 0] 24) = A := ⟨_, rfl⟩
  obtain ⟨W0, hW0⟩ : ∃ A, A4.alloc (Obj.cells #[.int .i64 0, .int .i64 0] 24) = A := ⟨_, rfl⟩
  have hSB : SB w A1 m (.slice (some ⟨b1, o1, none⟩) m.sn c1) r := by rw [← hA1]; exact SB.new w m _ r
  have s1 : A1.heap.size = w.heap.size + 1 + 1 := by rw [← hA1, World.size_alloc, World.size_alloc]
  have s2 : A2.heap.size = w.heap.size + 1 + 1 + 1 := by rw [← hA2, World.size_alloc, s1]
  have s3 : A3.heap.size = w.heap.size + 1 + 1 + 1 + 1 := by rw [← hA3, World.size_alloc, s2]
  have s4 : A4.heap.size = w.heap.size + 1 + 1 + 1 + 1 + 1 := by rw [← hA4, World.size_alloc, s3]
  have s5 : W0.heap.size = w.heap.size + 1 + 1 + 1 + 1 + 1 + 1 := by rw [← hW0, World.size_alloc, s4]
  have b12 : Below A1.heap.size A1 A2 := by rw [← hA2]; exact (Below.refl _ _).alloc (Nat.le_refl _) _
  have b23 : Below A2.heap.size A2 A3 := by rw [← hA3]; exact (Below.refl _ _).alloc (Nat.le_refl _) _
  have b34 : Below A3.heap.size A3 A4 := by rw [← hA4]; exact (Below.refl _ _).alloc (Nat.le_refl _) _
  have b45 : Below A4.heap.size A4 W0 := by rw [← hW0]; exact (Below.refl _ _).alloc (Nat.le_refl _) _
  have b35 := b34.trans (b45.mono b34.size)
  have b25 := b23.trans (b35.mono b23.size)
  have b15 := b12.trans (b25.mono b12.size)
  have ka : A2.cell? ⟨w.heap.size + 2, 0, none⟩ = some (.int .i64 k) := by have := cells_new A1 #[.int .i64 (k : Int)] 3 (j := 0) rfl; rw [s1, hA2] at this; exact this
  have kb : A3.cell? ⟨w.heap.size + 3, 0, none⟩ = some (.int .i64 bl) := by have := cells_new A2 #[.int .i64 (bl : Int)] 3 (j := 0) rfl; rw [s2, hA3] at this; exact this
  have t8 : Two A4 (w.heap.size + 4) 0 0 := by have := Two.new A3 24 0 0; rw [s3, hA4] at this; exact this
  have t9 : Two W0 (w.heap.size + 5) 0 0 := by have := Two.new A4 24 0 0; rw [s4, hW0] at this; exact this
  have hSB0 := hSB.below b15
  have hPV : PV w m (.slice (some ⟨b1, o1, none⟩) m.sn c1) r k bl W0 := ⟨hSB0.old, hSB0.mach, hSB0.c0, hSB0.c1, (b25.cell (p := ⟨w.heap.size + 2, 0, none⟩) (by show w.heap.size + 2 < _; omega)).trans ka, (b35.cell (p := ⟨w.heap.size + 3, 0, none⟩) (by show w.heap.size + 3 < _; omega)).trans kb, t8.below b45 (by omega), t9, by omega⟩
  have hal := zst_lit
  have hlz : zst.length = 62 := zM.st_length rfl rfl
  have hlL := hE.length
  have hoL := all_oneCell_toArray hE.one
  have hi0 : (Tryz.prog.info? 93).map (·.size) = some 62 := by kernel_rfl
  have hiL : (Tryz.prog.info? 93).map (·.size) = some L.length := by rw [hlL]; exact hi0
  have hiA : (Tryz.prog.info? 93).map (·.size) = some L.toArray.size := by rw [List.size_toArray, hlL]; exact hi0
  have hS0 := fun (W : World) => SAt.new W zst 93
  have hth := fun (W : World) (g : Nat) (H : SAt W g zst) => H.there 0 L.toArray.size (by rw [List.size_toArray, hlL, hlz]; omega)
  have hfi := fun (W : World) (g : Nat) (H : SAt W g zst) => SAt.fill (L' := L) H (by rw [hlL, hlz])
  obtain ⟨x0, x1⟩ := st_atX m m.axX.ends m.axY.ends k hk
  obtain ⟨x2, x3⟩ := st_atY m m.axX.ends m.axY.ends k hk
  rw [← hLe] at x0 x1 x2 x3
  have hat := fun (W : World) => at_any L k hk _ _ _ _ W x0 x1 x2 x3
  obtain ⟨X, hXe⟩ : ∃ X, m.axX.ends k = X := ⟨_, rfl⟩
  obtain ⟨Y, hYe⟩ : ∃ X, m.axY.ends k = X := ⟨_, rfl⟩
  obtain ⟨Q, hQe⟩ : ∃ Q, agreeB m.sn HX HY m.SX m.SY r = Q := ⟨_, rfl⟩
  have hQ : PLift (agreeB m.sn HX HY m.SX m.SY r = Q) := ⟨hQe⟩
  simp only [hXe] at hbX hat ⊢
  simp only [hYe] at hbY hat ⊢
  simp only [hQe]
  clear hQe
  have hLe' : PLift (L = m.st (crsL m.axX.ends 13) (crsL m.axY.ends 13)) := ⟨hLe⟩
  clear hLe
  replace hXe : PLift (m.axX.ends k = X) := ⟨hXe⟩
  replace hYe : PLift (m.axY.ends k = Y) := ⟨hYe⟩
  clear hi0 hE x0 x1 x2 x3 hSB hSB0 b12 b23 b34 b45 b35 b25 b15 ka kb t8 t9 hst hbX0 hbY0
  generalize zst = Z at *
  go_enter Tryz.func19, Tryz.ntmps19
  go_wp2_with fail
  try rw [hA1, hA2, hA3, hA4, hW0]
  clear hA1 hA2 hA3 hA4 hW0 s1 s2 s3 s4 s5
  rename_i Q' K hKK
  refine (fun (fin : ∀ (g : Nat) (V : World), PV w m (.slice (some ⟨b1, o1, none⟩) m.sn c1) r k bl V → SAt V g L → w.heap.size + 6 ≤ g → g < V.heap.size → Exit.then K Q' Exit.normal ((?F : Nat → Act) g) V) => ?leafs) ?fin
  case leafs =>
    refine wp_region_late [] (fun w9 => PV w m (.slice (some ⟨b1, o1, none⟩) m.sn c1) r k bl w9) (fun w9 => True) (by kernel_rfl) ?_ (fun hHeld => ?_)
    · (exact ⟨hPV.drew, trivial⟩)
    generalize W0.drew = V1 at hHeld ⊢
    refine tk2 0 rfl (by (intro w9 hSw; obtain ⟨z0, z1, z2, z3, z4, z5, z6, z7, z8, z9⟩ := hSw.mach; clear hSw; go_simp) <;> with_reducible rfl) hHeld ?_
    refine tk2 1 rfl (by (intro w9 hSw; have z0 := hSw.c0; have z1 := hSw.c1; clear hSw; go_simp) <;> with_reducible rfl) hHeld ?_
    refine tk2 2 rfl (by (intro w9 hSw; obtain ⟨z0, z1, z2, z3, z4, z5, z6, z7, z8, z9⟩ := hSw.mach; clear hSw; go_simp) <;> with_reducible rfl) hHeld ?_
    refine wpAnyP_ready (rs := [3, 16]) (by kernel_rfl) (by simp) ?_
    refine AllReadyP.cons (o := _) rfl (fun K hK => ?_) (AllReadyP.cons (o := _) rfl (fun K hK => ?_) AllReadyP.nil)
    · go_simp
      (go_at_call 47; with_reducible refine (hif _ hHeld.1.old).mono ?_; rintro e w3 ⟨rfl, hb3⟩)
      refine hK.out _ _ ?_ (fun hHeld => ?_)
      · (exact ⟨hHeld.1.below hb3, trivial⟩)
      clear hK K
      (try simp only [Act.put, xpA, xpZ, xpS])
      refine tk1 4 rfl hHeld ?_
      refine tk3 5 rfl (by (intro w9 hSw; have z0 := hSw.ka; clear hSw; go_simp) <;> with_reducible rfl) hHeld ?_
      refine wpAnyP_ready (rs := [6, 16]) (by kernel_rfl) (by simp) ?_
      refine AllReadyP.cons (o := _) rfl (fun K hK => ?_) (AllReadyP.cons (o := _) rfl (fun K hK => ?_) AllReadyP.nil)
      · go_simp
        (go_at_call 49; with_reducible refine (hwa _).mono ?_; rintro e w6 ⟨rfl, rfl⟩)
        refine hK.out _ _ ?_ (fun hHeld => ?_)
        · (exact hHeld)
        clear hK K
        (try simp only [Act.put, xpA, xpZ, xpS])
        refine tk1 7 rfl hHeld ?_
        refine tk1 8 rfl hHeld ?_
        refine tk3 9 rfl (by (intro w9 hSw; have z0 := hSw.kb; clear hSw; go_simp) <;> with_reducible rfl) hHeld ?_
        refine wpAnyP_ready (rs := [10, 16]) (by kernel_rfl) (by simp) ?_
        refine AllReadyP.cons (o := _) rfl (fun K hK => ?_) (AllReadyP.cons (o := _) rfl (fun K hK => ?_) AllReadyP.nil)
        · go_simp
          (go_at_call 49; with_reducible refine (hwb _).mono ?_; rintro e w6 ⟨rfl, rfl⟩)
          refine hK.out _ _ ?_ (fun hHeld => ?_)
          · (exact hHeld)
          clear hK K
          (try simp only [Act.put, xpA, xpZ, xpS])
          refine tk1 11 rfl hHeld ?_
          refine wpAnyP_ready (rs := [12, 16]) (by kernel_rfl) (by simp) ?_
          refine AllReadyP.cons (o := _) rfl (fun K hK => ?_) (AllReadyP.cons (o := _) rfl (fun K hK => ?_) AllReadyP.nil)
          · go_simp
            (go_at_call 46; with_reducible refine (hC _ hHeld.1.old).mono ?_; rintro e w12 ⟨rfl, hb12⟩)
            refine hK.out _ _ ?_ (fun hHeld => ?_)
            · (exact ⟨hHeld.1.below hb12, trivial⟩)
            clear hK K
            (try simp only [Act.put, xpA, xpZ, xpS])
            refine tk1 13 rfl hHeld ?_
            refine tk1 14 rfl hHeld ?_
            refine tk1 15 rfl hHeld ?_
            refine rd1 16 rfl (fun K hK => ?_)
            go_simp
            (try simp only [hal])
            have hZ := hS0 w12
            have hgz := hHeld.1.big
            have hZl : w12.heap.size < (w12.alloc (Obj.cells Z.toArray 93)).heap.size := by rw [World.size_alloc]; omega
            refine hK.out _ _ ?_ (fun hHeld => ?_)
            · (exact ⟨hHeld.1.alloc _, trivial⟩)
            clear hK K
            (try simp only [Act.put, xpA, xpZ, xpS])
            refine rd1 17 rfl (fun K hK => ?_)
            refine step_store_mid rfl 93 _ _ rfl w12.heap.size 0 L.toArray rfl rfl (hth _ _ hZ) hiA hoL ?_
            have hL5 := hfi _ _ hZ
            have hK5 := hHeld.1.put hgz L
            replace hZl : w12.heap.size < _ := Nat.lt_of_lt_of_eq hZl (size_setCells w12.heap.size L 0 _).symm
            refine hK.out _ _ ?_ (fun hHeld => ?_)
            · (exact ⟨hK5, trivial⟩)
            clear hK K
            (try simp only [Act.put, xpA, xpZ, xpS])
            refine tk1 18 rfl hHeld ?_
            refine wpAnyP_done (by kernel_rfl) ?_ _
            (try simp only [Act.put, List.getElem_toArray, List.getElem_cons_zero, List.getElem_cons_succ, xpA, xpZ, xpS])
            have hH5 := hHeld.1
            clear hHeld
            obtain ⟨gg, hgg⟩ : ∃ x, w12.heap.size = x := ⟨_, rfl⟩
            simp only [hgg] at hH5 hL5 hgz hZl ⊢
            exact fin gg _ hH5 hL5 hgz hZl
          · go_simp
            (try simp only [hal])
            have hZ := hS0 w3
            have hgz := hHeld.1.big
            have hZl : w3.heap.size < (w3.alloc (Obj.cells Z.toArray 93)).heap.size := by rw [World.size_alloc]; omega
            refine hK.out _ _ ?_ (fun hHeld => ?_)
            · (exact ⟨hHeld.1.alloc _, trivial⟩)
            clear hK K
            (try simp only [Act.put, xpA, xpZ, xpS])
            refine rd1 12 rfl (fun K hK => ?_)
            go_simp
            (go_at_call 46; with_reducible refine (hC _ hHeld.1.old).mono ?_; rintro e w12 ⟨rfl, hb12⟩)
            replace hZ := hZ.below hb12 hZl
            replace hZl := Nat.lt_of_lt_of_le hZl hb12.size
            refine hK.out _ _ ?_ (fun hHeld => ?_)
            · (exact ⟨hHeld.1.below hb12, trivial⟩)
            clear hK K
            (try simp only [Act.put, xpA, xpZ, xpS])
            refine tk1 13 rfl hHeld ?_
            refine tk1 14 rfl hHeld ?_
            refine tk1 15 rfl hHeld ?_
            refine rd1 17 rfl (fun K hK => ?_)
            refine step_store_mid rfl 93 _ _ rfl w3.heap.size 0 L.toArray rfl rfl (hth _ _ hZ) hiA hoL ?_
            have hL5 := hfi _ _ hZ
            have hK5 := hHeld.1.put hgz L
            replace hZl : w3.heap.size < _ := Nat.lt_of_lt_of_eq hZl (size_setCells w3.heap.size L 0 _).symm
            refine hK.out _ _ ?_ (fun hHeld => ?_)
            · (exact ⟨hK5, trivial⟩)
            clear hK K
            (try simp only [Act.put, xpA, xpZ, xpS])
            refine tk1 18 rfl hHeld ?_
            refine wpAnyP_done (by kernel_rfl) ?_ _
            (try simp only [Act.put, List.getElem_toArray, List.getElem_cons_zero, List.getElem_cons_succ, xpA, xpZ, xpS])
            have hH5 := hHeld.1
            clear hHeld
            obtain ⟨gg, hgg⟩ : ∃ x, w3.heap.size = x := ⟨_, rfl⟩
            simp only [hgg] at hH5 hL5 hgz hZl ⊢
            exact fin gg _ hH5 hL5 hgz hZl
        · go_simp
          (try simp only [hal])
          have hZ := hS0 w3
          have hgz := hHeld.1.big
          have hZl : w3.heap.size < (w3.alloc (Obj.cells Z.toArray 93)).heap.size := by rw [World.size_alloc]; omega
          refine hK.out _ _ ?_ (fun hHeld => ?_)
          · (exact ⟨hHeld.1.alloc _, trivial⟩)
          clear hK K
          (try simp only [Act.put, xpA, xpZ, xpS])
          refine rd1 10 rfl (fun K hK => ?_)
          go_simp
          (go_at_call 49; with_reducible refine (hwb _).mono ?_; rintro e w6 ⟨rfl, rfl⟩)
          refine hK.out _ _ ?_ (fun hHeld => ?_)
          · (exact hHeld)
          clear hK K
          (try simp only [Act.put, xpA, xpZ, xpS])
          refine tk1 11 rfl hHeld ?_
          refine rd1 12 rfl (fun K hK => ?_)
          go_simp
          (go_at_call 46; with_reducible refine (hC _ hHeld.1.old).mono ?_; rintro e w12 ⟨rfl, hb12⟩)
          replace hZ := hZ.below hb12 hZl
          replace hZl := Nat.lt_of_lt_of_le hZl hb12.size
          refine hK.out _ _ ?_ (fun hHeld => ?_)
          · (exact ⟨hHeld.1.below hb12, trivial⟩)
          clear hK K
          (try simp only [Act.put, xpA, xpZ, xpS])
          refine tk1 13 rfl hHeld ?_
          refine tk1 14 rfl hHeld ?_
          refine tk1 15 rfl hHeld ?_
          refine rd1 17 rfl (fun K hK => ?_)
          refine step_store_mid rfl 93 _ _ rfl w3.heap.size 0 L.toArray rfl rfl (hth _ _ hZ) hiA hoL ?_
          have hL5 := hfi _ _ hZ
          have hK5 := hHeld.1.put hgz L
          replace hZl : w3.heap.size < _ := Nat.lt_of_lt_of_eq hZl (size_setCells w3.heap.size L 0 _).symm
          refine hK.out _ _ ?_ (fun hHeld => ?_)
          · (exact ⟨hK5, trivial⟩)
          clear hK K
          (try simp only [Act.put, xpA, xpZ, xpS])
          refine tk1 18 rfl hHeld ?_
          refine wpAnyP_done (by kernel_rfl) ?_ _
          (try simp only [Act.put, List.getElem_toArray, List.getElem_cons_zero, List.getElem_cons_succ, xpA, xpZ, xpS])
          have hH5 := hHeld.1
          clear hHeld
          obtain ⟨gg, hgg⟩ : ∃ x, w3.heap.size = x := ⟨_, rfl⟩
          simp only [hgg] at hH5 hL5 hgz hZl ⊢
          exact fin gg _ hH5 hL5 hgz hZl
      · go_simp
        (try simp only [hal])
        have hZ := hS0 w3
        have hgz := hHeld.1.big
        have hZl : w3.heap.size < (w3.alloc (Obj.cells Z.toArray 93)).heap.size := by rw [World.size_alloc]; omega
        refine hK.out _ _ ?_ (fun hHeld => ?_)
        · (exact ⟨hHeld.1.alloc _, trivial⟩)
        clear hK K
        (try simp only [Act.put, xpA, xpZ, xpS])
        refine rd1 6 rfl (fun K hK => ?_)
        go_simp
        (go_at_call 49; with_reducible refine (hwa _).mono ?_; rintro e w6 ⟨rfl, rfl⟩)
        refine hK.out _ _ ?_ (fun hHeld => ?_)
        · (exact hHeld)
        clear hK K
        (try simp only [Act.put, xpA, xpZ, xpS])
        refine tk1 7 rfl hHeld ?_
        refine tk1 8 rfl hHeld ?_
        refine tk3 9 rfl (by (intro w9 hSw; have z0 := hSw.kb; clear hSw; go_simp) <;> with_reducible rfl) hHeld ?_
        refine rd1 10 rfl (fun K hK => ?_)
        go_simp
        (go_at_call 49; with_reducible refine (hwb _).mono ?_; rintro e w6 ⟨rfl, rfl⟩)
        refine hK.out _ _ ?_ (fun hHeld => ?_)
        · (exact hHeld)
        clear hK K
        (try simp only [Act.put, xpA, xpZ, xpS])
        refine tk1 11 rfl hHeld ?_
        refine rd1 12 rfl (fun K hK => ?_)
        go_simp
        (go_at_call 46; with_reducible refine (hC _ hHeld.1.old).mono ?_; rintro e w12 ⟨rfl, hb12⟩)
        replace hZ := hZ.below hb12 hZl
        replace hZl := Nat.lt_of_lt_of_le hZl hb12.size
        refine hK.out _ _ ?_ (fun hHeld => ?_)
        · (exact ⟨hHeld.1.below hb12, trivial⟩)
        clear hK K
        (try simp only [Act.put, xpA, xpZ, xpS])
        refine tk1 13 rfl hHeld ?_
        refine tk1 14 rfl hHeld ?_
        refine tk1 15 rfl hHeld ?_
        refine rd1 17 rfl (fun K hK => ?_)
        refine step_store_mid rfl 93 _ _ rfl w3.heap.size 0 L.toArray rfl rfl (hth _ _ hZ) hiA hoL ?_
        have hL5 := hfi _ _ hZ
        have hK5 := hHeld.1.put hgz L
        replace hZl : w3.heap.size < _ := Nat.lt_of_lt_of_eq hZl (size_setCells w3.heap.size L 0 _).symm
        refine hK.out _ _ ?_ (fun hHeld => ?_)
        · (exact ⟨hK5, trivial⟩)
        clear hK K
        (try simp only [Act.put, xpA, xpZ, xpS])
        refine tk1 18 rfl hHeld ?_
        refine wpAnyP_done (by kernel_rfl) ?_ _
        (try simp only [Act.put, List.getElem_toArray, List.getElem_cons_zero, List.getElem_cons_succ, xpA, xpZ, xpS])
        have hH5 := hHeld.1
        clear hHeld
        obtain ⟨gg, hgg⟩ : ∃ x, w3.heap.size = x := ⟨_, rfl⟩
        simp only [hgg] at hH5 hL5 hgz hZl ⊢
        exact fin gg _ hH5 hL5 hgz hZl
    · go_simp
      (try simp only [hal])
      have hZ := hS0 V1
      have hgz := hHeld.1.big
      have hZl : V1.heap.size < (V1.alloc (Obj.cells Z.toArray 93)).heap.size := by rw [World.size_alloc]; omega
      refine hK.out _ _ ?_ (fun hHeld => ?_)
      · (exact ⟨hHeld.1.alloc _, trivial⟩)
      clear hK K
      (try simp only [Act.put, xpA, xpZ, xpS])
      refine rd1 3 rfl (fun K hK => ?_)
      go_simp
      (go_at_call 47; with_reducible refine (hif _ hHeld.1.old).mono ?_; rintro e w3 ⟨rfl, hb3⟩)
      replace hZ := hZ.below hb3 hZl
      replace hZl := Nat.lt_of_lt_of_le hZl hb3.size
      refine hK.out _ _ ?_ (fun hHeld => ?_)
      · (exact ⟨hHeld.1.below hb3, trivial⟩)
      clear hK K
      (try simp only [Act.put, xpA, xpZ, xpS])
      refine tk1 4 rfl hHeld ?_
      refine tk3 5 rfl (by (intro w9 hSw; have z0 := hSw.ka; clear hSw; go_simp) <;> with_reducible rfl) hHeld ?_
      refine rd1 6 rfl (fun K hK => ?_)
      go_simp
      (go_at_call 49; with_reducible refine (hwa _).mono ?_; rintro e w6 ⟨rfl, rfl⟩)
      refine hK.out _ _ ?_ (fun hHeld => ?_)
      · (exact hHeld)
      clear hK K
      (try simp only [Act.put, xpA, xpZ, xpS])
      refine tk1 7 rfl hHeld ?_
      refine tk1 8 rfl hHeld ?_
      refine tk3 9 rfl (by (intro w9 hSw; have z0 := hSw.kb; clear hSw; go_simp) <;> with_reducible rfl) hHeld ?_
      refine rd1 10 rfl (fun K hK => ?_)
      go_simp
      (go_at_call 49; with_reducible refine (hwb _).mono ?_; rintro e w6 ⟨rfl, rfl⟩)
      refine hK.out _ _ ?_ (fun hHeld => ?_)
      · (exact hHeld)
      clear hK K
      (try simp only [Act.put, xpA, xpZ, xpS])
      refine tk1 11 rfl hHeld ?_
      refine rd1 12 rfl (fun K hK => ?_)
      go_simp
      (go_at_call 46; with_reducible refine (hC _ hHeld.1.old).mono ?_; rintro e w12 ⟨rfl, hb12⟩)
      replace hZ := hZ.below hb12 hZl
      replace hZl := Nat.lt_of_lt_of_le hZl hb12.size
      refine hK.out _ _ ?_ (fun hHeld => ?_)
      · (exact ⟨hHeld.1.below hb12, trivial⟩)
      clear hK K
      (try simp only [Act.put, xpA, xpZ, xpS])
      refine tk1 13 rfl hHeld ?_
      refine tk1 14 rfl hHeld ?_
      refine tk1 15 rfl hHeld ?_
      refine rd1 17 rfl (fun K hK => ?_)
      refine step_store_mid rfl 93 _ _ rfl V1.heap.size 0 L.toArray rfl rfl (hth _ _ hZ) hiA hoL ?_
      have hL5 := hfi _ _ hZ
      have hK5 := hHeld.1.put hgz L
      replace hZl : V1.heap.size < _ := Nat.lt_of_lt_of_eq hZl (size_setCells V1.heap.size L 0 _).symm
      refine hK.out _ _ ?_ (fun hHeld => ?_)
      · (exact ⟨hK5, trivial⟩)
      clear hK K
      (try simp only [Act.put, xpA, xpZ, xpS])
      refine tk1 18 rfl hHeld ?_
      refine wpAnyP_done (by kernel_rfl) ?_ _
      (try simp only [Act.put, List.getElem_toArray, List.getElem_cons_zero, List.getElem_cons_succ, xpA, xpZ, xpS])
      have hH5 := hHeld.1
      clear hHeld
      obtain ⟨gg, hgg⟩ : ∃ x, V1.heap.size = x := ⟨_, rfl⟩
      simp only [hgg] at hH5 hL5 hgz hZl ⊢
      exact fin gg _ hH5 hL5 hgz hZl
  case fin =>
    intro g V hX hS5 hg1 hg2
    go_wp2
    obtain ⟨W2, hW2⟩ : ∃ A, (V.alloc (Obj.cells #[.int .i64 80, .int .i64 (-80)] 24)).alloc (Obj.cells #[.int .i64 80, .int .i64 (-80), .int .i64 80, .int .i64 (-80)] 99) = A := ⟨_, rfl⟩
    have hz2 : W2.heap.size = V.heap.size + 1 + 1 := by rw [← hW2, World.size_alloc, World.size_alloc]
    have hb2 : Below V.heap.size V W2 := by rw [← hW2]; exact ((Below.refl _ _).alloc (Nat.le_refl _) _).alloc (by rw [World.size_alloc]; omega) _
    have hBx : Box4 W2 (V.heap.size + 1) 80 (-80) 80 (-80) := by have := Box4.new (V.alloc (Obj.cells #[.int .i64 80, .int .i64 (-80)] 24)) 99 80 (-80) 80 (-80); rw [World.size_alloc, hW2] at this; exact this
    try rw [hW2]
    obtain ⟨gof, hgof⟩ : ∃ x, V.heap.size + 1 = x := ⟨_, rfl⟩
    obtain ⟨BB, hBB⟩ : ∃ x, V.heap.size + 1 + 1 = x := ⟨_, rfl⟩
    have hPW : PW w m (.slice (some ⟨b1, o1, none⟩) m.sn c1) r k bl L g gof BB W2 := ⟨hX.below hb2, hS5.far (hb2.block g hg2), hg1, by omega, by omega, by omega⟩
    have hBV : BB ≤ W2.drew.heap.size := hPW.drew.lb0
    rw [hgof] at hBx
    simp only [hgof]
    clear hX hS5 hW2 hb2
    have hgo := fun (W : World) => agreement_any b1 o1 m.sn c1 sb so r m hsa.down Q W
    unfold Mach.val at hgo
    refine wp_region_late [] (fun w9 => PW w m (.slice (some ⟨b1, o1, none⟩) m.sn c1) r k bl L g gof BB w9 ∧ Box4 w9 gof 80 (-80) 80 (-80)) (fun w9 => True) (by kernel_rfl) ?_ (fun hHeld => ?_)
    · (exact ⟨⟨hPW.drew, hBx.drew⟩, trivial⟩)
    generalize W2.drew = V6 at *
    refine tk2 0 rfl (by (intro w9 hSw; obtain ⟨z0, z1, z2, z3, z4, z5, z6, z7, z8, z9⟩ := hSw.1.pv.mach; clear hSw; go_simp) <;> with_reducible rfl) hHeld ?_
    refine tk2 1 rfl (by (intro w9 hSw; have z0 := hSw.1.pv.c0; have z1 := hSw.1.pv.c1; clear hSw; go_simp) <;> with_reducible rfl) hHeld ?_
    refine tk0 3 (.agg L.toArray) rfl (yieldsIf_load_mid (by rfl) 93 _ rfl g 0 rfl L _ (fun w9 hSw => hSw.1.st.c) Tryz.underlying93 rfl hiL) hHeld ?_
    (try simp only [Act.put, xpA, xpZ, xpS])
    refine tk2 4 rfl (by (intro w9 hSw; have z0 := hSw.1.pv.ka; clear hSw; go_simp) <;> with_reducible rfl) hHeld ?_
    refine tk1 8 rfl hHeld ?_
    refine rd1 2 rfl (fun K hK => ?_)
    go_simp
    (go_at_call 50; with_reducible refine (hgo _).mono ?_; rintro e w3 ⟨rfl, hb3, t0, t1, hg3⟩)
    have hl3 := hg3.lt
    refine hK.out _ _ ?_ (fun hHeld => ?_)
    · (exact ⟨⟨hHeld.1.1.below hb3, hHeld.1.2.below hb3 hHeld.1.1.lb⟩, trivial⟩)
    clear hK K
    (try simp only [Act.put, xpA, xpZ, xpS])
    refine rd1 5 rfl (fun K hK => ?_)
    go_simp
    (go_at_call 52; with_reducible refine (hat _).mono ?_; rintro e w5 ⟨rfl, hb5⟩)
    refine hK.out _ _ ?_ (fun hHeld => ?_)
    · (exact ⟨⟨hHeld.1.1.below hb5, hHeld.1.2.below hb5 hHeld.1.1.lb⟩, trivial⟩)
    clear hK K
    (try simp only [Act.put, xpA, xpZ, xpS])
    refine rd1 6 rfl (fun K hK => ?_)
    go_simp
    have hz3 := hb3.size
    have hz5 := hb5.size
    have hO5 := hHeld.1.1.pv.old
    have hg5 := hg3.below hb5 hl3
    have hl5 := hg5.lt
    have hT5 : TrialG w5 m.sn sb so m.sc (V6.heap.size + 1) b1 o1 c1 m.SX m.SY HX HY r := ⟨pS.below hO5 lsb, p1.below hO5 l1, (hb5.cell (p := ⟨V6.heap.size + 1, 0, none⟩) (by show V6.heap.size + 1 < _; omega)).trans t0, (hb5.cell (p := ⟨V6.heap.size + 1, 1, none⟩) (by show V6.heap.size + 1 < _; omega)).trans t1, Nat.lt_of_lt_of_le lsb hO5.size, Nat.lt_of_lt_of_le l1 hO5.size, by omega, q3, by omega, q1, q2, hsS, q5⟩
    (go_at_call 51; refine (callsIn_wide.1 (passing_list (.slice (some ⟨sb, so, none⟩) m.sn m.sc) (.func (.func 91) #[] #[.pointer (some ⟨V6.heap.size + 1, 0, none⟩)]) (V6.heap.size + 1 + 1 + 1) 0 3 Q X.1 X.2 Y.1 Y.2 w5 hbX.1 hbX.2.1 hbY.1 hbY.2.1 hbX.2.2 hbY.2.2 hl5 hg5 (by omega) (by omega) (fun W j x y hg hgm hj hx hy => by
      rw [← hQ.down] at hgm ⊢
      exact doesA_any m.sn sb so m.sc (V6.heap.size + 1) b1 o1 c1 (V6.heap.size + 1 + 1 + 1) j m.SX m.SY HX HY r x y hx hy W (hT5.grown hg (by have := hHeld.1.1.lsz; omega) (by have := hHeld.1.1.lsz; omega) (by omega)) hgm hj (by have := hHeld.1.1.lsz; omega) (by have := hHeld.1.1.lsz; omega) (by omega)))).mono ?_; rintro e w6 ⟨la, lc, PL, rfl, hPn, hPL, hrow, hg6, hgr6⟩)
    have hb6 : Below (gof + 1) w5 w6 := (Below.refl _ _).grown hgr6 (by have := hHeld.1.1.lb; omega) fun x e => by cases e; have := hHeld.1.1.lb0; omega
    replace hrow := hrow.mono hHeld.1.1.lb0
    refine hK.out _ _ ?_ (fun hHeld => ?_)
    · (exact ⟨⟨hHeld.1.1.far hb6, hHeld.1.2.below hb6 (Nat.lt_succ_self _)⟩, trivial⟩)
    clear hK K
    (try simp only [Act.put, xpA, xpZ, xpS])
    refine tk1 7 rfl hHeld ?_
    refine wpAnyP_done (by kernel_rfl) ?_ _
    (try simp only [Act.put, List.getElem_toArray, List.getElem_cons_zero, List.getElem_cons_succ, xpA, xpZ, xpS])
    have hP6 := hHeld.1
    clear hHeld
    have hIn : ∀ x y, (x, y) ∈ PL → (-48 ≤ x ∧ x ≤ 48) ∧ (-48 ≤ y ∧ y ≤ 48) := fun x y hxy => by
      have := ((hPL x y).1 hxy).1
      unfold InBox at this
      omega
    go_wp2_with fail
    go_loopw [51] (fun i wr => ∃ j : Nat, j ≤ PL.length ∧ i = .int .i64 j ∧ PW w m (.slice (some ⟨b1, o1, none⟩) m.sn c1) r k bl L g gof BB wr ∧ Box4 wr gof (hullL (PL.take j)).1 (hullL (PL.take j)).2.1 (hullL (PL.take j)).2.2.1 (hullL (PL.take j)).2.2.2 ∧ wr.ownsRow BB 43 2 (.slice la PL.length lc) PL.length (spCells PL)) (fun i _ => PL.length - (intOf i).toNat)
    case atStart => exact ⟨0, Nat.zero_le _, rfl, hP6.1, hP6.2, hrow⟩
    case round =>
      obtain ⟨j, hj, rfl, hPr, hBr, hown⟩ := hrel
      by_cases hlt : j < PL.length
      · have hlt' : (j : Int) < (PL.length : Int) := by omega
        obtain ⟨gq, c, e⟩ := ownsRow_pos (by omega) hown
        have ha : la = some ⟨gq, 0, none⟩ := by cases e; rfl
        clear e c
        subst ha
        have k0 := hown.cellAt (j * 2) (by omega)
        have k1 := hown.cellAt (j * 2 + 1) (by omega)
        have hpj : PL[j]? = some PL[j] := List.getElem?_eq_getElem hlt
        rw [(spCells_at PL j _ hpj).1] at k0
        rw [(spCells_at PL j _ hpj).2] at k1
        have htk : hullL (PL.take (j + 1)) = (min (hullL (PL.take j)).1 PL[j].1, max (hullL (PL.take j)).2.1 PL[j].1, min (hullL (PL.take j)).2.2.1 PL[j].2, max (hullL (PL.take j)).2.2.2 PL[j].2) := by
          rw [List.take_add_one, hpj]; exact hullL_snoc _ _
        have hpb := hIn PL[j].1 PL[j].2 (List.getElem_mem hlt)
        clear hpj
        generalize PL[j] = p at k0 k1 htk hpb
        generalize hullL (PL.take j) = H at hBr htk
        have hax := fun W => around_any p.1 0 (by omega) (by omega) (by omega) (by omega) W
        have hay := fun W => around_any p.2 0 (by omega) (by omega) (by omega) (by omega) W
        simp only [Int.sub_zero, Int.add_zero] at hax hay
        have hwi := fun W => with_any H.1 H.2.1 H.2.2.1 H.2.2.2 p.1 p.1 p.2 p.2 W
        go_wp2_with fail
        obtain ⟨W8, hW8⟩ : ∃ A, wr.alloc (Obj.cells #[.int .i64 p.1, .int .i64 p.2] 43) = A := ⟨_, rfl⟩
        have hb8 : Below wr.heap.size wr W8 := by rw [← hW8]; exact (Below.refl _ _).alloc (Nat.le_refl _) _
        have hz8 : W8.heap.size = wr.heap.size + 1 := by rw [← hW8, World.size_alloc]
        have h28 : Two W8 wr.heap.size p.1 p.2 := by rw [← hW8]; exact Two.new wr 43 p.1 p.2
        obtain ⟨gp, hgp⟩ : ∃ x, wr.heap.size = x := ⟨_, rfl⟩
        have hP9 : P9 w m (.slice (some ⟨b1, o1, none⟩) m.sn c1) r k bl L g gof BB (some ⟨gq, 0, none⟩) PL lc gp p.1 p.2 W8 := ⟨hPr.below hb8, by rw [← hgp]; exact h28, by have := hPr.lb; omega, by omega, ownsRow_below hown hb8⟩
        have hBx := hBr.below hb8 hPr.lb
        try rw [hW8]
        try simp only [hgp]
        clear hPr hBr hown hW8 hb8 h28 k0 k1 hP6 hrow
        refine wp_region_late [9] (fun w9 => P9 w m (.slice (some ⟨b1, o1, none⟩) m.sn c1) r k bl L g gof BB (some ⟨gq, 0, none⟩) PL lc gp p.1 p.2 w9) (fun w9 => Box4 w9 gof H.1 H.2.1 H.2.2.1 H.2.2.2) (by kernel_rfl) ?_ (fun hHeld => ?_)
        · (exact ⟨hP9.drew, hBx.drew⟩)
        generalize W8.drew = V9 at hHeld ⊢
        refine wpAnyP_take 1 (i := 0) (v := ?_) rfl (by kernel_rfl) (by kernel_rfl) (by kernel_rfl) (by kernel_rfl) (by rfl) (waits_one [] (by kernel_rfl)) (fun _ _ _ h => h) (Or.inl ⟨by rfl, ?_⟩) hHeld ?_
        rotate_left 1
        · ((intro w9 hSw; have z0 := hSw.2.k0; have z1 := hSw.2.k1; have z2 := hSw.2.k2; have z3 := hSw.2.k3; clear hSw; go_simp) <;> with_reducible rfl)
        (try simp only [Act.put, xpA, xpZ, xpS])
        refine tk1 1 rfl hHeld ?_
        refine tk2 2 rfl (by (intro w9 hSw; have z0 := hSw.two.k0; clear hSw; go_simp) <;> with_reducible rfl) hHeld ?_
        refine tk1 4 rfl hHeld ?_
        refine tk2 5 rfl (by (intro w9 hSw; have z0 := hSw.two.k1; clear hSw; go_simp) <;> with_reducible rfl) hHeld ?_
        refine rd1 3 rfl (fun K hK => ?_)
        go_simp
        (go_at_call 54; with_reducible refine (hax _).mono ?_; rintro e w3 ⟨rfl, hb3⟩)
        refine hK.out _ _ ?_ (fun hHeld => ?_)
        · (exact ⟨hHeld.1.below hb3, hHeld.2.below hb3 hHeld.1.pw.lb⟩)
        clear hK K
        (try simp only [Act.put, xpA, xpZ, xpS])
        refine rd1 6 rfl (fun K hK => ?_)
        go_simp
        (go_at_call 54; with_reducible refine (hay _).mono ?_; rintro e w4 ⟨rfl, hb4⟩)
        refine hK.out _ _ ?_ (fun hHeld => ?_)
        · (exact ⟨hHeld.1.below hb4, hHeld.2.below hb4 hHeld.1.pw.lb⟩)
        clear hK K
        (try simp only [Act.put, xpA, xpZ, xpS])
        refine tk1 7 rfl hHeld ?_
        refine rd1 8 rfl (fun K hK => ?_)
        go_simp
        (go_at_call 53; with_reducible refine (hwi _).mono ?_; rintro e w5 ⟨rfl, hb5⟩)
        refine hK.out _ _ ?_ (fun hHeld => ?_)
        · (exact ⟨hHeld.1.below hb5, hHeld.2.below hb5 hHeld.1.pw.lb⟩)
        clear hK K
        (try simp only [Act.put, xpA, xpZ, xpS])
        refine wpAnyP_ready (rs := [9]) (by kernel_rfl) (by simp) ?_
        refine AllReadyP.behind (o := _) rfl (by kernel_rfl) (fun K hK => ?_) AllReadyP.nil
        · obtain ⟨c0, c1, c2, c3, x0, x1, x2, x3⟩ := hHeld.2
          go_simp
          clear c0 c1 c2 c3 x0 x1 x2 x3
          have hK1 := hHeld.1.put (min H.1 p.1) (max H.2.1 p.1) (min H.2.2.1 p.2) (max H.2.2.2 p.2)
          have hB := (hHeld.2.set01 (min H.1 p.1) (max H.2.1 p.1)).set23 (min H.2.2.1 p.2) (max H.2.2.2 p.2)
          refine hK.out _ _ ?_ (fun hHeld => ?_)
          · (exact hK1)
          clear hK K
          (try simp only [Act.put, xpA, xpZ, xpS])
          refine wpAnyP_done (by kernel_rfl) ?_ _
          (try simp only [Act.put, List.getElem_toArray, List.getElem_cons_zero, List.getElem_cons_succ, xpA, xpZ, xpS])
          have hP9 := hHeld
          clear hHeld hK1
          generalize (((w5.setCell ⟨gof, 0, none⟩ (.int .i64 (min H.1 p.1))).setCell ⟨gof, 1, none⟩ (.int .i64 (max H.2.1 p.1))).setCell ⟨gof, 2, none⟩ (.int .i64 (min H.2.2.1 p.2))).setCell ⟨gof, 3, none⟩ (.int .i64 (max H.2.2.2 p.2)) = W9 at hP9 hB ⊢
          go_wp2
          go_roundw
          case rel => exact ⟨j + 1, by omega, by go_num, hP9.pw, by rw [htk]; exact hB, hP9.row⟩
          case measure => simp [intOf]; omega
      · obtain rfl : j = PL.length := by omega
        rw [List.take_of_length_le (Nat.le_refl _)] at hBr
        have hbd := (hullL_spec PL.length PL rfl (fun p hp => hIn p.1 p.2 hp)).1
        obtain ⟨W11, hW11⟩ : ∃ A, wr.alloc (Obj.cells #[.int .i64 0, .int .i64 0, .int .i64 0, .int .i64 0] 99) = A := ⟨_, rfl⟩
        have hb11 : Below wr.heap.size wr W11 := by rw [← hW11]; exact (Below.refl _ _).alloc (Nat.le_refl _) _
        have hz11 : W11.heap.size = wr.heap.size + 1 := by rw [← hW11, World.size_alloc]
        have hX11 : Box4 W11 wr.heap.size 0 0 0 0 := by rw [← hW11]; exact Box4.new wr 99 0 0 0 0
        have hB11 := hBr.below hb11 hPr.lb
        have hP11 := hPr.below hb11
        have y1 := hPr.lb
        have y2 := hPr.g1
        have y3 := hPr.g2
        have hP1 : P1 w W11 m L g (w.heap.size + 1 + 1) gof (w.heap.size + 1 + 1 + 1) wr.heap.size k bl (hullL PL) W11 := ⟨hP11.pv.old, hP11.st, hP11.pv.ka, hB11.k0, hB11.k1, hB11.k2, hB11.k3, hP11.pv.kb, by omega, by omega, by omega, by omega, by omega, by omega, by omega, by omega, by omega, by omega, Nat.le_refl _, fun _ _ _ => rfl⟩
        rw [hLe'.down] at hP1
        have hpt := hP11.pv
        clear hPr hBr hown hP6 hrow hB11 hP11 hb11
        by_cases hcan : canW m k (hullL PL)
        · have hat := attempt_yesP m m.axX.ends m.axY.ends g (w.heap.size + 1 + 1) gof (w.heap.size + 1 + 1 + 1) wr.heap.size k bl (hullL PL) 0 0 0 0 w W11 hok h hk hbl hbd hP1 hX11 hcan.1 hcan.2
          go_wp2_with (go_at_call 55; with_reducible refine hat.mono ?_; rintro e w12 ⟨rfl, hL2, hB12⟩)
          have ht8 : Two w12 (w.heap.size + 1 + 1 + 1 + 1) 0 0 := hpt.t8.far (hL2.kept _ (by omega) (by omega))
          have ht9 : Two w12 (w.heap.size + 1 + 1 + 1 + 1 + 1) 0 0 := hpt.t9.far (hL2.kept _ (by omega) (by omega))
          replace ht8 := ht8.drew
          replace ht9 := ht9.drew
          clear hP1 hX11 hat hpt
          refine wp_region_late [] (fun w9 => Box4 w9 wr.heap.size (((wX m k (hullL PL)).ends bl).1) (((wX m k (hullL PL)).ends bl).2) (((wY m k (hullL PL)).ends bl).1) (((wY m k (hullL PL)).ends bl).2) ∧ Below w.heap.size w w9) (fun w9 => True) (by kernel_rfl) ?_ (fun hHeld => ?_)
          · (exact ⟨⟨hB12.drew, hL2.old.drew⟩, trivial⟩)
          generalize w12.drew = V15 at hHeld ht8 ht9 ⊢
          refine tk1 0 rfl hHeld ?_
          refine tk2 1 rfl (by (intro w9 hSw; obtain ⟨z0, z1, z2, z3, z4, z5, z6, z7⟩ := hSw.1; clear hSw; go_simp) <;> with_reducible rfl) hHeld ?_
          refine tk1 2 rfl hHeld ?_
          refine tk2 3 rfl (by (intro w9 hSw; obtain ⟨z0, z1, z2, z3, z4, z5, z6, z7⟩ := hSw.1; clear hSw; go_simp) <;> with_reducible rfl) hHeld ?_
          refine rd1 4 rfl (fun K hK => ?_)
          have c0 := ht8.k0
          have c1 := ht8.k1
          have x0 := ht8.f0
          have x1 := ht8.f1
          go_simp
          clear c0 c1 x0 x1
          have hK4 : Box4 _ wr.heap.size (((wX m k (hullL PL)).ends bl).1) (((wX m k (hullL PL)).ends bl).2) (((wY m k (hullL PL)).ends bl).1) (((wY m k (hullL PL)).ends bl).2) ∧ Below w.heap.size w _ := ⟨hHeld.1.1.far ((Below.heap_setCell _ ⟨w.heap.size + 1 + 1 + 1 + 1, 1, none⟩ (.int .i64 (((wX m k (hullL PL)).ends bl).2)) wr.heap.size (by show wr.heap.size ≠ w.heap.size + 1 + 1 + 1 + 1; omega)).trans (Below.heap_setCell _ ⟨w.heap.size + 1 + 1 + 1 + 1, 0, none⟩ (.int .i64 (((wX m k (hullL PL)).ends bl).1)) wr.heap.size (by show wr.heap.size ≠ w.heap.size + 1 + 1 + 1 + 1; omega))), (hHeld.1.2.setCell (p := ⟨w.heap.size + 1 + 1 + 1 + 1, 0, none⟩) (by show w.heap.size ≤ w.heap.size + 1 + 1 + 1 + 1; omega) (.int .i64 (((wX m k (hullL PL)).ends bl).1))).setCell (p := ⟨w.heap.size + 1 + 1 + 1 + 1, 1, none⟩) (by show w.heap.size ≤ w.heap.size + 1 + 1 + 1 + 1; omega) (.int .i64 (((wX m k (hullL PL)).ends bl).2))⟩
          replace ht8 := ht8.set01 (((wX m k (hullL PL)).ends bl).1) (((wX m k (hullL PL)).ends bl).2)
          replace ht9 := ht9.far2 (P := w.heap.size + 1 + 1 + 1 + 1) (by omega) (.int .i64 (((wX m k (hullL PL)).ends bl).1)) (.int .i64 (((wX m k (hullL PL)).ends bl).2))
          refine hK.out _ _ ?_ (fun hHeld => ?_)
          · (exact ⟨hK4, trivial⟩)
          clear hK K
          (try simp only [Act.put, xpA, xpZ, xpS])
          refine rd1 5 rfl (fun K hK => ?_)
          have c0 := ht9.k0
          have c1 := ht9.k1
          have x0 := ht9.f0
          have x1 := ht9.f1
          go_simp
          clear c0 c1 x0 x1
          have hK4 : Box4 _ wr.heap.size (((wX m k (hullL PL)).ends bl).1) (((wX m k (hullL PL)).ends bl).2) (((wY m k (hullL PL)).ends bl).1) (((wY m k (hullL PL)).ends bl).2) ∧ Below w.heap.size w _ := ⟨hHeld.1.1.far ((Below.heap_setCell _ ⟨w.heap.size + 1 + 1 + 1 + 1 + 1, 1, none⟩ (.int .i64 (((wY m k (hullL PL)).ends bl).2)) wr.heap.size (by show wr.heap.size ≠ w.heap.size + 1 + 1 + 1 + 1 + 1; omega)).trans (Below.heap_setCell _ ⟨w.heap.size + 1 + 1 + 1 + 1 + 1, 0, none⟩ (.int .i64 (((wY m k (hullL PL)).ends bl).1)) wr.heap.size (by show wr.heap.size ≠ w.heap.size + 1 + 1 + 1 + 1 + 1; omega))), (hHeld.1.2.setCell (p := ⟨w.heap.size + 1 + 1 + 1 + 1 + 1, 0, none⟩) (by show w.heap.size ≤ w.heap.size + 1 + 1 + 1 + 1 + 1; omega) (.int .i64 (((wY m k (hullL PL)).ends bl).1))).setCell (p := ⟨w.heap.size + 1 + 1 + 1 + 1 + 1, 1, none⟩) (by show w.heap.size ≤ w.heap.size + 1 + 1 + 1 + 1 + 1; omega) (.int .i64 (((wY m k (hullL PL)).ends bl).2))⟩
          replace ht9 := ht9.set01 (((wY m k (hullL PL)).ends bl).1) (((wY m k (hullL PL)).ends bl).2)
          replace ht8 := ht8.far2 (P := w.heap.size + 1 + 1 + 1 + 1 + 1) (by omega) (.int .i64 (((wY m k (hullL PL)).ends bl).1)) (.int .i64 (((wY m k (hullL PL)).ends bl).2))
          refine hK.out _ _ ?_ (fun hHeld => ?_)
          · (exact ⟨hK4, trivial⟩)
          clear hK K
          (try simp only [Act.put, xpA, xpZ, xpS])
          refine tk1 6 rfl hHeld ?_
          refine wpAnyP_done (by kernel_rfl) ?_ _
          (try simp only [Act.put, List.getElem_toArray, List.getElem_cons_zero, List.getElem_cons_succ, xpA, xpZ, xpS])
          have hO := hHeld.1.2
          clear hHeld
          generalize (((V15.setCell ⟨w.heap.size + 1 + 1 + 1 + 1, 0, none⟩ (.int .i64 (((wX m k (hullL PL)).ends bl).1))).setCell ⟨w.heap.size + 1 + 1 + 1 + 1, 1, none⟩ (.int .i64 (((wX m k (hullL PL)).ends bl).2))).setCell ⟨w.heap.size + 1 + 1 + 1 + 1 + 1, 0, none⟩ (.int .i64 (((wY m k (hullL PL)).ends bl).1))).setCell ⟨w.heap.size + 1 + 1 + 1 + 1 + 1, 1, none⟩ (.int .i64 (((wY m k (hullL PL)).ends bl).2)) = W15 at hO ht8 ht9 ⊢
          go_wp2
          refine bodyPost_ret (v := .tuple #[.agg #[.int .i64 (((wX m k (hullL PL)).ends bl).1), .int .i64 (((wX m k (hullL PL)).ends bl).2)], .agg #[.int .i64 (((wY m k (hullL PL)).ends bl).1), .int .i64 (((wY m k (hullL PL)).ends bl).2)], .int .i64 0]) (by simp [results, Tryz.results19, go_sem, ht8.k0, ht8.k1, ht9.k0, ht9.k1]) rfl ⟨PL, hPL, .inl ⟨hcan, rfl⟩, hO⟩
        · have hat := attempt_ruleP m m.axX.ends m.axY.ends g (w.heap.size + 1 + 1) gof (w.heap.size + 1 + 1 + 1) wr.heap.size k bl (hullL PL) 0 0 0 0 w W11 hok h hk hbl hbd hP1 hX11 hcan
          go_wp2_with (go_at_call 55; with_reducible refine hat.mono ?_; rintro e w12 ⟨rfl, hL2⟩; have ht8 : Two w12 (w.heap.size + 1 + 1 + 1 + 1) 0 0 := hpt.t8.far (hL2.kept _ (by omega) (by omega)); have ht9 : Two w12 (w.heap.size + 1 + 1 + 1 + 1 + 1) 0 0 := hpt.t9.far (hL2.kept _ (by omega) (by omega)); have a0 := ht8.k0; have a1 := ht8.k1; have a2 := ht8.f0; have a3 := ht8.f1; have a4 := ht9.k0; have a5 := ht9.k1; have a6 := ht9.f0; have a7 := ht9.f1)
          have hO := (((hL2.old.setCell (p := ⟨w.heap.size + 1 + 1 + 1 + 1, 0, none⟩) (by show w.heap.size ≤ w.heap.size + 1 + 1 + 1 + 1; omega) (.int .i64 0)).setCell (p := ⟨w.heap.size + 1 + 1 + 1 + 1, 1, none⟩) (by show w.heap.size ≤ w.heap.size + 1 + 1 + 1 + 1; omega) (.int .i64 0)).setCell (p := ⟨w.heap.size + 1 + 1 + 1 + 1 + 1, 0, none⟩) (by show w.heap.size ≤ w.heap.size + 1 + 1 + 1 + 1 + 1; omega) (.int .i64 0)).setCell (p := ⟨w.heap.size + 1 + 1 + 1 + 1 + 1, 1, none⟩) (by show w.heap.size ≤ w.heap.size + 1 + 1 + 1 + 1 + 1; omega) (.int .i64 0)
          have hS8 := (ht8.set01 0 0).far2 (P := w.heap.size + 1 + 1 + 1 + 1 + 1) (by omega) (.int .i64 0) (.int .i64 0)
          have hS9 := (ht9.far2 (P := w.heap.size + 1 + 1 + 1 + 1) (by omega) (.int .i64 0) (.int .i64 0)).set01 0 0
          clear a0 a1 a2 a3 a4 a5 a6 a7 ht8 ht9 hL2
          generalize (((w12.setCell ⟨w.heap.size + 1 + 1 + 1 + 1, 0, none⟩ (.int .i64 0)).setCell ⟨w.heap.size + 1 + 1 + 1 + 1, 1, none⟩ (.int .i64 0)).setCell ⟨w.heap.size + 1 + 1 + 1 + 1 + 1, 0, none⟩ (.int .i64 0)).setCell ⟨w.heap.size + 1 + 1 + 1 + 1 + 1, 1, none⟩ (.int .i64 0) = W15 at hO hS8 hS9 ⊢
          refine bodyPost_ret (v := .tuple #[.agg #[.int .i64 0, .int .i64 0], .agg #[.int .i64 0, .int .i64 0], .int .i64 7]) (by simp [results, Tryz.results19, go_sem, hS8.k0, hS8.k1, hS9.k0, hS9.k1]) rfl ⟨PL, hPL, .inr ⟨hcan, rfl⟩, hO⟩
end Go.Proofs.YtjhpklolpmaopaaGreatDoor
namespace Go.Proofs.YtjhpklolpmaopaaGreatDoor
open Go.RowKit
theorem PoR.two {w W : World} {m : Mach} (h : PoR w m W) (o1 o2 : Obj) : PoR w m ((W.alloc o1).alloc o2) :=
 (h.below ((Below.refl _ W).alloc (Nat.le_refl _) o1)).below ((Below.refl _ _).alloc (Nat.le_refl _) o2)
theorem AB.two {W : World} {s : Nat} {x0 x1 z0 z1 : Int} (h : AB W s x0 x1 z0 z1) (o1 o2 : Obj) : AB ((W.alloc o1).alloc o2) s x0 x1 z0 z1 :=
 (h.below ((Below.refl _ W).alloc (Nat.le_refl _) o1)).below ((Below.refl _ _).alloc (Nat.le_refl _) o2)
theorem PoR.new (w : World) (m : Mach) : PoR w m (w.alloc (.cells #[.slice m.sa m.sn m.sc, .int .i64 m.c0, .int .i64 m.c1, .int .i64 m.d0, .int .i64 m.d1, .int .i64 m.w0, .int .i64 m.w1, .int .i64 m.v0, .int .i64 m.v1, .slice m.ra m.rn m.rc] 27)) :=
 ⟨MAt.new w m, (Below.refl _ _).alloc (Nat.le_refl _) _, by rw [World.size_alloc]; omega⟩
end Go.Proofs.YtjhpklolpmaopaaGreatDoor
namespace Go.Proofs.YtjhpklolpmaopaaGreatDoor
open Go.RowKit
end Go.Proofs.YtjhpklolpmaopaaGreatDoor
namespace Go.Proofs.YtjhpklolpmaopaaGreatDoor
open Go.RowKit
set_option maxRecDepth 100000 in
theorem rbutton_any (a1 : Option Addr) (n c1 : Nat) (X Y : Nat → Int) (r : Int) (w : World) (hn : n ≤ 1000) (hp : PSl w (.slice a1 n c1) n X Y) : Calls Tryz.prog 16 #[.agg #[.slice a1 n c1, .int .i64 r]] w fun e w' => e = .returned (.bool (butB n X Y r)) ∧ Below w.heap.size w w' := by
 obtain ⟨W0, hW0⟩ : ∃ W0, w.alloc (Obj.cells #[.slice a1 n c1, .int .i64 r] 41) = W0 := ⟨_, rfl⟩
 have hb0 : Below w.heap.size w W0 := by rw [← hW0]; exact (Below.refl _ _).alloc (Nat.le_refl _) _
 have hsz : W0.heap.size = w.heap.size + 1 := by rw [← hW0, World.size_alloc]
 have c0 : W0.cell? ⟨w.heap.size, 0, none⟩ = some (.slice a1 n c1) := by rw [← hW0]; exact cells_new w _ _ rfl
 have c1' : W0.cell? ⟨w.heap.size, 1, none⟩ = some (.int .i64 r) := by rw [← hW0]; exact cells_new w _ _ rfl
 have hpo := points_any (.slice a1 n c1) n 2 4 X Y 80 (by omega) (by omega) W0 hn (hp.below hb0)
 have hwi := fun (W : World) => in_any r 0 4 W
 unfold butB
 rw [arB_pon2]
 generalize ponB n 2 4 X Y 80 = x at hpo ⊢
 generalize inB r 0 4 = y at hwi ⊢
 go_enter Tryz.func16, Tryz.ntmps16
 cases x
 ·go_wp2_with (first | (go_at_call 27; with_reducible refine hpo.mono ?_; rintro e w1 ⟨rfl, rfl⟩))
  go_ret
  exact ⟨rfl, hb0⟩
 ·go_wp2_with (first | (go_at_call 27; with_reducible refine hpo.mono ?_; rintro e w1 ⟨rfl, rfl⟩) | (go_at_call 25; with_reducible refine (hwi _).mono ?_; rintro e w8 ⟨rfl, rfl⟩))
  go_ret
  exact ⟨rfl, hb0⟩
/-- a list of blanks in memory. -/
def IRow (w : World) (v : Value) (l : List Nat) : Prop := (l = [] ∧ ∃ a c, v = .slice a 0 c) ∨ ∃ g c, v = .slice (some ⟨g, 0, none⟩) l.length c ∧ g < w.heap.size ∧ ∀ i (h : i < l.length), w.cell? ⟨g, i, none⟩ = some (.int .i64 ((l[i] : Nat) : Int))
theorem IRow.below {w w' : World} {v : Value} {l : List Nat} (h : IRow w v l) (hb : Below w.heap.size w w') : IRow w' v l := by
 rcases h with h | ⟨g, c, h1, h2, h3⟩
 ·exact .inl h
 ·exact .inr ⟨g, c, h1, Nat.lt_of_lt_of_le h2 hb.size, fun i hi => (hb.cell (p := ⟨g, i, none⟩) h2).trans (h3 i hi)⟩
theorem IRow.of_own {w : World} {B : Nat} {v : Value} {l : List Nat} (h : w.ownsRow B 3 1 v l.length (iCells l)) : IRow w v l := by
 by_cases hl : l.length = 0
 ·obtain ⟨a, c, rfl⟩ := ownsRow_slice h
  exact .inl ⟨List.length_eq_zero_iff.1 hl, a, c, by rw [hl]⟩
 ·obtain ⟨g, c, rfl⟩ := ownsRow_pos (by omega) h
  refine .inr ⟨g, c, rfl, (h.lt g rfl).2, fun i hi => ?_⟩
  rw [h.cellAt i (by omega)]
  unfold iCells
  rw [List.getElem?_map, List.getElem?_eq_getElem hi]
  rfl
set_option maxRecDepth 100000 in
theorem has_any (v : Value) (l : List Nat) (n : Nat) (w : World) (h : IRow w v l) (hl : l.length ≤ 12) (hm : n ∈ l) : Calls Tryz.prog 20 #[v, .int .i64 n] w fun e w' => e = .returned (.bool true) ∧ Below w.heap.size w w' := by
 rcases h with ⟨rfl, _⟩ | ⟨g, c, rfl, hg, hc⟩
 ·cases hm
 ·go_enter Tryz.func20, Tryz.ntmps20
  go_wp2
  go_loopw [5] (fun i wr => ∃ j : Nat, j ≤ l.length ∧ i = .int .i64 j ∧ Below w.heap.size w wr ∧ ∀ k (hk : k < l.length), k < j → l[k] ≠ n) (fun i _ => l.length - (intOf i).toNat)
  case atStart => exact ⟨0, Nat.zero_le _, rfl, Below.refl _ _, fun k _ hk => absurd hk (Nat.not_lt_zero _)⟩
  case round =>
   obtain ⟨j, hj, rfl, hbl, hno⟩ := hrel
   have hlt : j < l.length := by
    obtain ⟨i, hi, e⟩ := List.getElem_of_mem hm
    refine Classical.byContradiction fun hn => hno i hi (by omega) e
   have hlt' : (j : Int) < (l.length : Int) := by omega
   have h20 : (j : Int) < 20 := by omega
   have q := (hbl.cell (p := ⟨g, j, none⟩) hg).trans (hc j hlt)
   have hnx := hno
   clear hno
   by_cases hx : l[j] = n
   ·rw [hx] at q
    clear hnx
    go_wp2
    go_ret
    exact ⟨rfl, hbl⟩
   ·have hxi : ¬ ((l[j] : Nat) : Int) = (n : Int) := by omega
    generalize ((l[j] : Nat) : Int) = z at q hxi
    go_wp2
    go_roundw
    case rel => exact ⟨j + 1, by omega, by go_num, hbl, fun k hk hk1 => by
     rcases Nat.lt_succ_iff_lt_or_eq.1 hk1 with h1 | rfl
     ·exact hnx k hk h1
     ·exact hx⟩
    case measure => simp [intOf]; omega
end Go.Proofs.YtjhpklolpmaopaaGreatDoor
