/- A part of the proof: see the last file. -/
import Derived.Test.YtlhgkepdoinlnaaGreatDoorPbg
import Derived.Test.YtlhgkepdoinlnaaGreatDoorPbh
import Derived.Test.YtlhgkepdoinlnaaGreatDoorPaj
import Derived.Test.YtlhgkepdoinlnaaGreatDoorPae
set_option linter.unusedVariables false
set_option linter.unusedSimpArgs false
set_option linter.unusedSectionVars false
namespace Go.Proofs.YtlhgkepdoinlnaaGreatDoor
open Go.RowKit Go.Gen Go.Drum
theorem loss_step {rate y : Int} (hr : 0 ≤ rate ∧ rate ≤ 100) (hy : 0 ≤ y ∧ y ≤ 10000) : (0 ≤ y * rate ∧ y * rate ≤ 1000000) ∧ 0 ≤ (y * rate).tdiv 100 ∧ (y * rate).tdiv 100 ≤ 10000 := by
 have h0 : 0 ≤ y * rate := Int.mul_nonneg hy.1 hr.1
 have h1 : y * rate ≤ 10000 * 100 := Int.mul_le_mul hy.2 hr.2 hr.1 (by decide)
 refine ⟨⟨h0, by omega⟩, ?_⟩
 rw [Int.tdiv_eq_ediv_of_nonneg h0]
 omega
theorem loss_bound {rate : Int} {x : Nat → Int} (hr : 0 ≤ rate ∧ rate ≤ 100) : ∀ k, (∀ i, i < k → 0 ≤ x i ∧ x i ≤ 10000) → 0 ≤ loss rate x k ∧ loss rate x k ≤ 10000 * k
 | 0, _ => by unfold loss; omega
 | k+1, h => by
  have ih := loss_bound (x := x) hr k (fun i hi => h i (by omega))
  have hs := (loss_step hr (h k (by omega))).2
  unfold loss
  omega
set_option maxRecDepth 100000 in
set_option maxHeartbeats 1000000 in
theorem sum_any (rate : Int) (n : Nat) (va : Option Addr) (vc : Nat) (x : Nat → Int) (w : World) (hn : n ≤ 12) (hr : 0 ≤ rate ∧ rate ≤ 100) (hx : ∀ i, i < n → 0 ≤ x i ∧ x i ≤ 10000) (hrow : KSl 1 w (.slice va n vc) n (fun i _ => x i)) :
  Calls Tryz.prog 118 #[.int .i64 rate, .slice va n vc] w fun e w' => e = .returned (.int .i64 (loss rate x n)) ∧ Below w.heap.size w w' := by
 go_enter Tryz.func118, Tryz.ntmps118
 go_wp2_with fail
 go_loopw [5, 10] (fun tt i' wr => ∃ k : Nat, k ≤ n ∧ tt = .int .i64 (loss rate x k) ∧ i' = .int .i64 k ∧ wr = w) (fun _ i' _ => n - (intOf i').toNat)
 case atStart => exact ⟨0, Nat.zero_le _, rfl, rfl, rfl⟩
 case round =>
  obtain ⟨k, hk5, rfl, rfl, rfl⟩ := hrel
  have hk6 : (0 : Int) ≤ (k : Int) := Int.natCast_nonneg _
  by_cases hlt : k < n
  ·have hk7 : (k : Int) < (n : Int) := by omega
   have hk8 : (k : Int) < 12 := by omega
   obtain ⟨b, off, cap, e, hbl', hp⟩ := hrow.pos (by omega)
   obtain ⟨ea, ec⟩ : va = some ⟨b, off, none⟩ ∧ vc = cap := by injection e with e1 e2 e3; exact ⟨e1, e3⟩
   clear e
   have c0 := hp.one hlt
   have hlb := loss_bound (x := x) hr k (fun i hi => hx i (by omega))
   obtain ⟨⟨h1, h2⟩, h3, h4⟩ := loss_step hr (hx k hlt)
   have hst : Hdn (loss rate x (k + 1) = loss rate x k + (x k * rate).tdiv 100) := ⟨rfl⟩
   generalize loss rate x k = A at hlb hst ⊢
   generalize x k = y at c0 h1 h2 h3 h4 hst
   obtain ⟨p, hp'⟩ : ∃ p, y * rate = p := ⟨_, rfl⟩
   rw [hp'] at h1 h2 h3 h4 hst
   obtain ⟨q, hq'⟩ : ∃ q, p.tdiv 100 = q := ⟨_, rfl⟩
   rw [hq'] at h3 h4 hst
   obtain ⟨hlb1, hlb2⟩ := hlb
   go_wp2
   go_roundw
   case rel => exact ⟨k + 1, by omega, by rw [hst.out], by go_num, trivial⟩
   case measure => simp [intOf] <;> omega
  ·obtain rfl : k = n := by omega
   have hk9 : ¬ (k : Int) < (k : Int) := by omega
   go_wp2
   go_ret
   exact ⟨rfl, Below.refl _ _⟩
/-- after's blocks: the batch's, the result. -/
structure AX (w : World) (b0 b1 b2 b3 b4 b5 r0 r1 : Int) (W : World) : Prop where
 o : Below w.heap.size w W
 b0 : W.cell? ⟨w.heap.size, 0, none⟩ = some (.int .i64 b0)
 b1 : W.cell? ⟨w.heap.size, 1, none⟩ = some (.int .i64 b1)
 b2 : W.cell? ⟨w.heap.size, 2, none⟩ = some (.int .i64 b2)
 b3 : W.cell? ⟨w.heap.size, 3, none⟩ = some (.int .i64 b3)
 b4 : W.cell? ⟨w.heap.size, 4, none⟩ = some (.int .i64 b4)
 b5 : W.cell? ⟨w.heap.size, 5, none⟩ = some (.int .i64 b5)
 s : Two W (w.heap.size + 1) r0 r1
 lt : w.heap.size + 1 < W.heap.size
theorem AX.below {w : World} {b0 b1 b2 b3 b4 b5 r0 r1 : Int} {W W' : World} (h : AX w b0 b1 b2 b3 b4 b5 r0 r1 W) (hb : Below W.heap.size W W') : AX w b0 b1 b2 b3 b4 b5 r0 r1 W' := by
 have hl := h.lt
 have c : ∀ j, W'.cell? ⟨w.heap.size, j, none⟩ = W.cell? ⟨w.heap.size, j, none⟩ := fun j => hb.cell (p := ⟨w.heap.size, j, none⟩) (by show w.heap.size < _; omega)
 exact ⟨h.o.trans (hb.mono h.o.size), (c 0).trans h.b0, (c 1).trans h.b1, (c 2).trans h.b2, (c 3).trans h.b3, (c 4).trans h.b4, (c 5).trans h.b5, h.s.below hb hl, Nat.lt_of_lt_of_le hl hb.size⟩
theorem AX.drew {w : World} {b0 b1 b2 b3 b4 b5 r0 r1 : Int} {W : World} (h : AX w b0 b1 b2 b3 b4 b5 r0 r1 W) : AX w b0 b1 b2 b3 b4 b5 r0 r1 W.drew := h.below (Below.refl _ _).drew
theorem AX.new (w : World) (b0 b1 b2 b3 b4 b5 : Int) : AX w b0 b1 b2 b3 b4 b5 0 0 ((w.alloc (.cells #[.int .i64 b0, .int .i64 b1, .int .i64 b2, .int .i64 b3, .int .i64 b4, .int .i64 b5] 79)).alloc (.cells #[.int .i64 0, .int .i64 0] 73)) := by
 have hz : (w.alloc (.cells #[.int .i64 b0, .int .i64 b1, .int .i64 b2, .int .i64 b3, .int .i64 b4, .int .i64 b5] 79)).heap.size = w.heap.size + 1 := World.size_alloc _ _
 have hb : Below (w.alloc (.cells #[.int .i64 b0, .int .i64 b1, .int .i64 b2, .int .i64 b3, .int .i64 b4, .int .i64 b5] 79)).heap.size _ _ := (Below.refl _ (w.alloc (.cells #[.int .i64 b0, .int .i64 b1, .int .i64 b2, .int .i64 b3, .int .i64 b4, .int .i64 b5] 79))).alloc (Nat.le_refl _) (.cells #[.int .i64 0, .int .i64 0] 73)
 have c : ∀ j, _ = (w.alloc (.cells #[.int .i64 b0, .int .i64 b1, .int .i64 b2, .int .i64 b3, .int .i64 b4, .int .i64 b5] 79)).cell? ⟨w.heap.size, j, none⟩ := fun j => hb.cell (p := ⟨w.heap.size, j, none⟩) (by show w.heap.size < _; omega)
 exact ⟨((Below.refl _ _).alloc (Nat.le_refl _) _).trans (hb.mono (by omega)), (c 0).trans (cells_new w _ _ rfl), (c 1).trans (cells_new w _ _ rfl), (c 2).trans (cells_new w _ _ rfl), (c 3).trans (cells_new w _ _ rfl), (c 4).trans (cells_new w _ _ rfl), (c 5).trans (cells_new w _ _ rfl), by rw [← hz]; exact Two.new _ _ _ _, by rw [World.size_alloc, hz]; omega⟩
set_option maxRecDepth 100000 in
set_option maxHeartbeats 4000000 in
theorem after_any (b0 b1 b2 b3 b4 b5 : Int) (n : Nat) (va : Option Addr) (vc : Nat) (x : Nat → Int) (w : World) (hn : n ≤ 12) (h0 : 0 ≤ b0 ∧ b0 ≤ 1000) (h2 : 0 ≤ b2 ∧ b2 ≤ 1000) (h4 : 0 ≤ b4 ∧ b4 ≤ 100) (h5 : 0 ≤ b5 ∧ b5 ≤ 100) (hx : ∀ i, i < n → 0 ≤ x i ∧ x i ≤ 10000) (hrow : KSl 1 w (.slice va n vc) n (fun i _ => x i)) :
  Calls Tryz.prog 74 #[.agg #[.int .i64 b0, .int .i64 b1, .int .i64 b2, .int .i64 b3, .int .i64 b4, .int .i64 b5], .slice va n vc] w fun e w' => e = .returned (.agg #[.int .i64 (max 0 (b0 - loss b4 x n)), .int .i64 (max 0 (b2 - loss b5 x n))]) ∧ Below w.heap.size w w' := by
 have hX := AX.new w b0 b1 b2 b3 b4 b5
 obtain ⟨W1, hW1⟩ : ∃ W, w.alloc (.cells #[.int .i64 b0, .int .i64 b1, .int .i64 b2, .int .i64 b3, .int .i64 b4, .int .i64 b5] 79) = W := ⟨_, rfl⟩
 rw [hW1] at hX
 obtain ⟨W2, hW2⟩ : ∃ W, W1.alloc (.cells #[.int .i64 0, .int .i64 0] 73) = W := ⟨_, rfl⟩
 rw [hW2] at hX
 have hz : W1.heap.size = w.heap.size + 1 := by rw [← hW1]; exact World.size_alloc _ _
 have hs0 := fun (W : World) (hB : Below w.heap.size w W) => sum_any b4 n va vc x W hn h4 hx (hrow.below hB)
 have hs1 := fun (W : World) (hB : Below w.heap.size w W) => sum_any b5 n va vc x W hn h5 hx (hrow.below hB)
 have hl0 := loss_bound (x := x) h4 n hx
 have hl1 := loss_bound (x := x) h5 n hx
 generalize loss b4 x n = L0 at hs0 hl0 ⊢
 generalize loss b5 x n = L1 at hs1 hl1 ⊢
 have hw0 : Hdn (IntKind.i64.wrap (b0 - L0) = b0 - L0) := ⟨IntWalk.i64_in _ (by omega)⟩
 have hw1 : Hdn (IntKind.i64.wrap (b2 - L1) = b2 - L1) := ⟨IntWalk.i64_in _ (by omega)⟩
 obtain ⟨M0, hM0⟩ : ∃ M, max 0 (b0 - L0) = M := ⟨_, rfl⟩
 obtain ⟨M1, hM1⟩ : ∃ M, max 0 (b2 - L1) = M := ⟨_, rfl⟩
 have hm0 : Hdn ((if L0 < b0 then b0 - L0 else 0) = M0) := ⟨by rw [← hM0]; omega⟩
 have hm1 : Hdn ((if L1 < b2 then b2 - L1 else 0) = M1) := ⟨by rw [← hM1]; omega⟩
 rw [hM0, hM1]
 clear hM0 hM1 hl0 hl1 hx hrow
 go_enter Tryz.func74, Tryz.ntmps74
 go_wp2_with fail
 refine wp_region_late [17] (fun _ => True) (fun w9 => AX w b0 b1 b2 b3 b4 b5 0 0 w9) (by kernel_rfl) ?_ (fun hHeld => ?_)
 ·exact ⟨trivial, hX.drew⟩
 have hH := hHeld.2
 generalize W2.drew = V2 at hH hHeld ⊢
 refine tk1 0 rfl hHeld ?_
 refine tkT 1 1 rfl (waits_one [] (by kernel_rfl)) (by intro w9 hSw; have hS := hSw.2; clear hSw; (have z := hS.b0; clear hS; go_simp) <;> with_reducible rfl) hHeld ?_
 refine tk1 2 rfl hHeld ?_
 refine tkT 3 1 rfl (waits_one [] (by kernel_rfl)) (by intro w9 hSw; have hS := hSw.2; clear hSw; (have z := hS.b4; clear hS; go_simp) <;> with_reducible rfl) hHeld ?_
 refine tk1 4 rfl hHeld ?_
 refine tk1 8 rfl hHeld ?_
 refine tkT 9 1 rfl (waits_one [] (by kernel_rfl)) (by intro w9 hSw; have hS := hSw.2; clear hSw; (have z := hS.b2; clear hS; go_simp) <;> with_reducible rfl) hHeld ?_
 refine tk1 10 rfl hHeld ?_
 refine tkT 11 1 rfl (waits_one [] (by kernel_rfl)) (by intro w9 hSw; have hS := hSw.2; clear hSw; (have z := hS.b5; clear hS; go_simp) <;> with_reducible rfl) hHeld ?_
 refine tk1 12 rfl hHeld ?_
 refine rd1 5 rfl (fun K hK => ?_)
 go_simp
 (go_at_call 118; (with_reducible refine (hs0 _ hH.o).mono ?_); rintro e w1 ⟨rfl, hb1⟩)
 refine hK.out _ _ ?_ (fun hHeld => ?_)
 ·exact ⟨trivial, hH.below hb1⟩
 clear hK K hH
 have hH := hHeld.2
 (try simp only [Act.put, xpA, xpZ, xpS])
 refine tk2 6 (v := .int .i64 (b0 - L0)) rfl (by intro w9 hSw; have hS := hSw; clear hSw; have hq := hw0.out; clear hS; (go_simp) <;> with_reducible rfl) hHeld ?_
 refine tk2 7 (v := .int .i64 M0) rfl (by intro w9 hSw; have hS := hSw; clear hSw; have hq := hm0.out; clear hS; (go_simp) <;> with_reducible rfl) hHeld ?_
 refine rd1 13 rfl (fun K hK => ?_)
 go_simp
 (go_at_call 118; (with_reducible refine (hs1 _ hH.o).mono ?_); rintro e w2 ⟨rfl, hb2⟩)
 refine hK.out _ _ ?_ (fun hHeld => ?_)
 ·exact ⟨trivial, hH.below hb2⟩
 clear hK K hH
 have hH := hHeld.2
 (try simp only [Act.put, xpA, xpZ, xpS])
 refine tk2 14 (v := .int .i64 (b2 - L1)) rfl (by intro w9 hSw; have hS := hSw; clear hSw; have hq := hw1.out; clear hS; (go_simp) <;> with_reducible rfl) hHeld ?_
 refine tk2 15 (v := .int .i64 M1) rfl (by intro w9 hSw; have hS := hSw; clear hSw; have hq := hm1.out; clear hS; (go_simp) <;> with_reducible rfl) hHeld ?_
 refine tk1 16 rfl hHeld ?_
 refine rdL 17 rfl (fun K hK => ?_)
 have c0 := hH.s.k0
 have c1 := hH.s.k1
 have z0 := hH.s.f0
 have z1 := hH.s.f1
 go_simp
 clear c0 c1 z0 z1
 refine hK.out _ _ ?_ (fun _ => ?_)
 ·trivial
 clear hK K
 (try simp only [Act.put, xpA, xpZ, xpS])
 refine wpAnyP_done (by kernel_rfl) ?_ _
 (try simp only [Act.put, List.getElem_toArray, List.getElem_cons_zero, List.getElem_cons_succ, xpA, xpZ, xpS])
 have hQ := hH.s.set01 M0 M1
 have hO := (hH.o.setCell (p := ⟨w.heap.size + 1, 0, none⟩) (by show w.heap.size ≤ w.heap.size + 1; omega) (.int .i64 M0)).setCell (p := ⟨w.heap.size + 1, 1, none⟩) (by show w.heap.size ≤ w.heap.size + 1; omega) (.int .i64 M1)
 generalize (w2.setCell ⟨w.heap.size + 1, 0, none⟩ (.int .i64 M0)).setCell ⟨w.heap.size + 1, 1, none⟩ (.int .i64 M1) = W8 at hQ hO ⊢
 obtain ⟨r0, r1, _, _⟩ := hQ
 go_wp2
 refine bodyPost_ret (v := .agg #[.int .i64 M0, .int .i64 M1]) ?_ rfl ⟨rfl, hO⟩
 simp [results, Tryz.results74, go_sem, r0, r1]

end Go.Proofs.YtlhgkepdoinlnaaGreatDoor
namespace Go.Proofs.YtlhgkepdoinlnaaGreatDoor
open Go.RowKit Go.Gen Go.Drum
theorem zrow_parts {w : World} {B : Nat} {e : TypeId} {v : Value} {n : Nat} {x : Nat → Int} (h : w.ownsRow B e 1 v n (zL x n)) (hn : 1 ≤ n) : ∃ g c, v = .slice (some ⟨g, 0, none⟩) n c ∧ n ≤ c ∧ g < w.heap.size ∧ KRows 1 w g 0 n (fun i _ => x i) := by
 have h' := h
 obtain ⟨_, ⟨h1, h2⟩ | ⟨g, cap, cur, rfl, h2, h3, h4, _⟩⟩ := h
 ·omega
 ·refine ⟨g, cap, rfl, h4, (Array.getElem?_eq_some_iff.1 h3).1, fun i hi j hj => ?_⟩
  obtain rfl : j = 0 := by omega
  have hc := h'.cellAt i (by omega)
  rw [show 0 + i * 1 + 0 = i by omega, hc]
  exact zL_at x n i hi
theorem krows_pre {W : World} {g o n m c : Nat} {F : Nat → Nat → Int} (h : KRows 1 W g o n F) (hm : m ≤ n) (hg : g < W.heap.size) : KSl 1 W (.slice (some ⟨g, o, none⟩) m c) m F := by
 by_cases h0 : m = 0
 ·subst h0; exact .inl ⟨_, _, rfl, rfl⟩
 ·exact .inr ⟨g, o, c, rfl, hg, fun i hi j hj => h i (by omega) j hj⟩
/-- a row of numbers of this call's own that is returned. -/
def RSt (x : Nat → Int) (n : Nat) (w : World) (e : Ending) (w' : World) : Prop := ∃ g c, e = .returned (.slice (some ⟨g, 0, none⟩) n c) ∧ n ≤ c ∧ g < w'.heap.size ∧ KRows 1 w' g 0 n (fun i _ => x i) ∧ Below w.heap.size w w'
set_option maxRecDepth 100000 in
set_option maxHeartbeats 4000000 in
theorem weakest_any (d : Drm) (i : Int) (g cap : Nat) (f : Nat → Int × Int) (w : World) (hn : d.dn ≤ 12) (hn1 : 1 ≤ d.dn) (hrow : CAt w g d.dn f) (hg : g < w.heap.size) :
  Calls Tryz.prog 142 #[d.fil i (.slice (some ⟨g, 0, none⟩) d.dn cap)] w (RSt (fun i => selE false (f i)) d.dn w) := by
 obtain ⟨i0, hinf, hz0, hz1, hz2⟩ := info_parts Tryz.info3
 obtain ⟨W0, hW⟩ : ∃ W0, w.alloc (.cells #[.slice d.aa d.an d.ac, .int .i64 d.known, .int .i64 d.hours, .slice d.da d.dn d.dc, .slice d.sa d.sn d.sc, .slice d.ba d.bn d.bc, .int .i64 i, .slice (some ⟨g, 0, none⟩) d.dn cap] 97) = W0 := ⟨_, rfl⟩
 have hF : PoF w d i (.slice (some ⟨g, 0, none⟩) d.dn cap) W0 := by rw [← hW]; exact PoF.new w d i _
 have hO := hF.old
 obtain ⟨_, q6, q7, _, _⟩ := id hF
 go_enter Tryz.func142, Tryz.ntmps142
 go_wp2_with fail
 clear q6 q7
 go_loopw [3, 9] (fun u i' wr => ∃ k : Nat, k ≤ d.dn ∧ i' = .int .i64 k ∧ Below W0.heap.size W0 wr ∧ wr.ownsRow W0.heap.size 3 1 u k (zL (fun i => selE false (f i)) k)) (fun _ i' _ => d.dn - (intOf i').toNat)
 case atStart => exact ⟨0, Nat.zero_le _, rfl, Below.refl _ _, World.ownsRow_nil _ _ _ _⟩
 case round =>
  obtain ⟨k, hk5, rfl, hbl, hown⟩ := hrel
  have hk6 : (0 : Int) ≤ (k : Int) := Int.natCast_nonneg _
  have hOw := hO.trans (hbl.mono hO.size)
  by_cases hlt : k < d.dn
  ·have hk7 : (k : Int) < (d.dn : Int) := by omega
   have hk8 : (k : Int) < 12 := by omega
   obtain ⟨c0, c1⟩ := (hrow.below hOw hg).c k hlt
   have hpush : Hdn (zL (fun i => selE false (f i)) (k + 1) = zL (fun i => selE false (f i)) k ++ [.int .i64 (f k).1]) := ⟨rfl⟩
   obtain ⟨x, hx⟩ : ∃ x, f k = x := ⟨_, rfl⟩
   rw [hx] at c0 c1 hpush
   clear hx
   obtain ⟨x1, x2⟩ := x
   (try dsimp only at c0 c1 hpush)
   have hsz := hbl.size
   obtain ⟨W2, hW2⟩ : ∃ W, wr.alloc (Obj.cells #[.int .i64 x1, .int .i64 x2] 47) = W := ⟨_, rfl⟩
   have hT : Two W2 wr.heap.size x1 x2 := by rw [← hW2]; exact Two.new wr _ _ _
   have hb2 : Below wr.heap.size wr W2 := by rw [← hW2]; exact (Below.refl _ _).alloc (Nat.le_refl _) _
   obtain ⟨e0, e1, _, _⟩ := hT
   have hown2 := row_below hown hb2
   have hs2 := hb2.size
   go_wp2_with (at_builtin; refine wpList_append_own _ rfl _ _ 23 rfl W0.heap.size 3 i0 (.int .i64 0) 1 8 Tryz.underlying23 hinf hz0 hz1 hz2 rfl (by decide) _ _ _ rfl (hown2.alloc _) ⟨W2.heap.size, 0, none⟩ 1 1 [.int .i64 x1] rfl rfl (cells_one _ _ _) (one_one _) (by unfold maxLen; omega) (by omega) (by rw [World.size_alloc]; omega) ?_)
   intro v3 w3 hown3 hgrow _
   have hb3 : Below W0.heap.size W0 w3 := ((hbl.trans (hb2.mono hsz)).alloc (by omega) _).grown hgrow (by rw [World.size_alloc]; omega) (fun k hk => (hown2.lt k hk).1)
   rw [← hpush.out] at hown3
   clear hgrow hown hown2 c0 c1 e0 e1 hW2
   go_wp2
   go_roundw
   case rel => exact ⟨k + 1, by omega, by go_num, hb3, hown3⟩
   case measure => simp [intOf]; omega
  ·obtain rfl : k = d.dn := by omega
   have hk9 : ¬ (d.dn : Int) < (d.dn : Int) := by omega
   obtain ⟨gq, cq, rfl, h1, h2, h3⟩ := zrow_parts hown hn1
   clear hown
   go_wp2
   exact bodyPost_ret (v := .slice (some ⟨gq, 0, none⟩) _ cq) (by simp [results, Tryz.results142, go_sem]) rfl ⟨_, _, rfl, h1, h2, h3, hOw⟩
set_option maxRecDepth 100000 in
set_option maxHeartbeats 4000000 in
theorem strongest_any (d : Drm) (i : Int) (g cap : Nat) (f : Nat → Int × Int) (w : World) (hn : d.dn ≤ 12) (hn1 : 1 ≤ d.dn) (hrow : CAt w g d.dn f) (hg : g < w.heap.size) :
  Calls Tryz.prog 143 #[d.fil i (.slice (some ⟨g, 0, none⟩) d.dn cap)] w (RSt (fun i => selE true (f i)) d.dn w) := by
 obtain ⟨i0, hinf, hz0, hz1, hz2⟩ := info_parts Tryz.info3
 obtain ⟨W0, hW⟩ : ∃ W0, w.alloc (.cells #[.slice d.aa d.an d.ac, .int .i64 d.known, .int .i64 d.hours, .slice d.da d.dn d.dc, .slice d.sa d.sn d.sc, .slice d.ba d.bn d.bc, .int .i64 i, .slice (some ⟨g, 0, none⟩) d.dn cap] 97) = W0 := ⟨_, rfl⟩
 have hF : PoF w d i (.slice (some ⟨g, 0, none⟩) d.dn cap) W0 := by rw [← hW]; exact PoF.new w d i _
 have hO := hF.old
 obtain ⟨_, q6, q7, _, _⟩ := id hF
 go_enter Tryz.func143, Tryz.ntmps143
 go_wp2_with fail
 clear q6 q7
 go_loopw [3, 9] (fun u i' wr => ∃ k : Nat, k ≤ d.dn ∧ i' = .int .i64 k ∧ Below W0.heap.size W0 wr ∧ wr.ownsRow W0.heap.size 3 1 u k (zL (fun i => selE true (f i)) k)) (fun _ i' _ => d.dn - (intOf i').toNat)
 case atStart => exact ⟨0, Nat.zero_le _, rfl, Below.refl _ _, World.ownsRow_nil _ _ _ _⟩
 case round =>
  obtain ⟨k, hk5, rfl, hbl, hown⟩ := hrel
  have hk6 : (0 : Int) ≤ (k : Int) := Int.natCast_nonneg _
  have hOw := hO.trans (hbl.mono hO.size)
  by_cases hlt : k < d.dn
  ·have hk7 : (k : Int) < (d.dn : Int) := by omega
   have hk8 : (k : Int) < 12 := by omega
   obtain ⟨c0, c1⟩ := (hrow.below hOw hg).c k hlt
   have hpush : Hdn (zL (fun i => selE true (f i)) (k + 1) = zL (fun i => selE true (f i)) k ++ [.int .i64 (f k).2]) := ⟨rfl⟩
   obtain ⟨x, hx⟩ : ∃ x, f k = x := ⟨_, rfl⟩
   rw [hx] at c0 c1 hpush
   clear hx
   obtain ⟨x1, x2⟩ := x
   (try dsimp only at c0 c1 hpush)
   have hsz := hbl.size
   obtain ⟨W2, hW2⟩ : ∃ W, wr.alloc (Obj.cells #[.int .i64 x1, .int .i64 x2] 47) = W := ⟨_, rfl⟩
   have hT : Two W2 wr.heap.size x1 x2 := by rw [← hW2]; exact Two.new wr _ _ _
   have hb2 : Below wr.heap.size wr W2 := by rw [← hW2]; exact (Below.refl _ _).alloc (Nat.le_refl _) _
   obtain ⟨e0, e1, _, _⟩ := hT
   have hown2 := row_below hown hb2
   have hs2 := hb2.size
   go_wp2_with (at_builtin; refine wpList_append_own _ rfl _ _ 23 rfl W0.heap.size 3 i0 (.int .i64 0) 1 8 Tryz.underlying23 hinf hz0 hz1 hz2 rfl (by decide) _ _ _ rfl (hown2.alloc _) ⟨W2.heap.size, 0, none⟩ 1 1 [.int .i64 x2] rfl rfl (cells_one _ _ _) (one_one _) (by unfold maxLen; omega) (by omega) (by rw [World.size_alloc]; omega) ?_)
   intro v3 w3 hown3 hgrow _
   have hb3 : Below W0.heap.size W0 w3 := ((hbl.trans (hb2.mono hsz)).alloc (by omega) _).grown hgrow (by rw [World.size_alloc]; omega) (fun k hk => (hown2.lt k hk).1)
   rw [← hpush.out] at hown3
   clear hgrow hown hown2 c0 c1 e0 e1 hW2
   go_wp2
   go_roundw
   case rel => exact ⟨k + 1, by omega, by go_num, hb3, hown3⟩
   case measure => simp [intOf]; omega
  ·obtain rfl : k = d.dn := by omega
   have hk9 : ¬ (d.dn : Int) < (d.dn : Int) := by omega
   obtain ⟨gq, cq, rfl, h1, h2, h3⟩ := zrow_parts hown hn1
   clear hown
   go_wp2
   exact bodyPost_ret (v := .slice (some ⟨gq, 0, none⟩) _ cq) (by simp [results, Tryz.results143, go_sem]) rfl ⟨_, _, rfl, h1, h2, h3, hOw⟩
set_option maxRecDepth 100000 in
set_option maxHeartbeats 4000000 in
theorem ends_any (d : Drm) (i : Int) (v : Value) (w : World) :
  Calls Tryz.prog 119 #[d.fil i v] w fun e w' => e = .returned (.agg #[.func (.func 142) #[d.fil i v] #[], .func (.func 143) #[d.fil i v] #[]]) ∧ Below w.heap.size w w' := by
 obtain ⟨W0, hW⟩ : ∃ W0, w.alloc (.cells #[.slice d.aa d.an d.ac, .int .i64 d.known, .int .i64 d.hours, .slice d.da d.dn d.dc, .slice d.sa d.sn d.sc, .slice d.ba d.bn d.bc, .int .i64 i, v] 97) = W0 := ⟨_, rfl⟩
 have hF : PoF w d i v W0 := by rw [← hW]; exact PoF.new w d i _
 have hO := hF.old
 obtain ⟨⟨q0, q1, q2, q3, q4, q5⟩, q6, q7, _, _⟩ := id hF
 go_enter Tryz.func119, Tryz.ntmps119
 go_wp2
 refine bodyPost_ret (v := .agg #[.func (.func 142) #[d.fil i v] #[], .func (.func 143) #[d.fil i v] #[]]) (by simp [results, Tryz.results119, go_sem]) rfl ⟨rfl, hO.alloc hO.size _⟩
end Go.Proofs.YtlhgkepdoinlnaaGreatDoor
/-! Layer 3's math: between which bounds batches are (no program text is mentioned) -/
namespace Go.Drum
/-- what is left of a number, at least and at most, by an acid's ends. -/
def leE (e : Nat → Nat → Int × Int) (n rate : Int) : Nat → Nat → Int × Int := fun i h => (left n rate (fun k => (e i k).2) h, left n rate (fun k => (e i k).1) h)
/-- the same for some acids, as it is gathered. -/
def accB (E : Nat → Nat → Int × Int) (top : Int) (l : List Nat) (h : Nat) : Int × Int := if l = [] then (top, 0) else hullTo E l h
theorem accB_nil (E : Nat → Nat → Int × Int) (top : Int) (h : Nat) : accB E top [] h = (top, 0) := if_pos rfl
theorem accB_some (E : Nat → Nat → Int × Int) (top : Int) {l : List Nat} (hl : l ≠ []) (h : Nat) : accB E top l h = hullTo E l h := if_neg hl
theorem accB_push (E : Nat → Nat → Int × Int) (top : Int) (l : List Nat) (x h : Nat) (h1 : (E x h).1 ≤ top) (h2 : 0 ≤ (E x h).2) :
  accB E top (l ++ [x]) h = (min (accB E top l h).1 (E x h).1, max (accB E top l h).2 (E x h).2) := by
 rw [accB_some E top (by simp) h]
 by_cases hl : l = []
 ·subst hl
  rw [accB_nil, List.nil_append, hullTo_one]
  (try dsimp only)
  rw [show min top (E x h).1 = (E x h).1 by omega, show max 0 (E x h).2 = (E x h).2 by omega]
 ·rw [accB_some E top hl h, hullTo_push E hl]
theorem left_bound {n rate : Int} {x : Nat → Int} (hr : 0 ≤ rate) (hn : 0 ≤ n) (k : Nat) (h : ∀ i, i < k → 0 ≤ x i) : 0 ≤ left n rate x k ∧ left n rate x k ≤ n := by
 have := loss_mono (x := x) (y := x) hr k (fun i hi => ⟨h i hi, Int.le_refl _⟩)
 unfold left
 omega
end Go.Drum
namespace Go
variable {P : Program} {md : Region.Mode} {ops : Array Oper} {Q : Exit → Act → World → Prop} {L : List Nat} {S0 S : World → Prop}
/-- a take behind a late one. -/
theorem tkB (i : Nat) {oi : Oper} {v : Value} {fuel : Nat} {listed : Array Bool} {a a' : Act} {w : World} (hi : ops[i]? = some oi)
  (hI : S0 w) (h : wpAnyP P md ops Q L S0 S fuel (listed.setIfInBounds i true) a' w)
  (hy : YieldsIf P ops S0 oi v a := by exact Or.inl ⟨by rfl, by (intro w9 hSw; clear hSw; go_simp) <;> with_reducible rfl⟩)
  (ha : a.put oi.dst v = a' := by (try simp only [Act.put, xpA, xpZ, xpS]) <;> rfl)
  (hs : Region.noSelect ops = true := by kernel_rfl) (hf : Region.free md ops listed i = true := by kernel_rfl) (hr : (Region.ready md ops listed).contains i = true := by kernel_rfl)
  (hc : closedPB md ops listed = true := by kernel_rfl) (hiL : L.contains i = false := by rfl) (hd : aliveB L listed = false := by kernel_rfl)
  (hQ : ∀ c a w, Q (.panic c) (a.put oi.dst v) w → Q (.panic c) a w := by exact fun _ _ _ h => h) : wpAnyP P md ops Q L S0 S (fuel + 1) listed a w :=
 wpAnyP_takeB hi hs hf hr hc hiL hd hQ hy hI (ha ▸ h)
end Go
