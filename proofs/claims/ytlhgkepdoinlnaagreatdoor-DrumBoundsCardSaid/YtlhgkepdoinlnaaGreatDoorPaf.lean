/- A part of the proof: see the last file. -/
import Derived.Test.YtlhgkepdoinlnaaGreatDoorPae
set_option linter.unusedVariables false
set_option linter.unusedSimpArgs false
set_option linter.unusedSectionVars false
namespace Go.Proofs.YtlhgkepdoinlnaaGreatDoor
open Go.RowKit Go.Gen Go.Drum
def Drm.acid (d : Drm) (i : Nat) : Acid := ⟨d.A i 0, d.A i 1, d.A i 2, d.A i 3, fun k => d.D k 0, d.sn, fun j => (d.S j 0, d.S j 1 - d.S j 2, d.S j 1 + d.S j 2)⟩
/-- next's blocks: the acid's, before, the result, the acid, s. -/
structure NX (w : World) (d : Drm) (i : Int) (v : Value) (b0 b1 a0 a1 a2 a3 s0 s1 : Int) (W : World) : Prop where
 f : PoF w d i v W
 b : Two W (w.heap.size + 1) b0 b1
 r : Two W (w.heap.size + 1 + 1) 0 0
 a0 : W.cell? ⟨w.heap.size + 1 + 1 + 1, 0, none⟩ = some (.int .i64 a0)
 a1 : W.cell? ⟨w.heap.size + 1 + 1 + 1, 1, none⟩ = some (.int .i64 a1)
 a2 : W.cell? ⟨w.heap.size + 1 + 1 + 1, 2, none⟩ = some (.int .i64 a2)
 a3 : W.cell? ⟨w.heap.size + 1 + 1 + 1, 3, none⟩ = some (.int .i64 a3)
 s : Two W (w.heap.size + 1 + 1 + 1 + 1) s0 s1
 lt : w.heap.size + 1 + 1 + 1 + 1 < W.heap.size
theorem NX.below {w : World} {d : Drm} {i : Int} {v : Value} {b0 b1 a0 a1 a2 a3 s0 s1 : Int} {W W' : World} (h : NX w d i v b0 b1 a0 a1 a2 a3 s0 s1 W) (hb : Below W.heap.size W W') : NX w d i v b0 b1 a0 a1 a2 a3 s0 s1 W' := by
 have hl := h.lt
 exact ⟨h.f.below hb, h.b.below hb (by omega), h.r.below hb (by omega), (hb.cell (p := ⟨w.heap.size + 1 + 1 + 1, 0, none⟩) (by show w.heap.size + 1 + 1 + 1 < _; omega)).trans h.a0, (hb.cell (p := ⟨w.heap.size + 1 + 1 + 1, 1, none⟩) (by show w.heap.size + 1 + 1 + 1 < _; omega)).trans h.a1, (hb.cell (p := ⟨w.heap.size + 1 + 1 + 1, 2, none⟩) (by show w.heap.size + 1 + 1 + 1 < _; omega)).trans h.a2, (hb.cell (p := ⟨w.heap.size + 1 + 1 + 1, 3, none⟩) (by show w.heap.size + 1 + 1 + 1 < _; omega)).trans h.a3, h.s.below hb hl, Nat.lt_of_lt_of_le hl hb.size⟩
theorem NX.drew {w : World} {d : Drm} {i : Int} {v : Value} {b0 b1 a0 a1 a2 a3 s0 s1 : Int} {W : World} (h : NX w d i v b0 b1 a0 a1 a2 a3 s0 s1 W) : NX w d i v b0 b1 a0 a1 a2 a3 s0 s1 W.drew := h.below (Below.refl _ _).drew
theorem NX.set {w : World} {d : Drm} {i : Int} {v : Value} {b0 b1 a0 a1 a2 a3 s0 s1 : Int} {W : World} (h : NX w d i v b0 b1 a0 a1 a2 a3 s0 s1 W) (u0 u1 : Int) :
  NX w d i v b0 b1 a0 a1 a2 a3 u0 u1 ((W.setCell ⟨w.heap.size + 1 + 1 + 1 + 1, 0, none⟩ (.int .i64 u0)).setCell ⟨w.heap.size + 1 + 1 + 1 + 1, 1, none⟩ (.int .i64 u1)) := by
 have hb : Below (w.heap.size + 1 + 1 + 1 + 1) W ((W.setCell ⟨w.heap.size + 1 + 1 + 1 + 1, 0, none⟩ (.int .i64 u0)).setCell ⟨w.heap.size + 1 + 1 + 1 + 1, 1, none⟩ (.int .i64 u1)) :=
  ((Below.refl _ W).setCell (p := ⟨w.heap.size + 1 + 1 + 1 + 1, 0, none⟩) (Nat.le_refl _) _).setCell (p := ⟨w.heap.size + 1 + 1 + 1 + 1, 1, none⟩) (Nat.le_refl _) _
 exact ⟨h.f.beyond (hb.mono (by omega)), h.b.below hb (by omega), h.r.below hb (by omega), (hb.cell (p := ⟨w.heap.size + 1 + 1 + 1, 0, none⟩) (Nat.lt_succ_self _)).trans h.a0, (hb.cell (p := ⟨w.heap.size + 1 + 1 + 1, 1, none⟩) (Nat.lt_succ_self _)).trans h.a1, (hb.cell (p := ⟨w.heap.size + 1 + 1 + 1, 2, none⟩) (Nat.lt_succ_self _)).trans h.a2, (hb.cell (p := ⟨w.heap.size + 1 + 1 + 1, 3, none⟩) (Nat.lt_succ_self _)).trans h.a3, h.s.set01 u0 u1, by rw [World.size_setCell, World.size_setCell]; exact h.lt⟩
theorem NX.set' {w : World} {d : Drm} {i : Int} {v : Value} {b0 b1 a0 a1 a2 a3 s0 s1 : Int} {W : World} (h : NX w d i v b0 b1 a0 a1 a2 a3 s0 s1 W) {u0 u1 p0 p1 : Int} (h0 : u0 = p0) (h1 : u1 = p1) :
  NX w d i v b0 b1 a0 a1 a2 a3 p0 p1 ((W.setCell ⟨w.heap.size + 1 + 1 + 1 + 1, 0, none⟩ (.int .i64 u0)).setCell ⟨w.heap.size + 1 + 1 + 1 + 1, 1, none⟩ (.int .i64 u1)) := by
 subst h0 h1; exact h.set _ _
/-- a strip's block beside. -/
structure NX2 (w : World) (d : Drm) (i : Int) (v : Value) (b0 b1 a0 a1 a2 a3 s0 s1 t0 t1 t2 : Int) (T : Nat) (W : World) : Prop where
 n : NX w d i v b0 b1 a0 a1 a2 a3 s0 s1 W
 t0 : W.cell? ⟨T, 0, none⟩ = some (.int .i64 t0)
 t1 : W.cell? ⟨T, 1, none⟩ = some (.int .i64 t1)
 t2 : W.cell? ⟨T, 2, none⟩ = some (.int .i64 t2)
 tl : T < W.heap.size
theorem NX2.below {w : World} {d : Drm} {i : Int} {v : Value} {b0 b1 a0 a1 a2 a3 s0 s1 t0 t1 t2 : Int} {T : Nat} {W W' : World} (h : NX2 w d i v b0 b1 a0 a1 a2 a3 s0 s1 t0 t1 t2 T W) (hb : Below W.heap.size W W') : NX2 w d i v b0 b1 a0 a1 a2 a3 s0 s1 t0 t1 t2 T W' :=
 ⟨h.n.below hb, (hb.cell (p := ⟨T, 0, none⟩) h.tl).trans h.t0, (hb.cell (p := ⟨T, 1, none⟩) h.tl).trans h.t1, (hb.cell (p := ⟨T, 2, none⟩) h.tl).trans h.t2, Nat.lt_of_lt_of_le h.tl hb.size⟩
theorem NX2.drew {w : World} {d : Drm} {i : Int} {v : Value} {b0 b1 a0 a1 a2 a3 s0 s1 t0 t1 t2 : Int} {T : Nat} {W : World} (h : NX2 w d i v b0 b1 a0 a1 a2 a3 s0 s1 t0 t1 t2 T W) : NX2 w d i v b0 b1 a0 a1 a2 a3 s0 s1 t0 t1 t2 T W.drew := h.below (Below.refl _ _).drew
/-- what the bounds of an ok drum are. -/
theorem Drm.Ok.acid' {d : Drm} (h : d.Ok) {i : Nat} (hi : i < d.an) : (0 ≤ d.A i 0 ∧ d.A i 0 ≤ d.A i 1 ∧ d.A i 1 ≤ 100) ∧ (0 ≤ d.A i 2 ∧ d.A i 2 ≤ d.A i 3 ∧ d.A i 3 ≤ 20) := by
 have := h.acid i hi
 unfold acB at this
 rw [Bool.and_eq_true, spB_iff, spB_iff] at this
 exact this
theorem Drm.Ok.add' {d : Drm} (h : d.Ok) {i : Nat} (hi : i < d.dn) : 0 ≤ d.D i 0 ∧ d.D i 0 ≤ 100 := inB_iff.1 (h.add i hi)
theorem Drm.Ok.strip' {d : Drm} (h : d.Ok) {i : Nat} (hi : i < d.sn) : (0 ≤ d.S i 0 ∧ d.S i 0 ≤ d.hours - 1) ∧ (0 ≤ d.S i 1 ∧ d.S i 1 ≤ 2000) ∧ (0 ≤ d.S i 2 ∧ d.S i 2 ≤ 50) := by
 have := h.strip i hi
 unfold stB at this
 rw [Bool.and_eq_true, Bool.and_eq_true, inB_iff, inB_iff, inB_iff] at this
 exact this
set_option maxRecDepth 100000 in
set_option maxHeartbeats 4000000 in
theorem next_any (d : Drm) (i : Nat) (v : Value) (k : Nat) (b0 b1 : Int) (w : World) (hok : d.Ok) (hd : DIn w d) (hi : i < d.an) (hk : k < d.dn) (hb0 : -10000 ≤ b0 ∧ b0 ≤ 10000) (hb1 : -10000 ≤ b1 ∧ b1 ≤ 10000) :
  Calls Tryz.prog 113 #[d.fil i v, .int .i64 k, .agg #[.int .i64 b0, .int .i64 b1]] w fun e w' => e = .returned (.agg #[.int .i64 ((d.acid i).next k (b0, b1)).1, .int .i64 ((d.acid i).next k (b0, b1)).2]) ∧ Below w.heap.size w w' := by
 obtain ⟨⟨ha0, ha1, ha2⟩, ha3, ha4, ha5⟩ := hok.acid' hi
 have hadd' := hok.add' hk
 obtain ⟨hb00, hb01⟩ := hb0
 obtain ⟨hb10, hb11⟩ := hb1
 obtain ⟨b, off, cap, e, hbl, hp⟩ := hd.acids.pos (by omega)
 obtain ⟨ea, ec⟩ : d.aa = some ⟨b, off, none⟩ ∧ d.ac = cap := by injection e with e1 e2 e3; exact ⟨e1, e3⟩
 clear e
 obtain ⟨bd, od, cd, e', hbd, hpd⟩ := hd.adds.pos (by omega)
 obtain ⟨ed, ef⟩ : d.da = some ⟨bd, od, none⟩ ∧ d.dc = cd := by injection e' with e1 e2 e3; exact ⟨e1, e3⟩
 clear e'
 have hadd := fun (W : World) (hB : Below w.heap.size w W) => (hpd.below hB hbd).one hk
 obtain ⟨W1, hW1⟩ : ∃ W, w.alloc (.cells #[.slice d.aa d.an d.ac, .int .i64 d.known, .int .i64 d.hours, .slice d.da d.dn d.dc, .slice d.sa d.sn d.sc, .slice d.ba d.bn d.bc, .int .i64 i, v] 97) = W := ⟨_, rfl⟩
 obtain ⟨W2, hW2⟩ : ∃ W, W1.alloc (.cells #[.int .i64 b0, .int .i64 b1] 47) = W := ⟨_, rfl⟩
 obtain ⟨W3, hW3⟩ : ∃ W, W2.alloc (.cells #[.int .i64 0, .int .i64 0] 47) = W := ⟨_, rfl⟩
 obtain ⟨W4, hW4⟩ : ∃ W, W3.alloc (.cells #[.int .i64 (d.A i 0), .int .i64 (d.A i 1), .int .i64 (d.A i 2), .int .i64 (d.A i 3)] 106) = W := ⟨_, rfl⟩
 obtain ⟨W5, hW5⟩ : ∃ W, W4.alloc (.cells #[.int .i64 (d.A i 0), .int .i64 (d.A i 1)] 47) = W := ⟨_, rfl⟩
 have hz1 : W1.heap.size = w.heap.size + 1 := by rw [← hW1, World.size_alloc]
 have hz2 : W2.heap.size = w.heap.size + 1 + 1 := by rw [← hW2, World.size_alloc, hz1]
 have hz3 : W3.heap.size = w.heap.size + 1 + 1 + 1 := by rw [← hW3, World.size_alloc, hz2]
 have hz4 : W4.heap.size = w.heap.size + 1 + 1 + 1 + 1 := by rw [← hW4, World.size_alloc, hz3]
 have hz5 : W5.heap.size = w.heap.size + 1 + 1 + 1 + 1 + 1 := by rw [← hW5, World.size_alloc, hz4]
 have hF1 : PoF w d i v W1 := by rw [← hW1]; exact PoF.new w d i v
 have hF2 : PoF w d i v W2 := by rw [← hW2]; exact hF1.alloc _
 have hF3 : PoF w d i v W3 := by rw [← hW3]; exact hF2.alloc _
 have hF4 : PoF w d i v W4 := by rw [← hW4]; exact hF3.alloc _
 have hF5 : PoF w d i v W5 := by rw [← hW5]; exact hF4.alloc _
 have hT2 : Two W2 (w.heap.size + 1) b0 b1 := by rw [← hW2, ← hz1]; exact Two.new W1 _ b0 b1
 have hT3 : Two W3 (w.heap.size + 1 + 1) 0 0 := by rw [← hW3, ← hz2]; exact Two.new W2 _ 0 0
 have hA40 : W4.cell? ⟨w.heap.size + 1 + 1 + 1, 0, none⟩ = some (.int .i64 (d.A i 0)) := by rw [← hW4, ← hz3]; exact cells_new W3 _ _ rfl
 have hA41 : W4.cell? ⟨w.heap.size + 1 + 1 + 1, 1, none⟩ = some (.int .i64 (d.A i 1)) := by rw [← hW4, ← hz3]; exact cells_new W3 _ _ rfl
 have hA42 : W4.cell? ⟨w.heap.size + 1 + 1 + 1, 2, none⟩ = some (.int .i64 (d.A i 2)) := by rw [← hW4, ← hz3]; exact cells_new W3 _ _ rfl
 have hA43 : W4.cell? ⟨w.heap.size + 1 + 1 + 1, 3, none⟩ = some (.int .i64 (d.A i 3)) := by rw [← hW4, ← hz3]; exact cells_new W3 _ _ rfl
 have hb45 : Below W4.heap.size W4 W5 := by rw [← hW5]; exact (Below.refl _ _).alloc (Nat.le_refl _) _
 have hb34 : Below W3.heap.size W3 W4 := by rw [← hW4]; exact (Below.refl _ _).alloc (Nat.le_refl _) _
 have hb23 : Below W2.heap.size W2 W3 := by rw [← hW3]; exact (Below.refl _ _).alloc (Nat.le_refl _) _
 have hb25 : Below W2.heap.size W2 W5 := hb23.trans ((hb34.trans (hb45.mono hb34.size)).mono hb23.size)
 have hb35 : Below W3.heap.size W3 W5 := hb34.trans (hb45.mono hb34.size)
 have hN : NX w d i v b0 b1 (d.A i 0) (d.A i 1) (d.A i 2) (d.A i 3) (d.A i 0) (d.A i 1) W5 :=
  ⟨hF5, hT2.below hb25 (by omega), hT3.below hb35 (by omega), (hb45.cell (p := ⟨w.heap.size + 1 + 1 + 1, 0, none⟩) (by show w.heap.size + 1 + 1 + 1 < _; omega)).trans hA40, (hb45.cell (p := ⟨w.heap.size + 1 + 1 + 1, 1, none⟩) (by show w.heap.size + 1 + 1 + 1 < _; omega)).trans hA41, (hb45.cell (p := ⟨w.heap.size + 1 + 1 + 1, 2, none⟩) (by show w.heap.size + 1 + 1 + 1 < _; omega)).trans hA42, (hb45.cell (p := ⟨w.heap.size + 1 + 1 + 1, 3, none⟩) (by show w.heap.size + 1 + 1 + 1 < _; omega)).trans hA43, by rw [← hW5, ← hz4]; exact Two.new W4 _ _ _, by omega⟩
 clear hF1 hF2 hF4 hF5 hT2 hT3 hb45 hb34 hb23 hb25 hb35 hA42 hA43
 have hp3 := hp.below hF3.old hbl
 have e0 := hp3.first hi (by decide)
 have e1 := hp3 i hi 1 (by decide)
 have e2 := hp3 i hi 2 (by decide)
 have e3 := hp3 i hi 3 (by decide)
 obtain ⟨⟨q0, _, _, _, _, _⟩, q6, _, _, _⟩ := hF3
 clear hp3
 rw [ea, ec, ed, ef] at hW1
 rw [ea, ec] at q0
 have hi0 : (0 : Int) ≤ (i : Int) := Int.natCast_nonneg _
 have hi1 : (i : Int) < (d.an : Int) := by omega
 have hk0 : (0 : Int) ≤ (k : Int) := Int.natCast_nonneg _
 have hk1 : (k : Int) < (d.dn : Int) := by omega
 by_cases hz : k = 0
 ·have hk2 : ¬ (0 : Int) < (k : Int) := by omega
  have hk3 : (k : Int) ≤ 0 := by omega
  have hst : Hdn ((if k = 0 then ((d.acid i).s0 + (d.acid i).add 0, (d.acid i).s1 + (d.acid i).add 0) else (d.acid i).fall k (b0, b1)) = (d.A i 0 + d.D k 0, d.A i 1 + d.D k 0)) := ⟨by rw [if_pos hz, hz]; rfl⟩
  have hmv := fun W => moved_any (d.A i 0) (d.A i 1) (d.D k 0) (by omega) (by omega) (by omega) W
  clear hz
  go_enter Tryz.func113, Tryz.ntmps113
  go_wp2_with fail
  refine wp_region_late [8] (fun _ => True) (fun w9 => NX w d i v b0 b1 (d.A i 0) (d.A i 1) (d.A i 2) (d.A i 3) (d.A i 0) (d.A i 1) w9) (by kernel_rfl) ?_ (fun hHeld => ?_)
  ·exact ⟨trivial, hN.drew⟩
  have hH := hHeld.2
  generalize W5.drew = V5 at hH hHeld ⊢
  refine tkT 0 1 rfl (waits_one [] (by kernel_rfl)) (by intro w9 hSw; have hS := hSw.2; clear hSw; (have z := hS.s.k0; have z2 := hS.s.k1; clear hS; go_simp) <;> with_reducible rfl) hHeld ?_
  refine tk1 1 rfl hHeld ?_
  refine tk1 2 rfl hHeld ?_
  refine tkT 3 1 rfl (waits_one [] (by kernel_rfl)) (by intro w9 hSw; have hS := hSw.2; clear hSw; (have z := hS.f.at'.k3; clear hS; go_simp) <;> with_reducible rfl) hHeld ?_
  refine tk1 4 rfl hHeld ?_
  refine tk1 5 rfl hHeld ?_
  refine tkT 6 1 rfl (waits_one [] (by kernel_rfl)) (by intro w9 hSw; have hS := hSw.2; clear hSw; (have z := hadd w9 hS.f.old; clear hS; go_simp) <;> with_reducible rfl) hHeld ?_
  refine rd1 7 rfl (fun K hK => ?_)
  go_simp
  (go_at_call 137; with_reducible refine (hmv _).mono ?_; rintro e w1 ⟨rfl, hb1⟩)
  refine hK.out _ _ ?_ (fun hHeld => ?_)
  ·exact ⟨trivial, hH.below hb1⟩
  clear hK K hH
  have hH := hHeld.2
  (try simp only [Act.put, xpA, xpZ, xpS])
  refine rdL 8 rfl (fun K hK => ?_)
  have c0 := hH.s.k0
  have c1 := hH.s.k1
  have z0 := hH.s.f0
  have z1 := hH.s.f1
  go_simp
  clear c0 c1 z0 z1
  refine hK.out _ _ ?_ (fun _ => ?_)
  ·trivial
  clear hK K
  (try simp only [Act.put, xpA, xpZ, xpS])
  refine wpAnyP_done (by kernel_rfl) ?_ _
  (try simp only [Act.put, List.getElem_toArray, List.getElem_cons_zero, List.getElem_cons_succ, xpA, xpZ, xpS])
  have hQ := hH.set (d.A i 0 + d.D k 0) (d.A i 1 + d.D k 0)
  generalize (w1.setCell ⟨w.heap.size + 1 + 1 + 1 + 1, 0, none⟩ (.int .i64 (d.A i 0 + d.D k 0))).setCell ⟨w.heap.size + 1 + 1 + 1 + 1, 1, none⟩ (.int .i64 (d.A i 1 + d.D k 0)) = W7 at hQ ⊢
  clear hH hb1 hmv
  by_cases hs0 : d.sn = 0
  ·have hfin : Hdn ((d.acid i).next k (b0, b1) = ((d.A i 0 + d.D k 0), (d.A i 1 + d.D k 0))) := ⟨by
    rw [Acid.next, hst.out]
    show cuts _ _ d.sn _ = _
    rw [hs0]; rfl⟩
   obtain ⟨⟨_, _, _, _, q4, _⟩, _, _, _, _⟩ := id hQ.f
   go_wp2_with fail
   refine wp_loop_rounds 1 ?_
   rw [rounds_succ]
   have c0 := hQ.s.k0
   have c1 := hQ.s.k1
   have r0 := hQ.r.k0
   have r1 := hQ.r.k1
   have g0 := hQ.r.f0
   have g1 := hQ.r.f1
   have hR := hQ.r.set01 (d.A i 0 + d.D k 0) (d.A i 1 + d.D k 0)
   have hO := (hQ.f.old.setCell (p := ⟨w.heap.size + 1 + 1, 0, none⟩) (by show w.heap.size ≤ w.heap.size + 1 + 1; omega) (.int .i64 (d.A i 0 + d.D k 0))).setCell (p := ⟨w.heap.size + 1 + 1, 1, none⟩) (by show w.heap.size ≤ w.heap.size + 1 + 1; omega) (.int .i64 (d.A i 1 + d.D k 0))
   go_wp2
   clear c0 c1 r0 r1 g0 g1
   generalize (W7.setCell ⟨w.heap.size + 1 + 1, 0, none⟩ (.int .i64 (d.A i 0 + d.D k 0))).setCell ⟨w.heap.size + 1 + 1, 1, none⟩ (.int .i64 (d.A i 1 + d.D k 0)) = W8 at hR hO ⊢
   obtain ⟨r0, r1, _, _⟩ := hR
   refine bodyPost_ret (v := .agg #[.int .i64 (d.A i 0 + d.D k 0), .int .i64 (d.A i 1 + d.D k 0)]) ?_ rfl ⟨by rw [hfin.out], hO⟩
   simp [results, Tryz.results113, go_sem, r0, r1]
  ·obtain ⟨bs, os, cs, e', hbs, hsp⟩ := hd.strips.pos (by omega)
   obtain ⟨es, et⟩ : d.sa = some ⟨bs, os, none⟩ ∧ d.sc = cs := by injection e' with e1 e2 e3; exact ⟨e1, e3⟩
   clear e'
   obtain ⟨⟨_, _, _, _, q4, _⟩, _, _, _, _⟩ := id hQ.f
   go_wp2_with fail
   go_loopw [49] (fun i' wr => ∃ k' : Nat, k' ≤ d.sn ∧ i' = .int .i64 k' ∧ ∃ y0 y1, NX w d i v b0 b1 (d.A i 0) (d.A i 1) (d.A i 2) (d.A i 3) y0 y1 wr ∧ Hdn ((y0, y1) = cuts (k : Int) (d.acid i).cl k' (d.A i 0 + d.D k 0, d.A i 1 + d.D k 0))) (fun i' _ => d.sn - (intOf i').toNat)
   case atStart => exact ⟨0, Nat.zero_le _, rfl, _, _, hQ, ⟨by rw [cuts]⟩⟩
   case round =>
    obtain ⟨k', hk5, rfl, y0, y1, hn, hcut⟩ := hrel
    have hk6 : (0 : Int) ≤ (k' : Int) := Int.natCast_nonneg _
    by_cases hlt : k' < d.sn
    ·have hk7 : (k' : Int) < (d.sn : Int) := by omega
     have hk77 : (k' : Int) < 6 := by have := hok.strips; omega
     have hs2 := hsp.below hn.f.old hbs
     have e0 := hs2.first hlt (by decide)
     have e1 := hs2 k' hlt 1 (by decide)
     have e2 := hs2 k' hlt 2 (by decide)
     clear hs2
     obtain ⟨⟨hs00, hs01⟩, ⟨hs10, hs11⟩, hs20, hs21⟩ := hok.strip' hlt
     obtain ⟨W6, hW6⟩ : ∃ W, wr.alloc (Obj.cells #[.int .i64 (d.S k' 0), .int .i64 (d.S k' 1), .int .i64 (d.S k' 2)] 60) = W := ⟨_, rfl⟩
     have hM : NX2 w d i v b0 b1 (d.A i 0) (d.A i 1) (d.A i 2) (d.A i 3) y0 y1 (d.S k' 0) (d.S k' 1) (d.S k' 2) wr.heap.size W6 := by
      rw [← hW6]; exact ⟨hn.below ((Below.refl _ _).alloc (Nat.le_refl _) _), cells_new wr _ _ rfl, cells_new wr _ _ rfl, cells_new wr _ _ rfl, by rw [World.size_alloc]; omega⟩
     have t0 := hM.t0
     clear hn
     by_cases hhr : d.S k' 0 = (k : Int)
     ·have hq : (d.S k' 0 == (k : Int)) = true := by rw [hhr]; simp
      have hstep : Hdn ((max y0 (d.S k' 1 - d.S k' 2), min y1 (d.S k' 1 + d.S k' 2)) = cuts (k : Int) (d.acid i).cl (k' + 1) (d.A i 0 + d.D k 0, d.A i 1 + d.D k 0)) := ⟨by
       rw [cuts, if_pos (by exact hhr), ← hcut.out]; rfl⟩
      clear hhr
      have har := fun W => around_any (d.S k' 1) (d.S k' 2) (by omega) (by omega) (by omega) (by omega) W
      have hco := fun W => common_any y0 y1 (d.S k' 1 - d.S k' 2) (d.S k' 1 + d.S k' 2) W
      go_wp2_with fail
      try rw [hW6]
      refine wp_region_late [7] (fun _ => True) (fun w9 => NX2 w d i v b0 b1 (d.A i 0) (d.A i 1) (d.A i 2) (d.A i 3) y0 y1 (d.S k' 0) (d.S k' 1) (d.S k' 2) wr.heap.size w9) (by kernel_rfl) ?_ (fun hHeld => ?_)
      ·exact ⟨trivial, hM.drew⟩
      have hH := hHeld.2
      generalize W6.drew = V6 at hH hHeld ⊢
      refine tkT 0 1 rfl (waits_one [] (by kernel_rfl)) (by intro w9 hSw; have hS := hSw.2; clear hSw; (have z := hS.n.s.k0; have z2 := hS.n.s.k1; clear hS; go_simp) <;> with_reducible rfl) hHeld ?_
      refine tk1 1 rfl hHeld ?_
      refine tkT 2 1 rfl (waits_one [] (by kernel_rfl)) (by intro w9 hSw; have hS := hSw.2; clear hSw; (have z := hS.t1; clear hS; go_simp) <;> with_reducible rfl) hHeld ?_
      refine tk1 3 rfl hHeld ?_
      refine tkT 4 1 rfl (waits_one [] (by kernel_rfl)) (by intro w9 hSw; have hS := hSw.2; clear hSw; (have z := hS.t2; clear hS; go_simp) <;> with_reducible rfl) hHeld ?_
      refine rd1 5 rfl (fun K hK => ?_)
      go_simp
      (go_at_call 114; with_reducible refine (har _).mono ?_; rintro e w1 ⟨rfl, hb1⟩)
      refine hK.out _ _ ?_ (fun hHeld => ?_)
      ·exact ⟨trivial, hH.below hb1⟩
      clear hK K hH
      have hH := hHeld.2
      (try simp only [Act.put, xpA, xpZ, xpS])
      refine rd1 6 rfl (fun K hK => ?_)
      go_simp
      (go_at_call 122; with_reducible refine (hco _).mono ?_; rintro e w2 ⟨rfl, hb2⟩)
      refine hK.out _ _ ?_ (fun hHeld => ?_)
      ·exact ⟨trivial, hH.below hb2⟩
      clear hK K hH
      have hH := hHeld.2
      (try simp only [Act.put, xpA, xpZ, xpS])
      refine rdL 7 rfl (fun K hK => ?_)
      have c0 := hH.n.s.k0
      have c1 := hH.n.s.k1
      have z0 := hH.n.s.f0
      have z1 := hH.n.s.f1
      go_simp
      clear c0 c1 z0 z1
      refine hK.out _ _ ?_ (fun _ => ?_)
      ·trivial
      clear hK K
      (try simp only [Act.put, xpA, xpZ, xpS])
      refine wpAnyP_done (by kernel_rfl) ?_ _
      (try simp only [Act.put, List.getElem_toArray, List.getElem_cons_zero, List.getElem_cons_succ, xpA, xpZ, xpS])
      have hQ := hH.n.set (max y0 (d.S k' 1 - d.S k' 2)) (min y1 (d.S k' 1 + d.S k' 2))
      generalize (w2.setCell ⟨w.heap.size + 1 + 1 + 1 + 1, 0, none⟩ (.int .i64 (max y0 (d.S k' 1 - d.S k' 2)))).setCell ⟨w.heap.size + 1 + 1 + 1 + 1, 1, none⟩ (.int .i64 (min y1 (d.S k' 1 + d.S k' 2))) = W7 at hQ ⊢
      clear hH hM har hco hcut
      go_wp2
      go_roundw
      case rel => exact ⟨k' + 1, by omega, by go_num, _, _, hQ, hstep⟩
      case measure => simp [intOf]; omega
     ·have hq : (d.S k' 0 == (k : Int)) = false := by simpa using hhr
      have hstep : Hdn ((y0, y1) = cuts (k : Int) (d.acid i).cl (k' + 1) (d.A i 0 + d.D k 0, d.A i 1 + d.D k 0)) := ⟨by
       rw [cuts, if_neg (by exact hhr)]; exact hcut.out⟩
      clear hhr
      go_wp2
      go_roundw
      case rel => exact ⟨k' + 1, by omega, by go_num, _, _, hM.n, hstep⟩
      case measure => simp [intOf]; omega
    ·have hk8 : ¬ (k' : Int) < (d.sn : Int) := by omega
     have hfin : Hdn ((d.acid i).next k (b0, b1) = (y0, y1)) := ⟨by
      have : k' = d.sn := by omega
      subst this
      rw [Acid.next, hst.out]; exact hcut.out.symm⟩
     have c0 := hn.s.k0
     have c1 := hn.s.k1
     have r0 := hn.r.k0
     have r1 := hn.r.k1
     have g0 := hn.r.f0
     have g1 := hn.r.f1
     have hR := hn.r.set01 y0 y1
     have hO := (hn.f.old.setCell (p := ⟨w.heap.size + 1 + 1, 0, none⟩) (by show w.heap.size ≤ w.heap.size + 1 + 1; omega) (.int .i64 y0)).setCell (p := ⟨w.heap.size + 1 + 1, 1, none⟩) (by show w.heap.size ≤ w.heap.size + 1 + 1; omega) (.int .i64 y1)
     go_wp2
     clear c0 c1 r0 r1 g0 g1
     generalize (wr.setCell ⟨w.heap.size + 1 + 1, 0, none⟩ (.int .i64 y0)).setCell ⟨w.heap.size + 1 + 1, 1, none⟩ (.int .i64 y1) = W8 at hR hO ⊢
     obtain ⟨r0, r1, _, _⟩ := hR
     refine bodyPost_ret (v := .agg #[.int .i64 y0, .int .i64 y1]) ?_ rfl ⟨by rw [hfin.out], hO⟩
     simp [results, Tryz.results113, go_sem, r0, r1]


 ·have hk2 : (0 : Int) < (k : Int) := by omega
  have hst : Hdn ((if k = 0 then ((d.acid i).s0 + (d.acid i).add 0, (d.acid i).s1 + (d.acid i).add 0) else (d.acid i).fall k (b0, b1)) = (max 0 (b0 - d.A i 3) + d.D k 0, max 0 (b1 - d.A i 2) + d.D k 0)) := ⟨by rw [if_neg hz]; rfl⟩
  obtain ⟨P0, hP0⟩ : ∃ P, P = max 0 (b0 - d.A i 3) := ⟨_, rfl⟩
  obtain ⟨P1, hP1⟩ : ∃ P, P = max 0 (b1 - d.A i 2) := ⟨_, rfl⟩
  rw [← hP0, ← hP1] at hst
  have hP2 : 0 ≤ P0 ∧ P0 ≤ 10000 := by omega
  have hP3 : 0 ≤ P1 ∧ P1 ≤ 10000 := by omega
  have hP4 : Hdn (P0 = max 0 (b0 - d.A i 3) ∧ P1 = max 0 (b1 - d.A i 2)) := ⟨hP0, hP1⟩
  have hmv := fun W => moved_any P0 P1 (d.D k 0) (by omega) (by omega) (by omega) W
  clear hz hP0 hP1 hP2 hP3
  obtain ⟨_, ⟨x0, x1, _, _⟩, _, _, _, x2, x3, ⟨c0, c1, z0, z1⟩, _⟩ := id hN
  go_enter Tryz.func113, Tryz.ntmps113
  go_wp2_with fail
  all_goals
   refine wp_gen (fun W => NX w d i v b0 b1 (d.A i 0) (d.A i 1) (d.A i 2) (d.A i 3) P0 P1 W) (hN.set' (by have h1 := hP4.out.1; omega) (by have h2 := hP4.out.2; omega)) fun W55 hN2 => ?_
   clear x0 x1 x2 x3 c0 c1 z0 z1
   refine wp_region_late [8] (fun _ => True) (fun w9 => NX w d i v b0 b1 (d.A i 0) (d.A i 1) (d.A i 2) (d.A i 3) P0 P1 w9) (by kernel_rfl) ?_ (fun hHeld => ?_)
   ·exact ⟨trivial, hN2.drew⟩
   have hH := hHeld.2
   generalize W55.drew = V5 at hH hHeld ⊢
   refine tkT 0 1 rfl (waits_one [] (by kernel_rfl)) (by intro w9 hSw; have hS := hSw.2; clear hSw; (have z := hS.s.k0; have z2 := hS.s.k1; clear hS; go_simp) <;> with_reducible rfl) hHeld ?_
   refine tk1 1 rfl hHeld ?_
   refine tk1 2 rfl hHeld ?_
   refine tkT 3 1 rfl (waits_one [] (by kernel_rfl)) (by intro w9 hSw; have hS := hSw.2; clear hSw; (have z := hS.f.at'.k3; clear hS; go_simp) <;> with_reducible rfl) hHeld ?_
   refine tk1 4 rfl hHeld ?_
   refine tk1 5 rfl hHeld ?_
   refine tkT 6 1 rfl (waits_one [] (by kernel_rfl)) (by intro w9 hSw; have hS := hSw.2; clear hSw; (have z := hadd w9 hS.f.old; clear hS; go_simp) <;> with_reducible rfl) hHeld ?_
   refine rd1 7 rfl (fun K hK => ?_)
   go_simp
   (go_at_call 137; with_reducible refine (hmv _).mono ?_; rintro e w1 ⟨rfl, hb1⟩)
   refine hK.out _ _ ?_ (fun hHeld => ?_)
   ·exact ⟨trivial, hH.below hb1⟩
   clear hK K hH
   have hH := hHeld.2
   (try simp only [Act.put, xpA, xpZ, xpS])
   refine rdL 8 rfl (fun K hK => ?_)
   have c0 := hH.s.k0
   have c1 := hH.s.k1
   have z0 := hH.s.f0
   have z1 := hH.s.f1
   go_simp
   clear c0 c1 z0 z1
   refine hK.out _ _ ?_ (fun _ => ?_)
   ·trivial
   clear hK K
   (try simp only [Act.put, xpA, xpZ, xpS])
   refine wpAnyP_done (by kernel_rfl) ?_ _
   (try simp only [Act.put, List.getElem_toArray, List.getElem_cons_zero, List.getElem_cons_succ, xpA, xpZ, xpS])
   have hQ := hH.set (P0 + d.D k 0) (P1 + d.D k 0)
   generalize (w1.setCell ⟨w.heap.size + 1 + 1 + 1 + 1, 0, none⟩ (.int .i64 (P0 + d.D k 0))).setCell ⟨w.heap.size + 1 + 1 + 1 + 1, 1, none⟩ (.int .i64 (P1 + d.D k 0)) = W7 at hQ ⊢
   clear hH hb1 hmv
   by_cases hs0 : d.sn = 0
   ·have hfin : Hdn ((d.acid i).next k (b0, b1) = ((P0 + d.D k 0), (P1 + d.D k 0))) := ⟨by
     rw [Acid.next, hst.out]
     show cuts _ _ d.sn _ = _
     rw [hs0]; rfl⟩
    obtain ⟨⟨_, _, _, _, q4, _⟩, _, _, _, _⟩ := id hQ.f
    go_wp2_with fail
    refine wp_loop_rounds 1 ?_
    rw [rounds_succ]
    have c0 := hQ.s.k0
    have c1 := hQ.s.k1
    have r0 := hQ.r.k0
    have r1 := hQ.r.k1
    have g0 := hQ.r.f0
    have g1 := hQ.r.f1
    have hR := hQ.r.set01 (P0 + d.D k 0) (P1 + d.D k 0)
    have hO := (hQ.f.old.setCell (p := ⟨w.heap.size + 1 + 1, 0, none⟩) (by show w.heap.size ≤ w.heap.size + 1 + 1; omega) (.int .i64 (P0 + d.D k 0))).setCell (p := ⟨w.heap.size + 1 + 1, 1, none⟩) (by show w.heap.size ≤ w.heap.size + 1 + 1; omega) (.int .i64 (P1 + d.D k 0))
    go_wp2
    clear c0 c1 r0 r1 g0 g1
    generalize (W7.setCell ⟨w.heap.size + 1 + 1, 0, none⟩ (.int .i64 (P0 + d.D k 0))).setCell ⟨w.heap.size + 1 + 1, 1, none⟩ (.int .i64 (P1 + d.D k 0)) = W8 at hR hO ⊢
    obtain ⟨r0, r1, _, _⟩ := hR
    refine bodyPost_ret (v := .agg #[.int .i64 (P0 + d.D k 0), .int .i64 (P1 + d.D k 0)]) ?_ rfl ⟨by rw [hfin.out], hO⟩
    simp [results, Tryz.results113, go_sem, r0, r1]
   ·obtain ⟨bs, os, cs, e', hbs, hsp⟩ := hd.strips.pos (by omega)
    obtain ⟨es, et⟩ : d.sa = some ⟨bs, os, none⟩ ∧ d.sc = cs := by injection e' with e1 e2 e3; exact ⟨e1, e3⟩
    clear e'
    obtain ⟨⟨_, _, _, _, q4, _⟩, _, _, _, _⟩ := id hQ.f
    go_wp2_with fail
    go_loopw [49] (fun i' wr => ∃ k' : Nat, k' ≤ d.sn ∧ i' = .int .i64 k' ∧ ∃ y0 y1, NX w d i v b0 b1 (d.A i 0) (d.A i 1) (d.A i 2) (d.A i 3) y0 y1 wr ∧ Hdn ((y0, y1) = cuts (k : Int) (d.acid i).cl k' (P0 + d.D k 0, P1 + d.D k 0))) (fun i' _ => d.sn - (intOf i').toNat)
    case atStart => exact ⟨0, Nat.zero_le _, rfl, _, _, hQ, ⟨by rw [cuts]⟩⟩
    case round =>
     obtain ⟨k', hk5, rfl, y0, y1, hn, hcut⟩ := hrel
     have hk6 : (0 : Int) ≤ (k' : Int) := Int.natCast_nonneg _
     by_cases hlt : k' < d.sn
     ·have hk7 : (k' : Int) < (d.sn : Int) := by omega
      have hk77 : (k' : Int) < 6 := by have := hok.strips; omega
      have hs2 := hsp.below hn.f.old hbs
      have e0 := hs2.first hlt (by decide)
      have e1 := hs2 k' hlt 1 (by decide)
      have e2 := hs2 k' hlt 2 (by decide)
      clear hs2
      obtain ⟨⟨hs00, hs01⟩, ⟨hs10, hs11⟩, hs20, hs21⟩ := hok.strip' hlt
      obtain ⟨W6, hW6⟩ : ∃ W, wr.alloc (Obj.cells #[.int .i64 (d.S k' 0), .int .i64 (d.S k' 1), .int .i64 (d.S k' 2)] 60) = W := ⟨_, rfl⟩
      have hM : NX2 w d i v b0 b1 (d.A i 0) (d.A i 1) (d.A i 2) (d.A i 3) y0 y1 (d.S k' 0) (d.S k' 1) (d.S k' 2) wr.heap.size W6 := by
       rw [← hW6]; exact ⟨hn.below ((Below.refl _ _).alloc (Nat.le_refl _) _), cells_new wr _ _ rfl, cells_new wr _ _ rfl, cells_new wr _ _ rfl, by rw [World.size_alloc]; omega⟩
      have t0 := hM.t0
      clear hn
      by_cases hhr : d.S k' 0 = (k : Int)
      ·have hq : (d.S k' 0 == (k : Int)) = true := by rw [hhr]; simp
       have hstep : Hdn ((max y0 (d.S k' 1 - d.S k' 2), min y1 (d.S k' 1 + d.S k' 2)) = cuts (k : Int) (d.acid i).cl (k' + 1) (P0 + d.D k 0, P1 + d.D k 0)) := ⟨by
        rw [cuts, if_pos (by exact hhr), ← hcut.out]; rfl⟩
       clear hhr
       have har := fun W => around_any (d.S k' 1) (d.S k' 2) (by omega) (by omega) (by omega) (by omega) W
       have hco := fun W => common_any y0 y1 (d.S k' 1 - d.S k' 2) (d.S k' 1 + d.S k' 2) W
       go_wp2_with fail
       try rw [hW6]
       refine wp_region_late [7] (fun _ => True) (fun w9 => NX2 w d i v b0 b1 (d.A i 0) (d.A i 1) (d.A i 2) (d.A i 3) y0 y1 (d.S k' 0) (d.S k' 1) (d.S k' 2) wr.heap.size w9) (by kernel_rfl) ?_ (fun hHeld => ?_)
       ·exact ⟨trivial, hM.drew⟩
       have hH := hHeld.2
       generalize W6.drew = V6 at hH hHeld ⊢
       refine tkT 0 1 rfl (waits_one [] (by kernel_rfl)) (by intro w9 hSw; have hS := hSw.2; clear hSw; (have z := hS.n.s.k0; have z2 := hS.n.s.k1; clear hS; go_simp) <;> with_reducible rfl) hHeld ?_
       refine tk1 1 rfl hHeld ?_
       refine tkT 2 1 rfl (waits_one [] (by kernel_rfl)) (by intro w9 hSw; have hS := hSw.2; clear hSw; (have z := hS.t1; clear hS; go_simp) <;> with_reducible rfl) hHeld ?_
       refine tk1 3 rfl hHeld ?_
       refine tkT 4 1 rfl (waits_one [] (by kernel_rfl)) (by intro w9 hSw; have hS := hSw.2; clear hSw; (have z := hS.t2; clear hS; go_simp) <;> with_reducible rfl) hHeld ?_
       refine rd1 5 rfl (fun K hK => ?_)
       go_simp
       (go_at_call 114; with_reducible refine (har _).mono ?_; rintro e w1 ⟨rfl, hb1⟩)
       refine hK.out _ _ ?_ (fun hHeld => ?_)
       ·exact ⟨trivial, hH.below hb1⟩
       clear hK K hH
       have hH := hHeld.2
       (try simp only [Act.put, xpA, xpZ, xpS])
       refine rd1 6 rfl (fun K hK => ?_)
       go_simp
       (go_at_call 122; with_reducible refine (hco _).mono ?_; rintro e w2 ⟨rfl, hb2⟩)
       refine hK.out _ _ ?_ (fun hHeld => ?_)
       ·exact ⟨trivial, hH.below hb2⟩
       clear hK K hH
       have hH := hHeld.2
       (try simp only [Act.put, xpA, xpZ, xpS])
       refine rdL 7 rfl (fun K hK => ?_)
       have c0 := hH.n.s.k0
       have c1 := hH.n.s.k1
       have z0 := hH.n.s.f0
       have z1 := hH.n.s.f1
       go_simp
       clear c0 c1 z0 z1
       refine hK.out _ _ ?_ (fun _ => ?_)
       ·trivial
       clear hK K
       (try simp only [Act.put, xpA, xpZ, xpS])
       refine wpAnyP_done (by kernel_rfl) ?_ _
       (try simp only [Act.put, List.getElem_toArray, List.getElem_cons_zero, List.getElem_cons_succ, xpA, xpZ, xpS])
       have hQ := hH.n.set (max y0 (d.S k' 1 - d.S k' 2)) (min y1 (d.S k' 1 + d.S k' 2))
       generalize (w2.setCell ⟨w.heap.size + 1 + 1 + 1 + 1, 0, none⟩ (.int .i64 (max y0 (d.S k' 1 - d.S k' 2)))).setCell ⟨w.heap.size + 1 + 1 + 1 + 1, 1, none⟩ (.int .i64 (min y1 (d.S k' 1 + d.S k' 2))) = W7 at hQ ⊢
       clear hH hM har hco hcut
       go_wp2
       go_roundw
       case rel => exact ⟨k' + 1, by omega, by go_num, _, _, hQ, hstep⟩
       case measure => simp [intOf]; omega
      ·have hq : (d.S k' 0 == (k : Int)) = false := by simpa using hhr
       have hstep : Hdn ((y0, y1) = cuts (k : Int) (d.acid i).cl (k' + 1) (P0 + d.D k 0, P1 + d.D k 0)) := ⟨by
        rw [cuts, if_neg (by exact hhr)]; exact hcut.out⟩
       clear hhr
       go_wp2
       go_roundw
       case rel => exact ⟨k' + 1, by omega, by go_num, _, _, hM.n, hstep⟩
       case measure => simp [intOf]; omega
     ·have hk8 : ¬ (k' : Int) < (d.sn : Int) := by omega
      have hfin : Hdn ((d.acid i).next k (b0, b1) = (y0, y1)) := ⟨by
       have : k' = d.sn := by omega
       subst this
       rw [Acid.next, hst.out]; exact hcut.out.symm⟩
      have c0 := hn.s.k0
      have c1 := hn.s.k1
      have r0 := hn.r.k0
      have r1 := hn.r.k1
      have g0 := hn.r.f0
      have g1 := hn.r.f1
      have hR := hn.r.set01 y0 y1
      have hO := (hn.f.old.setCell (p := ⟨w.heap.size + 1 + 1, 0, none⟩) (by show w.heap.size ≤ w.heap.size + 1 + 1; omega) (.int .i64 y0)).setCell (p := ⟨w.heap.size + 1 + 1, 1, none⟩) (by show w.heap.size ≤ w.heap.size + 1 + 1; omega) (.int .i64 y1)
      go_wp2
      clear c0 c1 r0 r1 g0 g1
      generalize (wr.setCell ⟨w.heap.size + 1 + 1, 0, none⟩ (.int .i64 y0)).setCell ⟨w.heap.size + 1 + 1, 1, none⟩ (.int .i64 y1) = W8 at hR hO ⊢
      obtain ⟨r0, r1, _, _⟩ := hR
      refine bodyPost_ret (v := .agg #[.int .i64 y0, .int .i64 y1]) ?_ rfl ⟨by rw [hfin.out], hO⟩
      simp [results, Tryz.results113, go_sem, r0, r1]


end Go.Proofs.YtlhgkepdoinlnaaGreatDoor
