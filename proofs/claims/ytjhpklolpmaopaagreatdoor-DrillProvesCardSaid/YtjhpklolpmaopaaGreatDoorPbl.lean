/- A part of the proof: see the last file. -/
import Derived.Test.YtjhpklolpmaopaaGreatDoorPaa
import Derived.Test.YtjhpklolpmaopaaGreatDoorPbj
import Derived.Test.YtjhpklolpmaopaaGreatDoorPbi
import Derived.Test.YtjhpklolpmaopaaGreatDoorPak
import Derived.Test.YtjhpklolpmaopaaGreatDoorPbf
import Derived.Test.YtjhpklolpmaopaaGreatDoorPbd
import Derived.Test.YtjhpklolpmaopaaGreatDoorPbh
set_option linter.unusedVariables false
set_option linter.unusedSimpArgs false
set_option linter.unusedSectionVars false
namespace Go.Proofs.YtjhpklolpmaopaaGreatDoor
open Go.RowKit Go.Maps
/-- what a proof's function boxes. -/
structure PU (w : World) (m : Mach) (v1 : Value) (r : Int) (k bl : Int) (W : World) : Prop where
 old : Below w.heap.size w W
 mach : MAt W w.heap.size m
 c0 : W.cell? ⟨w.heap.size + 1, 0, none⟩ = some v1
 c1 : W.cell? ⟨w.heap.size + 1, 1, none⟩ = some (.int .i64 r)
 ka : W.cell? ⟨w.heap.size + 2, 0, none⟩ = some (.int .i64 k)
 kb : W.cell? ⟨w.heap.size + 3, 0, none⟩ = some (.int .i64 bl)
 t8 : Two W (w.heap.size + 4) 0 0
 t9 : Two W (w.heap.size + 5) 0 0
 big : w.heap.size + 6 ≤ W.heap.size
theorem PU.of_far {w : World} {m : Mach} {v1 : Value} {r : Int} {k bl : Int} {W W' : World} (h : PU w m v1 r k bl W) (hh : ∀ b, b < w.heap.size + 6 → W'.heap[b]? = W.heap[b]?) (ho : Below w.heap.size w W') (hz : W.heap.size ≤ W'.heap.size) : PU w m v1 r k bl W' := by
 have c : ∀ b o, b < w.heap.size + 6 → W'.cell? ⟨b, o, none⟩ = W.cell? ⟨b, o, none⟩ := fun b o hb => World.cell?_of_block (hh b hb)
 obtain ⟨y0, y1, y2, y3, y4, y5, y6, y7, y8, y9⟩ := h.mach
 exact ⟨ho, ⟨(c _ 0 (by omega)).trans y0, (c _ 1 (by omega)).trans y1, (c _ 2 (by omega)).trans y2, (c _ 3 (by omega)).trans y3, (c _ 4 (by omega)).trans y4, (c _ 5 (by omega)).trans y5, (c _ 6 (by omega)).trans y6, (c _ 7 (by omega)).trans y7, (c _ 8 (by omega)).trans y8, (c _ 9 (by omega)).trans y9⟩,
  (c _ 0 (by omega)).trans h.c0, (c _ 1 (by omega)).trans h.c1, (c _ 0 (by omega)).trans h.ka, (c _ 0 (by omega)).trans h.kb, h.t8.far (hh _ (by omega)), h.t9.far (hh _ (by omega)), Nat.le_trans h.big hz⟩
theorem PU.far {w : World} {m : Mach} {v1 : Value} {r : Int} {k bl : Int} {W W' : World} {B : Nat} (h : PU w m v1 r k bl W) (hB : w.heap.size + 6 ≤ B) (hb : Below B W W') : PU w m v1 r k bl W' :=
 h.of_far (fun b hl => hb.block b (by omega)) (h.old.trans (hb.mono (by omega))) hb.size
theorem PU.below {w : World} {m : Mach} {v1 : Value} {r : Int} {k bl : Int} {W W' : World} (h : PU w m v1 r k bl W) (hb : Below W.heap.size W W') : PU w m v1 r k bl W' := h.far h.big hb
theorem PU.drew {w : World} {m : Mach} {v1 : Value} {r : Int} {k bl : Int} {W : World} (h : PU w m v1 r k bl W) : PU w m v1 r k bl W.drew := h.below (Below.refl _ _).drew
theorem PU.alloc {w : World} {m : Mach} {v1 : Value} {r : Int} {k bl : Int} {W : World} (h : PU w m v1 r k bl W) (o : Obj) : PU w m v1 r k bl (W.alloc o) := h.below ((Below.refl _ _).alloc (Nat.le_refl _) o)
theorem PU.put {w : World} {m : Mach} {v1 : Value} {r : Int} {k bl : Int} {W : World} (h : PU w m v1 r k bl W) {g : Nat} (hg : w.heap.size + 6 ≤ g) (L : List Value) : PU w m v1 r k bl (W.setCells g 0 L) :=
 h.far (Nat.le_refl _) (below_setCells hg L 0 W (Below.refl _ _))
set_option maxRecDepth 100000 in
set_option maxHeartbeats 16000000 in
theorem Proves_noA (a1 : Option Addr) (n c1 : Nat) (r : Int) (HX HY : Nat → Int) (m : Mach) (k bl : Int) (w : World) (hn : n ≤ 1000) (hs : m.sn ≤ 1000) (hr : m.rn ≤ 9223372036854775807) (hp : PSl w (.slice a1 n c1) n HX HY) (h : MIn w m)
  (h1 : (butB n HX HY r && decide (n = m.sn)) = false) (er : Int) (hA : Able m false er) (hne : er ≠ 0) :
  Calls Tryz.prog 19 #[m.val, .agg #[.slice a1 n c1, .int .i64 r], .int .i64 k, .int .i64 bl] w fun e w' => e = .returned (.tuple #[.agg #[.int .i64 0, .int .i64 0], .agg #[.int .i64 0, .int .i64 0], .int .i64 er]) ∧ Below w.heap.size w w' := by
 obtain ⟨L, er', hE, hC⟩ := examine_any m false w hs hr h
 obtain rfl : er' = er := Able.same hE.able hA
 clear hA
 have hif := fun (W : World) (hB : Below w.heap.size w W) => isOf_any (.slice a1 n c1) a1 n c1 r HX HY m W rfl hn (by omega) (hp.below hB)
 rw [h1] at hif
 have hwa := fun (W : World) => within_any k 1 12 W
 have hwb := fun (W : World) => within_any bl 0 12 W
 clear h1
 obtain ⟨A1, hA1⟩ : ∃ A, (w.alloc (.cells #[.slice m.sa m.sn m.sc, .int .i64 m.c0, .int .i64 m.c1, .int .i64 m.d0, .int .i64 m.d1, .int .i64 m.w0, .int .i64 m.w1, .int .i64 m.v0, .int .i64 m.v1, .slice m.ra m.rn m.rc] 27)).alloc (Obj.cells #[.slice a1 n c1, .int .i64 r] 41) = A := ⟨_, rfl⟩
 obtain ⟨A2, hA2⟩ : ∃ A, A1.alloc (Obj.cells #[.int .i64 k] 3) = A := ⟨_, rfl⟩
 obtain ⟨A3, hA3⟩ : ∃ A, A2.alloc (Obj.cells #[.int .i64 bl] 3) = A := ⟨_, rfl⟩
 obtain ⟨A4, hA4⟩ : ∃ A, A3.alloc (Obj.cells #[.int .i64 0, .int .i64 0] 24) = A := ⟨_, rfl⟩
 obtain ⟨W0, hW0⟩ : ∃ A, A4.alloc (Obj.cells #[.int .i64 0, .int .i64 0] 24) = A := ⟨_, rfl⟩
 have hSB : SB w A1 m (.slice a1 n c1) r := by rw [← hA1]; exact SB.new w m _ r
 have s1 : A1.heap.size = w.heap.size + 1 + 1 := by rw [← hA1, World.size_alloc, World.size_alloc]
 have s2 : A2.heap.size = w.heap.size + 1 + 1 + 1 := by rw [← hA2, World.size_alloc, s1]
 have s3 : A3.heap.size = w.heap.size + 1 + 1 + 1 + 1 := by rw [← hA3, World.size_alloc, s2]
 have s4 : A4.heap.size = w.heap.size + 1 + 1 + 1 + 1 + 1 := by rw [← hA4, World.size_alloc, s3]
 have s5 : W0.heap.size = w.heap.size + 1 + 1 + 1 + 1 + 1 + 1 := by rw [← hW0, World.size_alloc, s4]
 have b12 : Below A1.heap.size A1 A2 := by rw [← hA2]; exact (Below.refl _ _).alloc (Nat.le_refl _) _
 have b23 : Below A2.heap.size A2 A3 := by rw [← hA3]; exact (Below.refl _ _).alloc (Nat.le_refl _) _
 have b34 : Below A3.heap.size A3 A4 := by rw [← hA4]; exact (Below.refl _ _).alloc (Nat.le_refl _) _
 have b45 : Below A4.heap.size A4 W0 := by rw [← hW0]; exact (Below.refl _ _).alloc (Nat.le_refl _) _
 have b35 := b34.trans (b45.mono b34.size)
 have b25 := b23.trans (b35.mono b23.size)
 have b15 := b12.trans (b25.mono b12.size)
 have ka : A2.cell? ⟨w.heap.size + 2, 0, none⟩ = some (.int .i64 k) := by have := cells_new A1 #[.int .i64 k] 3 (j := 0) rfl; rw [s1, hA2] at this; exact this
 have kb : A3.cell? ⟨w.heap.size + 3, 0, none⟩ = some (.int .i64 bl) := by have := cells_new A2 #[.int .i64 bl] 3 (j := 0) rfl; rw [s2, hA3] at this; exact this
 have t8 : Two A4 (w.heap.size + 4) 0 0 := by have := Two.new A3 24 0 0; rw [s3, hA4] at this; exact this
 have t9 : Two W0 (w.heap.size + 5) 0 0 := by have := Two.new A4 24 0 0; rw [s4, hW0] at this; exact this
 have hSB0 := hSB.below b15
 have hPU : PU w m (.slice a1 n c1) r k bl W0 := ⟨hSB0.old, hSB0.mach, hSB0.c0, hSB0.c1, (b25.cell (p := ⟨w.heap.size + 2, 0, none⟩) (by show w.heap.size + 2 < _; omega)).trans ka, (b35.cell (p := ⟨w.heap.size + 3, 0, none⟩) (by show w.heap.size + 3 < _; omega)).trans kb, t8.below b45 (by omega), t9, by omega⟩
 have hal := zst_lit
 have hlz : zst.length = 62 := zM.st_length rfl rfl
 have hlL := hE.length
 have hoL := all_oneCell_toArray hE.one
 have hi0 : (Tryz.prog.info? 93).map (·.size) = some 62 := by kernel_rfl
 have hiL : (Tryz.prog.info? 93).map (·.size) = some L.length := by rw [hlL]; exact hi0
 have hiA : (Tryz.prog.info? 93).map (·.size) = some L.toArray.size := by rw [List.size_toArray, hlL]; exact hi0
 have hS0 := fun (W : World) => SAt.new W zst 93
 have hth := fun (W : World) (g : Nat) (H : SAt W g zst) => H.there 0 L.toArray.size (by rw [List.size_toArray, hlL, hlz]; omega)
 have hfi := fun (W : World) (g : Nat) (H : SAt W g zst) => SAt.fill (L' := L) H (by rw [hlL, hlz])
 clear hi0 hE hSB hSB0 b12 b23 b34 b45 b35 b25 b15 ka kb t8 t9 hfi
 generalize zst = Z at *
 go_enter Tryz.func19, Tryz.ntmps19
 go_wp2_with fail
 try rw [hA1, hA2, hA3, hA4, hW0]
 clear hA1 hA2 hA3 hA4 hW0 s1 s2 s3 s4 s5
 rename_i Q' K hKK
 refine (fun (fin : ∀ (g : Nat) (V : World), PU w m (.slice a1 n c1) r k bl V → Exit.then K Q' Exit.normal ((?F : Nat → Act) g) V) => ?leafs) ?fin
 case leafs =>
  refine wp_region_late [] (fun w9 => PU w m (.slice a1 n c1) r k bl w9) (fun w9 => True) (by kernel_rfl) ?_ (fun hHeld => ?_)
  ·(exact ⟨hPU.drew, trivial⟩)
  generalize W0.drew = V1 at hHeld ⊢
  refine tk2 0 rfl (by (intro w9 hSw; obtain ⟨z0, z1, z2, z3, z4, z5, z6, z7, z8, z9⟩ := hSw.mach; clear hSw; go_simp) <;> with_reducible rfl) hHeld ?_
  refine tk2 1 rfl (by (intro w9 hSw; have z0 := hSw.c0; have z1 := hSw.c1; clear hSw; go_simp) <;> with_reducible rfl) hHeld ?_
  refine tk2 2 rfl (by (intro w9 hSw; obtain ⟨z0, z1, z2, z3, z4, z5, z6, z7, z8, z9⟩ := hSw.mach; clear hSw; go_simp) <;> with_reducible rfl) hHeld ?_
  refine wpAnyP_ready (rs := [3, 16]) (by kernel_rfl) (by simp) ?_
  refine AllReadyP.cons (o := _) rfl (fun K hK => ?_) (AllReadyP.cons (o := _) rfl (fun K hK => ?_) AllReadyP.nil)
  ·go_simp
   (go_at_call 47; with_reducible refine (hif _ hHeld.1.old).mono ?_; rintro e w3 ⟨rfl, hb3⟩)
   refine hK.out _ _ ?_ (fun hHeld => ?_)
   ·(exact ⟨hHeld.1.below hb3, trivial⟩)
   clear hK K
   (try simp only [Act.put, pA, pZ, pS])
   refine tk1 4 rfl hHeld ?_
   refine tk0 5 (undef) rfl (Or.inr ⟨by kernel_rfl, rfl⟩) hHeld ?_
   (try simp only [Act.put, pA, pZ, pS])
   refine wpAnyP_ready (rs := [6, 16]) (by kernel_rfl) (by simp) ?_
   refine AllReadyP.cons (o := _) rfl (fun K hK => ?_) (AllReadyP.cons (o := _) rfl (fun K hK => ?_) AllReadyP.nil)
   ·go_simp
    refine hK.out _ _ ?_ (fun hHeld => ?_)
    ·(exact hHeld)
    clear hK K
    (try simp only [Act.put, pA, pZ, pS])
    refine tk1 7 rfl hHeld ?_
    refine tk1 8 rfl hHeld ?_
    refine tk0 9 (undef) rfl (Or.inr ⟨by kernel_rfl, rfl⟩) hHeld ?_
    (try simp only [Act.put, pA, pZ, pS])
    refine wpAnyP_ready (rs := [10, 16]) (by kernel_rfl) (by simp) ?_
    refine AllReadyP.cons (o := _) rfl (fun K hK => ?_) (AllReadyP.cons (o := _) rfl (fun K hK => ?_) AllReadyP.nil)
    ·go_simp
     refine hK.out _ _ ?_ (fun hHeld => ?_)
     ·(exact hHeld)
     clear hK K
     (try simp only [Act.put, pA, pZ, pS])
     refine tk1 11 rfl hHeld ?_
     refine wpAnyP_ready (rs := [12, 16]) (by kernel_rfl) (by simp) ?_
     refine AllReadyP.cons (o := _) rfl (fun K hK => ?_) (AllReadyP.cons (o := _) rfl (fun K hK => ?_) AllReadyP.nil)
     ·go_simp
      (go_at_call 46; with_reducible refine (hC _ hHeld.1.old).mono ?_; rintro e w12 ⟨rfl, hb12⟩)
      refine hK.out _ _ ?_ (fun hHeld => ?_)
      ·(exact ⟨hHeld.1.below hb12, trivial⟩)
      clear hK K
      (try simp only [Act.put, pA, pZ, pS])
      refine tk1 13 rfl hHeld ?_
      refine tk1 14 rfl hHeld ?_
      refine tk1 15 rfl hHeld ?_
      refine rd1 16 rfl (fun K hK => ?_)
      go_simp
      (try simp only [hal])
      have hZ := hS0 w12
      have hgz := hHeld.1.big
      have hZl : w12.heap.size < (w12.alloc (Obj.cells Z.toArray 93)).heap.size := by rw [World.size_alloc]; omega
      refine hK.out _ _ ?_ (fun hHeld => ?_)
      ·(exact ⟨hHeld.1.alloc _, trivial⟩)
      clear hK K
      (try simp only [Act.put, pA, pZ, pS])
      refine rd1 17 rfl (fun K hK => ?_)
      refine step_store_mid rfl 93 _ _ rfl w12.heap.size 0 L.toArray rfl rfl (hth _ _ hZ) hiA hoL ?_
      have hK5 := hHeld.1.put hgz L
      refine hK.out _ _ ?_ (fun hHeld => ?_)
      ·(exact ⟨hK5, trivial⟩)
      clear hK K
      (try simp only [Act.put, pA, pZ, pS])
      refine tk1 18 rfl hHeld ?_
      refine wpAnyP_done (by kernel_rfl) ?_ _
      (try simp only [Act.put, List.getElem_toArray, List.getElem_cons_zero, List.getElem_cons_succ, pA, pZ, pS])
      have hH5 := hHeld.1
      clear hHeld
      obtain ⟨gg, hgg⟩ : ∃ x, w12.heap.size = x := ⟨_, rfl⟩
      simp only [hgg] at hH5 ⊢
      exact fin gg _ hH5
     ·go_simp
      (try simp only [hal])
      have hZ := hS0 w3
      have hgz := hHeld.1.big
      have hZl : w3.heap.size < (w3.alloc (Obj.cells Z.toArray 93)).heap.size := by rw [World.size_alloc]; omega
      refine hK.out _ _ ?_ (fun hHeld => ?_)
      ·(exact ⟨hHeld.1.alloc _, trivial⟩)
      clear hK K
      (try simp only [Act.put, pA, pZ, pS])
      refine rd1 12 rfl (fun K hK => ?_)
      go_simp
      (go_at_call 46; with_reducible refine (hC _ hHeld.1.old).mono ?_; rintro e w12 ⟨rfl, hb12⟩)
      replace hZ := hZ.below hb12 hZl
      replace hZl := Nat.lt_of_lt_of_le hZl hb12.size
      refine hK.out _ _ ?_ (fun hHeld => ?_)
      ·(exact ⟨hHeld.1.below hb12, trivial⟩)
      clear hK K
      (try simp only [Act.put, pA, pZ, pS])
      refine tk1 13 rfl hHeld ?_
      refine tk1 14 rfl hHeld ?_
      refine tk1 15 rfl hHeld ?_
      refine rd1 17 rfl (fun K hK => ?_)
      refine step_store_mid rfl 93 _ _ rfl w3.heap.size 0 L.toArray rfl rfl (hth _ _ hZ) hiA hoL ?_
      have hK5 := hHeld.1.put hgz L
      refine hK.out _ _ ?_ (fun hHeld => ?_)
      ·(exact ⟨hK5, trivial⟩)
      clear hK K
      (try simp only [Act.put, pA, pZ, pS])
      refine tk1 18 rfl hHeld ?_
      refine wpAnyP_done (by kernel_rfl) ?_ _
      (try simp only [Act.put, List.getElem_toArray, List.getElem_cons_zero, List.getElem_cons_succ, pA, pZ, pS])
      have hH5 := hHeld.1
      clear hHeld
      obtain ⟨gg, hgg⟩ : ∃ x, w3.heap.size = x := ⟨_, rfl⟩
      simp only [hgg] at hH5 ⊢
      exact fin gg _ hH5
    ·go_simp
     (try simp only [hal])
     have hZ := hS0 w3
     have hgz := hHeld.1.big
     have hZl : w3.heap.size < (w3.alloc (Obj.cells Z.toArray 93)).heap.size := by rw [World.size_alloc]; omega
     refine hK.out _ _ ?_ (fun hHeld => ?_)
     ·(exact ⟨hHeld.1.alloc _, trivial⟩)
     clear hK K
     (try simp only [Act.put, pA, pZ, pS])
     refine rd1 10 rfl (fun K hK => ?_)
     go_simp
     refine hK.out _ _ ?_ (fun hHeld => ?_)
     ·(exact hHeld)
     clear hK K
     (try simp only [Act.put, pA, pZ, pS])
     refine tk1 11 rfl hHeld ?_
     refine rd1 12 rfl (fun K hK => ?_)
     go_simp
     (go_at_call 46; with_reducible refine (hC _ hHeld.1.old).mono ?_; rintro e w12 ⟨rfl, hb12⟩)
     replace hZ := hZ.below hb12 hZl
     replace hZl := Nat.lt_of_lt_of_le hZl hb12.size
     refine hK.out _ _ ?_ (fun hHeld => ?_)
     ·(exact ⟨hHeld.1.below hb12, trivial⟩)
     clear hK K
     (try simp only [Act.put, pA, pZ, pS])
     refine tk1 13 rfl hHeld ?_
     refine tk1 14 rfl hHeld ?_
     refine tk1 15 rfl hHeld ?_
     refine rd1 17 rfl (fun K hK => ?_)
     refine step_store_mid rfl 93 _ _ rfl w3.heap.size 0 L.toArray rfl rfl (hth _ _ hZ) hiA hoL ?_
     have hK5 := hHeld.1.put hgz L
     refine hK.out _ _ ?_ (fun hHeld => ?_)
     ·(exact ⟨hK5, trivial⟩)
     clear hK K
     (try simp only [Act.put, pA, pZ, pS])
     refine tk1 18 rfl hHeld ?_
     refine wpAnyP_done (by kernel_rfl) ?_ _
     (try simp only [Act.put, List.getElem_toArray, List.getElem_cons_zero, List.getElem_cons_succ, pA, pZ, pS])
     have hH5 := hHeld.1
     clear hHeld
     obtain ⟨gg, hgg⟩ : ∃ x, w3.heap.size = x := ⟨_, rfl⟩
     simp only [hgg] at hH5 ⊢
     exact fin gg _ hH5
   ·go_simp
    (try simp only [hal])
    have hZ := hS0 w3
    have hgz := hHeld.1.big
    have hZl : w3.heap.size < (w3.alloc (Obj.cells Z.toArray 93)).heap.size := by rw [World.size_alloc]; omega
    refine hK.out _ _ ?_ (fun hHeld => ?_)
    ·(exact ⟨hHeld.1.alloc _, trivial⟩)
    clear hK K
    (try simp only [Act.put, pA, pZ, pS])
    refine rd1 6 rfl (fun K hK => ?_)
    go_simp
    refine hK.out _ _ ?_ (fun hHeld => ?_)
    ·(exact hHeld)
    clear hK K
    (try simp only [Act.put, pA, pZ, pS])
    refine tk1 7 rfl hHeld ?_
    refine tk1 8 rfl hHeld ?_
    refine tk0 9 (undef) rfl (Or.inr ⟨by kernel_rfl, rfl⟩) hHeld ?_
    (try simp only [Act.put, pA, pZ, pS])
    refine rd1 10 rfl (fun K hK => ?_)
    go_simp
    refine hK.out _ _ ?_ (fun hHeld => ?_)
    ·(exact hHeld)
    clear hK K
    (try simp only [Act.put, pA, pZ, pS])
    refine tk1 11 rfl hHeld ?_
    refine rd1 12 rfl (fun K hK => ?_)
    go_simp
    (go_at_call 46; with_reducible refine (hC _ hHeld.1.old).mono ?_; rintro e w12 ⟨rfl, hb12⟩)
    replace hZ := hZ.below hb12 hZl
    replace hZl := Nat.lt_of_lt_of_le hZl hb12.size
    refine hK.out _ _ ?_ (fun hHeld => ?_)
    ·(exact ⟨hHeld.1.below hb12, trivial⟩)
    clear hK K
    (try simp only [Act.put, pA, pZ, pS])
    refine tk1 13 rfl hHeld ?_
    refine tk1 14 rfl hHeld ?_
    refine tk1 15 rfl hHeld ?_
    refine rd1 17 rfl (fun K hK => ?_)
    refine step_store_mid rfl 93 _ _ rfl w3.heap.size 0 L.toArray rfl rfl (hth _ _ hZ) hiA hoL ?_
    have hK5 := hHeld.1.put hgz L
    refine hK.out _ _ ?_ (fun hHeld => ?_)
    ·(exact ⟨hK5, trivial⟩)
    clear hK K
    (try simp only [Act.put, pA, pZ, pS])
    refine tk1 18 rfl hHeld ?_
    refine wpAnyP_done (by kernel_rfl) ?_ _
    (try simp only [Act.put, List.getElem_toArray, List.getElem_cons_zero, List.getElem_cons_succ, pA, pZ, pS])
    have hH5 := hHeld.1
    clear hHeld
    obtain ⟨gg, hgg⟩ : ∃ x, w3.heap.size = x := ⟨_, rfl⟩
    simp only [hgg] at hH5 ⊢
    exact fin gg _ hH5
  ·go_simp
   (try simp only [hal])
   have hZ := hS0 V1
   have hgz := hHeld.1.big
   have hZl : V1.heap.size < (V1.alloc (Obj.cells Z.toArray 93)).heap.size := by rw [World.size_alloc]; omega
   refine hK.out _ _ ?_ (fun hHeld => ?_)
   ·(exact ⟨hHeld.1.alloc _, trivial⟩)
   clear hK K
   (try simp only [Act.put, pA, pZ, pS])
   refine rd1 3 rfl (fun K hK => ?_)
   go_simp
   (go_at_call 47; with_reducible refine (hif _ hHeld.1.old).mono ?_; rintro e w3 ⟨rfl, hb3⟩)
   replace hZ := hZ.below hb3 hZl
   replace hZl := Nat.lt_of_lt_of_le hZl hb3.size
   refine hK.out _ _ ?_ (fun hHeld => ?_)
   ·(exact ⟨hHeld.1.below hb3, trivial⟩)
   clear hK K
   (try simp only [Act.put, pA, pZ, pS])
   refine tk1 4 rfl hHeld ?_
   refine tk0 5 (undef) rfl (Or.inr ⟨by kernel_rfl, rfl⟩) hHeld ?_
   (try simp only [Act.put, pA, pZ, pS])
   refine rd1 6 rfl (fun K hK => ?_)
   go_simp
   refine hK.out _ _ ?_ (fun hHeld => ?_)
   ·(exact hHeld)
   clear hK K
   (try simp only [Act.put, pA, pZ, pS])
   refine tk1 7 rfl hHeld ?_
   refine tk1 8 rfl hHeld ?_
   refine tk0 9 (undef) rfl (Or.inr ⟨by kernel_rfl, rfl⟩) hHeld ?_
   (try simp only [Act.put, pA, pZ, pS])
   refine rd1 10 rfl (fun K hK => ?_)
   go_simp
   refine hK.out _ _ ?_ (fun hHeld => ?_)
   ·(exact hHeld)
   clear hK K
   (try simp only [Act.put, pA, pZ, pS])
   refine tk1 11 rfl hHeld ?_
   refine rd1 12 rfl (fun K hK => ?_)
   go_simp
   (go_at_call 46; with_reducible refine (hC _ hHeld.1.old).mono ?_; rintro e w12 ⟨rfl, hb12⟩)
   replace hZ := hZ.below hb12 hZl
   replace hZl := Nat.lt_of_lt_of_le hZl hb12.size
   refine hK.out _ _ ?_ (fun hHeld => ?_)
   ·(exact ⟨hHeld.1.below hb12, trivial⟩)
   clear hK K
   (try simp only [Act.put, pA, pZ, pS])
   refine tk1 13 rfl hHeld ?_
   refine tk1 14 rfl hHeld ?_
   refine tk1 15 rfl hHeld ?_
   refine rd1 17 rfl (fun K hK => ?_)
   refine step_store_mid rfl 93 _ _ rfl V1.heap.size 0 L.toArray rfl rfl (hth _ _ hZ) hiA hoL ?_
   have hK5 := hHeld.1.put hgz L
   refine hK.out _ _ ?_ (fun hHeld => ?_)
   ·(exact ⟨hK5, trivial⟩)
   clear hK K
   (try simp only [Act.put, pA, pZ, pS])
   refine tk1 18 rfl hHeld ?_
   refine wpAnyP_done (by kernel_rfl) ?_ _
   (try simp only [Act.put, List.getElem_toArray, List.getElem_cons_zero, List.getElem_cons_succ, pA, pZ, pS])
   have hH5 := hHeld.1
   clear hHeld
   obtain ⟨gg, hgg⟩ : ∃ x, V1.heap.size = x := ⟨_, rfl⟩
   simp only [hgg] at hH5 ⊢
   exact fin gg _ hH5
 case fin =>
  intro g V hX
  have ht8 : Two V (w.heap.size + 1 + 1 + 1 + 1) 0 0 := hX.t8
  have ht9 : Two V (w.heap.size + 1 + 1 + 1 + 1 + 1) 0 0 := hX.t9
  have a0 := ht8.k0
  have a1' := ht8.k1
  have a2 := ht8.f0
  have a3 := ht8.f1
  have a4 := ht9.k0
  have a5 := ht9.k1
  have a6 := ht9.f0
  have a7 := ht9.f1
  have hnb : (er' == 0) = false := by simp [hne]
  go_wp2
  have hO := ((((hX.old.setCell (p := ⟨w.heap.size + 1 + 1 + 1 + 1, 0, none⟩) (by show w.heap.size ≤ w.heap.size + 1 + 1 + 1 + 1; omega) (.int .i64 0)).setCell (p := ⟨w.heap.size + 1 + 1 + 1 + 1, 1, none⟩) (by show w.heap.size ≤ w.heap.size + 1 + 1 + 1 + 1; omega) (.int .i64 0)).setCell (p := ⟨w.heap.size + 1 + 1 + 1 + 1 + 1, 0, none⟩) (by show w.heap.size ≤ w.heap.size + 1 + 1 + 1 + 1 + 1; omega) (.int .i64 0)).setCell (p := ⟨w.heap.size + 1 + 1 + 1 + 1 + 1, 1, none⟩) (by show w.heap.size ≤ w.heap.size + 1 + 1 + 1 + 1 + 1; omega) (.int .i64 0))
  have hS8 := (ht8.set01 0 0).far2 (P := w.heap.size + 1 + 1 + 1 + 1 + 1) (by omega) (.int .i64 0) (.int .i64 0)
  have hS9 := (ht9.far2 (P := w.heap.size + 1 + 1 + 1 + 1) (by omega) (.int .i64 0) (.int .i64 0)).set01 0 0
  clear a0 a1' a2 a3 a4 a5 a6 a7 ht8 ht9 hX
  generalize (((V.setCell ⟨w.heap.size + 1 + 1 + 1 + 1, 0, none⟩ (.int .i64 0)).setCell ⟨w.heap.size + 1 + 1 + 1 + 1, 1, none⟩ (.int .i64 0)).setCell ⟨w.heap.size + 1 + 1 + 1 + 1 + 1, 0, none⟩ (.int .i64 0)).setCell ⟨w.heap.size + 1 + 1 + 1 + 1 + 1, 1, none⟩ (.int .i64 0) = W15 at hO hS8 hS9 ⊢
  refine bodyPost_ret (v := .tuple #[.agg #[.int .i64 0, .int .i64 0], .agg #[.int .i64 0, .int .i64 0], .int .i64 er']) (by simp [results, Tryz.results19, go_sem, hS8.k0, hS8.k1, hS9.k0, hS9.k1]) rfl ⟨rfl, hO⟩
set_option maxRecDepth 100000 in
set_option maxHeartbeats 16000000 in
theorem Proves_noB (a1 : Option Addr) (n c1 : Nat) (r : Int) (HX HY : Nat → Int) (m : Mach) (k bl : Int) (w : World) (hn : n ≤ 1000) (hs : m.sn ≤ 1000) (hr : m.rn ≤ 9223372036854775807) (hp : PSl w (.slice a1 n c1) n HX HY) (h : MIn w m)
  (h1 : (butB n HX HY r && decide (n = m.sn)) = true) (h2 : inB k 1 12 = false) (er : Int) (hA : Able m false er) (hne : er ≠ 0) :
  Calls Tryz.prog 19 #[m.val, .agg #[.slice a1 n c1, .int .i64 r], .int .i64 k, .int .i64 bl] w fun e w' => e = .returned (.tuple #[.agg #[.int .i64 0, .int .i64 0], .agg #[.int .i64 0, .int .i64 0], .int .i64 er]) ∧ Below w.heap.size w w' := by
 obtain ⟨L, er', hE, hC⟩ := examine_any m false w hs hr h
 obtain rfl : er' = er := Able.same hE.able hA
 clear hA
 have hif := fun (W : World) (hB : Below w.heap.size w W) => isOf_any (.slice a1 n c1) a1 n c1 r HX HY m W rfl hn (by omega) (hp.below hB)
 rw [h1] at hif
 have hwa := fun (W : World) => within_any k 1 12 W
 have hwb := fun (W : World) => within_any bl 0 12 W
 rw [h2] at hwa
 clear h2
 clear h1
 obtain ⟨A1, hA1⟩ : ∃ A, (w.alloc (.cells #[.slice m.sa m.sn m.sc, .int .i64 m.c0, .int .i64 m.c1, .int .i64 m.d0, .int .i64 m.d1, .int .i64 m.w0, .int .i64 m.w1, .int .i64 m.v0, .int .i64 m.v1, .slice m.ra m.rn m.rc] 27)).alloc (Obj.cells #[.slice a1 n c1, .int .i64 r] 41) = A := ⟨_, rfl⟩
 obtain ⟨A2, hA2⟩ : ∃ A, A1.alloc (Obj.cells #[.int .i64 k] 3) = A := ⟨_, rfl⟩
 obtain ⟨A3, hA3⟩ : ∃ A, A2.alloc (Obj.cells #[.int .i64 bl] 3) = A := ⟨_, rfl⟩
 obtain ⟨A4, hA4⟩ : ∃ A, A3.alloc (Obj.cells #[.int .i64 0, .int .i64 0] 24) = A := ⟨_, rfl⟩
 obtain ⟨W0, hW0⟩ : ∃ A, A4.alloc (Obj.cells #[.int .i64 0, .int .i64 0] 24) = A := ⟨_, rfl⟩
 have hSB : SB w A1 m (.slice a1 n c1) r := by rw [← hA1]; exact SB.new w m _ r
 have s1 : A1.heap.size = w.heap.size + 1 + 1 := by rw [← hA1, World.size_alloc, World.size_alloc]
 have s2 : A2.heap.size = w.heap.size + 1 + 1 + 1 := by rw [← hA2, World.size_alloc, s1]
 have s3 : A3.heap.size = w.heap.size + 1 + 1 + 1 + 1 := by rw [← hA3, World.size_alloc, s2]
 have s4 : A4.heap.size = w.heap.size + 1 + 1 + 1 + 1 + 1 := by rw [← hA4, World.size_alloc, s3]
 have s5 : W0.heap.size = w.heap.size + 1 + 1 + 1 + 1 + 1 + 1 := by rw [← hW0, World.size_alloc, s4]
 have b12 : Below A1.heap.size A1 A2 := by rw [← hA2]; exact (Below.refl _ _).alloc (Nat.le_refl _) _
 have b23 : Below A2.heap.size A2 A3 := by rw [← hA3]; exact (Below.refl _ _).alloc (Nat.le_refl _) _
 have b34 : Below A3.heap.size A3 A4 := by rw [← hA4]; exact (Below.refl _ _).alloc (Nat.le_refl _) _
 have b45 : Below A4.heap.size A4 W0 := by rw [← hW0]; exact (Below.refl _ _).alloc (Nat.le_refl _) _
 have b35 := b34.trans (b45.mono b34.size)
 have b25 := b23.trans (b35.mono b23.size)
 have b15 := b12.trans (b25.mono b12.size)
 have ka : A2.cell? ⟨w.heap.size + 2, 0, none⟩ = some (.int .i64 k) := by have := cells_new A1 #[.int .i64 k] 3 (j := 0) rfl; rw [s1, hA2] at this; exact this
 have kb : A3.cell? ⟨w.heap.size + 3, 0, none⟩ = some (.int .i64 bl) := by have := cells_new A2 #[.int .i64 bl] 3 (j := 0) rfl; rw [s2, hA3] at this; exact this
 have t8 : Two A4 (w.heap.size + 4) 0 0 := by have := Two.new A3 24 0 0; rw [s3, hA4] at this; exact this
 have t9 : Two W0 (w.heap.size + 5) 0 0 := by have := Two.new A4 24 0 0; rw [s4, hW0] at this; exact this
 have hSB0 := hSB.below b15
 have hPU : PU w m (.slice a1 n c1) r k bl W0 := ⟨hSB0.old, hSB0.mach, hSB0.c0, hSB0.c1, (b25.cell (p := ⟨w.heap.size + 2, 0, none⟩) (by show w.heap.size + 2 < _; omega)).trans ka, (b35.cell (p := ⟨w.heap.size + 3, 0, none⟩) (by show w.heap.size + 3 < _; omega)).trans kb, t8.below b45 (by omega), t9, by omega⟩
 have hal := zst_lit
 have hlz : zst.length = 62 := zM.st_length rfl rfl
 have hlL := hE.length
 have hoL := all_oneCell_toArray hE.one
 have hi0 : (Tryz.prog.info? 93).map (·.size) = some 62 := by kernel_rfl
 have hiL : (Tryz.prog.info? 93).map (·.size) = some L.length := by rw [hlL]; exact hi0
 have hiA : (Tryz.prog.info? 93).map (·.size) = some L.toArray.size := by rw [List.size_toArray, hlL]; exact hi0
 have hS0 := fun (W : World) => SAt.new W zst 93
 have hth := fun (W : World) (g : Nat) (H : SAt W g zst) => H.there 0 L.toArray.size (by rw [List.size_toArray, hlL, hlz]; omega)
 have hfi := fun (W : World) (g : Nat) (H : SAt W g zst) => SAt.fill (L' := L) H (by rw [hlL, hlz])
 clear hi0 hE hSB hSB0 b12 b23 b34 b45 b35 b25 b15 ka kb t8 t9 hfi
 generalize zst = Z at *
 go_enter Tryz.func19, Tryz.ntmps19
 go_wp2_with fail
 try rw [hA1, hA2, hA3, hA4, hW0]
 clear hA1 hA2 hA3 hA4 hW0 s1 s2 s3 s4 s5
 rename_i Q' K hKK
 refine (fun (fin : ∀ (g : Nat) (V : World), PU w m (.slice a1 n c1) r k bl V → Exit.then K Q' Exit.normal ((?F : Nat → Act) g) V) => ?leafs) ?fin
 case leafs =>
  refine wp_region_late [] (fun w9 => PU w m (.slice a1 n c1) r k bl w9) (fun w9 => True) (by kernel_rfl) ?_ (fun hHeld => ?_)
  ·(exact ⟨hPU.drew, trivial⟩)
  generalize W0.drew = V1 at hHeld ⊢
  refine tk2 0 rfl (by (intro w9 hSw; obtain ⟨z0, z1, z2, z3, z4, z5, z6, z7, z8, z9⟩ := hSw.mach; clear hSw; go_simp) <;> with_reducible rfl) hHeld ?_
  refine tk2 1 rfl (by (intro w9 hSw; have z0 := hSw.c0; have z1 := hSw.c1; clear hSw; go_simp) <;> with_reducible rfl) hHeld ?_
  refine tk2 2 rfl (by (intro w9 hSw; obtain ⟨z0, z1, z2, z3, z4, z5, z6, z7, z8, z9⟩ := hSw.mach; clear hSw; go_simp) <;> with_reducible rfl) hHeld ?_
  refine wpAnyP_ready (rs := [3, 16]) (by kernel_rfl) (by simp) ?_
  refine AllReadyP.cons (o := _) rfl (fun K hK => ?_) (AllReadyP.cons (o := _) rfl (fun K hK => ?_) AllReadyP.nil)
  ·go_simp
   (go_at_call 47; with_reducible refine (hif _ hHeld.1.old).mono ?_; rintro e w3 ⟨rfl, hb3⟩)
   refine hK.out _ _ ?_ (fun hHeld => ?_)
   ·(exact ⟨hHeld.1.below hb3, trivial⟩)
   clear hK K
   (try simp only [Act.put, pA, pZ, pS])
   refine tk1 4 rfl hHeld ?_
   refine tk3 5 rfl (by (intro w9 hSw; have z0 := hSw.ka; clear hSw; go_simp) <;> with_reducible rfl) hHeld ?_
   refine wpAnyP_ready (rs := [6, 16]) (by kernel_rfl) (by simp) ?_
   refine AllReadyP.cons (o := _) rfl (fun K hK => ?_) (AllReadyP.cons (o := _) rfl (fun K hK => ?_) AllReadyP.nil)
   ·go_simp
    (go_at_call 49; with_reducible refine (hwa _).mono ?_; rintro e w6 ⟨rfl, rfl⟩)
    refine hK.out _ _ ?_ (fun hHeld => ?_)
    ·(exact hHeld)
    clear hK K
    (try simp only [Act.put, pA, pZ, pS])
    refine tk1 7 rfl hHeld ?_
    refine tk1 8 rfl hHeld ?_
    refine tk0 9 (undef) rfl (Or.inr ⟨by kernel_rfl, rfl⟩) hHeld ?_
    (try simp only [Act.put, pA, pZ, pS])
    refine wpAnyP_ready (rs := [10, 16]) (by kernel_rfl) (by simp) ?_
    refine AllReadyP.cons (o := _) rfl (fun K hK => ?_) (AllReadyP.cons (o := _) rfl (fun K hK => ?_) AllReadyP.nil)
    ·go_simp
     refine hK.out _ _ ?_ (fun hHeld => ?_)
     ·(exact hHeld)
     clear hK K
     (try simp only [Act.put, pA, pZ, pS])
     refine tk1 11 rfl hHeld ?_
     refine wpAnyP_ready (rs := [12, 16]) (by kernel_rfl) (by simp) ?_
     refine AllReadyP.cons (o := _) rfl (fun K hK => ?_) (AllReadyP.cons (o := _) rfl (fun K hK => ?_) AllReadyP.nil)
     ·go_simp
      (go_at_call 46; with_reducible refine (hC _ hHeld.1.old).mono ?_; rintro e w12 ⟨rfl, hb12⟩)
      refine hK.out _ _ ?_ (fun hHeld => ?_)
      ·(exact ⟨hHeld.1.below hb12, trivial⟩)
      clear hK K
      (try simp only [Act.put, pA, pZ, pS])
      refine tk1 13 rfl hHeld ?_
      refine tk1 14 rfl hHeld ?_
      refine tk1 15 rfl hHeld ?_
      refine rd1 16 rfl (fun K hK => ?_)
      go_simp
      (try simp only [hal])
      have hZ := hS0 w12
      have hgz := hHeld.1.big
      have hZl : w12.heap.size < (w12.alloc (Obj.cells Z.toArray 93)).heap.size := by rw [World.size_alloc]; omega
      refine hK.out _ _ ?_ (fun hHeld => ?_)
      ·(exact ⟨hHeld.1.alloc _, trivial⟩)
      clear hK K
      (try simp only [Act.put, pA, pZ, pS])
      refine rd1 17 rfl (fun K hK => ?_)
      refine step_store_mid rfl 93 _ _ rfl w12.heap.size 0 L.toArray rfl rfl (hth _ _ hZ) hiA hoL ?_
      have hK5 := hHeld.1.put hgz L
      refine hK.out _ _ ?_ (fun hHeld => ?_)
      ·(exact ⟨hK5, trivial⟩)
      clear hK K
      (try simp only [Act.put, pA, pZ, pS])
      refine tk1 18 rfl hHeld ?_
      refine wpAnyP_done (by kernel_rfl) ?_ _
      (try simp only [Act.put, List.getElem_toArray, List.getElem_cons_zero, List.getElem_cons_succ, pA, pZ, pS])
      have hH5 := hHeld.1
      clear hHeld
      obtain ⟨gg, hgg⟩ : ∃ x, w12.heap.size = x := ⟨_, rfl⟩
      simp only [hgg] at hH5 ⊢
      exact fin gg _ hH5
     ·go_simp
      (try simp only [hal])
      have hZ := hS0 w3
      have hgz := hHeld.1.big
      have hZl : w3.heap.size < (w3.alloc (Obj.cells Z.toArray 93)).heap.size := by rw [World.size_alloc]; omega
      refine hK.out _ _ ?_ (fun hHeld => ?_)
      ·(exact ⟨hHeld.1.alloc _, trivial⟩)
      clear hK K
      (try simp only [Act.put, pA, pZ, pS])
      refine rd1 12 rfl (fun K hK => ?_)
      go_simp
      (go_at_call 46; with_reducible refine (hC _ hHeld.1.old).mono ?_; rintro e w12 ⟨rfl, hb12⟩)
      replace hZ := hZ.below hb12 hZl
      replace hZl := Nat.lt_of_lt_of_le hZl hb12.size
      refine hK.out _ _ ?_ (fun hHeld => ?_)
      ·(exact ⟨hHeld.1.below hb12, trivial⟩)
      clear hK K
      (try simp only [Act.put, pA, pZ, pS])
      refine tk1 13 rfl hHeld ?_
      refine tk1 14 rfl hHeld ?_
      refine tk1 15 rfl hHeld ?_
      refine rd1 17 rfl (fun K hK => ?_)
      refine step_store_mid rfl 93 _ _ rfl w3.heap.size 0 L.toArray rfl rfl (hth _ _ hZ) hiA hoL ?_
      have hK5 := hHeld.1.put hgz L
      refine hK.out _ _ ?_ (fun hHeld => ?_)
      ·(exact ⟨hK5, trivial⟩)
      clear hK K
      (try simp only [Act.put, pA, pZ, pS])
      refine tk1 18 rfl hHeld ?_
      refine wpAnyP_done (by kernel_rfl) ?_ _
      (try simp only [Act.put, List.getElem_toArray, List.getElem_cons_zero, List.getElem_cons_succ, pA, pZ, pS])
      have hH5 := hHeld.1
      clear hHeld
      obtain ⟨gg, hgg⟩ : ∃ x, w3.heap.size = x := ⟨_, rfl⟩
      simp only [hgg] at hH5 ⊢
      exact fin gg _ hH5
    ·go_simp
     (try simp only [hal])
     have hZ := hS0 w3
     have hgz := hHeld.1.big
     have hZl : w3.heap.size < (w3.alloc (Obj.cells Z.toArray 93)).heap.size := by rw [World.size_alloc]; omega
     refine hK.out _ _ ?_ (fun hHeld => ?_)
     ·(exact ⟨hHeld.1.alloc _, trivial⟩)
     clear hK K
     (try simp only [Act.put, pA, pZ, pS])
     refine rd1 10 rfl (fun K hK => ?_)
     go_simp
     refine hK.out _ _ ?_ (fun hHeld => ?_)
     ·(exact hHeld)
     clear hK K
     (try simp only [Act.put, pA, pZ, pS])
     refine tk1 11 rfl hHeld ?_
     refine rd1 12 rfl (fun K hK => ?_)
     go_simp
     (go_at_call 46; with_reducible refine (hC _ hHeld.1.old).mono ?_; rintro e w12 ⟨rfl, hb12⟩)
     replace hZ := hZ.below hb12 hZl
     replace hZl := Nat.lt_of_lt_of_le hZl hb12.size
     refine hK.out _ _ ?_ (fun hHeld => ?_)
     ·(exact ⟨hHeld.1.below hb12, trivial⟩)
     clear hK K
     (try simp only [Act.put, pA, pZ, pS])
     refine tk1 13 rfl hHeld ?_
     refine tk1 14 rfl hHeld ?_
     refine tk1 15 rfl hHeld ?_
     refine rd1 17 rfl (fun K hK => ?_)
     refine step_store_mid rfl 93 _ _ rfl w3.heap.size 0 L.toArray rfl rfl (hth _ _ hZ) hiA hoL ?_
     have hK5 := hHeld.1.put hgz L
     refine hK.out _ _ ?_ (fun hHeld => ?_)
     ·(exact ⟨hK5, trivial⟩)
     clear hK K
     (try simp only [Act.put, pA, pZ, pS])
     refine tk1 18 rfl hHeld ?_
     refine wpAnyP_done (by kernel_rfl) ?_ _
     (try simp only [Act.put, List.getElem_toArray, List.getElem_cons_zero, List.getElem_cons_succ, pA, pZ, pS])
     have hH5 := hHeld.1
     clear hHeld
     obtain ⟨gg, hgg⟩ : ∃ x, w3.heap.size = x := ⟨_, rfl⟩
     simp only [hgg] at hH5 ⊢
     exact fin gg _ hH5
   ·go_simp
    (try simp only [hal])
    have hZ := hS0 w3
    have hgz := hHeld.1.big
    have hZl : w3.heap.size < (w3.alloc (Obj.cells Z.toArray 93)).heap.size := by rw [World.size_alloc]; omega
    refine hK.out _ _ ?_ (fun hHeld => ?_)
    ·(exact ⟨hHeld.1.alloc _, trivial⟩)
    clear hK K
    (try simp only [Act.put, pA, pZ, pS])
    refine rd1 6 rfl (fun K hK => ?_)
    go_simp
    (go_at_call 49; with_reducible refine (hwa _).mono ?_; rintro e w6 ⟨rfl, rfl⟩)
    refine hK.out _ _ ?_ (fun hHeld => ?_)
    ·(exact hHeld)
    clear hK K
    (try simp only [Act.put, pA, pZ, pS])
    refine tk1 7 rfl hHeld ?_
    refine tk1 8 rfl hHeld ?_
    refine tk0 9 (undef) rfl (Or.inr ⟨by kernel_rfl, rfl⟩) hHeld ?_
    (try simp only [Act.put, pA, pZ, pS])
    refine rd1 10 rfl (fun K hK => ?_)
    go_simp
    refine hK.out _ _ ?_ (fun hHeld => ?_)
    ·(exact hHeld)
    clear hK K
    (try simp only [Act.put, pA, pZ, pS])
    refine tk1 11 rfl hHeld ?_
    refine rd1 12 rfl (fun K hK => ?_)
    go_simp
    (go_at_call 46; with_reducible refine (hC _ hHeld.1.old).mono ?_; rintro e w12 ⟨rfl, hb12⟩)
    replace hZ := hZ.below hb12 hZl
    replace hZl := Nat.lt_of_lt_of_le hZl hb12.size
    refine hK.out _ _ ?_ (fun hHeld => ?_)
    ·(exact ⟨hHeld.1.below hb12, trivial⟩)
    clear hK K
    (try simp only [Act.put, pA, pZ, pS])
    refine tk1 13 rfl hHeld ?_
    refine tk1 14 rfl hHeld ?_
    refine tk1 15 rfl hHeld ?_
    refine rd1 17 rfl (fun K hK => ?_)
    refine step_store_mid rfl 93 _ _ rfl w3.heap.size 0 L.toArray rfl rfl (hth _ _ hZ) hiA hoL ?_
    have hK5 := hHeld.1.put hgz L
    refine hK.out _ _ ?_ (fun hHeld => ?_)
    ·(exact ⟨hK5, trivial⟩)
    clear hK K
    (try simp only [Act.put, pA, pZ, pS])
    refine tk1 18 rfl hHeld ?_
    refine wpAnyP_done (by kernel_rfl) ?_ _
    (try simp only [Act.put, List.getElem_toArray, List.getElem_cons_zero, List.getElem_cons_succ, pA, pZ, pS])
    have hH5 := hHeld.1
    clear hHeld
    obtain ⟨gg, hgg⟩ : ∃ x, w3.heap.size = x := ⟨_, rfl⟩
    simp only [hgg] at hH5 ⊢
    exact fin gg _ hH5
  ·go_simp
   (try simp only [hal])
   have hZ := hS0 V1
   have hgz := hHeld.1.big
   have hZl : V1.heap.size < (V1.alloc (Obj.cells Z.toArray 93)).heap.size := by rw [World.size_alloc]; omega
   refine hK.out _ _ ?_ (fun hHeld => ?_)
   ·(exact ⟨hHeld.1.alloc _, trivial⟩)
   clear hK K
   (try simp only [Act.put, pA, pZ, pS])
   refine rd1 3 rfl (fun K hK => ?_)
   go_simp
   (go_at_call 47; with_reducible refine (hif _ hHeld.1.old).mono ?_; rintro e w3 ⟨rfl, hb3⟩)
   replace hZ := hZ.below hb3 hZl
   replace hZl := Nat.lt_of_lt_of_le hZl hb3.size
   refine hK.out _ _ ?_ (fun hHeld => ?_)
   ·(exact ⟨hHeld.1.below hb3, trivial⟩)
   clear hK K
   (try simp only [Act.put, pA, pZ, pS])
   refine tk1 4 rfl hHeld ?_
   refine tk3 5 rfl (by (intro w9 hSw; have z0 := hSw.ka; clear hSw; go_simp) <;> with_reducible rfl) hHeld ?_
   refine rd1 6 rfl (fun K hK => ?_)
   go_simp
   (go_at_call 49; with_reducible refine (hwa _).mono ?_; rintro e w6 ⟨rfl, rfl⟩)
   refine hK.out _ _ ?_ (fun hHeld => ?_)
   ·(exact hHeld)
   clear hK K
   (try simp only [Act.put, pA, pZ, pS])
   refine tk1 7 rfl hHeld ?_
   refine tk1 8 rfl hHeld ?_
   refine tk0 9 (undef) rfl (Or.inr ⟨by kernel_rfl, rfl⟩) hHeld ?_
   (try simp only [Act.put, pA, pZ, pS])
   refine rd1 10 rfl (fun K hK => ?_)
   go_simp
   refine hK.out _ _ ?_ (fun hHeld => ?_)
   ·(exact hHeld)
   clear hK K
   (try simp only [Act.put, pA, pZ, pS])
   refine tk1 11 rfl hHeld ?_
   refine rd1 12 rfl (fun K hK => ?_)
   go_simp
   (go_at_call 46; with_reducible refine (hC _ hHeld.1.old).mono ?_; rintro e w12 ⟨rfl, hb12⟩)
   replace hZ := hZ.below hb12 hZl
   replace hZl := Nat.lt_of_lt_of_le hZl hb12.size
   refine hK.out _ _ ?_ (fun hHeld => ?_)
   ·(exact ⟨hHeld.1.below hb12, trivial⟩)
   clear hK K
   (try simp only [Act.put, pA, pZ, pS])
   refine tk1 13 rfl hHeld ?_
   refine tk1 14 rfl hHeld ?_
   refine tk1 15 rfl hHeld ?_
   refine rd1 17 rfl (fun K hK => ?_)
   refine step_store_mid rfl 93 _ _ rfl V1.heap.size 0 L.toArray rfl rfl (hth _ _ hZ) hiA hoL ?_
   have hK5 := hHeld.1.put hgz L
   refine hK.out _ _ ?_ (fun hHeld => ?_)
   ·(exact ⟨hK5, trivial⟩)
   clear hK K
   (try simp only [Act.put, pA, pZ, pS])
   refine tk1 18 rfl hHeld ?_
   refine wpAnyP_done (by kernel_rfl) ?_ _
   (try simp only [Act.put, List.getElem_toArray, List.getElem_cons_zero, List.getElem_cons_succ, pA, pZ, pS])
   have hH5 := hHeld.1
   clear hHeld
   obtain ⟨gg, hgg⟩ : ∃ x, V1.heap.size = x := ⟨_, rfl⟩
   simp only [hgg] at hH5 ⊢
   exact fin gg _ hH5
 case fin =>
  intro g V hX
  have ht8 : Two V (w.heap.size + 1 + 1 + 1 + 1) 0 0 := hX.t8
  have ht9 : Two V (w.heap.size + 1 + 1 + 1 + 1 + 1) 0 0 := hX.t9
  have a0 := ht8.k0
  have a1' := ht8.k1
  have a2 := ht8.f0
  have a3 := ht8.f1
  have a4 := ht9.k0
  have a5 := ht9.k1
  have a6 := ht9.f0
  have a7 := ht9.f1
  have hnb : (er' == 0) = false := by simp [hne]
  go_wp2
  have hO := ((((hX.old.setCell (p := ⟨w.heap.size + 1 + 1 + 1 + 1, 0, none⟩) (by show w.heap.size ≤ w.heap.size + 1 + 1 + 1 + 1; omega) (.int .i64 0)).setCell (p := ⟨w.heap.size + 1 + 1 + 1 + 1, 1, none⟩) (by show w.heap.size ≤ w.heap.size + 1 + 1 + 1 + 1; omega) (.int .i64 0)).setCell (p := ⟨w.heap.size + 1 + 1 + 1 + 1 + 1, 0, none⟩) (by show w.heap.size ≤ w.heap.size + 1 + 1 + 1 + 1 + 1; omega) (.int .i64 0)).setCell (p := ⟨w.heap.size + 1 + 1 + 1 + 1 + 1, 1, none⟩) (by show w.heap.size ≤ w.heap.size + 1 + 1 + 1 + 1 + 1; omega) (.int .i64 0))
  have hS8 := (ht8.set01 0 0).far2 (P := w.heap.size + 1 + 1 + 1 + 1 + 1) (by omega) (.int .i64 0) (.int .i64 0)
  have hS9 := (ht9.far2 (P := w.heap.size + 1 + 1 + 1 + 1) (by omega) (.int .i64 0) (.int .i64 0)).set01 0 0
  clear a0 a1' a2 a3 a4 a5 a6 a7 ht8 ht9 hX
  generalize (((V.setCell ⟨w.heap.size + 1 + 1 + 1 + 1, 0, none⟩ (.int .i64 0)).setCell ⟨w.heap.size + 1 + 1 + 1 + 1, 1, none⟩ (.int .i64 0)).setCell ⟨w.heap.size + 1 + 1 + 1 + 1 + 1, 0, none⟩ (.int .i64 0)).setCell ⟨w.heap.size + 1 + 1 + 1 + 1 + 1, 1, none⟩ (.int .i64 0) = W15 at hO hS8 hS9 ⊢
  refine bodyPost_ret (v := .tuple #[.agg #[.int .i64 0, .int .i64 0], .agg #[.int .i64 0, .int .i64 0], .int .i64 er']) (by simp [results, Tryz.results19, go_sem, hS8.k0, hS8.k1, hS9.k0, hS9.k1]) rfl ⟨rfl, hO⟩
set_option maxRecDepth 100000 in
set_option maxHeartbeats 16000000 in
theorem Proves_noC (a1 : Option Addr) (n c1 : Nat) (r : Int) (HX HY : Nat → Int) (m : Mach) (k bl : Int) (w : World) (hn : n ≤ 1000) (hs : m.sn ≤ 1000) (hr : m.rn ≤ 9223372036854775807) (hp : PSl w (.slice a1 n c1) n HX HY) (h : MIn w m)
  (h1 : (butB n HX HY r && decide (n = m.sn)) = true) (h2 : inB k 1 12 = true) (er : Int) (hA : Able m (inB bl 0 12) er) (hne : er ≠ 0) :
  Calls Tryz.prog 19 #[m.val, .agg #[.slice a1 n c1, .int .i64 r], .int .i64 k, .int .i64 bl] w fun e w' => e = .returned (.tuple #[.agg #[.int .i64 0, .int .i64 0], .agg #[.int .i64 0, .int .i64 0], .int .i64 er]) ∧ Below w.heap.size w w' := by
 generalize hfine : inB bl 0 12 = fine at hA
 obtain ⟨L, er', hE, hC⟩ := examine_any m fine w hs hr h
 obtain rfl : er' = er := Able.same hE.able hA
 clear hA
 have hif := fun (W : World) (hB : Below w.heap.size w W) => isOf_any (.slice a1 n c1) a1 n c1 r HX HY m W rfl hn (by omega) (hp.below hB)
 rw [h1] at hif
 have hwa := fun (W : World) => within_any k 1 12 W
 have hwb := fun (W : World) => within_any bl 0 12 W
 rw [h2] at hwa
 clear h2
 rw [hfine] at hwb
 clear hfine
 clear h1
 obtain ⟨A1, hA1⟩ : ∃ A, (w.alloc (.cells #[.slice m.sa m.sn m.sc, .int .i64 m.c0, .int .i64 m.c1, .int .i64 m.d0, .int .i64 m.d1, .int .i64 m.w0, .int .i64 m.w1, .int .i64 m.v0, .int .i64 m.v1, .slice m.ra m.rn m.rc] 27)).alloc (Obj.cells #[.slice a1 n c1, .int .i64 r] 41) = A := ⟨_, rfl⟩
 obtain ⟨A2, hA2⟩ : ∃ A, A1.alloc (Obj.cells #[.int .i64 k] 3) = A := ⟨_, rfl⟩
 obtain ⟨A3, hA3⟩ : ∃ A, A2.alloc (Obj.cells #[.int .i64 bl] 3) = A := ⟨_, rfl⟩
 obtain ⟨A4, hA4⟩ : ∃ A, A3.alloc (Obj.cells #[.int .i64 0, .int .i64 0] 24) = A := ⟨_, rfl⟩
 obtain ⟨W0, hW0⟩ : ∃ A, A4.alloc (Obj.cells #[.int .i64 0, .int .i64 0] 24) = A := ⟨_, rfl⟩
 have hSB : SB w A1 m (.slice a1 n c1) r := by rw [← hA1]; exact SB.new w m _ r
 have s1 : A1.heap.size = w.heap.size + 1 + 1 := by rw [← hA1, World.size_alloc, World.size_alloc]
 have s2 : A2.heap.size = w.heap.size + 1 + 1 + 1 := by rw [← hA2, World.size_alloc, s1]
 have s3 : A3.heap.size = w.heap.size + 1 + 1 + 1 + 1 := by rw [← hA3, World.size_alloc, s2]
 have s4 : A4.heap.size = w.heap.size + 1 + 1 + 1 + 1 + 1 := by rw [← hA4, World.size_alloc, s3]
 have s5 : W0.heap.size = w.heap.size + 1 + 1 + 1 + 1 + 1 + 1 := by rw [← hW0, World.size_alloc, s4]
 have b12 : Below A1.heap.size A1 A2 := by rw [← hA2]; exact (Below.refl _ _).alloc (Nat.le_refl _) _
 have b23 : Below A2.heap.size A2 A3 := by rw [← hA3]; exact (Below.refl _ _).alloc (Nat.le_refl _) _
 have b34 : Below A3.heap.size A3 A4 := by rw [← hA4]; exact (Below.refl _ _).alloc (Nat.le_refl _) _
 have b45 : Below A4.heap.size A4 W0 := by rw [← hW0]; exact (Below.refl _ _).alloc (Nat.le_refl _) _
 have b35 := b34.trans (b45.mono b34.size)
 have b25 := b23.trans (b35.mono b23.size)
 have b15 := b12.trans (b25.mono b12.size)
 have ka : A2.cell? ⟨w.heap.size + 2, 0, none⟩ = some (.int .i64 k) := by have := cells_new A1 #[.int .i64 k] 3 (j := 0) rfl; rw [s1, hA2] at this; exact this
 have kb : A3.cell? ⟨w.heap.size + 3, 0, none⟩ = some (.int .i64 bl) := by have := cells_new A2 #[.int .i64 bl] 3 (j := 0) rfl; rw [s2, hA3] at this; exact this
 have t8 : Two A4 (w.heap.size + 4) 0 0 := by have := Two.new A3 24 0 0; rw [s3, hA4] at this; exact this
 have t9 : Two W0 (w.heap.size + 5) 0 0 := by have := Two.new A4 24 0 0; rw [s4, hW0] at this; exact this
 have hSB0 := hSB.below b15
 have hPU : PU w m (.slice a1 n c1) r k bl W0 := ⟨hSB0.old, hSB0.mach, hSB0.c0, hSB0.c1, (b25.cell (p := ⟨w.heap.size + 2, 0, none⟩) (by show w.heap.size + 2 < _; omega)).trans ka, (b35.cell (p := ⟨w.heap.size + 3, 0, none⟩) (by show w.heap.size + 3 < _; omega)).trans kb, t8.below b45 (by omega), t9, by omega⟩
 have hal := zst_lit
 have hlz : zst.length = 62 := zM.st_length rfl rfl
 have hlL := hE.length
 have hoL := all_oneCell_toArray hE.one
 have hi0 : (Tryz.prog.info? 93).map (·.size) = some 62 := by kernel_rfl
 have hiL : (Tryz.prog.info? 93).map (·.size) = some L.length := by rw [hlL]; exact hi0
 have hiA : (Tryz.prog.info? 93).map (·.size) = some L.toArray.size := by rw [List.size_toArray, hlL]; exact hi0
 have hS0 := fun (W : World) => SAt.new W zst 93
 have hth := fun (W : World) (g : Nat) (H : SAt W g zst) => H.there 0 L.toArray.size (by rw [List.size_toArray, hlL, hlz]; omega)
 have hfi := fun (W : World) (g : Nat) (H : SAt W g zst) => SAt.fill (L' := L) H (by rw [hlL, hlz])
 clear hi0 hE hSB hSB0 b12 b23 b34 b45 b35 b25 b15 ka kb t8 t9 hfi
 generalize zst = Z at *
 go_enter Tryz.func19, Tryz.ntmps19
 go_wp2_with fail
 try rw [hA1, hA2, hA3, hA4, hW0]
 clear hA1 hA2 hA3 hA4 hW0 s1 s2 s3 s4 s5
 rename_i Q' K hKK
 refine (fun (fin : ∀ (g : Nat) (V : World), PU w m (.slice a1 n c1) r k bl V → Exit.then K Q' Exit.normal ((?F : Nat → Act) g) V) => ?leafs) ?fin
 case leafs =>
  refine wp_region_late [] (fun w9 => PU w m (.slice a1 n c1) r k bl w9) (fun w9 => True) (by kernel_rfl) ?_ (fun hHeld => ?_)
  ·(exact ⟨hPU.drew, trivial⟩)
  generalize W0.drew = V1 at hHeld ⊢
  refine tk2 0 rfl (by (intro w9 hSw; obtain ⟨z0, z1, z2, z3, z4, z5, z6, z7, z8, z9⟩ := hSw.mach; clear hSw; go_simp) <;> with_reducible rfl) hHeld ?_
  refine tk2 1 rfl (by (intro w9 hSw; have z0 := hSw.c0; have z1 := hSw.c1; clear hSw; go_simp) <;> with_reducible rfl) hHeld ?_
  refine tk2 2 rfl (by (intro w9 hSw; obtain ⟨z0, z1, z2, z3, z4, z5, z6, z7, z8, z9⟩ := hSw.mach; clear hSw; go_simp) <;> with_reducible rfl) hHeld ?_
  refine wpAnyP_ready (rs := [3, 16]) (by kernel_rfl) (by simp) ?_
  refine AllReadyP.cons (o := _) rfl (fun K hK => ?_) (AllReadyP.cons (o := _) rfl (fun K hK => ?_) AllReadyP.nil)
  ·go_simp
   (go_at_call 47; with_reducible refine (hif _ hHeld.1.old).mono ?_; rintro e w3 ⟨rfl, hb3⟩)
   refine hK.out _ _ ?_ (fun hHeld => ?_)
   ·(exact ⟨hHeld.1.below hb3, trivial⟩)
   clear hK K
   (try simp only [Act.put, pA, pZ, pS])
   refine tk1 4 rfl hHeld ?_
   refine tk3 5 rfl (by (intro w9 hSw; have z0 := hSw.ka; clear hSw; go_simp) <;> with_reducible rfl) hHeld ?_
   refine wpAnyP_ready (rs := [6, 16]) (by kernel_rfl) (by simp) ?_
   refine AllReadyP.cons (o := _) rfl (fun K hK => ?_) (AllReadyP.cons (o := _) rfl (fun K hK => ?_) AllReadyP.nil)
   ·go_simp
    (go_at_call 49; with_reducible refine (hwa _).mono ?_; rintro e w6 ⟨rfl, rfl⟩)
    refine hK.out _ _ ?_ (fun hHeld => ?_)
    ·(exact hHeld)
    clear hK K
    (try simp only [Act.put, pA, pZ, pS])
    refine tk1 7 rfl hHeld ?_
    refine tk1 8 rfl hHeld ?_
    refine tk3 9 rfl (by (intro w9 hSw; have z0 := hSw.kb; clear hSw; go_simp) <;> with_reducible rfl) hHeld ?_
    refine wpAnyP_ready (rs := [10, 16]) (by kernel_rfl) (by simp) ?_
    refine AllReadyP.cons (o := _) rfl (fun K hK => ?_) (AllReadyP.cons (o := _) rfl (fun K hK => ?_) AllReadyP.nil)
    ·go_simp
     (go_at_call 49; with_reducible refine (hwb _).mono ?_; rintro e w6 ⟨rfl, rfl⟩)
     refine hK.out _ _ ?_ (fun hHeld => ?_)
     ·(exact hHeld)
     clear hK K
     (try simp only [Act.put, pA, pZ, pS])
     refine tk1 11 rfl hHeld ?_
     refine wpAnyP_ready (rs := [12, 16]) (by kernel_rfl) (by simp) ?_
     refine AllReadyP.cons (o := _) rfl (fun K hK => ?_) (AllReadyP.cons (o := _) rfl (fun K hK => ?_) AllReadyP.nil)
     ·go_simp
      (go_at_call 46; with_reducible refine (hC _ hHeld.1.old).mono ?_; rintro e w12 ⟨rfl, hb12⟩)
      refine hK.out _ _ ?_ (fun hHeld => ?_)
      ·(exact ⟨hHeld.1.below hb12, trivial⟩)
      clear hK K
      (try simp only [Act.put, pA, pZ, pS])
      refine tk1 13 rfl hHeld ?_
      refine tk1 14 rfl hHeld ?_
      refine tk1 15 rfl hHeld ?_
      refine rd1 16 rfl (fun K hK => ?_)
      go_simp
      (try simp only [hal])
      have hZ := hS0 w12
      have hgz := hHeld.1.big
      have hZl : w12.heap.size < (w12.alloc (Obj.cells Z.toArray 93)).heap.size := by rw [World.size_alloc]; omega
      refine hK.out _ _ ?_ (fun hHeld => ?_)
      ·(exact ⟨hHeld.1.alloc _, trivial⟩)
      clear hK K
      (try simp only [Act.put, pA, pZ, pS])
      refine rd1 17 rfl (fun K hK => ?_)
      refine step_store_mid rfl 93 _ _ rfl w12.heap.size 0 L.toArray rfl rfl (hth _ _ hZ) hiA hoL ?_
      have hK5 := hHeld.1.put hgz L
      refine hK.out _ _ ?_ (fun hHeld => ?_)
      ·(exact ⟨hK5, trivial⟩)
      clear hK K
      (try simp only [Act.put, pA, pZ, pS])
      refine tk1 18 rfl hHeld ?_
      refine wpAnyP_done (by kernel_rfl) ?_ _
      (try simp only [Act.put, List.getElem_toArray, List.getElem_cons_zero, List.getElem_cons_succ, pA, pZ, pS])
      have hH5 := hHeld.1
      clear hHeld
      obtain ⟨gg, hgg⟩ : ∃ x, w12.heap.size = x := ⟨_, rfl⟩
      simp only [hgg] at hH5 ⊢
      exact fin gg _ hH5
     ·go_simp
      (try simp only [hal])
      have hZ := hS0 w3
      have hgz := hHeld.1.big
      have hZl : w3.heap.size < (w3.alloc (Obj.cells Z.toArray 93)).heap.size := by rw [World.size_alloc]; omega
      refine hK.out _ _ ?_ (fun hHeld => ?_)
      ·(exact ⟨hHeld.1.alloc _, trivial⟩)
      clear hK K
      (try simp only [Act.put, pA, pZ, pS])
      refine rd1 12 rfl (fun K hK => ?_)
      go_simp
      (go_at_call 46; with_reducible refine (hC _ hHeld.1.old).mono ?_; rintro e w12 ⟨rfl, hb12⟩)
      replace hZ := hZ.below hb12 hZl
      replace hZl := Nat.lt_of_lt_of_le hZl hb12.size
      refine hK.out _ _ ?_ (fun hHeld => ?_)
      ·(exact ⟨hHeld.1.below hb12, trivial⟩)
      clear hK K
      (try simp only [Act.put, pA, pZ, pS])
      refine tk1 13 rfl hHeld ?_
      refine tk1 14 rfl hHeld ?_
      refine tk1 15 rfl hHeld ?_
      refine rd1 17 rfl (fun K hK => ?_)
      refine step_store_mid rfl 93 _ _ rfl w3.heap.size 0 L.toArray rfl rfl (hth _ _ hZ) hiA hoL ?_
      have hK5 := hHeld.1.put hgz L
      refine hK.out _ _ ?_ (fun hHeld => ?_)
      ·(exact ⟨hK5, trivial⟩)
      clear hK K
      (try simp only [Act.put, pA, pZ, pS])
      refine tk1 18 rfl hHeld ?_
      refine wpAnyP_done (by kernel_rfl) ?_ _
      (try simp only [Act.put, List.getElem_toArray, List.getElem_cons_zero, List.getElem_cons_succ, pA, pZ, pS])
      have hH5 := hHeld.1
      clear hHeld
      obtain ⟨gg, hgg⟩ : ∃ x, w3.heap.size = x := ⟨_, rfl⟩
      simp only [hgg] at hH5 ⊢
      exact fin gg _ hH5
    ·go_simp
     (try simp only [hal])
     have hZ := hS0 w3
     have hgz := hHeld.1.big
     have hZl : w3.heap.size < (w3.alloc (Obj.cells Z.toArray 93)).heap.size := by rw [World.size_alloc]; omega
     refine hK.out _ _ ?_ (fun hHeld => ?_)
     ·(exact ⟨hHeld.1.alloc _, trivial⟩)
     clear hK K
     (try simp only [Act.put, pA, pZ, pS])
     refine rd1 10 rfl (fun K hK => ?_)
     go_simp
     (go_at_call 49; with_reducible refine (hwb _).mono ?_; rintro e w6 ⟨rfl, rfl⟩)
     refine hK.out _ _ ?_ (fun hHeld => ?_)
     ·(exact hHeld)
     clear hK K
     (try simp only [Act.put, pA, pZ, pS])
     refine tk1 11 rfl hHeld ?_
     refine rd1 12 rfl (fun K hK => ?_)
     go_simp
     (go_at_call 46; with_reducible refine (hC _ hHeld.1.old).mono ?_; rintro e w12 ⟨rfl, hb12⟩)
     replace hZ := hZ.below hb12 hZl
     replace hZl := Nat.lt_of_lt_of_le hZl hb12.size
     refine hK.out _ _ ?_ (fun hHeld => ?_)
     ·(exact ⟨hHeld.1.below hb12, trivial⟩)
     clear hK K
     (try simp only [Act.put, pA, pZ, pS])
     refine tk1 13 rfl hHeld ?_
     refine tk1 14 rfl hHeld ?_
     refine tk1 15 rfl hHeld ?_
     refine rd1 17 rfl (fun K hK => ?_)
     refine step_store_mid rfl 93 _ _ rfl w3.heap.size 0 L.toArray rfl rfl (hth _ _ hZ) hiA hoL ?_
     have hK5 := hHeld.1.put hgz L
     refine hK.out _ _ ?_ (fun hHeld => ?_)
     ·(exact ⟨hK5, trivial⟩)
     clear hK K
     (try simp only [Act.put, pA, pZ, pS])
     refine tk1 18 rfl hHeld ?_
     refine wpAnyP_done (by kernel_rfl) ?_ _
     (try simp only [Act.put, List.getElem_toArray, List.getElem_cons_zero, List.getElem_cons_succ, pA, pZ, pS])
     have hH5 := hHeld.1
     clear hHeld
     obtain ⟨gg, hgg⟩ : ∃ x, w3.heap.size = x := ⟨_, rfl⟩
     simp only [hgg] at hH5 ⊢
     exact fin gg _ hH5
   ·go_simp
    (try simp only [hal])
    have hZ := hS0 w3
    have hgz := hHeld.1.big
    have hZl : w3.heap.size < (w3.alloc (Obj.cells Z.toArray 93)).heap.size := by rw [World.size_alloc]; omega
    refine hK.out _ _ ?_ (fun hHeld => ?_)
    ·(exact ⟨hHeld.1.alloc _, trivial⟩)
    clear hK K
    (try simp only [Act.put, pA, pZ, pS])
    refine rd1 6 rfl (fun K hK => ?_)
    go_simp
    (go_at_call 49; with_reducible refine (hwa _).mono ?_; rintro e w6 ⟨rfl, rfl⟩)
    refine hK.out _ _ ?_ (fun hHeld => ?_)
    ·(exact hHeld)
    clear hK K
    (try simp only [Act.put, pA, pZ, pS])
    refine tk1 7 rfl hHeld ?_
    refine tk1 8 rfl hHeld ?_
    refine tk3 9 rfl (by (intro w9 hSw; have z0 := hSw.kb; clear hSw; go_simp) <;> with_reducible rfl) hHeld ?_
    refine rd1 10 rfl (fun K hK => ?_)
    go_simp
    (go_at_call 49; with_reducible refine (hwb _).mono ?_; rintro e w6 ⟨rfl, rfl⟩)
    refine hK.out _ _ ?_ (fun hHeld => ?_)
    ·(exact hHeld)
    clear hK K
    (try simp only [Act.put, pA, pZ, pS])
    refine tk1 11 rfl hHeld ?_
    refine rd1 12 rfl (fun K hK => ?_)
    go_simp
    (go_at_call 46; with_reducible refine (hC _ hHeld.1.old).mono ?_; rintro e w12 ⟨rfl, hb12⟩)
    replace hZ := hZ.below hb12 hZl
    replace hZl := Nat.lt_of_lt_of_le hZl hb12.size
    refine hK.out _ _ ?_ (fun hHeld => ?_)
    ·(exact ⟨hHeld.1.below hb12, trivial⟩)
    clear hK K
    (try simp only [Act.put, pA, pZ, pS])
    refine tk1 13 rfl hHeld ?_
    refine tk1 14 rfl hHeld ?_
    refine tk1 15 rfl hHeld ?_
    refine rd1 17 rfl (fun K hK => ?_)
    refine step_store_mid rfl 93 _ _ rfl w3.heap.size 0 L.toArray rfl rfl (hth _ _ hZ) hiA hoL ?_
    have hK5 := hHeld.1.put hgz L
    refine hK.out _ _ ?_ (fun hHeld => ?_)
    ·(exact ⟨hK5, trivial⟩)
    clear hK K
    (try simp only [Act.put, pA, pZ, pS])
    refine tk1 18 rfl hHeld ?_
    refine wpAnyP_done (by kernel_rfl) ?_ _
    (try simp only [Act.put, List.getElem_toArray, List.getElem_cons_zero, List.getElem_cons_succ, pA, pZ, pS])
    have hH5 := hHeld.1
    clear hHeld
    obtain ⟨gg, hgg⟩ : ∃ x, w3.heap.size = x := ⟨_, rfl⟩
    simp only [hgg] at hH5 ⊢
    exact fin gg _ hH5
  ·go_simp
   (try simp only [hal])
   have hZ := hS0 V1
   have hgz := hHeld.1.big
   have hZl : V1.heap.size < (V1.alloc (Obj.cells Z.toArray 93)).heap.size := by rw [World.size_alloc]; omega
   refine hK.out _ _ ?_ (fun hHeld => ?_)
   ·(exact ⟨hHeld.1.alloc _, trivial⟩)
   clear hK K
   (try simp only [Act.put, pA, pZ, pS])
   refine rd1 3 rfl (fun K hK => ?_)
   go_simp
   (go_at_call 47; with_reducible refine (hif _ hHeld.1.old).mono ?_; rintro e w3 ⟨rfl, hb3⟩)
   replace hZ := hZ.below hb3 hZl
   replace hZl := Nat.lt_of_lt_of_le hZl hb3.size
   refine hK.out _ _ ?_ (fun hHeld => ?_)
   ·(exact ⟨hHeld.1.below hb3, trivial⟩)
   clear hK K
   (try simp only [Act.put, pA, pZ, pS])
   refine tk1 4 rfl hHeld ?_
   refine tk3 5 rfl (by (intro w9 hSw; have z0 := hSw.ka; clear hSw; go_simp) <;> with_reducible rfl) hHeld ?_
   refine rd1 6 rfl (fun K hK => ?_)
   go_simp
   (go_at_call 49; with_reducible refine (hwa _).mono ?_; rintro e w6 ⟨rfl, rfl⟩)
   refine hK.out _ _ ?_ (fun hHeld => ?_)
   ·(exact hHeld)
   clear hK K
   (try simp only [Act.put, pA, pZ, pS])
   refine tk1 7 rfl hHeld ?_
   refine tk1 8 rfl hHeld ?_
   refine tk3 9 rfl (by (intro w9 hSw; have z0 := hSw.kb; clear hSw; go_simp) <;> with_reducible rfl) hHeld ?_
   refine rd1 10 rfl (fun K hK => ?_)
   go_simp
   (go_at_call 49; with_reducible refine (hwb _).mono ?_; rintro e w6 ⟨rfl, rfl⟩)
   refine hK.out _ _ ?_ (fun hHeld => ?_)
   ·(exact hHeld)
   clear hK K
   (try simp only [Act.put, pA, pZ, pS])
   refine tk1 11 rfl hHeld ?_
   refine rd1 12 rfl (fun K hK => ?_)
   go_simp
   (go_at_call 46; with_reducible refine (hC _ hHeld.1.old).mono ?_; rintro e w12 ⟨rfl, hb12⟩)
   replace hZ := hZ.below hb12 hZl
   replace hZl := Nat.lt_of_lt_of_le hZl hb12.size
   refine hK.out _ _ ?_ (fun hHeld => ?_)
   ·(exact ⟨hHeld.1.below hb12, trivial⟩)
   clear hK K
   (try simp only [Act.put, pA, pZ, pS])
   refine tk1 13 rfl hHeld ?_
   refine tk1 14 rfl hHeld ?_
   refine tk1 15 rfl hHeld ?_
   refine rd1 17 rfl (fun K hK => ?_)
   refine step_store_mid rfl 93 _ _ rfl V1.heap.size 0 L.toArray rfl rfl (hth _ _ hZ) hiA hoL ?_
   have hK5 := hHeld.1.put hgz L
   refine hK.out _ _ ?_ (fun hHeld => ?_)
   ·(exact ⟨hK5, trivial⟩)
   clear hK K
   (try simp only [Act.put, pA, pZ, pS])
   refine tk1 18 rfl hHeld ?_
   refine wpAnyP_done (by kernel_rfl) ?_ _
   (try simp only [Act.put, List.getElem_toArray, List.getElem_cons_zero, List.getElem_cons_succ, pA, pZ, pS])
   have hH5 := hHeld.1
   clear hHeld
   obtain ⟨gg, hgg⟩ : ∃ x, V1.heap.size = x := ⟨_, rfl⟩
   simp only [hgg] at hH5 ⊢
   exact fin gg _ hH5
 case fin =>
  intro g V hX
  have ht8 : Two V (w.heap.size + 1 + 1 + 1 + 1) 0 0 := hX.t8
  have ht9 : Two V (w.heap.size + 1 + 1 + 1 + 1 + 1) 0 0 := hX.t9
  have a0 := ht8.k0
  have a1' := ht8.k1
  have a2 := ht8.f0
  have a3 := ht8.f1
  have a4 := ht9.k0
  have a5 := ht9.k1
  have a6 := ht9.f0
  have a7 := ht9.f1
  have hnb : (er' == 0) = false := by simp [hne]
  go_wp2
  have hO := ((((hX.old.setCell (p := ⟨w.heap.size + 1 + 1 + 1 + 1, 0, none⟩) (by show w.heap.size ≤ w.heap.size + 1 + 1 + 1 + 1; omega) (.int .i64 0)).setCell (p := ⟨w.heap.size + 1 + 1 + 1 + 1, 1, none⟩) (by show w.heap.size ≤ w.heap.size + 1 + 1 + 1 + 1; omega) (.int .i64 0)).setCell (p := ⟨w.heap.size + 1 + 1 + 1 + 1 + 1, 0, none⟩) (by show w.heap.size ≤ w.heap.size + 1 + 1 + 1 + 1 + 1; omega) (.int .i64 0)).setCell (p := ⟨w.heap.size + 1 + 1 + 1 + 1 + 1, 1, none⟩) (by show w.heap.size ≤ w.heap.size + 1 + 1 + 1 + 1 + 1; omega) (.int .i64 0))
  have hS8 := (ht8.set01 0 0).far2 (P := w.heap.size + 1 + 1 + 1 + 1 + 1) (by omega) (.int .i64 0) (.int .i64 0)
  have hS9 := (ht9.far2 (P := w.heap.size + 1 + 1 + 1 + 1) (by omega) (.int .i64 0) (.int .i64 0)).set01 0 0
  clear a0 a1' a2 a3 a4 a5 a6 a7 ht8 ht9 hX
  generalize (((V.setCell ⟨w.heap.size + 1 + 1 + 1 + 1, 0, none⟩ (.int .i64 0)).setCell ⟨w.heap.size + 1 + 1 + 1 + 1, 1, none⟩ (.int .i64 0)).setCell ⟨w.heap.size + 1 + 1 + 1 + 1 + 1, 0, none⟩ (.int .i64 0)).setCell ⟨w.heap.size + 1 + 1 + 1 + 1 + 1, 1, none⟩ (.int .i64 0) = W15 at hO hS8 hS9 ⊢
  refine bodyPost_ret (v := .tuple #[.agg #[.int .i64 0, .int .i64 0], .agg #[.int .i64 0, .int .i64 0], .int .i64 er']) (by simp [results, Tryz.results19, go_sem, hS8.k0, hS8.k1, hS9.k0, hS9.k1]) rfl ⟨rfl, hO⟩
end Go.Proofs.YtjhpklolpmaopaaGreatDoor
namespace Go.Proofs.YtjhpklolpmaopaaGreatDoor
open Go.RowKit
end Go.Proofs.YtjhpklolpmaopaaGreatDoor
namespace Go.Proofs.YtjhpklolpmaopaaGreatDoor
open Go.RowKit
end Go.Proofs.YtjhpklolpmaopaaGreatDoor
namespace Go.Proofs.YtjhpklolpmaopaaGreatDoor
open Go.RowKit
set_option maxRecDepth 100000 in
set_option maxHeartbeats 1000000 in
theorem slim_any (m : Mach) (w : World) (hs : m.sn ≤ 9223372036854775807) (hr : m.rn ≤ 9223372036854775807) :
  Calls Tryz.prog 5 #[m.val] w fun e w' => e = .returned (.bool (decide (m.sn ≤ 6) && decide (m.rn ≤ 6))) ∧ Below w.heap.size w w' := by
 obtain ⟨W0, hW⟩ : ∃ W0, w.alloc (.cells #[.slice m.sa m.sn m.sc, .int .i64 m.c0, .int .i64 m.c1, .int .i64 m.d0, .int .i64 m.d1, .int .i64 m.w0, .int .i64 m.w1, .int .i64 m.v0, .int .i64 m.v1, .slice m.ra m.rn m.rc] 27) = W0 := ⟨_, rfl⟩
 have hb0 : Below w.heap.size w W0 := by rw [← hW]; exact (Below.refl _ _).alloc (Nat.le_refl _) _
 have hMB : MAt W0 w.heap.size m := by rw [← hW]; exact MAt.new w m
 obtain ⟨q0, q1, q2, q3, q4, q5, q6, q7, q8, q9⟩ := hMB
 by_cases h1 : m.sn ≤ 6
 ·have h1' : (m.sn : Int) ≤ 6 := by omega
  by_cases h2 : m.rn ≤ 6
  ·have h2' : (m.rn : Int) ≤ 6 := by omega
   go_enter Tryz.func5, Tryz.ntmps5
   go_wp2
   go_ret
   exact ⟨ret_bool (by simp [h1, h2, h1', h2']), hb0⟩
  ·have h2' : ¬ (m.rn : Int) ≤ 6 := by omega
   go_enter Tryz.func5, Tryz.ntmps5
   go_wp2
   go_ret
   exact ⟨ret_bool (by simp [h1, h2, h1', h2']), hb0⟩
 ·have h1' : ¬ (m.sn : Int) ≤ 6 := by omega
  go_enter Tryz.func5, Tryz.ntmps5
  go_wp2
  go_ret
  exact ⟨ret_bool (by simp [h1, h1']), hb0⟩
/-! ### what Known and Machine answer, in one form -/
end Go.Proofs.YtjhpklolpmaopaaGreatDoor
namespace Go.Proofs.YtjhpklolpmaopaaGreatDoor
open Go.RowKit Go.Can
/-- the blocks of a machine and a truth. -/
structure MX (w W : World) (m : Mach) (a1 : Option Addr) (n1 c1 : Nat) (a2 : Option Addr) (n2 c2 : Nat) : Prop where
 mach : MAt W w.heap.size m
 x0 : W.cell? ⟨w.heap.size + 1, 0, none⟩ = some (.slice a1 n1 c1)
 x1 : W.cell? ⟨w.heap.size + 1, 1, none⟩ = some (.slice a2 n2 c2)
 old : Below w.heap.size w W
 big : w.heap.size + 2 ≤ W.heap.size
theorem MX.new (w : World) (m : Mach) (a1 : Option Addr) (n1 c1 : Nat) (a2 : Option Addr) (n2 c2 : Nat) : MX w ((w.alloc (.cells #[.slice m.sa m.sn m.sc, .int .i64 m.c0, .int .i64 m.c1, .int .i64 m.d0, .int .i64 m.d1, .int .i64 m.w0, .int .i64 m.w1, .int .i64 m.v0, .int .i64 m.v1, .slice m.ra m.rn m.rc] 27)).alloc (.cells #[.slice a1 n1 c1, .slice a2 n2 c2] 30)) m a1 n1 c1 a2 n2 c2 := by
 refine ⟨(MAt.new w m).below ((Below.refl _ _).alloc (Nat.le_refl _) _) (by rw [World.size_alloc]; omega), ?_, ?_, ((Below.refl _ _).alloc (Nat.le_refl _) _).alloc (by rw [World.size_alloc]; omega) _, by rw [World.size_alloc, World.size_alloc]; omega⟩
 ·have h := cells_new (w.alloc (.cells #[.slice m.sa m.sn m.sc, .int .i64 m.c0, .int .i64 m.c1, .int .i64 m.d0, .int .i64 m.d1, .int .i64 m.w0, .int .i64 m.w1, .int .i64 m.v0, .int .i64 m.v1, .slice m.ra m.rn m.rc] 27)) #[.slice a1 n1 c1, .slice a2 n2 c2] 30 (j := 0) rfl
  rw [World.size_alloc] at h; exact h
 ·have h := cells_new (w.alloc (.cells #[.slice m.sa m.sn m.sc, .int .i64 m.c0, .int .i64 m.c1, .int .i64 m.d0, .int .i64 m.d1, .int .i64 m.w0, .int .i64 m.w1, .int .i64 m.v0, .int .i64 m.v1, .slice m.ra m.rn m.rc] 27)) #[.slice a1 n1 c1, .slice a2 n2 c2] 30 (j := 1) rfl
  rw [World.size_alloc] at h; exact h
theorem MX.below {w W W' : World} {m : Mach} {a1 : Option Addr} {n1 c1 : Nat} {a2 : Option Addr} {n2 c2 : Nat} (h : MX w W m a1 n1 c1 a2 n2 c2) (hb : Below W.heap.size W W') : MX w W' m a1 n1 c1 a2 n2 c2 :=
 have hg := h.big
 ⟨h.mach.below hb (by omega), (hb.cell (p := ⟨w.heap.size + 1, 0, none⟩) (by show w.heap.size + 1 < _; omega)).trans h.x0, (hb.cell (p := ⟨w.heap.size + 1, 1, none⟩) (by show w.heap.size + 1 < _; omega)).trans h.x1, h.old.trans (hb.mono h.old.size), Nat.le_trans h.big hb.size⟩
end Go.Proofs.YtjhpklolpmaopaaGreatDoor
namespace Go.Proofs.YtjhpklolpmaopaaGreatDoor
open Go.RowKit Go.Can
theorem MX.two {w W : World} {m : Mach} {a1 : Option Addr} {n1 c1 : Nat} {a2 : Option Addr} {n2 c2 : Nat} (h : MX w W m a1 n1 c1 a2 n2 c2) (o1 o2 : Obj) : MX w ((W.alloc o1).alloc o2) m a1 n1 c1 a2 n2 c2 :=
 (h.below ((Below.refl _ W).alloc (Nat.le_refl _) o1)).below ((Below.refl _ _).alloc (Nat.le_refl _) o2)
end Go.Proofs.YtjhpklolpmaopaaGreatDoor
namespace Go.Proofs.YtjhpklolpmaopaaGreatDoor
open Go.RowKit Go.Can
/-- two spans in blocks of their own. -/
structure AB (W : World) (s : Nat) (x0 x1 z0 z1 : Int) : Prop where
 a0 : W.cell? ⟨s, 0, none⟩ = some (.int .i64 x0)
 a1 : W.cell? ⟨s, 1, none⟩ = some (.int .i64 x1)
 b0 : W.cell? ⟨s + 1, 0, none⟩ = some (.int .i64 z0)
 b1 : W.cell? ⟨s + 1, 1, none⟩ = some (.int .i64 z1)
 big : s + 2 ≤ W.heap.size
theorem AB.new (w : World) (x0 x1 z0 z1 : Int) (t : TypeId) : AB ((w.alloc (Obj.cells #[.int .i64 x0, .int .i64 x1] t)).alloc (Obj.cells #[.int .i64 z0, .int .i64 z1] t)) w.heap.size x0 x1 z0 z1 := by
 have hb : Below (w.alloc (Obj.cells #[.int .i64 x0, .int .i64 x1] t)).heap.size (w.alloc (Obj.cells #[.int .i64 x0, .int .i64 x1] t)) ((w.alloc (Obj.cells #[.int .i64 x0, .int .i64 x1] t)).alloc (Obj.cells #[.int .i64 z0, .int .i64 z1] t)) := (Below.refl _ _).alloc (Nat.le_refl _) _
 have hs := World.size_alloc w (Obj.cells #[.int .i64 x0, .int .i64 x1] t)
 refine ⟨?_, ?_, ?_, ?_, by rw [World.size_alloc, World.size_alloc]; omega⟩
 ·exact (hb.cell (p := ⟨w.heap.size, 0, none⟩) (by show w.heap.size < _; omega)).trans (cells_new w _ _ rfl)
 ·exact (hb.cell (p := ⟨w.heap.size, 1, none⟩) (by show w.heap.size < _; omega)).trans (cells_new w _ _ rfl)
 ·have := cells_new (w.alloc (Obj.cells #[.int .i64 x0, .int .i64 x1] t)) #[.int .i64 z0, .int .i64 z1] t (j := 0) rfl
  rw [hs] at this; exact this
 ·have := cells_new (w.alloc (Obj.cells #[.int .i64 x0, .int .i64 x1] t)) #[.int .i64 z0, .int .i64 z1] t (j := 1) rfl
  rw [hs] at this; exact this
theorem AB.below {W W' : World} {s : Nat} {x0 x1 z0 z1 : Int} (h : AB W s x0 x1 z0 z1) (hb : Below W.heap.size W W') : AB W' s x0 x1 z0 z1 :=
 have hg := h.big
 ⟨(hb.cell (p := ⟨s, 0, none⟩) (by show s < _; omega)).trans h.a0, (hb.cell (p := ⟨s, 1, none⟩) (by show s < _; omega)).trans h.a1, (hb.cell (p := ⟨s + 1, 0, none⟩) (by show s + 1 < _; omega)).trans h.b0, (hb.cell (p := ⟨s + 1, 1, none⟩) (by show s + 1 < _; omega)).trans h.b1, Nat.le_trans h.big hb.size⟩
end Go.Proofs.YtjhpklolpmaopaaGreatDoor
namespace Go.Proofs.YtjhpklolpmaopaaGreatDoor
open Go.RowKit
theorem PoR.two {w W : World} {m : Mach} (h : PoR w m W) (o1 o2 : Obj) : PoR w m ((W.alloc o1).alloc o2) :=
 (h.below ((Below.refl _ W).alloc (Nat.le_refl _) o1)).below ((Below.refl _ _).alloc (Nat.le_refl _) o2)
theorem AB.two {W : World} {s : Nat} {x0 x1 z0 z1 : Int} (h : AB W s x0 x1 z0 z1) (o1 o2 : Obj) : AB ((W.alloc o1).alloc o2) s x0 x1 z0 z1 :=
 (h.below ((Below.refl _ W).alloc (Nat.le_refl _) o1)).below ((Below.refl _ _).alloc (Nat.le_refl _) o2)
theorem PoR.new (w : World) (m : Mach) : PoR w m (w.alloc (.cells #[.slice m.sa m.sn m.sc, .int .i64 m.c0, .int .i64 m.c1, .int .i64 m.d0, .int .i64 m.d1, .int .i64 m.w0, .int .i64 m.w1, .int .i64 m.v0, .int .i64 m.v1, .slice m.ra m.rn m.rc] 27)) :=
 ⟨MAt.new w m, (Below.refl _ _).alloc (Nat.le_refl _) _, by rw [World.size_alloc]; omega⟩
set_option maxRecDepth 100000 in
set_option maxHeartbeats 4000000 in
theorem able_any (m : Mach) (er : Int) (hA : Able m true er) (w : World) (hs : m.sn ≤ 1000) (hr : m.rn ≤ 1000) (h : MIn w m) :
  Calls Tryz.prog 23 #[m.val] w fun e w' => e = .returned (.int .i64 er) ∧ Below w.heap.size w w' := by
 obtain ⟨W0, hW⟩ : ∃ W0, w.alloc (.cells #[.slice m.sa m.sn m.sc, .int .i64 m.c0, .int .i64 m.c1, .int .i64 m.d0, .int .i64 m.d1, .int .i64 m.w0, .int .i64 m.w1, .int .i64 m.v0, .int .i64 m.v1, .slice m.ra m.rn m.rc] 27) = W0 := ⟨_, rfl⟩
 have hX : PoR w m W0 := by rw [← hW]; exact PoR.new w m
 have hma := fun (W : World) (hB : Below w.heap.size w W) => rmachine_any m W (by omega) (by omega) (h.below hB)
 obtain ⟨q0, q1, q2, q3, q4, q5, q6, q7, q8, q9⟩ := id hX.mat
 cases hok : m.ok with
 | false =>
  obtain rfl := hA.arg (by rw [hok]; rfl)
  rw [hok] at hma
  go_enter Tryz.func23, Tryz.ntmps23
  go_wp2_with (go_at_call 7; with_reducible refine (hma _ hX.old).mono ?_; rintro e w1 ⟨rfl, hb⟩; replace hX := hX.below hb)
  go_ret
  exact ⟨rfl, hX.old⟩
 | true =>
  rw [hok] at hma
  obtain ⟨b, hb, hp⟩ := rpossible_b m hok
  have hpo := fun (W : World) (hB : Below w.heap.size w W) => hp W (h.below hB)
  cases b with
  | false =>
   obtain rfl := hA.rule (by rw [hok]; rfl) (fun hc => by have := hb.2 hc; cases this)
   clear hp hb
   go_enter Tryz.func23, Tryz.ntmps23
   go_wp2_with (first
    | (go_at_call 7; with_reducible refine (hma _ hX.old).mono ?_; rintro e w1 ⟨rfl, hb⟩; replace hX := hX.below hb; obtain ⟨q0, q1, q2, q3, q4, q5, q6, q7, q8, q9⟩ := id hX.mat)
    | (go_at_call 59; with_reducible refine (hpo _ hX.old).mono ?_; rintro e w2 ⟨rfl, hb⟩; replace hX := hX.below hb))
   go_ret
   exact ⟨rfl, hX.old⟩
  | true =>
   obtain rfl := hA.ok (by rw [hok]; rfl) (hb.1 rfl)
   clear hp hb
   go_enter Tryz.func23, Tryz.ntmps23
   go_wp2_with (first
    | (go_at_call 7; with_reducible refine (hma _ hX.old).mono ?_; rintro e w1 ⟨rfl, hb⟩; replace hX := hX.below hb; obtain ⟨q0, q1, q2, q3, q4, q5, q6, q7, q8, q9⟩ := id hX.mat)
    | (go_at_call 59; with_reducible refine (hpo _ hX.old).mono ?_; rintro e w2 ⟨rfl, hb⟩; replace hX := hX.below hb))
   go_ret
   exact ⟨rfl, hX.old⟩
end Go.Proofs.YtjhpklolpmaopaaGreatDoor
namespace Go.Proofs.YtjhpklolpmaopaaGreatDoor
open Go.RowKit Go.Can
/-! ### Match, case by case -/
end Go.Proofs.YtjhpklolpmaopaaGreatDoor
