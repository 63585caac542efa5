/- A part of the proof: see the last file. -/
import Derived.Test.YtmjmmokbaocboaaGreatDoorPbl
import Derived.Test.YtmjmmokbaocboaaGreatDoorPap
import Derived.Test.YtmjmmokbaocboaaGreatDoorPbm
import Derived.Test.YtmjmmokbaocboaaGreatDoorPbk
set_option linter.unusedVariables false
set_option linter.unusedSimpArgs false
set_option linter.unusedSectionVars false
namespace Go.Proofs.YtmjmmokbaocboaaGreatDoor
open Go.RowKit
/-- what a walk uses of the blocks: the measure, the machine, the button, and what is made. -/
structure MF (W : World) (b gd gx : Nat) (m : Mach) (v1 : Value) (r r' : Int) (vb : Value) (rb : Int) (sa : Option Addr) (sn sc : Nat) (C0 C1 D0 D1 U0 U1 T0 T1 : Int) (ra : Option Addr) (rn rc : Nat) : Prop where
  z0 : W.cell? ⟨b, 0, none⟩ = some v1
  z1 : W.cell? ⟨b, 1, none⟩ = some (.int .i64 r)
  y0 : W.cell? ⟨b + 1, 0, none⟩ = some (.slice m.sa m.sn m.sc)
  y1 : W.cell? ⟨b + 1, 1, none⟩ = some (.int .i64 m.c0)
  y2 : W.cell? ⟨b + 1, 2, none⟩ = some (.int .i64 m.c1)
  y3 : W.cell? ⟨b + 1, 3, none⟩ = some (.int .i64 m.d0)
  y4 : W.cell? ⟨b + 1, 4, none⟩ = some (.int .i64 m.d1)
  y5 : W.cell? ⟨b + 1, 5, none⟩ = some (.int .i64 m.w0)
  y6 : W.cell? ⟨b + 1, 6, none⟩ = some (.int .i64 m.w1)
  y7 : W.cell? ⟨b + 1, 7, none⟩ = some (.int .i64 m.v0)
  y8 : W.cell? ⟨b + 1, 8, none⟩ = some (.int .i64 m.v1)
  y9 : W.cell? ⟨b + 1, 9, none⟩ = some (.slice m.ra m.rn m.rc)
  z6 : W.cell? ⟨b + 1 + 1 + 1, 0, none⟩ = some vb
  z7 : W.cell? ⟨b + 1 + 1 + 1, 1, none⟩ = some (.int .i64 rb)
  d0 : W.cell? ⟨gd, 0, none⟩ = some v1
  d1 : W.cell? ⟨gd, 1, none⟩ = some (.int .i64 r')
  x0 : W.cell? ⟨gx, 0, none⟩ = some (.slice sa sn sc)
  x1 : W.cell? ⟨gx, 1, none⟩ = some (.int .i64 C0)
  x2 : W.cell? ⟨gx, 2, none⟩ = some (.int .i64 C1)
  x3 : W.cell? ⟨gx, 3, none⟩ = some (.int .i64 D0)
  x4 : W.cell? ⟨gx, 4, none⟩ = some (.int .i64 D1)
  x5 : W.cell? ⟨gx, 5, none⟩ = some (.int .i64 U0)
  x6 : W.cell? ⟨gx, 6, none⟩ = some (.int .i64 U1)
  x7 : W.cell? ⟨gx, 7, none⟩ = some (.int .i64 T0)
  x8 : W.cell? ⟨gx, 8, none⟩ = some (.int .i64 T1)
  x9 : W.cell? ⟨gx, 9, none⟩ = some (.slice ra rn rc)
theorem MD.mf {w W : World} {gd gx : Nat} {m : Mach} {v1 vb : Value} {r r' B X Y E rb : Int} {sa : Option Addr} {sn sc : Nat} {SX SY : Nat → Int} {C0 C1 D0 D1 U0 U1 T0 T1 : Int} {ra : Option Addr} {rn rc : Nat} {RB RX RY RE : Nat → Int} (h : MD w W gd gx m ⟨sa, sn, sc, SX, SY, C0, C1, D0, D1, U0, U1, T0, T1, ra, rn, rc, RB, RX, RY, RE⟩ v1 r r' B X Y E vb rb) :
    MF W w.heap.size gd gx m v1 r r' vb rb sa sn sc C0 C1 D0 D1 U0 U1 T0 T1 ra rn rc := by
  obtain ⟨k0, k1, k2, k3, k4, k5, k6, k7, k8, k9⟩ := h.xm
  obtain ⟨y0, y1, y2, y3, y4, y5, y6, y7, y8, y9⟩ := h.mb.sx.mach
  exact ⟨h.mb.sx.c0, h.mb.sx.c1, y0, y1, y2, y3, y4, y5, y6, y7, y8, y9, h.mb.b0, h.mb.b1, h.d0, h.d1, k0, k1, k2, k3, k4, k5, k6, k7, k8, k9⟩
set_option maxRecDepth 100000 in
set_option maxHeartbeats 4000000 in
theorem more_ok (a1 : Option Addr) (c1 : Nat) (r : Int) (HX HY : Nat → Int) (m : Mach) (more up down B X Y E : Int) (a2 : Option Addr) (nb c2 : Nat) (rb : Int) (GX GY : Nat → Int) (k : Nat) (hk1 : 1 ≤ k) (hk12 : k ≤ 12) (w : World) (hk : KG w) (hn : m.sn ≤ 6) (hr : m.rn ≤ 6) (hp : PSc w (.slice a1 m.sn c1) m.sn HX HY) (h : MIn w m) (hok : m.ok = true) (hc : m.can) (hme : measB m.sn HX HY r = true)
    (hq : PSl w (.slice a2 nb c2) nb GX GY) (hnb : nb ≤ 6) (hm1 : 0 ≤ more ∧ more ≤ 6) (hu : 0 ≤ up ∧ up ≤ 6) (hd : 0 ≤ down ∧ down ≤ 6) :
    Calls Tryz.prog 7 #[.agg #[.slice a1 m.sn c1, .int .i64 r], m.val, .int .i64 more, .int .i64 up, .int .i64 down, .agg #[.int .i64 B, .int .i64 X, .int .i64 Y, .int .i64 E], .agg #[.slice a2 nb c2, .int .i64 rb], .int .i64 k] w fun e w' => e = .returned (.bool true) ∧ Below w.heap.size w w' := by
  have hsl := fun (W : World) => slim_any m W (by omega) (by omega)
  rw [decide_eq_true hn, decide_eq_true hr, Bool.and_true] at hsl
  have hfw := fun (W : World) => few_any a2 nb c2 rb W (by omega)
  rw [decide_eq_true hnb] at hfw
  have hA : Able m ((measB m.sn HX HY r && decide (m.sn = m.sn)) && inB (k : Int) 1 12) 0 := ⟨fun hf => by
    rw [hok, hme, show inB (k : Int) 1 12 = true from inB_yes (by omega) (by omega)] at hf; simp at hf, fun _ hn => absurd hc hn, fun _ _ => rfl⟩
  have hhe := fun (W : World) (hB : Below w.heap.size w W) => held_any a1 m.sn c1 r HX HY m k 1 W hn hn hr (hp.1.below hB) (h.below hB) 0 hA
  clear hA
  obtain ⟨⟨q1, q2⟩, ⟨q3, q4⟩, _⟩ := meas_parts hme
  obtain ⟨b1, o1, k1, e1, l1, p1⟩ := PSl_posD hp.1 (by omega)
  cases e1
  have t6 : ¬ (6 : Int) < (m.sn : Int) := by omega
  have t1 : ¬ more < 0 := by omega
  have t2 : ¬ (6 : Int) < more := by omega
  have t3 : ¬ up < 0 := by omega
  have t4 : ¬ (6 : Int) < up := by omega
  have t5 : ¬ down < 0 := by omega
  have t7 : ¬ (6 : Int) < down := by omega
  obtain ⟨W0, hW0⟩ : ∃ W0, (((w.alloc (Obj.cells #[.slice (some ⟨b1, o1, none⟩) m.sn c1, .int .i64 r] 24)).alloc (.cells #[.slice m.sa m.sn m.sc, .int .i64 m.c0, .int .i64 m.c1, .int .i64 m.d0, .int .i64 m.d1, .int .i64 m.w0, .int .i64 m.w1, .int .i64 m.v0, .int .i64 m.v1, .slice m.ra m.rn m.rc] 29)).alloc (Obj.cells #[.int .i64 B, .int .i64 X, .int .i64 Y, .int .i64 E] 69)).alloc (Obj.cells #[.slice a2 nb c2, .int .i64 rb] 58) = W0 := ⟨_, rfl⟩
  have hX : PLift (MB w W0 m (.slice (some ⟨b1, o1, none⟩) m.sn c1) r B X Y E (.slice a2 nb c2) rb) := ⟨by rw [← hW0]; exact MB.new w m _ r B X Y E _ rb⟩
  have z0 := hX.down.sx.c0
  have z1 := hX.down.sx.c1
  obtain ⟨y0', y1', y2', y3', y4', y5', y6', y7', y8', y9'⟩ := hX.down.sx.mach
  have z2 := hX.down.r0
  have z3 := hX.down.r1
  have z4 := hX.down.r2
  have z5 := hX.down.r3
  have z6 := hX.down.b0
  have z7 := hX.down.b1
  go_enter Tryz.func7, Tryz.ntmps7
  go_wp2_with (first
    | (go_at_call 8; with_reducible refine (hsl _).mono ?_; rintro e w1 ⟨rfl, hb⟩; replace hX : PLift (MB w w1 m (.slice (some ⟨b1, o1, none⟩) m.sn c1) r B X Y E (.slice a2 nb c2) rb) := ⟨hX.down.below hb⟩; clear z0 z1 z2 z3 z4 z5 z6 z7 y0' y1' y2' y3' y4' y5' y6' y7' y8' y9'; have z0 := hX.down.sx.c0; have z1 := hX.down.sx.c1; obtain ⟨y0', y1', y2', y3', y4', y5', y6', y7', y8', y9'⟩ := hX.down.sx.mach; have z2 := hX.down.r0; have z3 := hX.down.r1; have z4 := hX.down.r2; have z5 := hX.down.r3; have z6 := hX.down.b0; have z7 := hX.down.b1; clear hb)
    | (go_at_call 23; with_reducible refine (hfw _).mono ?_; rintro e w1 ⟨rfl, hb⟩; replace hX : PLift (MB w w1 m (.slice (some ⟨b1, o1, none⟩) m.sn c1) r B X Y E (.slice a2 nb c2) rb) := ⟨hX.down.below hb⟩; clear z0 z1 z2 z3 z4 z5 z6 z7 y0' y1' y2' y3' y4' y5' y6' y7' y8' y9'; have z0 := hX.down.sx.c0; have z1 := hX.down.sx.c1; obtain ⟨y0', y1', y2', y3', y4', y5', y6', y7', y8', y9'⟩ := hX.down.sx.mach; have z2 := hX.down.r0; have z3 := hX.down.r1; have z4 := hX.down.r2; have z5 := hX.down.r3; have z6 := hX.down.b0; have z7 := hX.down.b1; clear hb)
    | (go_at_call 11; with_reducible refine (hhe _ hX.down.sx.old).mono ?_; rintro e w1 ⟨rfl, hb⟩; replace hX : PLift (MB w w1 m (.slice (some ⟨b1, o1, none⟩) m.sn c1) r B X Y E (.slice a2 nb c2) rb) := ⟨hX.down.below hb⟩; clear z0 z1 z2 z3 z4 z5 z6 z7 y0' y1' y2' y3' y4' y5' y6' y7' y8' y9'; have z0 := hX.down.sx.c0; have z1 := hX.down.sx.c1; obtain ⟨y0', y1', y2', y3', y4', y5', y6', y7', y8', y9'⟩ := hX.down.sx.mach; have z2 := hX.down.r0; have z3 := hX.down.r1; have z4 := hX.down.r2; have z5 := hX.down.r3; have z6 := hX.down.b0; have z7 := hX.down.b1; clear hb))
  have hi2 : (Tryz.prog.info? 24).map (·.size) = some 2 := by kernel_rfl
  have hi10 : (Tryz.prog.info? 29).map (·.size) = some 10 := by kernel_rfl
  clear hsl hfw hhe z0 z1 z2 z3 z4 z5 z6 z7 y0' y1' y2' y3' y4' y5' y6' y7' y8' y9' hW0
  rename_i Q' K hKK
  refine (fun (fin : ∀ (gd gx : Nat) (W' : World), MD w W' gd gx m m (.slice (some ⟨b1, o1, none⟩) m.sn c1) r r B X Y E (.slice a2 nb c2) rb → K ((?F : Nat → Nat → Act) gd gx) W') => ?leafs) ?fin
  case leafs =>
    refine wp_region_late [] (fun w9 => MB w w9 m (.slice (some ⟨b1, o1, none⟩) m.sn c1) r B X Y E (.slice a2 nb c2) rb) (fun w9 => True) (by kernel_rfl) ?_ (fun hHeld => ?_)
    · (exact ⟨hX.down.drew, trivial⟩)
    generalize w1.drew = V at hHeld ⊢
    have hVb := hHeld.1.big
    refine wpAnyP_take0 (i := 0) (v := ?_) rfl (by kernel_rfl) (by kernel_rfl) (by kernel_rfl) (by kernel_rfl) (by rfl) (fun _ _ _ h => h) (Or.inl ⟨by rfl, ?_⟩) hHeld ?_
    rotate_left 1
    · ((intro w9 hSw; have q0 := hSw.sx.c0; have q1 := hSw.sx.c1; clear hSw; go_simp) <;> with_reducible rfl)
    (try simp only [Act.put, List.setIfInBounds_toArray, List.set_cons_zero, List.set_cons_succ])
    refine wpAnyP_take0 (i := 1) (v := ?_) rfl (by kernel_rfl) (by kernel_rfl) (by kernel_rfl) (by kernel_rfl) (by rfl) (fun _ _ _ h => h) (Or.inl ⟨by rfl, ?_⟩) hHeld ?_
    rotate_left 1
    · ((intro w9 hSw; have q0 := hSw.sx.mach.k0; have q1 := hSw.sx.mach.k1; have q2 := hSw.sx.mach.k2; have q3 := hSw.sx.mach.k3; have q4 := hSw.sx.mach.k4; have q5 := hSw.sx.mach.k5; have q6 := hSw.sx.mach.k6; have q7 := hSw.sx.mach.k7; have q8 := hSw.sx.mach.k8; have q9 := hSw.sx.mach.k9; clear hSw; go_simp) <;> with_reducible rfl)
    (try simp only [Act.put, List.setIfInBounds_toArray, List.set_cons_zero, List.set_cons_succ])
    refine wpAnyP_ready (rs := [2, 3]) (by kernel_rfl) (by simp) ?_
    refine AllReadyP.cons (o := _) rfl (fun K hK => ?_) (AllReadyP.cons (o := _) rfl (fun K hK => ?_) AllReadyP.nil)
    · go_simp
      refine hK.out _ _ ?_ (fun hHeld => ?_)
      · (exact ⟨hHeld.1.alloc _, trivial⟩)
      clear hK K
      (try simp only [Act.put, List.setIfInBounds_toArray, List.set_cons_zero, List.set_cons_succ])
      refine wpAnyP_ready (rs := [3]) (by kernel_rfl) (by simp) ?_
      refine AllReadyP.cons (o := _) rfl (fun K hK => ?_) AllReadyP.nil
      · go_simp
        refine hK.out _ _ ?_ (fun hHeld => ?_)
        · (exact ⟨hHeld.1.alloc _, trivial⟩)
        clear hK K
        (try simp only [Act.put, List.setIfInBounds_toArray, List.set_cons_zero, List.set_cons_succ])
        refine wpAnyP_ready (rs := [4]) (by kernel_rfl) (by simp) ?_
        refine AllReadyP.cons (o := _) rfl (fun K hK => ?_) AllReadyP.nil
        · obtain ⟨hn1, hn2⟩ := two_new V 24 29
          obtain ⟨ht1, ht2, hMD⟩ := md_make hHeld.1 hn1 hn2 (by omega) (by omega) (by omega) (by rw [World.size_alloc, World.size_alloc]; omega) (by rw [World.size_alloc, World.size_alloc]; omega)
          refine step_store_mid rfl 24 _ _ rfl (V.heap.size) 0 #[.slice (some ⟨b1, o1, none⟩) m.sn c1, .int .i64 r] rfl rfl ht1 hi2 (by simp [Value.oneCell']) ?_
          refine hK.out _ _ ?_ (fun hHeld => ?_)
          · (exact ⟨hHeld.1.far (below_setCells (by omega) _ _ _ (Below.refl _ _)), trivial⟩)
          clear hK K
          (try simp only [Act.put, List.setIfInBounds_toArray, List.set_cons_zero, List.set_cons_succ])
          refine wpAnyP_ready (rs := [5]) (by kernel_rfl) (by simp) ?_
          refine AllReadyP.cons (o := _) rfl (fun K hK => ?_) AllReadyP.nil
          · refine step_store_mid rfl 29 _ _ rfl (V.heap.size + 1) 0 #[.slice m.sa m.sn m.sc, .int .i64 m.c0, .int .i64 m.c1, .int .i64 m.d0, .int .i64 m.d1, .int .i64 m.w0, .int .i64 m.w1, .int .i64 m.v0, .int .i64 m.v1, .slice m.ra m.rn m.rc] rfl rfl ht2 hi10 (by simp [Value.oneCell']) ?_
            refine hK.out _ _ ?_ (fun hHeld => ?_)
            · (exact ⟨hMD.mb, trivial⟩)
            clear hK K
            (try simp only [Act.put, List.setIfInBounds_toArray, List.set_cons_zero, List.set_cons_succ])
            refine wpAnyP_done (by kernel_rfl) ?_ _
            (try simp only [Act.put, List.getElem_toArray, List.getElem_cons_zero, List.getElem_cons_succ, List.setIfInBounds_toArray, List.set_cons_zero, List.set_cons_succ])
            clear hHeld
            obtain ⟨gx, hbig⟩ : ∃ g, V.heap.size + 1 = g := ⟨_, rfl⟩
            obtain ⟨gd, hsm⟩ : ∃ g, V.heap.size = g := ⟨_, rfl⟩
            simp only [hbig] at hMD ⊢
            simp only [hsm] at hMD ⊢
            exact fin gd gx _ hMD
    · go_simp
      refine hK.out _ _ ?_ (fun hHeld => ?_)
      · (exact ⟨hHeld.1.alloc _, trivial⟩)
      clear hK K
      (try simp only [Act.put, List.setIfInBounds_toArray, List.set_cons_zero, List.set_cons_succ])
      refine wpAnyP_ready (rs := [2]) (by kernel_rfl) (by simp) ?_
      refine AllReadyP.cons (o := _) rfl (fun K hK => ?_) AllReadyP.nil
      · go_simp
        refine hK.out _ _ ?_ (fun hHeld => ?_)
        · (exact ⟨hHeld.1.alloc _, trivial⟩)
        clear hK K
        (try simp only [Act.put, List.setIfInBounds_toArray, List.set_cons_zero, List.set_cons_succ])
        refine wpAnyP_ready (rs := [4]) (by kernel_rfl) (by simp) ?_
        refine AllReadyP.cons (o := _) rfl (fun K hK => ?_) AllReadyP.nil
        · obtain ⟨hn1, hn2⟩ := two_new' V 24 29
          obtain ⟨ht1, ht2, hMD⟩ := md_make hHeld.1 hn1 hn2 (by omega) (by omega) (by omega) (by rw [World.size_alloc, World.size_alloc]; omega) (by rw [World.size_alloc, World.size_alloc]; omega)
          refine step_store_mid rfl 24 _ _ rfl (V.heap.size + 1) 0 #[.slice (some ⟨b1, o1, none⟩) m.sn c1, .int .i64 r] rfl rfl ht1 hi2 (by simp [Value.oneCell']) ?_
          refine hK.out _ _ ?_ (fun hHeld => ?_)
          · (exact ⟨hHeld.1.far (below_setCells (by omega) _ _ _ (Below.refl _ _)), trivial⟩)
          clear hK K
          (try simp only [Act.put, List.setIfInBounds_toArray, List.set_cons_zero, List.set_cons_succ])
          refine wpAnyP_ready (rs := [5]) (by kernel_rfl) (by simp) ?_
          refine AllReadyP.cons (o := _) rfl (fun K hK => ?_) AllReadyP.nil
          · refine step_store_mid rfl 29 _ _ rfl (V.heap.size) 0 #[.slice m.sa m.sn m.sc, .int .i64 m.c0, .int .i64 m.c1, .int .i64 m.d0, .int .i64 m.d1, .int .i64 m.w0, .int .i64 m.w1, .int .i64 m.v0, .int .i64 m.v1, .slice m.ra m.rn m.rc] rfl rfl ht2 hi10 (by simp [Value.oneCell']) ?_
            refine hK.out _ _ ?_ (fun hHeld => ?_)
            · (exact ⟨hMD.mb, trivial⟩)
            clear hK K
            (try simp only [Act.put, List.setIfInBounds_toArray, List.set_cons_zero, List.set_cons_succ])
            refine wpAnyP_done (by kernel_rfl) ?_ _
            (try simp only [Act.put, List.getElem_toArray, List.getElem_cons_zero, List.getElem_cons_succ, List.setIfInBounds_toArray, List.set_cons_zero, List.set_cons_succ])
            clear hHeld
            obtain ⟨gd, hbig⟩ : ∃ g, V.heap.size + 1 = g := ⟨_, rfl⟩
            obtain ⟨gx, hsm⟩ : ∃ g, V.heap.size = g := ⟨_, rfl⟩
            simp only [hbig] at hMD ⊢
            simp only [hsm] at hMD ⊢
            exact fin gd gx _ hMD
  case fin =>
    intro gd gx W' hMD
    refine hKK _ _ ?_
    clear hKK hX
    have hwr : IntKind.i64.wrap (r + more) = r + more := IntWalk.i64_in _ (by omega)
    have fX := Mach.fineX hok
    have fY := Mach.fineY hok
    have fXc := fX.c
    have fXw := fX.w
    have fYc := fY.c
    have fYw := fY.w
    dsimp only [Mach.axX, Mach.axY] at fXc fXw fYc fYw
    have s0 := hMD.mb.sx.c1
    have s1 := hMD.d1
    have s2 := hMD.dz
    have hM4d := hMD.setd (min 6 (r + more))
    have hM4p := PLift.up hM4d
    have hMDp := PLift.up hMD
    clear hM4d hMD
    go_wp2_with fail
    rename_i K7 hK7
    have hM4d := hM4p.down
    clear hM4p s0 s1 s2
    refine wp_region_late [] (fun w9 => MB w w9 m (.slice (some ⟨b1, o1, none⟩) m.sn c1) r B X Y E (.slice a2 nb c2) rb) (fun w9 => True) (by kernel_rfl) ?_ (fun hHeld => ?_)
    · (exact ⟨hM4d.mb.drew, trivial⟩)
    have hM0 := hM4d.drew
    generalize (W'.setCell ⟨gd, 1, none⟩ (.int .i64 (min 6 (r + more)))).drew = V5 at hHeld hM0 ⊢
    refine wpAnyP_take0 (i := 0) (v := ?_) rfl (by kernel_rfl) (by kernel_rfl) (by kernel_rfl) (by kernel_rfl) (by rfl) (fun _ _ _ h => h) (Or.inl ⟨by rfl, ?_⟩) hHeld ?_
    rotate_left 1
    · ((intro w9 hSw; clear hSw; go_simp) <;> with_reducible rfl)
    (try simp only [Act.put, List.setIfInBounds_toArray, List.set_cons_zero, List.set_cons_succ])
    refine wpAnyP_take0 (i := 1) (v := ?_) rfl (by kernel_rfl) (by kernel_rfl) (by kernel_rfl) (by kernel_rfl) (by rfl) (fun _ _ _ h => h) (Or.inl ⟨by rfl, ?_⟩) hHeld ?_
    rotate_left 1
    · ((intro w9 hSw; have q1 := hSw.sx.mach.k1; have q2 := hSw.sx.mach.k2; have q3 := hSw.sx.mach.k3; have q4 := hSw.sx.mach.k4; have q5 := hSw.sx.mach.k5; have q6 := hSw.sx.mach.k6; have q7 := hSw.sx.mach.k7; have q8 := hSw.sx.mach.k8; clear hSw; go_simp) <;> with_reducible rfl)
    (try simp only [Act.put, List.setIfInBounds_toArray, List.set_cons_zero, List.set_cons_succ])
    refine wpAnyP_take0 (i := 2) (v := ?_) rfl (by kernel_rfl) (by kernel_rfl) (by kernel_rfl) (by kernel_rfl) (by rfl) (fun _ _ _ h => h) (Or.inl ⟨by rfl, ?_⟩) hHeld ?_
    rotate_left 1
    · ((intro w9 hSw; clear hSw; go_simp) <;> with_reducible rfl)
    (try simp only [Act.put, List.setIfInBounds_toArray, List.set_cons_zero, List.set_cons_succ])
    refine wpAnyP_take0 (i := 3) (v := ?_) rfl (by kernel_rfl) (by kernel_rfl) (by kernel_rfl) (by kernel_rfl) (by rfl) (fun _ _ _ h => h) (Or.inl ⟨by rfl, ?_⟩) hHeld ?_
    rotate_left 1
    · ((intro w9 hSw; clear hSw; go_simp) <;> with_reducible rfl)
    (try simp only [Act.put, List.setIfInBounds_toArray, List.set_cons_zero, List.set_cons_succ])
    refine wpAnyP_take0 (i := 5) (v := ?_) rfl (by kernel_rfl) (by kernel_rfl) (by kernel_rfl) (by kernel_rfl) (by rfl) (fun _ _ _ h => h) (Or.inl ⟨by rfl, ?_⟩) hHeld ?_
    rotate_left 1
    · ((intro w9 hSw; clear hSw; go_simp) <;> with_reducible rfl)
    (try simp only [Act.put, List.setIfInBounds_toArray, List.set_cons_zero, List.set_cons_succ])
    refine wpAnyP_take0 (i := 6) (v := ?_) rfl (by kernel_rfl) (by kernel_rfl) (by kernel_rfl) (by kernel_rfl) (by rfl) (fun _ _ _ h => h) (Or.inl ⟨by rfl, ?_⟩) hHeld ?_
    rotate_left 1
    · ((intro w9 hSw; have q1 := hSw.sx.mach.k1; have q2 := hSw.sx.mach.k2; have q3 := hSw.sx.mach.k3; have q4 := hSw.sx.mach.k4; have q5 := hSw.sx.mach.k5; have q6 := hSw.sx.mach.k6; have q7 := hSw.sx.mach.k7; have q8 := hSw.sx.mach.k8; clear hSw; go_simp) <;> with_reducible rfl)
    (try simp only [Act.put, List.setIfInBounds_toArray, List.set_cons_zero, List.set_cons_succ])
    refine wpAnyP_take0 (i := 7) (v := ?_) rfl (by kernel_rfl) (by kernel_rfl) (by kernel_rfl) (by kernel_rfl) (by rfl) (fun _ _ _ h => h) (Or.inl ⟨by rfl, ?_⟩) hHeld ?_
    rotate_left 1
    · ((intro w9 hSw; clear hSw; go_simp) <;> with_reducible rfl)
    (try simp only [Act.put, List.setIfInBounds_toArray, List.set_cons_zero, List.set_cons_succ])
    refine wpAnyP_take0 (i := 8) (v := ?_) rfl (by kernel_rfl) (by kernel_rfl) (by kernel_rfl) (by kernel_rfl) (by rfl) (fun _ _ _ h => h) (Or.inl ⟨by rfl, ?_⟩) hHeld ?_
    rotate_left 1
    · ((intro w9 hSw; clear hSw; go_simp) <;> with_reducible rfl)
    (try simp only [Act.put, List.setIfInBounds_toArray, List.set_cons_zero, List.set_cons_succ])
    refine wpAnyP_take0 (i := 10) (v := ?_) rfl (by kernel_rfl) (by kernel_rfl) (by kernel_rfl) (by kernel_rfl) (by rfl) (fun _ _ _ h => h) (Or.inl ⟨by rfl, ?_⟩) hHeld ?_
    rotate_left 1
    · ((intro w9 hSw; clear hSw; go_simp) <;> with_reducible rfl)
    (try simp only [Act.put, List.setIfInBounds_toArray, List.set_cons_zero, List.set_cons_succ])
    refine wpAnyP_take0 (i := 11) (v := ?_) rfl (by kernel_rfl) (by kernel_rfl) (by kernel_rfl) (by kernel_rfl) (by rfl) (fun _ _ _ h => h) (Or.inl ⟨by rfl, ?_⟩) hHeld ?_
    rotate_left 1
    · ((intro w9 hSw; have q1 := hSw.sx.mach.k1; have q2 := hSw.sx.mach.k2; have q3 := hSw.sx.mach.k3; have q4 := hSw.sx.mach.k4; have q5 := hSw.sx.mach.k5; have q6 := hSw.sx.mach.k6; have q7 := hSw.sx.mach.k7; have q8 := hSw.sx.mach.k8; clear hSw; go_simp) <;> with_reducible rfl)
    (try simp only [Act.put, List.setIfInBounds_toArray, List.set_cons_zero, List.set_cons_succ])
    refine wpAnyP_take0 (i := 12) (v := ?_) rfl (by kernel_rfl) (by kernel_rfl) (by kernel_rfl) (by kernel_rfl) (by rfl) (fun _ _ _ h => h) (Or.inl ⟨by rfl, ?_⟩) hHeld ?_
    rotate_left 1
    · ((intro w9 hSw; clear hSw; go_simp) <;> with_reducible rfl)
    (try simp only [Act.put, List.setIfInBounds_toArray, List.set_cons_zero, List.set_cons_succ])
    refine wpAnyP_take0 (i := 13) (v := ?_) rfl (by kernel_rfl) (by kernel_rfl) (by kernel_rfl) (by kernel_rfl) (by rfl) (fun _ _ _ h => h) (Or.inl ⟨by rfl, ?_⟩) hHeld ?_
    rotate_left 1
    · ((intro w9 hSw; clear hSw; go_simp) <;> with_reducible rfl)
    (try simp only [Act.put, List.setIfInBounds_toArray, List.set_cons_zero, List.set_cons_succ])
    refine wpAnyP_take0 (i := 15) (v := ?_) rfl (by kernel_rfl) (by kernel_rfl) (by kernel_rfl) (by kernel_rfl) (by rfl) (fun _ _ _ h => h) (Or.inl ⟨by rfl, ?_⟩) hHeld ?_
    rotate_left 1
    · ((intro w9 hSw; clear hSw; go_simp) <;> with_reducible rfl)
    (try simp only [Act.put, List.setIfInBounds_toArray, List.set_cons_zero, List.set_cons_succ])
    refine wpAnyP_take0 (i := 16) (v := ?_) rfl (by kernel_rfl) (by kernel_rfl) (by kernel_rfl) (by kernel_rfl) (by rfl) (fun _ _ _ h => h) (Or.inl ⟨by rfl, ?_⟩) hHeld ?_
    rotate_left 1
    · ((intro w9 hSw; have q1 := hSw.sx.mach.k1; have q2 := hSw.sx.mach.k2; have q3 := hSw.sx.mach.k3; have q4 := hSw.sx.mach.k4; have q5 := hSw.sx.mach.k5; have q6 := hSw.sx.mach.k6; have q7 := hSw.sx.mach.k7; have q8 := hSw.sx.mach.k8; clear hSw; go_simp) <;> with_reducible rfl)
    (try simp only [Act.put, List.setIfInBounds_toArray, List.set_cons_zero, List.set_cons_succ])
    refine wpAnyP_take0 (i := 17) (v := ?_) rfl (by kernel_rfl) (by kernel_rfl) (by kernel_rfl) (by kernel_rfl) (by rfl) (fun _ _ _ h => h) (Or.inl ⟨by rfl, ?_⟩) hHeld ?_
    rotate_left 1
    · ((intro w9 hSw; clear hSw; go_simp) <;> with_reducible rfl)
    (try simp only [Act.put, List.setIfInBounds_toArray, List.set_cons_zero, List.set_cons_succ])
    refine wpAnyP_take0 (i := 18) (v := ?_) rfl (by kernel_rfl) (by kernel_rfl) (by kernel_rfl) (by kernel_rfl) (by rfl) (fun _ _ _ h => h) (Or.inl ⟨by rfl, ?_⟩) hHeld ?_
    rotate_left 1
    · ((intro w9 hSw; clear hSw; go_simp) <;> with_reducible rfl)
    (try simp only [Act.put, List.setIfInBounds_toArray, List.set_cons_zero, List.set_cons_succ])
    refine wpAnyP_ready (rs := [4]) (by kernel_rfl) (by simp) ?_
    refine AllReadyP.cons (o := _) rfl (fun K hK => ?_) AllReadyP.nil
    · go_simp
      (go_at_call 31; with_reducible refine (closer_any m.c0 m.c1 up down (by omega) (by omega) hu hd _).mono ?_; rintro e w5 ⟨rfl, hb5⟩)
      have hM1 := hM0.below hb5
      refine hK.out _ _ ?_ (fun hHeld => ?_)
      · (exact ⟨hM1.mb, trivial⟩)
      clear hK K
      (try simp only [Act.put, List.setIfInBounds_toArray, List.set_cons_zero, List.set_cons_succ])
      refine wpAnyP_take0 (i := 20) (v := ?_) rfl (by kernel_rfl) (by kernel_rfl) (by kernel_rfl) (by kernel_rfl) (by rfl) (fun _ _ _ h => h) (Or.inl ⟨by rfl, ?_⟩) hHeld ?_
      rotate_left 1
      · ((intro w9 hSw; clear hSw; go_simp) <;> with_reducible rfl)
      (try simp only [Act.put, List.setIfInBounds_toArray, List.set_cons_zero, List.set_cons_succ])
      refine wpAnyP_ready (rs := [9]) (by kernel_rfl) (by simp) ?_
      refine AllReadyP.cons (o := _) rfl (fun K hK => ?_) AllReadyP.nil
      · go_simp
        (go_at_call 31; with_reducible refine (closer_any m.d0 m.d1 up down (by omega) (by omega) hu hd _).mono ?_; rintro e w5 ⟨rfl, hb5⟩)
        have hM2 := hM1.below hb5
        refine hK.out _ _ ?_ (fun hHeld => ?_)
        · (exact ⟨hM2.mb, trivial⟩)
        clear hK K
        (try simp only [Act.put, List.setIfInBounds_toArray, List.set_cons_zero, List.set_cons_succ])
        refine wpAnyP_ready (rs := [14]) (by kernel_rfl) (by simp) ?_
        refine AllReadyP.cons (o := _) rfl (fun K hK => ?_) AllReadyP.nil
        · go_simp
          (go_at_call 31; with_reducible refine (closer_any m.w0 m.w1 up down (by omega) (by omega) hu hd _).mono ?_; rintro e w5 ⟨rfl, hb5⟩)
          have hM3 := hM2.below hb5
          refine hK.out _ _ ?_ (fun hHeld => ?_)
          · (exact ⟨hM3.mb, trivial⟩)
          clear hK K
          (try simp only [Act.put, List.setIfInBounds_toArray, List.set_cons_zero, List.set_cons_succ])
          refine wpAnyP_ready (rs := [19]) (by kernel_rfl) (by simp) ?_
          refine AllReadyP.cons (o := _) rfl (fun K hK => ?_) AllReadyP.nil
          · go_simp
            (go_at_call 31; with_reducible refine (closer_any m.v0 m.v1 up down (by omega) (by omega) hu hd _).mono ?_; rintro e w5 ⟨rfl, hb5⟩)
            have hM4 := hM3.below hb5
            refine hK.out _ _ ?_ (fun hHeld => ?_)
            · (exact ⟨hM4.mb, trivial⟩)
            clear hK K
            (try simp only [Act.put, List.setIfInBounds_toArray, List.set_cons_zero, List.set_cons_succ])
            refine wpAnyP_ready (rs := [21]) (by kernel_rfl) (by simp) ?_
            refine AllReadyP.cons (o := _) rfl (fun K hK => ?_) AllReadyP.nil
            · have hM5 := hM4.set1 (min m.c1 (m.c0 + up)) (max (min m.c1 (m.c0 + up)) (m.c1 - down))
              have c0 := hM4.xm.k1
              have c1 := hM4.xm.k2
              have x0 := hM4.xz 1
              have x1 := hM4.xz 2
              have hPM := PLift.up hM5
              clear hM5
              go_simp
              clear c0 c1 x0 x1
              have hM5 := hPM.down
              clear hPM
              refine hK.out _ _ ?_ (fun hHeld => ?_)
              · (exact ⟨hM5.mb, trivial⟩)
              clear hK K
              (try simp only [Act.put, List.setIfInBounds_toArray, List.set_cons_zero, List.set_cons_succ])
              refine wpAnyP_take0 (i := 22) (v := ?_) rfl (by kernel_rfl) (by kernel_rfl) (by kernel_rfl) (by kernel_rfl) (by rfl) (fun _ _ _ h => h) (Or.inl ⟨by rfl, ?_⟩) hHeld ?_
              rotate_left 1
              · ((intro w9 hSw; clear hSw; go_simp) <;> with_reducible rfl)
              (try simp only [Act.put, List.setIfInBounds_toArray, List.set_cons_zero, List.set_cons_succ])
              refine wpAnyP_ready (rs := [23]) (by kernel_rfl) (by simp) ?_
              refine AllReadyP.cons (o := _) rfl (fun K hK => ?_) AllReadyP.nil
              · have hM6 := hM5.set3 (min m.d1 (m.d0 + up)) (max (min m.d1 (m.d0 + up)) (m.d1 - down))
                have c0 := hM5.xm.k3
                have c1 := hM5.xm.k4
                have x0 := hM5.xz 3
                have x1 := hM5.xz 4
                have hPM := PLift.up hM6
                clear hM6
                go_simp
                clear c0 c1 x0 x1
                have hM6 := hPM.down
                clear hPM
                refine hK.out _ _ ?_ (fun hHeld => ?_)
                · (exact ⟨hM6.mb, trivial⟩)
                clear hK K
                (try simp only [Act.put, List.setIfInBounds_toArray, List.set_cons_zero, List.set_cons_succ])
                refine wpAnyP_take0 (i := 24) (v := ?_) rfl (by kernel_rfl) (by kernel_rfl) (by kernel_rfl) (by kernel_rfl) (by rfl) (fun _ _ _ h => h) (Or.inl ⟨by rfl, ?_⟩) hHeld ?_
                rotate_left 1
                · ((intro w9 hSw; clear hSw; go_simp) <;> with_reducible rfl)
                (try simp only [Act.put, List.setIfInBounds_toArray, List.set_cons_zero, List.set_cons_succ])
                refine wpAnyP_ready (rs := [25]) (by kernel_rfl) (by simp) ?_
                refine AllReadyP.cons (o := _) rfl (fun K hK => ?_) AllReadyP.nil
                · have hM7 := hM6.set5 (min m.w1 (m.w0 + up)) (max (min m.w1 (m.w0 + up)) (m.w1 - down))
                  have c0 := hM6.xm.k5
                  have c1 := hM6.xm.k6
                  have x0 := hM6.xz 5
                  have x1 := hM6.xz 6
                  have hPM := PLift.up hM7
                  clear hM7
                  go_simp
                  clear c0 c1 x0 x1
                  have hM7 := hPM.down
                  clear hPM
                  refine hK.out _ _ ?_ (fun hHeld => ?_)
                  · (exact ⟨hM7.mb, trivial⟩)
                  clear hK K
                  (try simp only [Act.put, List.setIfInBounds_toArray, List.set_cons_zero, List.set_cons_succ])
                  refine wpAnyP_take0 (i := 26) (v := ?_) rfl (by kernel_rfl) (by kernel_rfl) (by kernel_rfl) (by kernel_rfl) (by rfl) (fun _ _ _ h => h) (Or.inl ⟨by rfl, ?_⟩) hHeld ?_
                  rotate_left 1
                  · ((intro w9 hSw; clear hSw; go_simp) <;> with_reducible rfl)
                  (try simp only [Act.put, List.setIfInBounds_toArray, List.set_cons_zero, List.set_cons_succ])
                  refine wpAnyP_ready (rs := [27]) (by kernel_rfl) (by simp) ?_
                  refine AllReadyP.cons (o := _) rfl (fun K hK => ?_) AllReadyP.nil
                  · have hM8 := hM7.set7 (min m.v1 (m.v0 + up)) (max (min m.v1 (m.v0 + up)) (m.v1 - down))
                    have c0 := hM7.xm.k7
                    have c1 := hM7.xm.k8
                    have x0 := hM7.xz 7
                    have x1 := hM7.xz 8
                    have hPM := PLift.up hM8
                    clear hM8
                    go_simp
                    clear c0 c1 x0 x1
                    have hM8 := hPM.down
                    clear hPM
                    refine hK.out _ _ ?_ (fun hHeld => ?_)
                    · (exact ⟨hM8.mb, trivial⟩)
                    clear hK K
                    (try simp only [Act.put, List.setIfInBounds_toArray, List.set_cons_zero, List.set_cons_succ])
                    refine wpAnyP_done (by kernel_rfl) ?_ _
                    (try simp only [Act.put, List.getElem_toArray, List.getElem_cons_zero, List.getElem_cons_succ, List.setIfInBounds_toArray, List.set_cons_zero, List.set_cons_succ])
                    have g0 : m.c0 ≤ (min m.c1 (m.c0 + up)) ∧ (max (min m.c1 (m.c0 + up)) (m.c1 - down)) ≤ m.c1 ∧ (min m.c1 (m.c0 + up)) ≤ (max (min m.c1 (m.c0 + up)) (m.c1 - down)) := by omega
                    have g2 : m.d0 ≤ (min m.d1 (m.d0 + up)) ∧ (max (min m.d1 (m.d0 + up)) (m.d1 - down)) ≤ m.d1 ∧ (min m.d1 (m.d0 + up)) ≤ (max (min m.d1 (m.d0 + up)) (m.d1 - down)) := by omega
                    have g4 : m.w0 ≤ (min m.w1 (m.w0 + up)) ∧ (max (min m.w1 (m.w0 + up)) (m.w1 - down)) ≤ m.w1 ∧ (min m.w1 (m.w0 + up)) ≤ (max (min m.w1 (m.w0 + up)) (m.w1 - down)) := by omega
                    have g6 : m.v0 ≤ (min m.v1 (m.v0 + up)) ∧ (max (min m.v1 (m.v0 + up)) (m.v1 - down)) ≤ m.v1 ∧ (min m.v1 (m.v0 + up)) ≤ (max (min m.v1 (m.v0 + up)) (m.v1 - down)) := by omega
                    have gr : r ≤ (min 6 (r + more)) ∧ 0 ≤ (min 6 (r + more)) ∧ (min 6 (r + more)) ≤ 6 := by omega
                    clear hHeld hM0 hM1 hM2 hM3 hM4 hM5 hM6 hM7 hM4d hMDp
                    generalize ((((((((w5.setCell ⟨gx, 1, none⟩ (.int .i64 (min m.c1 (m.c0 + up)))).setCell ⟨gx, 2, none⟩ (.int .i64 (max (min m.c1 (m.c0 + up)) (m.c1 - down)))).setCell ⟨gx, 3, none⟩ (.int .i64 (min m.d1 (m.d0 + up)))).setCell ⟨gx, 4, none⟩ (.int .i64 (max (min m.d1 (m.d0 + up)) (m.d1 - down)))).setCell ⟨gx, 5, none⟩ (.int .i64 (min m.w1 (m.w0 + up)))).setCell ⟨gx, 6, none⟩ (.int .i64 (max (min m.w1 (m.w0 + up)) (m.w1 - down)))).setCell ⟨gx, 7, none⟩ (.int .i64 (min m.v1 (m.v0 + up)))).setCell ⟨gx, 8, none⟩ (.int .i64 (max (min m.v1 (m.v0 + up)) (m.v1 - down)))) = W6 at hM8 ⊢
                    generalize (max (min m.c1 (m.c0 + up)) (m.c1 - down)) = C1 at *
                    generalize (min m.c1 (m.c0 + up)) = C0 at *
                    generalize (max (min m.d1 (m.d0 + up)) (m.d1 - down)) = D1 at *
                    generalize (min m.d1 (m.d0 + up)) = D0 at *
                    generalize (max (min m.w1 (m.w0 + up)) (m.w1 - down)) = U1 at *
                    generalize (min m.w1 (m.w0 + up)) = U0 at *
                    generalize (max (min m.v1 (m.v0 + up)) (m.v1 - down)) = T1 at *
                    generalize (min m.v1 (m.v0 + up)) = T0 at *
                    generalize (min 6 (r + more)) = R' at *
                    have hM : MD w W6 gd gx m (⟨m.sa, m.sn, m.sc, m.SX, m.SY, C0, C1, D0, D1, U0, U1, T0, T1, m.ra, m.rn, m.rc, m.RB, m.RX, m.RY, m.RE⟩ : Mach) (.slice (some ⟨b1, o1, none⟩) m.sn c1) r R' B X Y E (.slice a2 nb c2) rb := hM8
                    clear hM8
                    refine hK7 _ _ ?_
                    clear hK7
                    go_wp2_with fail
                    rename_i K8 hK8
                    refine (fun (fin6 : ∀ (v : Value) (gb g c : Nat) (W7 : World), MD w W7 gd gx m (⟨m.sa, m.sn, m.sc, m.SX, m.SY, C0, C1, D0, D1, U0, U1, T0, T1, some ⟨g, 0, none⟩, m.rn + 1, c, (fun i => if i = m.rn then B else m.RB i), (fun i => if i = m.rn then X else m.RX i), (fun i => if i = m.rn then Y else m.RY i), (fun i => if i = m.rn then E else m.RE i)⟩ : Mach) (.slice (some ⟨b1, o1, none⟩) m.sn c1) r R' B X Y E (.slice a2 nb c2) rb → RSl W7 (.slice (some ⟨g, 0, none⟩) (m.rn + 1) c) (m.rn + 1) (fun i => if i = m.rn then B else m.RB i) (fun i => if i = m.rn then X else m.RX i) (fun i => if i = m.rn then Y else m.RY i) (fun i => if i = m.rn then E else m.RE i) → K8 ((?G : Value → Nat → Nat → Nat → Act) v gb g c) W7) => ?leaf6) ?fin6
                    case leaf6 =>
                      refine wp_region_late [] (fun w9 => MB w w9 m (.slice (some ⟨b1, o1, none⟩) m.sn c1) r B X Y E (.slice a2 nb c2) rb) (fun w9 => True) (by kernel_rfl) ?_ (fun hHeld => ?_)
                      · (exact ⟨hM.mb.drew, trivial⟩)
                      have hMV := hM.drew
                      generalize W6.drew = V6 at hHeld hMV ⊢
                      refine wpAnyP_take0 (i := 0) (v := ?_) rfl (by kernel_rfl) (by kernel_rfl) (by kernel_rfl) (by kernel_rfl) (by rfl) (fun _ _ _ h => h) (Or.inl ⟨by rfl, ?_⟩) hHeld ?_
                      rotate_left 1
                      · ((intro w9 hSw; clear hSw; go_simp) <;> with_reducible rfl)
                      (try simp only [Act.put, List.setIfInBounds_toArray, List.set_cons_zero, List.set_cons_succ])
                      refine wpAnyP_take0 (i := 1) (v := ?_) rfl (by kernel_rfl) (by kernel_rfl) (by kernel_rfl) (by kernel_rfl) (by rfl) (fun _ _ _ h => h) (Or.inl ⟨by rfl, ?_⟩) hHeld ?_
                      rotate_left 1
                      · ((intro w9 hSw; have q9 := hSw.sx.mach.k9; clear hSw; go_simp) <;> with_reducible rfl)
                      (try simp only [Act.put, List.setIfInBounds_toArray, List.set_cons_zero, List.set_cons_succ])
                      refine wpAnyP_take0 (i := 3) (v := ?_) rfl (by kernel_rfl) (by kernel_rfl) (by kernel_rfl) (by kernel_rfl) (by rfl) (fun _ _ _ h => h) (Or.inl ⟨by rfl, ?_⟩) hHeld ?_
                      rotate_left 1
                      · ((intro w9 hSw; have q0 := hSw.r0; have q1 := hSw.r1; have q2 := hSw.r2; have q3 := hSw.r3; clear hSw; go_simp) <;> with_reducible rfl)
                      (try simp only [Act.put, List.setIfInBounds_toArray, List.set_cons_zero, List.set_cons_succ])
                      refine wpAnyP_ready (rs := [2, 4]) (by kernel_rfl) (by simp) ?_
                      refine AllReadyP.cons (o := _) rfl (fun K hK => ?_) (AllReadyP.cons (o := _) rfl (fun K hK => ?_) AllReadyP.nil)
                      · refine step_reads _ rfl _ _ rfl rfl m.ra m.rn m.rc m.RB m.RX m.RY m.RE rfl (h.reads.below hHeld.1.sx.old) (by omega) ?_
                        intro v w7 hrow hb7
                        refine hK.out _ _ ?_ (fun hHeld => ?_)
                        · (exact ⟨hHeld.1.below hb7, trivial⟩)
                        clear hK K
                        (try simp only [Act.put, List.setIfInBounds_toArray, List.set_cons_zero, List.set_cons_succ])
                        refine wpAnyP_ready (rs := [4]) (by kernel_rfl) (by simp) ?_
                        refine AllReadyP.cons (o := _) rfl (fun K hK => ?_) AllReadyP.nil
                        · go_simp
                          refine hK.out _ _ ?_ (fun hHeld => ?_)
                          · (exact ⟨hHeld.1.alloc _, trivial⟩)
                          clear hK K
                          (try simp only [Act.put, List.setIfInBounds_toArray, List.set_cons_zero, List.set_cons_succ])
                          refine wpAnyP_ready (rs := [5]) (by kernel_rfl) (by simp) ?_
                          refine AllReadyP.cons (o := _) rfl (fun K hK => ?_) AllReadyP.nil
                          · have hbA := hb7.trans ((Below.refl w7.heap.size w7).alloc (Nat.le_refl _) (Obj.cells #[.int .i64 B, .int .i64 X, .int .i64 Y, .int .i64 E] 69) |>.mono hb7.size)
                            refine step_read _ rfl _ _ rfl V6.heap.size v m.rn m.RB m.RX m.RY m.RE rfl (hrow.alloc _) (by omega) w7.heap.size B X Y E rfl (cells_new w7 _ _ rfl) (cells_new w7 _ _ rfl) (cells_new w7 _ _ rfl) (cells_new w7 _ _ rfl) hbA.size ?_
                            intro g c w8 hown8 hb8
                            have hMw := hMV.below (hbA.trans hb8)
                            refine hK.out _ _ ?_ (fun hHeld => ?_)
                            · (exact ⟨hMw.mb, trivial⟩)
                            clear hK K
                            (try simp only [Act.put, List.setIfInBounds_toArray, List.set_cons_zero, List.set_cons_succ])
                            refine wpAnyP_take0 (i := 6) (v := ?_) rfl (by kernel_rfl) (by kernel_rfl) (by kernel_rfl) (by kernel_rfl) (by rfl) (fun _ _ _ h => h) (Or.inl ⟨by rfl, ?_⟩) hHeld ?_
                            rotate_left 1
                            · ((intro w9 hSw; clear hSw; go_simp) <;> with_reducible rfl)
                            (try simp only [Act.put, List.setIfInBounds_toArray, List.set_cons_zero, List.set_cons_succ])
                            refine wpAnyP_ready (rs := [7]) (by kernel_rfl) (by simp) ?_
                            refine AllReadyP.cons (o := _) rfl (fun K hK => ?_) AllReadyP.nil
                            · have hM9 := PLift.up (hMw.setr (some ⟨g, 0, none⟩) (m.rn + 1) c (fun i => if i = m.rn then B else m.RB i) (fun i => if i = m.rn then X else m.RX i) (fun i => if i = m.rn then Y else m.RY i) (fun i => if i = m.rn then E else m.RE i))
                              have hR9 := PLift.up (RSl_of_own (by omega) (ownsRow_setCell_below hown8 (a := ⟨gx, 9, none⟩) (by show gx < V6.heap.size; exact hMV.hx) (.slice (some ⟨g, 0, none⟩) (m.rn + 1) c)))
                              have k9 := hMw.xm.k9
                              have x9 := hMw.xz 9
                              go_simp
                              clear k9 x9
                              refine hK.out _ _ ?_ (fun hHeld => ?_)
                              · (exact ⟨hM9.down.mb, trivial⟩)
                              clear hK K
                              (try simp only [Act.put, List.setIfInBounds_toArray, List.set_cons_zero, List.set_cons_succ])
                              refine wpAnyP_done (by kernel_rfl) ?_ _
                              (try simp only [Act.put, List.getElem_toArray, List.getElem_cons_zero, List.getElem_cons_succ, List.setIfInBounds_toArray, List.set_cons_zero, List.set_cons_succ])
                              clear hHeld
                              have hM9' := hM9.down
                              have hR9' := hR9.down
                              clear hM9 hR9
                              obtain ⟨gb, hgb⟩ : ∃ x, w7.heap.size = x := ⟨_, rfl⟩
                              simp only [hgb]
                              exact fin6 v gb g c _ hM9' hR9'
                      · go_simp
                        refine hK.out _ _ ?_ (fun hHeld => ?_)
                        · (exact ⟨hHeld.1.alloc _, trivial⟩)
                        clear hK K
                        (try simp only [Act.put, List.setIfInBounds_toArray, List.set_cons_zero, List.set_cons_succ])
                        refine wpAnyP_ready (rs := [2]) (by kernel_rfl) (by simp) ?_
                        refine AllReadyP.cons (o := _) rfl (fun K hK => ?_) AllReadyP.nil
                        · refine step_reads _ rfl _ _ rfl rfl m.ra m.rn m.rc m.RB m.RX m.RY m.RE rfl (h.reads.below hHeld.1.sx.old) (by omega) ?_
                          intro v w7 hrow hb7
                          refine hK.out _ _ ?_ (fun hHeld => ?_)
                          · (exact ⟨hHeld.1.below hb7, trivial⟩)
                          clear hK K
                          (try simp only [Act.put, List.setIfInBounds_toArray, List.set_cons_zero, List.set_cons_succ])
                          refine wpAnyP_ready (rs := [5]) (by kernel_rfl) (by simp) ?_
                          refine AllReadyP.cons (o := _) rfl (fun K hK => ?_) AllReadyP.nil
                          · have hbN := (Below.refl V6.heap.size V6).alloc (Nat.le_refl _) (Obj.cells #[.int .i64 B, .int .i64 X, .int .i64 Y, .int .i64 E] 69)
                            have hbA := hbN.trans (hb7.mono hbN.size)
                            have hcl := fun j u (hj : (#[.int .i64 B, .int .i64 X, .int .i64 Y, .int .i64 E] : Array Value)[j]? = some u) => (hb7.cell (p := ⟨V6.heap.size, j, none⟩) (by rw [World.size_alloc]; exact Nat.lt_succ_self _)).trans (cells_new V6 #[.int .i64 B, .int .i64 X, .int .i64 Y, .int .i64 E] 69 hj)
                            refine step_read _ rfl _ _ rfl V6.heap.size v m.rn m.RB m.RX m.RY m.RE rfl (hrow.mono hbN.size) (by omega) V6.heap.size B X Y E rfl (hcl 0 _ rfl) (hcl 1 _ rfl) (hcl 2 _ rfl) (hcl 3 _ rfl) hbA.size ?_
                            intro g c w8 hown8 hb8
                            have hMw := hMV.below (hbA.trans hb8)
                            refine hK.out _ _ ?_ (fun hHeld => ?_)
                            · (exact ⟨hMw.mb, trivial⟩)
                            clear hK K
                            (try simp only [Act.put, List.setIfInBounds_toArray, List.set_cons_zero, List.set_cons_succ])
                            refine wpAnyP_take0 (i := 6) (v := ?_) rfl (by kernel_rfl) (by kernel_rfl) (by kernel_rfl) (by kernel_rfl) (by rfl) (fun _ _ _ h => h) (Or.inl ⟨by rfl, ?_⟩) hHeld ?_
                            rotate_left 1
                            · ((intro w9 hSw; clear hSw; go_simp) <;> with_reducible rfl)
                            (try simp only [Act.put, List.setIfInBounds_toArray, List.set_cons_zero, List.set_cons_succ])
                            refine wpAnyP_ready (rs := [7]) (by kernel_rfl) (by simp) ?_
                            refine AllReadyP.cons (o := _) rfl (fun K hK => ?_) AllReadyP.nil
                            · have hM9 := PLift.up (hMw.setr (some ⟨g, 0, none⟩) (m.rn + 1) c (fun i => if i = m.rn then B else m.RB i) (fun i => if i = m.rn then X else m.RX i) (fun i => if i = m.rn then Y else m.RY i) (fun i => if i = m.rn then E else m.RE i))
                              have hR9 := PLift.up (RSl_of_own (by omega) (ownsRow_setCell_below hown8 (a := ⟨gx, 9, none⟩) (by show gx < V6.heap.size; exact hMV.hx) (.slice (some ⟨g, 0, none⟩) (m.rn + 1) c)))
                              have k9 := hMw.xm.k9
                              have x9 := hMw.xz 9
                              go_simp
                              clear k9 x9
                              refine hK.out _ _ ?_ (fun hHeld => ?_)
                              · (exact ⟨hM9.down.mb, trivial⟩)
                              clear hK K
                              (try simp only [Act.put, List.setIfInBounds_toArray, List.set_cons_zero, List.set_cons_succ])
                              refine wpAnyP_done (by kernel_rfl) ?_ _
                              (try simp only [Act.put, List.getElem_toArray, List.getElem_cons_zero, List.getElem_cons_succ, List.setIfInBounds_toArray, List.set_cons_zero, List.set_cons_succ])
                              clear hHeld
                              have hM9' := hM9.down
                              have hR9' := hR9.down
                              clear hM9 hR9
                              obtain ⟨gb, hgb⟩ : ∃ x, V6.heap.size = x := ⟨_, rfl⟩
                              simp only [hgb]
                              exact fin6 v gb g c _ hM9' hR9'
                    case fin6 =>
                      intro v gb g c W7 hM hR
                      generalize hKB : (fun i => if i = m.rn then B else m.RB i) = KB at hM hR
                      generalize hKX : (fun i => if i = m.rn then X else m.RX i) = KX at hM hR
                      generalize hKY : (fun i => if i = m.rn then Y else m.RY i) = KY at hM hR
                      generalize hKE : (fun i => if i = m.rn then E else m.RE i) = KE at hM hR
                      refine hK8 _ _ ?_
                      clear hK8
                      have hI : MIn W7 (⟨m.sa, m.sn, m.sc, m.SX, m.SY, C0, C1, D0, D1, U0, U1, T0, T1, some ⟨g, 0, none⟩, m.rn + 1, c, KB, KX, KY, KE⟩ : Mach) := ⟨h.stops.below hM.mb.sx.old, hR⟩
                      obtain ⟨er, hAb, her⟩ := Able.ex (⟨m.sa, m.sn, m.sc, m.SX, m.SY, C0, C1, D0, D1, U0, U1, T0, T1, some ⟨g, 0, none⟩, m.rn + 1, c, KB, KX, KY, KE⟩ : Mach)
                      have hab := fun (W : World) (hI : MIn W (⟨m.sa, m.sn, m.sc, m.SX, m.SY, C0, C1, D0, D1, U0, U1, T0, T1, some ⟨g, 0, none⟩, m.rn + 1, c, KB, KX, KY, KE⟩ : Mach)) => able_any (⟨m.sa, m.sn, m.sc, m.SX, m.SY, C0, C1, D0, D1, U0, U1, T0, T1, some ⟨g, 0, none⟩, m.rn + 1, c, KB, KX, KY, KE⟩ : Mach) er hAb W (by show m.sn ≤ 1000; omega) (by show m.rn + 1 ≤ 1000; omega) hI
                      dsimp only [Mach.val] at hab
                      clear hAb
                      have hX : PLift (MD w W7 gd gx m (⟨m.sa, m.sn, m.sc, m.SX, m.SY, C0, C1, D0, D1, U0, U1, T0, T1, some ⟨g, 0, none⟩, m.rn + 1, c, KB, KX, KY, KE⟩ : Mach) (.slice (some ⟨b1, o1, none⟩) m.sn c1) r R' B X Y E (.slice a2 nb c2) rb ∧ MIn W7 (⟨m.sa, m.sn, m.sc, m.SX, m.SY, C0, C1, D0, D1, U0, U1, T0, T1, some ⟨g, 0, none⟩, m.rn + 1, c, KB, KX, KY, KE⟩ : Mach)) := ⟨hM, hI⟩
                      clear hM hR hI
                      obtain ⟨z0, z1, y0', y1', y2', y3', y4', y5', y6', y7', y8', y9', z6, z7, d0, d1, x0', x1', x2', x3', x4', x5', x6', x7', x8', x9'⟩ := hX.down.1.mf
                      rcases her with ⟨rfl, hokY, hcY⟩ | her
                      · have hto := fun (W : World) => hab W
                        have hLX : m.axX.Less (Mach.axX (⟨m.sa, m.sn, m.sc, m.SX, m.SY, C0, C1, D0, D1, U0, U1, T0, T1, some ⟨g, 0, none⟩, m.rn + 1, c, KB, KX, KY, KE⟩ : Mach)) := ⟨g0.1, g0.2.1, g4.1, g4.2.1, (by show m.rn ≤ m.rn + 1; omega), (fun i hi => by have h1 : ¬ i = m.rn := (fun e => by subst e; exact absurd hi (Nat.lt_irrefl _)); show (KB i, KX i - KE i, KX i + KE i) = (m.RB i, m.RX i - m.RE i, m.RX i + m.RE i); rw [← hKB, ← hKX, ← hKE]; simp only [if_neg h1])⟩
                        have hLY : m.axY.Less (Mach.axY (⟨m.sa, m.sn, m.sc, m.SX, m.SY, C0, C1, D0, D1, U0, U1, T0, T1, some ⟨g, 0, none⟩, m.rn + 1, c, KB, KX, KY, KE⟩ : Mach)) := ⟨g2.1, g2.2.1, g6.1, g6.2.1, (by show m.rn ≤ m.rn + 1; omega), (fun i hi => by have h1 : ¬ i = m.rn := (fun e => by subst e; exact absurd hi (Nat.lt_irrefl _)); show (KB i, KY i - KE i, KY i + KE i) = (m.RB i, m.RY i - m.RE i, m.RY i + m.RE i); rw [← hKB, ← hKY, ← hKE]; simp only [if_neg h1])⟩
                        obtain ⟨wd, hwd⟩ := Classical.axiomOfChoice (fun k => IsWord.ex (goodB m.sn HX HY m.SX m.SY r) (m.axX.ends k).1 (m.axX.ends k).2 (m.axY.ends k).1 (m.axY.ends k).2)
                        obtain ⟨wd', hwd'⟩ := Classical.axiomOfChoice (fun k => IsWord.ex (goodB m.sn HX HY m.SX m.SY R') ((Mach.axX (⟨m.sa, m.sn, m.sc, m.SX, m.SY, C0, C1, D0, D1, U0, U1, T0, T1, some ⟨g, 0, none⟩, m.rn + 1, c, KB, KX, KY, KE⟩ : Mach)).ends k).1 ((Mach.axX (⟨m.sa, m.sn, m.sc, m.SX, m.SY, C0, C1, D0, D1, U0, U1, T0, T1, some ⟨g, 0, none⟩, m.rn + 1, c, KB, KX, KY, KE⟩ : Mach)).ends k).2 ((Mach.axY (⟨m.sa, m.sn, m.sc, m.SX, m.SY, C0, C1, D0, D1, U0, U1, T0, T1, some ⟨g, 0, none⟩, m.rn + 1, c, KB, KX, KY, KE⟩ : Mach)).ends k).1 ((Mach.axY (⟨m.sa, m.sn, m.sc, m.SX, m.SY, C0, C1, D0, D1, U0, U1, T0, T1, some ⟨g, 0, none⟩, m.rn + 1, c, KB, KX, KY, KE⟩ : Mach)).ends k).2)
                        obtain ⟨n, hgz⟩ := IsGauge.ex wd
                        obtain ⟨n', hgz'⟩ := IsGauge.ex wd'
                        have hww : ∀ j, j ≤ 12 → wd j = 3 → wd' j = 3 := fun j hj e => word_more (hLX.ends j) (hLY.ends j) (fun x y => good_more gr.1) (hwd j) (hwd' j) e
                        have hgle : ¬ (n' : Int) < (n : Int) := by have := gauge_more hgz hgz' hww; omega
                        have hga1 := fun (W : World) (hB : Below w.heap.size w W) => Gauge_ok (some ⟨b1, o1, none⟩) c1 r HX HY m W (by omega) (by omega) ⟨hp.1.below hB, hp.2⟩ (h.below hB) hok hc hme wd (fun k _ => hwd k) n hgz
                        have hga2 := fun (W : World) (hB : Below w.heap.size w W) (hI : MIn W (⟨m.sa, m.sn, m.sc, m.SX, m.SY, C0, C1, D0, D1, U0, U1, T0, T1, some ⟨g, 0, none⟩, m.rn + 1, c, KB, KX, KY, KE⟩ : Mach)) => Gauge_ok (some ⟨b1, o1, none⟩) c1 R' HX HY (⟨m.sa, m.sn, m.sc, m.SX, m.SY, C0, C1, D0, D1, U0, U1, T0, T1, some ⟨g, 0, none⟩, m.rn + 1, c, KB, KX, KY, KE⟩ : Mach) W (by show m.sn ≤ 1000; omega) (by dsimp only; omega) ⟨hp.1.below hB, hp.2⟩ hI hokY hcY (meas_more hme gr.2) wd' (fun k _ => hwd' k) n' hgz'
                        have hsu1 := fun (W : World) (hB : Below w.heap.size w W) => Sure_ok (some ⟨b1, o1, none⟩) c1 r HX HY m k hk1 hk12 W (by omega) (by omega) ⟨hp.1.below hB, hp.2⟩ (h.below hB) hok hc hme (wd k) (hwd k)
                        have hsu2 := fun (W : World) (hB : Below w.heap.size w W) (hI : MIn W (⟨m.sa, m.sn, m.sc, m.SX, m.SY, C0, C1, D0, D1, U0, U1, T0, T1, some ⟨g, 0, none⟩, m.rn + 1, c, KB, KX, KY, KE⟩ : Mach)) => Sure_ok (some ⟨b1, o1, none⟩) c1 R' HX HY (⟨m.sa, m.sn, m.sc, m.SX, m.SY, C0, C1, D0, D1, U0, U1, T0, T1, some ⟨g, 0, none⟩, m.rn + 1, c, KB, KX, KY, KE⟩ : Mach) k hk1 hk12 W (by show m.sn ≤ 1000; omega) (by dsimp only; omega) ⟨hp.1.below hB, hp.2⟩ hI hokY hcY (meas_more hme gr.2) (wd' k) (hwd' k)
                        dsimp only [Mach.val] at hga1 hga2 hsu1 hsu2
                        have hbt := fun (W : World) (hB : Below w.heap.size w W) => rbutton_any a2 nb c2 GX GY rb W (by omega) (hq.below hB)
                        have hwk := hww k hk12
                        clear hgz hgz' hww hwd hwd'
                        by_cases hw3 : wd k = 3
                        all_goals try (have hv3 := hwk hw3; rw [hw3] at hsu1; rw [hv3] at hsu2)
                        all_goals
                          clear hwk
                          go_wp2_with (first
                            | (go_at_call 25; with_reducible refine (hto _ hX.down.2).mono ?_; rintro e w1 ⟨rfl, hb⟩; replace hX := PLift.up (And.intro (hX.down.1.below hb) (hX.down.2.below hb)); clear z0 z1 z6 z7 d0 d1 y0' y1' y2' y3' y4' y5' y6' y7' y8' y9' x0' x1' x2' x3' x4' x5' x6' x7' x8' x9'; obtain ⟨z0, z1, y0', y1', y2', y3', y4', y5', y6', y7', y8', y9', z6, z7, d0, d1, x0', x1', x2', x3', x4', x5', x6', x7', x8', x9'⟩ := hX.down.1.mf; clear hb)
                            | (go_at_call 13; with_reducible refine (hga1 _ hX.down.1.mb.sx.old).mono ?_; rintro e w1 ⟨rfl, hb⟩; replace hX := PLift.up (And.intro (hX.down.1.below hb) (hX.down.2.below hb)); clear z0 z1 z6 z7 d0 d1 y0' y1' y2' y3' y4' y5' y6' y7' y8' y9' x0' x1' x2' x3' x4' x5' x6' x7' x8' x9'; obtain ⟨z0, z1, y0', y1', y2', y3', y4', y5', y6', y7', y8', y9', z6, z7, d0, d1, x0', x1', x2', x3', x4', x5', x6', x7', x8', x9'⟩ := hX.down.1.mf; clear hb)
                            | (go_at_call 13; with_reducible refine (hga2 _ hX.down.1.mb.sx.old hX.down.2).mono ?_; rintro e w1 ⟨rfl, hb⟩; replace hX := PLift.up (And.intro (hX.down.1.below hb) (hX.down.2.below hb)); clear z0 z1 z6 z7 d0 d1 y0' y1' y2' y3' y4' y5' y6' y7' y8' y9' x0' x1' x2' x3' x4' x5' x6' x7' x8' x9'; obtain ⟨z0, z1, y0', y1', y2', y3', y4', y5', y6', y7', y8', y9', z6, z7, d0, d1, x0', x1', x2', x3', x4', x5', x6', x7', x8', x9'⟩ := hX.down.1.mf; clear hb)
                            | (go_at_call 10; with_reducible refine (hsu1 _ hX.down.1.mb.sx.old).mono ?_; rintro e w1 ⟨rfl, hb⟩; replace hX := PLift.up (And.intro (hX.down.1.below hb) (hX.down.2.below hb)); clear z0 z1 z6 z7 d0 d1 y0' y1' y2' y3' y4' y5' y6' y7' y8' y9' x0' x1' x2' x3' x4' x5' x6' x7' x8' x9'; obtain ⟨z0, z1, y0', y1', y2', y3', y4', y5', y6', y7', y8', y9', z6, z7, d0, d1, x0', x1', x2', x3', x4', x5', x6', x7', x8', x9'⟩ := hX.down.1.mf; clear hb)
                            | (go_at_call 10; with_reducible refine (hsu2 _ hX.down.1.mb.sx.old hX.down.2).mono ?_; rintro e w1 ⟨rfl, hb⟩; replace hX := PLift.up (And.intro (hX.down.1.below hb) (hX.down.2.below hb)); clear z0 z1 z6 z7 d0 d1 y0' y1' y2' y3' y4' y5' y6' y7' y8' y9' x0' x1' x2' x3' x4' x5' x6' x7' x8' x9'; obtain ⟨z0, z1, y0', y1', y2', y3', y4', y5', y6', y7', y8', y9', z6, z7, d0, d1, x0', x1', x2', x3', x4', x5', x6', x7', x8', x9'⟩ := hX.down.1.mf; clear hb))
                          go_at_call 26
                          refine (hbt _ hX.down.1.mb.sx.old).mono ?_
                          rintro e w1 ⟨rfl, hb⟩
                          replace hX := PLift.up (And.intro (hX.down.1.below hb) (hX.down.2.below hb))
                          clear z0 z1 z6 z7 d0 d1 y0' y1' y2' y3' y4' y5' y6' y7' y8' y9' x0' x1' x2' x3' x4' x5' x6' x7' x8' x9'
                          obtain ⟨z0, z1, y0', y1', y2', y3', y4', y5', y6', y7', y8', y9', z6, z7, d0, d1, x0', x1', x2', x3', x4', x5', x6', x7', x8', x9'⟩ := hX.down.1.mf
                          clear hb
                          clear hga1 hga2 hsu1 hsu2 hbt
                          cases hbb : butB nb GX GY rb
                          · go_wp2_with (go_at_call 9; with_reducible refine (known_ok _ (hk.below hX.down.1.mb.sx.old)).mono ?_; rintro e w1 ⟨rfl, hb⟩; replace hX := PLift.up (And.intro (hX.down.1.below hb) (hX.down.2.below hb)); clear z0 z1 z6 z7 d0 d1 y0' y1' y2' y3' y4' y5' y6' y7' y8' y9' x0' x1' x2' x3' x4' x5' x6' x7' x8' x9'; obtain ⟨z0, z1, y0', y1', y2', y3', y4', y5', y6', y7', y8', y9', z6, z7, d0, d1, x0', x1', x2', x3', x4', x5', x6', x7', x8', x9'⟩ := hX.down.1.mf; clear hb)
                            go_ret
                            exact ⟨rfl, hX.down.1.mb.sx.old⟩
                          · by_cases hnn : nb = m.sn
                            · subst hnn
                              obtain ⟨sg, hsg⟩ := Classical.axiomOfChoice (fun k => bool_ex (∀ x y, InBox (m.axX.ends k).1 (m.axX.ends k).2 (m.axY.ends k).1 (m.axY.ends k).2 x y → agreeB m.sn GX GY m.SX m.SY rb x y = false))
                              obtain ⟨sg', hsg'⟩ := Classical.axiomOfChoice (fun k => bool_ex (∀ x y, InBox ((Mach.axX (⟨m.sa, m.sn, m.sc, m.SX, m.SY, C0, C1, D0, D1, U0, U1, T0, T1, some ⟨g, 0, none⟩, m.rn + 1, c, KB, KX, KY, KE⟩ : Mach)).ends k).1 ((Mach.axX (⟨m.sa, m.sn, m.sc, m.SX, m.SY, C0, C1, D0, D1, U0, U1, T0, T1, some ⟨g, 0, none⟩, m.rn + 1, c, KB, KX, KY, KE⟩ : Mach)).ends k).2 ((Mach.axY (⟨m.sa, m.sn, m.sc, m.SX, m.SY, C0, C1, D0, D1, U0, U1, T0, T1, some ⟨g, 0, none⟩, m.rn + 1, c, KB, KX, KY, KE⟩ : Mach)).ends k).1 ((Mach.axY (⟨m.sa, m.sn, m.sc, m.SX, m.SY, C0, C1, D0, D1, U0, U1, T0, T1, some ⟨g, 0, none⟩, m.rn + 1, c, KB, KX, KY, KE⟩ : Mach)).ends k).2 x y → agreeB m.sn GX GY m.SX m.SY rb x y = false))
                              have hall := blanks_more (sg := sg) (sg' := sg') fun k _ e => (hsg' k).2 fun x y hb => (hsg k).1 e x y (InBox.less (hLX.ends k) (hLY.ends k) hb)
                              have hl1 := blanksTo_length sg 12
                              have hl2 := blanksTo_length sg' 12
                              have hco1 := fun (W : World) (hB : Below w.heap.size w W) => Could_ok a2 c2 rb GX GY m W (by omega) (by omega) (hq.below hB) (h.below hB) hok hc hbb sg (fun k _ => hsg k)
                              have hco2 := fun (W : World) (hB : Below w.heap.size w W) (hI : MIn W (⟨m.sa, m.sn, m.sc, m.SX, m.SY, C0, C1, D0, D1, U0, U1, T0, T1, some ⟨g, 0, none⟩, m.rn + 1, c, KB, KX, KY, KE⟩ : Mach)) => Could_ok a2 c2 rb GX GY (⟨m.sa, m.sn, m.sc, m.SX, m.SY, C0, C1, D0, D1, U0, U1, T0, T1, some ⟨g, 0, none⟩, m.rn + 1, c, KB, KX, KY, KE⟩ : Mach) W (by show m.sn ≤ 1000; omega) (by dsimp only; omega) (hq.below hB) hI hokY hcY hbb sg' (fun k _ => hsg' k)
                              dsimp only [Mach.val] at hco1 hco2
                              clear hsg hsg' hLX hLY
                              generalize blanksTo sg 12 = ls at *
                              generalize blanksTo sg' 12 = os at *
                              have hi1 : (ls.length : Int) ≤ 12 := by omega
                              have hi2 : (os.length : Int) ≤ 12 := by omega
                              go_wp2_with (first
                                | (go_at_call 27; with_reducible refine (hco1 _ hX.down.1.mb.sx.old).mono ?_; rintro e w1 ⟨vv, rfl, hrow, hb⟩; obtain ⟨la, lc, rfl⟩ := ownsRow_slice hrow; have hL := PLift.up (IRow.of_own hrow); clear hrow; replace hX := PLift.up (And.intro (hX.down.1.below hb) (hX.down.2.below hb)); clear z0 z1 z6 z7 d0 d1 y0' y1' y2' y3' y4' y5' y6' y7' y8' y9' x0' x1' x2' x3' x4' x5' x6' x7' x8' x9'; obtain ⟨z0, z1, y0', y1', y2', y3', y4', y5', y6', y7', y8', y9', z6, z7, d0, d1, x0', x1', x2', x3', x4', x5', x6', x7', x8', x9'⟩ := hX.down.1.mf; clear hb)
                                | (go_at_call 27; with_reducible refine (hco2 _ hX.down.1.mb.sx.old hX.down.2).mono ?_; rintro e w1 ⟨vv, rfl, hrow, hb⟩; obtain ⟨oa, oc, rfl⟩ := ownsRow_slice hrow; have hO := PLift.up (IRow.of_own hrow); clear hrow; replace hL := PLift.up (hL.down.below hb); replace hX := PLift.up (And.intro (hX.down.1.below hb) (hX.down.2.below hb)); clear z0 z1 z6 z7 d0 d1 y0' y1' y2' y3' y4' y5' y6' y7' y8' y9' x0' x1' x2' x3' x4' x5' x6' x7' x8' x9'; obtain ⟨z0, z1, y0', y1', y2', y3', y4', y5', y6', y7', y8', y9', z6, z7, d0, d1, x0', x1', x2', x3', x4', x5', x6', x7', x8', x9'⟩ := hX.down.1.mf; clear hb)
                                | (go_at_call 32; with_reducible refine (all_any _ _ _ _ _ hL.down hO.down hl1 hl2 hall).mono ?_; rintro e w1 ⟨rfl, hb⟩; replace hX := PLift.up (And.intro (hX.down.1.below hb) (hX.down.2.below hb)); clear z0 z1 z6 z7 d0 d1 y0' y1' y2' y3' y4' y5' y6' y7' y8' y9' x0' x1' x2' x3' x4' x5' x6' x7' x8' x9'; obtain ⟨z0, z1, y0', y1', y2', y3', y4', y5', y6', y7', y8', y9', z6, z7, d0, d1, x0', x1', x2', x3', x4', x5', x6', x7', x8', x9'⟩ := hX.down.1.mf; clear hb)
                                | (go_at_call 9; with_reducible refine (known_ok _ (hk.below hX.down.1.mb.sx.old)).mono ?_; rintro e w1 ⟨rfl, hb⟩; replace hX := PLift.up (And.intro (hX.down.1.below hb) (hX.down.2.below hb)); clear z0 z1 z6 z7 d0 d1 y0' y1' y2' y3' y4' y5' y6' y7' y8' y9' x0' x1' x2' x3' x4' x5' x6' x7' x8' x9'; obtain ⟨z0, z1, y0', y1', y2', y3', y4', y5', y6', y7', y8', y9', z6, z7, d0, d1, x0', x1', x2', x3', x4', x5', x6', x7', x8', x9'⟩ := hX.down.1.mf; clear hb))
                              go_ret
                              exact ⟨rfl, hX.down.1.mb.sx.old⟩
                            · have hni : ¬ (nb : Int) = (m.sn : Int) := by omega
                              go_wp2_with (go_at_call 9; with_reducible refine (known_ok _ (hk.below hX.down.1.mb.sx.old)).mono ?_; rintro e w1 ⟨rfl, hb⟩; replace hX := PLift.up (And.intro (hX.down.1.below hb) (hX.down.2.below hb)); clear z0 z1 z6 z7 d0 d1 y0' y1' y2' y3' y4' y5' y6' y7' y8' y9' x0' x1' x2' x3' x4' x5' x6' x7' x8' x9'; obtain ⟨z0, z1, y0', y1', y2', y3', y4', y5', y6', y7', y8', y9', z6, z7, d0, d1, x0', x1', x2', x3', x4', x5', x6', x7', x8', x9'⟩ := hX.down.1.mf; clear hb)
                              go_ret
                              exact ⟨rfl, hX.down.1.mb.sx.old⟩
                      · have hne : ¬ er = 0 := by omega
                        have tok : True := trivial
                        have x9z := hX.down.1.xz 9
                        go_wp2_with (have _t := tok; go_at_call 25; with_reducible refine (hab _ hX.down.2).mono ?_; rintro e w1 ⟨rfl, hb⟩; clear tok _t x9z; replace hX := PLift.up (And.intro (hX.down.1.below hb) (hX.down.2.below hb)); clear z0 z1 z6 z7 d0 d1 y0' y1' y2' y3' y4' y5' y6' y7' y8' y9' x0' x1' x2' x3' x4' x5' x6' x7' x8' x9'; obtain ⟨z0, z1, y0', y1', y2', y3', y4', y5', y6', y7', y8', y9', z6, z7, d0, d1, x0', x1', x2', x3', x4', x5', x6', x7', x8', x9'⟩ := hX.down.1.mf; clear hb; have x9z := hX.down.1.xz 9)
                        have hM9 : MD w _ gd gx m (⟨m.sa, m.sn, m.sc, m.SX, m.SY, C0, C1, D0, D1, U0, U1, T0, T1, m.ra, m.rn, m.rc, m.RB, m.RX, m.RY, m.RE⟩ : Mach) (.slice (some ⟨b1, o1, none⟩) m.sn c1) r R' B X Y E (.slice a2 nb c2) rb := hX.down.1.setr m.ra m.rn m.rc m.RB m.RX m.RY m.RE
                        generalize w1.setCell ⟨gx, 9, none⟩ (.slice m.ra m.rn m.rc) = W9 at hM9 ⊢
                        have hI9 : MIn W9 (⟨m.sa, m.sn, m.sc, m.SX, m.SY, C0, C1, D0, D1, U0, U1, T0, T1, m.ra, m.rn, m.rc, m.RB, m.RX, m.RY, m.RE⟩ : Mach) := ⟨h.stops.below hM9.mb.sx.old, h.reads.below hM9.mb.sx.old⟩
                        obtain ⟨er2, hAb2, her2⟩ := Able.ex (⟨m.sa, m.sn, m.sc, m.SX, m.SY, C0, C1, D0, D1, U0, U1, T0, T1, m.ra, m.rn, m.rc, m.RB, m.RX, m.RY, m.RE⟩ : Mach)
                        have hab2 := fun (W : World) (hI : MIn W (⟨m.sa, m.sn, m.sc, m.SX, m.SY, C0, C1, D0, D1, U0, U1, T0, T1, m.ra, m.rn, m.rc, m.RB, m.RX, m.RY, m.RE⟩ : Mach)) => able_any (⟨m.sa, m.sn, m.sc, m.SX, m.SY, C0, C1, D0, D1, U0, U1, T0, T1, m.ra, m.rn, m.rc, m.RB, m.RX, m.RY, m.RE⟩ : Mach) er2 hAb2 W (by show m.sn ≤ 1000; omega) (by show m.rn ≤ 1000; omega) hI
                        dsimp only [Mach.val] at hab2
                        clear hX z0 z1 z6 z7 d0 d1 y0' y1' y2' y3' y4' y5' y6' y7' y8' y9' x0' x1' x2' x3' x4' x5' x6' x7' x8' x9' x9z hab hAb2
                        go_at_call 25
                        refine (hab2 _ hI9).mono ?_
                        rintro e w1 ⟨rfl, hb⟩
                        have hX : PLift (MD w w1 gd gx m (⟨m.sa, m.sn, m.sc, m.SX, m.SY, C0, C1, D0, D1, U0, U1, T0, T1, m.ra, m.rn, m.rc, m.RB, m.RX, m.RY, m.RE⟩ : Mach) (.slice (some ⟨b1, o1, none⟩) m.sn c1) r R' B X Y E (.slice a2 nb c2) rb ∧ MIn w1 (⟨m.sa, m.sn, m.sc, m.SX, m.SY, C0, C1, D0, D1, U0, U1, T0, T1, m.ra, m.rn, m.rc, m.RB, m.RX, m.RY, m.RE⟩ : Mach)) := ⟨hM9.below hb, hI9.below hb⟩
                        clear hb hab2 hM9 hI9
                        obtain ⟨z0, z1, y0', y1', y2', y3', y4', y5', y6', y7', y8', y9', z6, z7, d0, d1, x0', x1', x2', x3', x4', x5', x6', x7', x8', x9'⟩ := hX.down.1.mf
                        rcases her2 with ⟨rfl, hokY, hcY⟩ | her2
                        · skip
                          have hLX : m.axX.Less (Mach.axX (⟨m.sa, m.sn, m.sc, m.SX, m.SY, C0, C1, D0, D1, U0, U1, T0, T1, m.ra, m.rn, m.rc, m.RB, m.RX, m.RY, m.RE⟩ : Mach)) := ⟨g0.1, g0.2.1, g4.1, g4.2.1, (Nat.le_refl _), (fun i hi => rfl)⟩
                          have hLY : m.axY.Less (Mach.axY (⟨m.sa, m.sn, m.sc, m.SX, m.SY, C0, C1, D0, D1, U0, U1, T0, T1, m.ra, m.rn, m.rc, m.RB, m.RX, m.RY, m.RE⟩ : Mach)) := ⟨g2.1, g2.2.1, g6.1, g6.2.1, (Nat.le_refl _), (fun i hi => rfl)⟩
                          obtain ⟨wd, hwd⟩ := Classical.axiomOfChoice (fun k => IsWord.ex (goodB m.sn HX HY m.SX m.SY r) (m.axX.ends k).1 (m.axX.ends k).2 (m.axY.ends k).1 (m.axY.ends k).2)
                          obtain ⟨wd', hwd'⟩ := Classical.axiomOfChoice (fun k => IsWord.ex (goodB m.sn HX HY m.SX m.SY R') ((Mach.axX (⟨m.sa, m.sn, m.sc, m.SX, m.SY, C0, C1, D0, D1, U0, U1, T0, T1, m.ra, m.rn, m.rc, m.RB, m.RX, m.RY, m.RE⟩ : Mach)).ends k).1 ((Mach.axX (⟨m.sa, m.sn, m.sc, m.SX, m.SY, C0, C1, D0, D1, U0, U1, T0, T1, m.ra, m.rn, m.rc, m.RB, m.RX, m.RY, m.RE⟩ : Mach)).ends k).2 ((Mach.axY (⟨m.sa, m.sn, m.sc, m.SX, m.SY, C0, C1, D0, D1, U0, U1, T0, T1, m.ra, m.rn, m.rc, m.RB, m.RX, m.RY, m.RE⟩ : Mach)).ends k).1 ((Mach.axY (⟨m.sa, m.sn, m.sc, m.SX, m.SY, C0, C1, D0, D1, U0, U1, T0, T1, m.ra, m.rn, m.rc, m.RB, m.RX, m.RY, m.RE⟩ : Mach)).ends k).2)
                          obtain ⟨n, hgz⟩ := IsGauge.ex wd
                          obtain ⟨n', hgz'⟩ := IsGauge.ex wd'
                          have hww : ∀ j, j ≤ 12 → wd j = 3 → wd' j = 3 := fun j hj e => word_more (hLX.ends j) (hLY.ends j) (fun x y => good_more gr.1) (hwd j) (hwd' j) e
                          have hgle : ¬ (n' : Int) < (n : Int) := by have := gauge_more hgz hgz' hww; omega
                          have hga1 := fun (W : World) (hB : Below w.heap.size w W) => Gauge_ok (some ⟨b1, o1, none⟩) c1 r HX HY m W (by omega) (by omega) ⟨hp.1.below hB, hp.2⟩ (h.below hB) hok hc hme wd (fun k _ => hwd k) n hgz
                          have hga2 := fun (W : World) (hB : Below w.heap.size w W) (hI : MIn W (⟨m.sa, m.sn, m.sc, m.SX, m.SY, C0, C1, D0, D1, U0, U1, T0, T1, m.ra, m.rn, m.rc, m.RB, m.RX, m.RY, m.RE⟩ : Mach)) => Gauge_ok (some ⟨b1, o1, none⟩) c1 R' HX HY (⟨m.sa, m.sn, m.sc, m.SX, m.SY, C0, C1, D0, D1, U0, U1, T0, T1, m.ra, m.rn, m.rc, m.RB, m.RX, m.RY, m.RE⟩ : Mach) W (by show m.sn ≤ 1000; omega) (by dsimp only; omega) ⟨hp.1.below hB, hp.2⟩ hI hokY hcY (meas_more hme gr.2) wd' (fun k _ => hwd' k) n' hgz'
                          have hsu1 := fun (W : World) (hB : Below w.heap.size w W) => Sure_ok (some ⟨b1, o1, none⟩) c1 r HX HY m k hk1 hk12 W (by omega) (by omega) ⟨hp.1.below hB, hp.2⟩ (h.below hB) hok hc hme (wd k) (hwd k)
                          have hsu2 := fun (W : World) (hB : Below w.heap.size w W) (hI : MIn W (⟨m.sa, m.sn, m.sc, m.SX, m.SY, C0, C1, D0, D1, U0, U1, T0, T1, m.ra, m.rn, m.rc, m.RB, m.RX, m.RY, m.RE⟩ : Mach)) => Sure_ok (some ⟨b1, o1, none⟩) c1 R' HX HY (⟨m.sa, m.sn, m.sc, m.SX, m.SY, C0, C1, D0, D1, U0, U1, T0, T1, m.ra, m.rn, m.rc, m.RB, m.RX, m.RY, m.RE⟩ : Mach) k hk1 hk12 W (by show m.sn ≤ 1000; omega) (by dsimp only; omega) ⟨hp.1.below hB, hp.2⟩ hI hokY hcY (meas_more hme gr.2) (wd' k) (hwd' k)
                          dsimp only [Mach.val] at hga1 hga2 hsu1 hsu2
                          have hbt := fun (W : World) (hB : Below w.heap.size w W) => rbutton_any a2 nb c2 GX GY rb W (by omega) (hq.below hB)
                          have hwk := hww k hk12
                          clear hgz hgz' hww hwd hwd'
                          by_cases hw3 : wd k = 3
                          all_goals try (have hv3 := hwk hw3; rw [hw3] at hsu1; rw [hv3] at hsu2)
                          all_goals
                            clear hwk
                            go_wp2_with (first
                              | (go_at_call 13; with_reducible refine (hga1 _ hX.down.1.mb.sx.old).mono ?_; rintro e w1 ⟨rfl, hb⟩; replace hX := PLift.up (And.intro (hX.down.1.below hb) (hX.down.2.below hb)); clear z0 z1 z6 z7 d0 d1 y0' y1' y2' y3' y4' y5' y6' y7' y8' y9' x0' x1' x2' x3' x4' x5' x6' x7' x8' x9'; obtain ⟨z0, z1, y0', y1', y2', y3', y4', y5', y6', y7', y8', y9', z6, z7, d0, d1, x0', x1', x2', x3', x4', x5', x6', x7', x8', x9'⟩ := hX.down.1.mf; clear hb)
                              | (go_at_call 13; with_reducible refine (hga2 _ hX.down.1.mb.sx.old hX.down.2).mono ?_; rintro e w1 ⟨rfl, hb⟩; replace hX := PLift.up (And.intro (hX.down.1.below hb) (hX.down.2.below hb)); clear z0 z1 z6 z7 d0 d1 y0' y1' y2' y3' y4' y5' y6' y7' y8' y9' x0' x1' x2' x3' x4' x5' x6' x7' x8' x9'; obtain ⟨z0, z1, y0', y1', y2', y3', y4', y5', y6', y7', y8', y9', z6, z7, d0, d1, x0', x1', x2', x3', x4', x5', x6', x7', x8', x9'⟩ := hX.down.1.mf; clear hb)
                              | (go_at_call 10; with_reducible refine (hsu1 _ hX.down.1.mb.sx.old).mono ?_; rintro e w1 ⟨rfl, hb⟩; replace hX := PLift.up (And.intro (hX.down.1.below hb) (hX.down.2.below hb)); clear z0 z1 z6 z7 d0 d1 y0' y1' y2' y3' y4' y5' y6' y7' y8' y9' x0' x1' x2' x3' x4' x5' x6' x7' x8' x9'; obtain ⟨z0, z1, y0', y1', y2', y3', y4', y5', y6', y7', y8', y9', z6, z7, d0, d1, x0', x1', x2', x3', x4', x5', x6', x7', x8', x9'⟩ := hX.down.1.mf; clear hb)
                              | (go_at_call 10; with_reducible refine (hsu2 _ hX.down.1.mb.sx.old hX.down.2).mono ?_; rintro e w1 ⟨rfl, hb⟩; replace hX := PLift.up (And.intro (hX.down.1.below hb) (hX.down.2.below hb)); clear z0 z1 z6 z7 d0 d1 y0' y1' y2' y3' y4' y5' y6' y7' y8' y9' x0' x1' x2' x3' x4' x5' x6' x7' x8' x9'; obtain ⟨z0, z1, y0', y1', y2', y3', y4', y5', y6', y7', y8', y9', z6, z7, d0, d1, x0', x1', x2', x3', x4', x5', x6', x7', x8', x9'⟩ := hX.down.1.mf; clear hb))
                            go_at_call 26
                            refine (hbt _ hX.down.1.mb.sx.old).mono ?_
                            rintro e w1 ⟨rfl, hb⟩
                            replace hX := PLift.up (And.intro (hX.down.1.below hb) (hX.down.2.below hb))
                            clear z0 z1 z6 z7 d0 d1 y0' y1' y2' y3' y4' y5' y6' y7' y8' y9' x0' x1' x2' x3' x4' x5' x6' x7' x8' x9'
                            obtain ⟨z0, z1, y0', y1', y2', y3', y4', y5', y6', y7', y8', y9', z6, z7, d0, d1, x0', x1', x2', x3', x4', x5', x6', x7', x8', x9'⟩ := hX.down.1.mf
                            clear hb
                            clear hga1 hga2 hsu1 hsu2 hbt
                            cases hbb : butB nb GX GY rb
                            · go_wp2_with (go_at_call 9; with_reducible refine (known_ok _ (hk.below hX.down.1.mb.sx.old)).mono ?_; rintro e w1 ⟨rfl, hb⟩; replace hX := PLift.up (And.intro (hX.down.1.below hb) (hX.down.2.below hb)); clear z0 z1 z6 z7 d0 d1 y0' y1' y2' y3' y4' y5' y6' y7' y8' y9' x0' x1' x2' x3' x4' x5' x6' x7' x8' x9'; obtain ⟨z0, z1, y0', y1', y2', y3', y4', y5', y6', y7', y8', y9', z6, z7, d0, d1, x0', x1', x2', x3', x4', x5', x6', x7', x8', x9'⟩ := hX.down.1.mf; clear hb)
                              go_ret
                              exact ⟨rfl, hX.down.1.mb.sx.old⟩
                            · by_cases hnn : nb = m.sn
                              · subst hnn
                                obtain ⟨sg, hsg⟩ := Classical.axiomOfChoice (fun k => bool_ex (∀ x y, InBox (m.axX.ends k).1 (m.axX.ends k).2 (m.axY.ends k).1 (m.axY.ends k).2 x y → agreeB m.sn GX GY m.SX m.SY rb x y = false))
                                obtain ⟨sg', hsg'⟩ := Classical.axiomOfChoice (fun k => bool_ex (∀ x y, InBox ((Mach.axX (⟨m.sa, m.sn, m.sc, m.SX, m.SY, C0, C1, D0, D1, U0, U1, T0, T1, m.ra, m.rn, m.rc, m.RB, m.RX, m.RY, m.RE⟩ : Mach)).ends k).1 ((Mach.axX (⟨m.sa, m.sn, m.sc, m.SX, m.SY, C0, C1, D0, D1, U0, U1, T0, T1, m.ra, m.rn, m.rc, m.RB, m.RX, m.RY, m.RE⟩ : Mach)).ends k).2 ((Mach.axY (⟨m.sa, m.sn, m.sc, m.SX, m.SY, C0, C1, D0, D1, U0, U1, T0, T1, m.ra, m.rn, m.rc, m.RB, m.RX, m.RY, m.RE⟩ : Mach)).ends k).1 ((Mach.axY (⟨m.sa, m.sn, m.sc, m.SX, m.SY, C0, C1, D0, D1, U0, U1, T0, T1, m.ra, m.rn, m.rc, m.RB, m.RX, m.RY, m.RE⟩ : Mach)).ends k).2 x y → agreeB m.sn GX GY m.SX m.SY rb x y = false))
                                have hall := blanks_more (sg := sg) (sg' := sg') fun k _ e => (hsg' k).2 fun x y hb => (hsg k).1 e x y (InBox.less (hLX.ends k) (hLY.ends k) hb)
                                have hl1 := blanksTo_length sg 12
                                have hl2 := blanksTo_length sg' 12
                                have hco1 := fun (W : World) (hB : Below w.heap.size w W) => Could_ok a2 c2 rb GX GY m W (by omega) (by omega) (hq.below hB) (h.below hB) hok hc hbb sg (fun k _ => hsg k)
                                have hco2 := fun (W : World) (hB : Below w.heap.size w W) (hI : MIn W (⟨m.sa, m.sn, m.sc, m.SX, m.SY, C0, C1, D0, D1, U0, U1, T0, T1, m.ra, m.rn, m.rc, m.RB, m.RX, m.RY, m.RE⟩ : Mach)) => Could_ok a2 c2 rb GX GY (⟨m.sa, m.sn, m.sc, m.SX, m.SY, C0, C1, D0, D1, U0, U1, T0, T1, m.ra, m.rn, m.rc, m.RB, m.RX, m.RY, m.RE⟩ : Mach) W (by show m.sn ≤ 1000; omega) (by dsimp only; omega) (hq.below hB) hI hokY hcY hbb sg' (fun k _ => hsg' k)
                                dsimp only [Mach.val] at hco1 hco2
                                clear hsg hsg' hLX hLY
                                generalize blanksTo sg 12 = ls at *
                                generalize blanksTo sg' 12 = os at *
                                have hi1 : (ls.length : Int) ≤ 12 := by omega
                                have hi2 : (os.length : Int) ≤ 12 := by omega
                                go_wp2_with (first
                                  | (go_at_call 27; with_reducible refine (hco1 _ hX.down.1.mb.sx.old).mono ?_; rintro e w1 ⟨vv, rfl, hrow, hb⟩; obtain ⟨la, lc, rfl⟩ := ownsRow_slice hrow; have hL := PLift.up (IRow.of_own hrow); clear hrow; replace hX := PLift.up (And.intro (hX.down.1.below hb) (hX.down.2.below hb)); clear z0 z1 z6 z7 d0 d1 y0' y1' y2' y3' y4' y5' y6' y7' y8' y9' x0' x1' x2' x3' x4' x5' x6' x7' x8' x9'; obtain ⟨z0, z1, y0', y1', y2', y3', y4', y5', y6', y7', y8', y9', z6, z7, d0, d1, x0', x1', x2', x3', x4', x5', x6', x7', x8', x9'⟩ := hX.down.1.mf; clear hb)
                                  | (go_at_call 27; with_reducible refine (hco2 _ hX.down.1.mb.sx.old hX.down.2).mono ?_; rintro e w1 ⟨vv, rfl, hrow, hb⟩; obtain ⟨oa, oc, rfl⟩ := ownsRow_slice hrow; have hO := PLift.up (IRow.of_own hrow); clear hrow; replace hL := PLift.up (hL.down.below hb); replace hX := PLift.up (And.intro (hX.down.1.below hb) (hX.down.2.below hb)); clear z0 z1 z6 z7 d0 d1 y0' y1' y2' y3' y4' y5' y6' y7' y8' y9' x0' x1' x2' x3' x4' x5' x6' x7' x8' x9'; obtain ⟨z0, z1, y0', y1', y2', y3', y4', y5', y6', y7', y8', y9', z6, z7, d0, d1, x0', x1', x2', x3', x4', x5', x6', x7', x8', x9'⟩ := hX.down.1.mf; clear hb)
                                  | (go_at_call 32; with_reducible refine (all_any _ _ _ _ _ hL.down hO.down hl1 hl2 hall).mono ?_; rintro e w1 ⟨rfl, hb⟩; replace hX := PLift.up (And.intro (hX.down.1.below hb) (hX.down.2.below hb)); clear z0 z1 z6 z7 d0 d1 y0' y1' y2' y3' y4' y5' y6' y7' y8' y9' x0' x1' x2' x3' x4' x5' x6' x7' x8' x9'; obtain ⟨z0, z1, y0', y1', y2', y3', y4', y5', y6', y7', y8', y9', z6, z7, d0, d1, x0', x1', x2', x3', x4', x5', x6', x7', x8', x9'⟩ := hX.down.1.mf; clear hb)
                                  | (go_at_call 9; with_reducible refine (known_ok _ (hk.below hX.down.1.mb.sx.old)).mono ?_; rintro e w1 ⟨rfl, hb⟩; replace hX := PLift.up (And.intro (hX.down.1.below hb) (hX.down.2.below hb)); clear z0 z1 z6 z7 d0 d1 y0' y1' y2' y3' y4' y5' y6' y7' y8' y9' x0' x1' x2' x3' x4' x5' x6' x7' x8' x9'; obtain ⟨z0, z1, y0', y1', y2', y3', y4', y5', y6', y7', y8', y9', z6, z7, d0, d1, x0', x1', x2', x3', x4', x5', x6', x7', x8', x9'⟩ := hX.down.1.mf; clear hb))
                                go_ret
                                exact ⟨rfl, hX.down.1.mb.sx.old⟩
                              · have hni : ¬ (nb : Int) = (m.sn : Int) := by omega
                                go_wp2_with (go_at_call 9; with_reducible refine (known_ok _ (hk.below hX.down.1.mb.sx.old)).mono ?_; rintro e w1 ⟨rfl, hb⟩; replace hX := PLift.up (And.intro (hX.down.1.below hb) (hX.down.2.below hb)); clear z0 z1 z6 z7 d0 d1 y0' y1' y2' y3' y4' y5' y6' y7' y8' y9' x0' x1' x2' x3' x4' x5' x6' x7' x8' x9'; obtain ⟨z0, z1, y0', y1', y2', y3', y4', y5', y6', y7', y8', y9', z6, z7, d0, d1, x0', x1', x2', x3', x4', x5', x6', x7', x8', x9'⟩ := hX.down.1.mf; clear hb)
                                go_ret
                                exact ⟨rfl, hX.down.1.mb.sx.old⟩
                        · have hne2 : ¬ er2 = 0 := by omega
                          go_wp2_with (go_at_call 9; with_reducible refine (known_ok _ (hk.below hX.down.1.mb.sx.old)).mono ?_; rintro e w1 ⟨rfl, hb⟩; replace hX := PLift.up (And.intro (hX.down.1.below hb) (hX.down.2.below hb)); clear z0 z1 z6 z7 d0 d1 y0' y1' y2' y3' y4' y5' y6' y7' y8' y9' x0' x1' x2' x3' x4' x5' x6' x7' x8' x9'; obtain ⟨z0, z1, y0', y1', y2', y3', y4', y5', y6', y7', y8', y9', z6, z7, d0, d1, x0', x1', x2', x3', x4', x5', x6', x7', x8', x9'⟩ := hX.down.1.mf; clear hb)
                          go_ret
                          exact ⟨rfl, hX.down.1.mb.sx.old⟩
end Go.Proofs.YtmjmmokbaocboaaGreatDoor
