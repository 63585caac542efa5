/- A part of the proof: see the last file. -/
import Derived.Test.YtmjmmokbaocboaaGreatDoorPao
set_option linter.unusedVariables false
set_option linter.unusedSimpArgs false
set_option linter.unusedSectionVars false
namespace Go.Proofs.YtmjmmokbaocboaaGreatDoor
open Go.RowKit
set_option maxRecDepth 100000 in
set_option maxHeartbeats 2000000 in
theorem Sure_no1 (a1 : Option Addr) (n c1 : Nat) (r : Int) (HX HY : Nat → Int) (m : Mach) (k : Int) (w : World) (hn : n ≤ 1000) (hs : m.sn ≤ 1000) (hr : m.rn ≤ 9223372036854775807) (hp : PSc w (.slice a1 n c1) n HX HY) (h : MIn w m)
    (hf : (measB n HX HY r && decide (n = m.sn)) = true) (er : Int) (hA : Able m (inB k 1 12) er) (hne : er ≠ 0) :
    Calls Tryz.prog 10 #[.agg #[.slice a1 n c1, .int .i64 r], m.val, .int .i64 k] w fun e w' => e = .returned (.tuple #[.int .i64 0, .int .i64 er]) ∧ Below w.heap.size w w' := by
  obtain ⟨L, er', hE, hC⟩ := examine_any m (inB k 1 12) w hs hr h
  obtain rfl : er' = er := Able.same hE.able hA
  clear hA
  have hwi := fun (W : World) => within_any k 1 12 W
  have hif := fun (W : World) (hB : Below w.heap.size w W) => isFor_any (.slice a1 n c1) a1 n c1 r HX HY m W rfl hn (by omega) ⟨hp.1.below hB, hp.2⟩
  rw [show (decide (chkE n HX HY r = 0) && decide (n = m.sn)) = true by rw [← hf, chk_meas]; cases measB n HX HY r <;> simp] at hif
  clear hf
  generalize inB k 1 12 = fine at *
  obtain ⟨W0, hW0⟩ : ∃ W0, (w.alloc (Obj.cells #[.slice a1 n c1, .int .i64 r] 24)).alloc (.cells #[.slice m.sa m.sn m.sc, .int .i64 m.c0, .int .i64 m.c1, .int .i64 m.d0, .int .i64 m.d1, .int .i64 m.w0, .int .i64 m.w1, .int .i64 m.v0, .int .i64 m.v1, .slice m.ra m.rn m.rc] 29) = W0 := ⟨_, rfl⟩
  have hSX : SX w W0 m (.slice a1 n c1) r := by rw [← hW0]; exact SX.new w m _ r
  have hal : (#[.slice none 0 0, .int .i64 0, .int .i64 0, .int .i64 0, .int .i64 0, .int .i64 0, .int .i64 0, .int .i64 0, .int .i64 0, .slice none 0 0, .int .i64 0, .int .i64 0, .int .i64 0, .int .i64 0, .int .i64 0, .int .i64 0, .int .i64 0, .int .i64 0, .int .i64 0, .int .i64 0, .int .i64 0, .int .i64 0, .int .i64 0, .int .i64 0, .int .i64 0, .int .i64 0, .int .i64 0, .int .i64 0, .int .i64 0, .int .i64 0, .int .i64 0, .int .i64 0, .int .i64 0, .int .i64 0, .int .i64 0, .int .i64 0, .int .i64 0, .int .i64 0, .int .i64 0, .int .i64 0, .int .i64 0, .int .i64 0, .int .i64 0, .int .i64 0, .int .i64 0, .int .i64 0, .int .i64 0, .int .i64 0, .int .i64 0, .int .i64 0, .int .i64 0, .int .i64 0, .int .i64 0, .int .i64 0, .int .i64 0, .int .i64 0, .int .i64 0, .int .i64 0, .int .i64 0, .int .i64 0, .int .i64 0, .int .i64 0] : Array Value) = zst.toArray := rfl
  have hlz : zst.length = 62 := zM.st_length rfl rfl
  have hlL := hE.length
  have hoL := all_oneCell_toArray hE.one
  have hi0 : (Tryz.prog.info? 94).map (·.size) = some 62 := by kernel_rfl
  have hiL : (Tryz.prog.info? 94).map (·.size) = some L.length := by rw [hlL]; exact hi0
  have hiA : (Tryz.prog.info? 94).map (·.size) = some L.toArray.size := by rw [List.size_toArray, hlL]; exact hi0
  have hS0 := fun (W : World) => SAt.new W zst 94
  have hth := fun (W : World) (g : Nat) (H : SAt W g zst) => H.there 0 L.toArray.size (by rw [List.size_toArray, hlL, hlz]; omega)
  have hfi := fun (W : World) (g : Nat) (H : SAt W g zst) => SAt.fill (L' := L) H (by rw [hlL, hlz])
  clear hi0 hE
  generalize zst = Z at *
  go_enter Tryz.func10, Tryz.ntmps10
  go_wp2_with fail
  refine wp_region_late [] (fun w9 => SX w w9 m (.slice a1 n c1) r) (fun w9 => True) (by kernel_rfl) ?_ (fun hHeld => ?_)
  · (exact ⟨hSX.drew, trivial⟩)
  generalize W0.drew = V at hHeld ⊢
  refine wpAnyP_take0 (i := 0) (v := ?_) rfl (by kernel_rfl) (by kernel_rfl) (by kernel_rfl) (by kernel_rfl) (by rfl) (fun _ _ _ h => h) (Or.inl ⟨by rfl, ?_⟩) hHeld ?_
  rotate_left 1
  · ((intro w9 hSw; have q0 := hSw.mach.k0; have q1 := hSw.mach.k1; have q2 := hSw.mach.k2; have q3 := hSw.mach.k3; have q4 := hSw.mach.k4; have q5 := hSw.mach.k5; have q6 := hSw.mach.k6; have q7 := hSw.mach.k7; have q8 := hSw.mach.k8; have q9 := hSw.mach.k9; clear hSw; go_simp) <;> with_reducible rfl)
  (try simp only [Act.put, List.setIfInBounds_toArray, List.set_cons_zero, List.set_cons_succ])
  refine wpAnyP_take0 (i := 1) (v := ?_) rfl (by kernel_rfl) (by kernel_rfl) (by kernel_rfl) (by kernel_rfl) (by rfl) (fun _ _ _ h => h) (Or.inl ⟨by rfl, ?_⟩) hHeld ?_
  rotate_left 1
  · ((intro w9 hSw; have q0 := hSw.c0; have q1 := hSw.c1; clear hSw; go_simp) <;> with_reducible rfl)
  (try simp only [Act.put, List.setIfInBounds_toArray, List.set_cons_zero, List.set_cons_succ])
  refine wpAnyP_take0 (i := 2) (v := ?_) rfl (by kernel_rfl) (by kernel_rfl) (by kernel_rfl) (by kernel_rfl) (by rfl) (fun _ _ _ h => h) (Or.inl ⟨by rfl, ?_⟩) hHeld ?_
  rotate_left 1
  · ((intro w9 hSw; have q0 := hSw.mach.k0; have q1 := hSw.mach.k1; have q2 := hSw.mach.k2; have q3 := hSw.mach.k3; have q4 := hSw.mach.k4; have q5 := hSw.mach.k5; have q6 := hSw.mach.k6; have q7 := hSw.mach.k7; have q8 := hSw.mach.k8; have q9 := hSw.mach.k9; clear hSw; go_simp) <;> with_reducible rfl)
  (try simp only [Act.put, List.setIfInBounds_toArray, List.set_cons_zero, List.set_cons_succ])
  refine wpAnyP_ready (rs := [3, 12]) (by kernel_rfl) (by simp) ?_
  refine AllReadyP.cons (o := _) rfl (fun K hK => ?_) (AllReadyP.cons (o := _) rfl (fun K hK => ?_) AllReadyP.nil)
  · go_simp
    (go_at_call 48; with_reducible refine (hif _ hHeld.1.old).mono ?_; rintro e w1 ⟨rfl, hb1⟩)
    refine hK.out _ _ ?_ (fun hHeld => ?_)
    · (exact ⟨hHeld.1.below hb1, trivial⟩)
    clear hK K
    (try simp only [Act.put, List.setIfInBounds_toArray, List.set_cons_zero, List.set_cons_succ])
    refine wpAnyP_take0 (i := 4) (v := ?_) rfl (by kernel_rfl) (by kernel_rfl) (by kernel_rfl) (by kernel_rfl) (by rfl) (fun _ _ _ h => h) (Or.inl ⟨by rfl, ?_⟩) hHeld ?_
    rotate_left 1
    · ((intro w9 hSw; clear hSw; go_simp) <;> with_reducible rfl)
    (try simp only [Act.put, List.setIfInBounds_toArray, List.set_cons_zero, List.set_cons_succ])
    refine wpAnyP_take0 (i := 5) (v := ?_) rfl (by kernel_rfl) (by kernel_rfl) (by kernel_rfl) (by kernel_rfl) (by rfl) (fun _ _ _ h => h) (Or.inl ⟨by kernel_rfl, ?_⟩) hHeld ?_
    rotate_left 1
    · ((intro w9 hSw; clear hSw; go_simp) <;> with_reducible rfl)
    (try simp only [Act.put, List.setIfInBounds_toArray, List.set_cons_zero, List.set_cons_succ])
    refine wpAnyP_ready (rs := [6, 12]) (by kernel_rfl) (by simp) ?_
    refine AllReadyP.cons (o := _) rfl (fun K hK => ?_) (AllReadyP.cons (o := _) rfl (fun K hK => ?_) AllReadyP.nil)
    · go_simp
      (go_at_call 49; with_reducible refine (hwi _).mono ?_; rintro e w8 ⟨rfl, rfl⟩)
      refine hK.out _ _ ?_ (fun hHeld => ?_)
      · (exact hHeld)
      clear hK K
      (try simp only [Act.put, List.setIfInBounds_toArray, List.set_cons_zero, List.set_cons_succ])
      refine wpAnyP_take0 (i := 7) (v := ?_) rfl (by kernel_rfl) (by kernel_rfl) (by kernel_rfl) (by kernel_rfl) (by rfl) (fun _ _ _ h => h) (Or.inl ⟨by rfl, ?_⟩) hHeld ?_
      rotate_left 1
      · ((intro w9 hSw; clear hSw; go_simp) <;> with_reducible rfl)
      (try simp only [Act.put, List.setIfInBounds_toArray, List.set_cons_zero, List.set_cons_succ])
      refine wpAnyP_ready (rs := [8, 12]) (by kernel_rfl) (by simp) ?_
      refine AllReadyP.cons (o := _) rfl (fun K hK => ?_) (AllReadyP.cons (o := _) rfl (fun K hK => ?_) AllReadyP.nil)
      · go_simp
        (go_at_call 47; with_reducible refine (hC _ hHeld.1.old).mono ?_; rintro e w2 ⟨rfl, hb2⟩)
        refine hK.out _ _ ?_ (fun hHeld => ?_)
        · (exact ⟨hHeld.1.below hb2, trivial⟩)
        clear hK K
        (try simp only [Act.put, List.setIfInBounds_toArray, List.set_cons_zero, List.set_cons_succ])
        refine wpAnyP_take0 (i := 9) (v := ?_) rfl (by kernel_rfl) (by kernel_rfl) (by kernel_rfl) (by kernel_rfl) (by rfl) (fun _ _ _ h => h) (Or.inl ⟨by rfl, ?_⟩) hHeld ?_
        rotate_left 1
        · ((intro w9 hSw; clear hSw; go_simp) <;> with_reducible rfl)
        (try simp only [Act.put, List.setIfInBounds_toArray, List.set_cons_zero, List.set_cons_succ])
        refine wpAnyP_take0 (i := 10) (v := ?_) rfl (by kernel_rfl) (by kernel_rfl) (by kernel_rfl) (by kernel_rfl) (by rfl) (fun _ _ _ h => h) (Or.inl ⟨by rfl, ?_⟩) hHeld ?_
        rotate_left 1
        · ((intro w9 hSw; clear hSw; go_simp) <;> with_reducible rfl)
        (try simp only [Act.put, List.setIfInBounds_toArray, List.set_cons_zero, List.set_cons_succ])
        refine wpAnyP_take0 (i := 11) (v := ?_) rfl (by kernel_rfl) (by kernel_rfl) (by kernel_rfl) (by kernel_rfl) (by rfl) (fun _ _ _ h => h) (Or.inl ⟨by rfl, ?_⟩) hHeld ?_
        rotate_left 1
        · ((intro w9 hSw; clear hSw; go_simp) <;> with_reducible rfl)
        (try simp only [Act.put, List.setIfInBounds_toArray, List.set_cons_zero, List.set_cons_succ])
        refine wpAnyP_ready (rs := [12]) (by kernel_rfl) (by simp) ?_
        refine AllReadyP.cons (o := _) rfl (fun K hK => ?_) AllReadyP.nil
        · go_simp
          (try simp only [hal])
          have hZ := hS0 w2
          have hgz := hHeld.1.big
          refine hK.out _ _ ?_ (fun hHeld => ?_)
          · (exact ⟨hHeld.1.alloc _, trivial⟩)
          clear hK K
          (try simp only [Act.put, List.setIfInBounds_toArray, List.set_cons_zero, List.set_cons_succ])
          refine wpAnyP_ready (rs := [13]) (by kernel_rfl) (by simp) ?_
          refine AllReadyP.cons (o := _) rfl (fun K hK => ?_) AllReadyP.nil
          · refine step_store_mid rfl 94 _ _ rfl w2.heap.size 0 L.toArray rfl rfl (hth _ _ hZ) hiA hoL ?_
            have hL5 := hfi _ _ hZ
            have hK5 := hHeld.1.put hgz L
            refine hK.out _ _ ?_ (fun hHeld => ?_)
            · (exact ⟨hK5, trivial⟩)
            clear hK K
            (try simp only [Act.put, List.setIfInBounds_toArray, List.set_cons_zero, List.set_cons_succ])
            refine wpAnyP_take0 (i := 14) (v := ?_) rfl (by kernel_rfl) (by kernel_rfl) (by kernel_rfl) (by kernel_rfl) (by rfl) (fun _ _ _ h => h) (Or.inl ⟨by rfl, ?_⟩) hHeld ?_
            rotate_left 1
            · ((intro w9 hSw; clear hSw; go_simp) <;> with_reducible rfl)
            (try simp only [Act.put, List.setIfInBounds_toArray, List.set_cons_zero, List.set_cons_succ])
            refine wpAnyP_done (by kernel_rfl) ?_ _
            (try simp only [Act.put, List.getElem_toArray, List.getElem_cons_zero, List.getElem_cons_succ, List.setIfInBounds_toArray, List.set_cons_zero, List.set_cons_succ])
            have hO9 := hHeld.1.old
            clear hth hfi hS0 hHeld hL5 hK5 hC hif
            go_wp2
            refine bodyPost_ret (v := .tuple #[.int .i64 0, .int .i64 er']) (by simp [results, Tryz.results10, go_sem]) rfl ⟨rfl, hO9⟩
      · go_simp
        (try simp only [hal])
        have hZ := hS0 w1
        have hgz := hHeld.1.big
        refine hK.out _ _ ?_ (fun hHeld => ?_)
        · (exact ⟨hHeld.1.alloc _, trivial⟩)
        clear hK K
        (try simp only [Act.put, List.setIfInBounds_toArray, List.set_cons_zero, List.set_cons_succ])
        refine wpAnyP_ready (rs := [8]) (by kernel_rfl) (by simp) ?_
        refine AllReadyP.cons (o := _) rfl (fun K hK => ?_) AllReadyP.nil
        · go_simp
          (go_at_call 47; with_reducible refine (hC _ hHeld.1.old).mono ?_; rintro e w2 ⟨rfl, hb2⟩)
          replace hZ := hZ.below hb2 (by first | (rw [World.size_alloc]; exact Nat.lt_succ_self _) | (have hz := hb1.size; rw [World.size_alloc] at hz; omega))
          refine hK.out _ _ ?_ (fun hHeld => ?_)
          · (exact ⟨hHeld.1.below hb2, trivial⟩)
          clear hK K
          (try simp only [Act.put, List.setIfInBounds_toArray, List.set_cons_zero, List.set_cons_succ])
          refine wpAnyP_take0 (i := 9) (v := ?_) rfl (by kernel_rfl) (by kernel_rfl) (by kernel_rfl) (by kernel_rfl) (by rfl) (fun _ _ _ h => h) (Or.inl ⟨by rfl, ?_⟩) hHeld ?_
          rotate_left 1
          · ((intro w9 hSw; clear hSw; go_simp) <;> with_reducible rfl)
          (try simp only [Act.put, List.setIfInBounds_toArray, List.set_cons_zero, List.set_cons_succ])
          refine wpAnyP_take0 (i := 10) (v := ?_) rfl (by kernel_rfl) (by kernel_rfl) (by kernel_rfl) (by kernel_rfl) (by rfl) (fun _ _ _ h => h) (Or.inl ⟨by rfl, ?_⟩) hHeld ?_
          rotate_left 1
          · ((intro w9 hSw; clear hSw; go_simp) <;> with_reducible rfl)
          (try simp only [Act.put, List.setIfInBounds_toArray, List.set_cons_zero, List.set_cons_succ])
          refine wpAnyP_take0 (i := 11) (v := ?_) rfl (by kernel_rfl) (by kernel_rfl) (by kernel_rfl) (by kernel_rfl) (by rfl) (fun _ _ _ h => h) (Or.inl ⟨by rfl, ?_⟩) hHeld ?_
          rotate_left 1
          · ((intro w9 hSw; clear hSw; go_simp) <;> with_reducible rfl)
          (try simp only [Act.put, List.setIfInBounds_toArray, List.set_cons_zero, List.set_cons_succ])
          refine wpAnyP_ready (rs := [13]) (by kernel_rfl) (by simp) ?_
          refine AllReadyP.cons (o := _) rfl (fun K hK => ?_) AllReadyP.nil
          · refine step_store_mid rfl 94 _ _ rfl w1.heap.size 0 L.toArray rfl rfl (hth _ _ hZ) hiA hoL ?_
            have hL5 := hfi _ _ hZ
            have hK5 := hHeld.1.put hgz L
            refine hK.out _ _ ?_ (fun hHeld => ?_)
            · (exact ⟨hK5, trivial⟩)
            clear hK K
            (try simp only [Act.put, List.setIfInBounds_toArray, List.set_cons_zero, List.set_cons_succ])
            refine wpAnyP_take0 (i := 14) (v := ?_) rfl (by kernel_rfl) (by kernel_rfl) (by kernel_rfl) (by kernel_rfl) (by rfl) (fun _ _ _ h => h) (Or.inl ⟨by rfl, ?_⟩) hHeld ?_
            rotate_left 1
            · ((intro w9 hSw; clear hSw; go_simp) <;> with_reducible rfl)
            (try simp only [Act.put, List.setIfInBounds_toArray, List.set_cons_zero, List.set_cons_succ])
            refine wpAnyP_done (by kernel_rfl) ?_ _
            (try simp only [Act.put, List.getElem_toArray, List.getElem_cons_zero, List.getElem_cons_succ, List.setIfInBounds_toArray, List.set_cons_zero, List.set_cons_succ])
            have hO9 := hHeld.1.old
            clear hth hfi hS0 hHeld hL5 hK5 hC hif
            go_wp2
            refine bodyPost_ret (v := .tuple #[.int .i64 0, .int .i64 er']) (by simp [results, Tryz.results10, go_sem]) rfl ⟨rfl, hO9⟩
    · go_simp
      (try simp only [hal])
      have hZ := hS0 w1
      have hgz := hHeld.1.big
      refine hK.out _ _ ?_ (fun hHeld => ?_)
      · (exact ⟨hHeld.1.alloc _, trivial⟩)
      clear hK K
      (try simp only [Act.put, List.setIfInBounds_toArray, List.set_cons_zero, List.set_cons_succ])
      refine wpAnyP_ready (rs := [6]) (by kernel_rfl) (by simp) ?_
      refine AllReadyP.cons (o := _) rfl (fun K hK => ?_) AllReadyP.nil
      · go_simp
        (go_at_call 49; with_reducible refine (hwi _).mono ?_; rintro e w8 ⟨rfl, rfl⟩)
        refine hK.out _ _ ?_ (fun hHeld => ?_)
        · (exact hHeld)
        clear hK K
        (try simp only [Act.put, List.setIfInBounds_toArray, List.set_cons_zero, List.set_cons_succ])
        refine wpAnyP_take0 (i := 7) (v := ?_) rfl (by kernel_rfl) (by kernel_rfl) (by kernel_rfl) (by kernel_rfl) (by rfl) (fun _ _ _ h => h) (Or.inl ⟨by rfl, ?_⟩) hHeld ?_
        rotate_left 1
        · ((intro w9 hSw; clear hSw; go_simp) <;> with_reducible rfl)
        (try simp only [Act.put, List.setIfInBounds_toArray, List.set_cons_zero, List.set_cons_succ])
        refine wpAnyP_ready (rs := [8]) (by kernel_rfl) (by simp) ?_
        refine AllReadyP.cons (o := _) rfl (fun K hK => ?_) AllReadyP.nil
        · go_simp
          (go_at_call 47; with_reducible refine (hC _ hHeld.1.old).mono ?_; rintro e w2 ⟨rfl, hb2⟩)
          replace hZ := hZ.below hb2 (by first | (rw [World.size_alloc]; exact Nat.lt_succ_self _) | (have hz := hb1.size; rw [World.size_alloc] at hz; omega))
          refine hK.out _ _ ?_ (fun hHeld => ?_)
          · (exact ⟨hHeld.1.below hb2, trivial⟩)
          clear hK K
          (try simp only [Act.put, List.setIfInBounds_toArray, List.set_cons_zero, List.set_cons_succ])
          refine wpAnyP_take0 (i := 9) (v := ?_) rfl (by kernel_rfl) (by kernel_rfl) (by kernel_rfl) (by kernel_rfl) (by rfl) (fun _ _ _ h => h) (Or.inl ⟨by rfl, ?_⟩) hHeld ?_
          rotate_left 1
          · ((intro w9 hSw; clear hSw; go_simp) <;> with_reducible rfl)
          (try simp only [Act.put, List.setIfInBounds_toArray, List.set_cons_zero, List.set_cons_succ])
          refine wpAnyP_take0 (i := 10) (v := ?_) rfl (by kernel_rfl) (by kernel_rfl) (by kernel_rfl) (by kernel_rfl) (by rfl) (fun _ _ _ h => h) (Or.inl ⟨by rfl, ?_⟩) hHeld ?_
          rotate_left 1
          · ((intro w9 hSw; clear hSw; go_simp) <;> with_reducible rfl)
          (try simp only [Act.put, List.setIfInBounds_toArray, List.set_cons_zero, List.set_cons_succ])
          refine wpAnyP_take0 (i := 11) (v := ?_) rfl (by kernel_rfl) (by kernel_rfl) (by kernel_rfl) (by kernel_rfl) (by rfl) (fun _ _ _ h => h) (Or.inl ⟨by rfl, ?_⟩) hHeld ?_
          rotate_left 1
          · ((intro w9 hSw; clear hSw; go_simp) <;> with_reducible rfl)
          (try simp only [Act.put, List.setIfInBounds_toArray, List.set_cons_zero, List.set_cons_succ])
          refine wpAnyP_ready (rs := [13]) (by kernel_rfl) (by simp) ?_
          refine AllReadyP.cons (o := _) rfl (fun K hK => ?_) AllReadyP.nil
          · refine step_store_mid rfl 94 _ _ rfl w1.heap.size 0 L.toArray rfl rfl (hth _ _ hZ) hiA hoL ?_
            have hL5 := hfi _ _ hZ
            have hK5 := hHeld.1.put hgz L
            refine hK.out _ _ ?_ (fun hHeld => ?_)
            · (exact ⟨hK5, trivial⟩)
            clear hK K
            (try simp only [Act.put, List.setIfInBounds_toArray, List.set_cons_zero, List.set_cons_succ])
            refine wpAnyP_take0 (i := 14) (v := ?_) rfl (by kernel_rfl) (by kernel_rfl) (by kernel_rfl) (by kernel_rfl) (by rfl) (fun _ _ _ h => h) (Or.inl ⟨by rfl, ?_⟩) hHeld ?_
            rotate_left 1
            · ((intro w9 hSw; clear hSw; go_simp) <;> with_reducible rfl)
            (try simp only [Act.put, List.setIfInBounds_toArray, List.set_cons_zero, List.set_cons_succ])
            refine wpAnyP_done (by kernel_rfl) ?_ _
            (try simp only [Act.put, List.getElem_toArray, List.getElem_cons_zero, List.getElem_cons_succ, List.setIfInBounds_toArray, List.set_cons_zero, List.set_cons_succ])
            have hO9 := hHeld.1.old
            clear hth hfi hS0 hHeld hL5 hK5 hC hif
            go_wp2
            refine bodyPost_ret (v := .tuple #[.int .i64 0, .int .i64 er']) (by simp [results, Tryz.results10, go_sem]) rfl ⟨rfl, hO9⟩
  · go_simp
    (try simp only [hal])
    have hZ := hS0 V
    have hgz := hHeld.1.big
    refine hK.out _ _ ?_ (fun hHeld => ?_)
    · (exact ⟨hHeld.1.alloc _, trivial⟩)
    clear hK K
    (try simp only [Act.put, List.setIfInBounds_toArray, List.set_cons_zero, List.set_cons_succ])
    refine wpAnyP_ready (rs := [3]) (by kernel_rfl) (by simp) ?_
    refine AllReadyP.cons (o := _) rfl (fun K hK => ?_) AllReadyP.nil
    · go_simp
      (go_at_call 48; with_reducible refine (hif _ hHeld.1.old).mono ?_; rintro e w1 ⟨rfl, hb1⟩)
      replace hZ := hZ.below hb1 (by first | (rw [World.size_alloc]; exact Nat.lt_succ_self _) | (have hz := hb1.size; rw [World.size_alloc] at hz; omega))
      refine hK.out _ _ ?_ (fun hHeld => ?_)
      · (exact ⟨hHeld.1.below hb1, trivial⟩)
      clear hK K
      (try simp only [Act.put, List.setIfInBounds_toArray, List.set_cons_zero, List.set_cons_succ])
      refine wpAnyP_take0 (i := 4) (v := ?_) rfl (by kernel_rfl) (by kernel_rfl) (by kernel_rfl) (by kernel_rfl) (by rfl) (fun _ _ _ h => h) (Or.inl ⟨by rfl, ?_⟩) hHeld ?_
      rotate_left 1
      · ((intro w9 hSw; clear hSw; go_simp) <;> with_reducible rfl)
      (try simp only [Act.put, List.setIfInBounds_toArray, List.set_cons_zero, List.set_cons_succ])
      refine wpAnyP_take0 (i := 5) (v := ?_) rfl (by kernel_rfl) (by kernel_rfl) (by kernel_rfl) (by kernel_rfl) (by rfl) (fun _ _ _ h => h) (Or.inl ⟨by kernel_rfl, ?_⟩) hHeld ?_
      rotate_left 1
      · ((intro w9 hSw; clear hSw; go_simp) <;> with_reducible rfl)
      (try simp only [Act.put, List.setIfInBounds_toArray, List.set_cons_zero, List.set_cons_succ])
      refine wpAnyP_ready (rs := [6]) (by kernel_rfl) (by simp) ?_
      refine AllReadyP.cons (o := _) rfl (fun K hK => ?_) AllReadyP.nil
      · go_simp
        (go_at_call 49; with_reducible refine (hwi _).mono ?_; rintro e w8 ⟨rfl, rfl⟩)
        refine hK.out _ _ ?_ (fun hHeld => ?_)
        · (exact hHeld)
        clear hK K
        (try simp only [Act.put, List.setIfInBounds_toArray, List.set_cons_zero, List.set_cons_succ])
        refine wpAnyP_take0 (i := 7) (v := ?_) rfl (by kernel_rfl) (by kernel_rfl) (by kernel_rfl) (by kernel_rfl) (by rfl) (fun _ _ _ h => h) (Or.inl ⟨by rfl, ?_⟩) hHeld ?_
        rotate_left 1
        · ((intro w9 hSw; clear hSw; go_simp) <;> with_reducible rfl)
        (try simp only [Act.put, List.setIfInBounds_toArray, List.set_cons_zero, List.set_cons_succ])
        refine wpAnyP_ready (rs := [8]) (by kernel_rfl) (by simp) ?_
        refine AllReadyP.cons (o := _) rfl (fun K hK => ?_) AllReadyP.nil
        · go_simp
          (go_at_call 47; with_reducible refine (hC _ hHeld.1.old).mono ?_; rintro e w2 ⟨rfl, hb2⟩)
          replace hZ := hZ.below hb2 (by first | (rw [World.size_alloc]; exact Nat.lt_succ_self _) | (have hz := hb1.size; rw [World.size_alloc] at hz; omega))
          refine hK.out _ _ ?_ (fun hHeld => ?_)
          · (exact ⟨hHeld.1.below hb2, trivial⟩)
          clear hK K
          (try simp only [Act.put, List.setIfInBounds_toArray, List.set_cons_zero, List.set_cons_succ])
          refine wpAnyP_take0 (i := 9) (v := ?_) rfl (by kernel_rfl) (by kernel_rfl) (by kernel_rfl) (by kernel_rfl) (by rfl) (fun _ _ _ h => h) (Or.inl ⟨by rfl, ?_⟩) hHeld ?_
          rotate_left 1
          · ((intro w9 hSw; clear hSw; go_simp) <;> with_reducible rfl)
          (try simp only [Act.put, List.setIfInBounds_toArray, List.set_cons_zero, List.set_cons_succ])
          refine wpAnyP_take0 (i := 10) (v := ?_) rfl (by kernel_rfl) (by kernel_rfl) (by kernel_rfl) (by kernel_rfl) (by rfl) (fun _ _ _ h => h) (Or.inl ⟨by rfl, ?_⟩) hHeld ?_
          rotate_left 1
          · ((intro w9 hSw; clear hSw; go_simp) <;> with_reducible rfl)
          (try simp only [Act.put, List.setIfInBounds_toArray, List.set_cons_zero, List.set_cons_succ])
          refine wpAnyP_take0 (i := 11) (v := ?_) rfl (by kernel_rfl) (by kernel_rfl) (by kernel_rfl) (by kernel_rfl) (by rfl) (fun _ _ _ h => h) (Or.inl ⟨by rfl, ?_⟩) hHeld ?_
          rotate_left 1
          · ((intro w9 hSw; clear hSw; go_simp) <;> with_reducible rfl)
          (try simp only [Act.put, List.setIfInBounds_toArray, List.set_cons_zero, List.set_cons_succ])
          refine wpAnyP_ready (rs := [13]) (by kernel_rfl) (by simp) ?_
          refine AllReadyP.cons (o := _) rfl (fun K hK => ?_) AllReadyP.nil
          · refine step_store_mid rfl 94 _ _ rfl V.heap.size 0 L.toArray rfl rfl (hth _ _ hZ) hiA hoL ?_
            have hL5 := hfi _ _ hZ
            have hK5 := hHeld.1.put hgz L
            refine hK.out _ _ ?_ (fun hHeld => ?_)
            · (exact ⟨hK5, trivial⟩)
            clear hK K
            (try simp only [Act.put, List.setIfInBounds_toArray, List.set_cons_zero, List.set_cons_succ])
            refine wpAnyP_take0 (i := 14) (v := ?_) rfl (by kernel_rfl) (by kernel_rfl) (by kernel_rfl) (by kernel_rfl) (by rfl) (fun _ _ _ h => h) (Or.inl ⟨by rfl, ?_⟩) hHeld ?_
            rotate_left 1
            · ((intro w9 hSw; clear hSw; go_simp) <;> with_reducible rfl)
            (try simp only [Act.put, List.setIfInBounds_toArray, List.set_cons_zero, List.set_cons_succ])
            refine wpAnyP_done (by kernel_rfl) ?_ _
            (try simp only [Act.put, List.getElem_toArray, List.getElem_cons_zero, List.getElem_cons_succ, List.setIfInBounds_toArray, List.set_cons_zero, List.set_cons_succ])
            have hO9 := hHeld.1.old
            clear hth hfi hS0 hHeld hL5 hK5 hC hif
            go_wp2
            refine bodyPost_ret (v := .tuple #[.int .i64 0, .int .i64 er']) (by simp [results, Tryz.results10, go_sem]) rfl ⟨rfl, hO9⟩
set_option maxRecDepth 100000 in
set_option maxHeartbeats 2000000 in
theorem Sure_no2 (a1 : Option Addr) (n c1 : Nat) (r : Int) (HX HY : Nat → Int) (m : Mach) (k : Int) (w : World) (hn : n ≤ 1000) (hs : m.sn ≤ 1000) (hr : m.rn ≤ 9223372036854775807) (hp : PSc w (.slice a1 n c1) n HX HY) (h : MIn w m)
    (hf : (measB n HX HY r && decide (n = m.sn)) = false) (er : Int) (hA : Able m false er) (hne : er ≠ 0) :
    Calls Tryz.prog 10 #[.agg #[.slice a1 n c1, .int .i64 r], m.val, .int .i64 k] w fun e w' => e = .returned (.tuple #[.int .i64 0, .int .i64 er]) ∧ Below w.heap.size w w' := by
  obtain ⟨L, er', hE, hC⟩ := examine_any m false w hs hr h
  obtain rfl : er' = er := Able.same hE.able hA
  clear hA
  have hif := fun (W : World) (hB : Below w.heap.size w W) => isFor_any (.slice a1 n c1) a1 n c1 r HX HY m W rfl hn (by omega) ⟨hp.1.below hB, hp.2⟩
  rw [show (decide (chkE n HX HY r = 0) && decide (n = m.sn)) = false by rw [← hf, chk_meas]; cases measB n HX HY r <;> simp] at hif
  clear hf
  obtain ⟨W0, hW0⟩ : ∃ W0, (w.alloc (Obj.cells #[.slice a1 n c1, .int .i64 r] 24)).alloc (.cells #[.slice m.sa m.sn m.sc, .int .i64 m.c0, .int .i64 m.c1, .int .i64 m.d0, .int .i64 m.d1, .int .i64 m.w0, .int .i64 m.w1, .int .i64 m.v0, .int .i64 m.v1, .slice m.ra m.rn m.rc] 29) = W0 := ⟨_, rfl⟩
  have hSX : SX w W0 m (.slice a1 n c1) r := by rw [← hW0]; exact SX.new w m _ r
  have hal : (#[.slice none 0 0, .int .i64 0, .int .i64 0, .int .i64 0, .int .i64 0, .int .i64 0, .int .i64 0, .int .i64 0, .int .i64 0, .slice none 0 0, .int .i64 0, .int .i64 0, .int .i64 0, .int .i64 0, .int .i64 0, .int .i64 0, .int .i64 0, .int .i64 0, .int .i64 0, .int .i64 0, .int .i64 0, .int .i64 0, .int .i64 0, .int .i64 0, .int .i64 0, .int .i64 0, .int .i64 0, .int .i64 0, .int .i64 0, .int .i64 0, .int .i64 0, .int .i64 0, .int .i64 0, .int .i64 0, .int .i64 0, .int .i64 0, .int .i64 0, .int .i64 0, .int .i64 0, .int .i64 0, .int .i64 0, .int .i64 0, .int .i64 0, .int .i64 0, .int .i64 0, .int .i64 0, .int .i64 0, .int .i64 0, .int .i64 0, .int .i64 0, .int .i64 0, .int .i64 0, .int .i64 0, .int .i64 0, .int .i64 0, .int .i64 0, .int .i64 0, .int .i64 0, .int .i64 0, .int .i64 0, .int .i64 0, .int .i64 0] : Array Value) = zst.toArray := rfl
  have hlz : zst.length = 62 := zM.st_length rfl rfl
  have hlL := hE.length
  have hoL := all_oneCell_toArray hE.one
  have hi0 : (Tryz.prog.info? 94).map (·.size) = some 62 := by kernel_rfl
  have hiL : (Tryz.prog.info? 94).map (·.size) = some L.length := by rw [hlL]; exact hi0
  have hiA : (Tryz.prog.info? 94).map (·.size) = some L.toArray.size := by rw [List.size_toArray, hlL]; exact hi0
  have hS0 := fun (W : World) => SAt.new W zst 94
  have hth := fun (W : World) (g : Nat) (H : SAt W g zst) => H.there 0 L.toArray.size (by rw [List.size_toArray, hlL, hlz]; omega)
  have hfi := fun (W : World) (g : Nat) (H : SAt W g zst) => SAt.fill (L' := L) H (by rw [hlL, hlz])
  clear hi0 hE
  generalize zst = Z at *
  go_enter Tryz.func10, Tryz.ntmps10
  go_wp2_with fail
  refine wp_region_late [] (fun w9 => SX w w9 m (.slice a1 n c1) r) (fun w9 => True) (by kernel_rfl) ?_ (fun hHeld => ?_)
  · (exact ⟨hSX.drew, trivial⟩)
  generalize W0.drew = V at hHeld ⊢
  refine wpAnyP_take0 (i := 0) (v := ?_) rfl (by kernel_rfl) (by kernel_rfl) (by kernel_rfl) (by kernel_rfl) (by rfl) (fun _ _ _ h => h) (Or.inl ⟨by rfl, ?_⟩) hHeld ?_
  rotate_left 1
  · ((intro w9 hSw; have q0 := hSw.mach.k0; have q1 := hSw.mach.k1; have q2 := hSw.mach.k2; have q3 := hSw.mach.k3; have q4 := hSw.mach.k4; have q5 := hSw.mach.k5; have q6 := hSw.mach.k6; have q7 := hSw.mach.k7; have q8 := hSw.mach.k8; have q9 := hSw.mach.k9; clear hSw; go_simp) <;> with_reducible rfl)
  (try simp only [Act.put, List.setIfInBounds_toArray, List.set_cons_zero, List.set_cons_succ])
  refine wpAnyP_take0 (i := 1) (v := ?_) rfl (by kernel_rfl) (by kernel_rfl) (by kernel_rfl) (by kernel_rfl) (by rfl) (fun _ _ _ h => h) (Or.inl ⟨by rfl, ?_⟩) hHeld ?_
  rotate_left 1
  · ((intro w9 hSw; have q0 := hSw.c0; have q1 := hSw.c1; clear hSw; go_simp) <;> with_reducible rfl)
  (try simp only [Act.put, List.setIfInBounds_toArray, List.set_cons_zero, List.set_cons_succ])
  refine wpAnyP_take0 (i := 2) (v := ?_) rfl (by kernel_rfl) (by kernel_rfl) (by kernel_rfl) (by kernel_rfl) (by rfl) (fun _ _ _ h => h) (Or.inl ⟨by rfl, ?_⟩) hHeld ?_
  rotate_left 1
  · ((intro w9 hSw; have q0 := hSw.mach.k0; have q1 := hSw.mach.k1; have q2 := hSw.mach.k2; have q3 := hSw.mach.k3; have q4 := hSw.mach.k4; have q5 := hSw.mach.k5; have q6 := hSw.mach.k6; have q7 := hSw.mach.k7; have q8 := hSw.mach.k8; have q9 := hSw.mach.k9; clear hSw; go_simp) <;> with_reducible rfl)
  (try simp only [Act.put, List.setIfInBounds_toArray, List.set_cons_zero, List.set_cons_succ])
  refine wpAnyP_ready (rs := [3, 12]) (by kernel_rfl) (by simp) ?_
  refine AllReadyP.cons (o := _) rfl (fun K hK => ?_) (AllReadyP.cons (o := _) rfl (fun K hK => ?_) AllReadyP.nil)
  · go_simp
    (go_at_call 48; with_reducible refine (hif _ hHeld.1.old).mono ?_; rintro e w1 ⟨rfl, hb1⟩)
    refine hK.out _ _ ?_ (fun hHeld => ?_)
    · (exact ⟨hHeld.1.below hb1, trivial⟩)
    clear hK K
    (try simp only [Act.put, List.setIfInBounds_toArray, List.set_cons_zero, List.set_cons_succ])
    refine wpAnyP_take0 (i := 4) (v := ?_) rfl (by kernel_rfl) (by kernel_rfl) (by kernel_rfl) (by kernel_rfl) (by rfl) (fun _ _ _ h => h) (Or.inl ⟨by rfl, ?_⟩) hHeld ?_
    rotate_left 1
    · ((intro w9 hSw; clear hSw; go_simp) <;> with_reducible rfl)
    (try simp only [Act.put, List.setIfInBounds_toArray, List.set_cons_zero, List.set_cons_succ])
    refine wpAnyP_take0 (i := 5) (v := undef) rfl (by kernel_rfl) (by kernel_rfl) (by kernel_rfl) (by kernel_rfl) (by rfl) (fun _ _ _ h => h) (Or.inr ⟨by kernel_rfl, rfl⟩) hHeld ?_
    (try simp only [Act.put, List.setIfInBounds_toArray, List.set_cons_zero, List.set_cons_succ])
    refine wpAnyP_ready (rs := [6, 12]) (by kernel_rfl) (by simp) ?_
    refine AllReadyP.cons (o := _) rfl (fun K hK => ?_) (AllReadyP.cons (o := _) rfl (fun K hK => ?_) AllReadyP.nil)
    · go_simp
      refine hK.out _ _ ?_ (fun hHeld => ?_)
      · (exact hHeld)
      clear hK K
      (try simp only [Act.put, List.setIfInBounds_toArray, List.set_cons_zero, List.set_cons_succ])
      refine wpAnyP_take0 (i := 7) (v := ?_) rfl (by kernel_rfl) (by kernel_rfl) (by kernel_rfl) (by kernel_rfl) (by rfl) (fun _ _ _ h => h) (Or.inl ⟨by rfl, ?_⟩) hHeld ?_
      rotate_left 1
      · ((intro w9 hSw; clear hSw; go_simp) <;> with_reducible rfl)
      (try simp only [Act.put, List.setIfInBounds_toArray, List.set_cons_zero, List.set_cons_succ])
      refine wpAnyP_ready (rs := [8, 12]) (by kernel_rfl) (by simp) ?_
      refine AllReadyP.cons (o := _) rfl (fun K hK => ?_) (AllReadyP.cons (o := _) rfl (fun K hK => ?_) AllReadyP.nil)
      · go_simp
        (go_at_call 47; with_reducible refine (hC _ hHeld.1.old).mono ?_; rintro e w2 ⟨rfl, hb2⟩)
        refine hK.out _ _ ?_ (fun hHeld => ?_)
        · (exact ⟨hHeld.1.below hb2, trivial⟩)
        clear hK K
        (try simp only [Act.put, List.setIfInBounds_toArray, List.set_cons_zero, List.set_cons_succ])
        refine wpAnyP_take0 (i := 9) (v := ?_) rfl (by kernel_rfl) (by kernel_rfl) (by kernel_rfl) (by kernel_rfl) (by rfl) (fun _ _ _ h => h) (Or.inl ⟨by rfl, ?_⟩) hHeld ?_
        rotate_left 1
        · ((intro w9 hSw; clear hSw; go_simp) <;> with_reducible rfl)
        (try simp only [Act.put, List.setIfInBounds_toArray, List.set_cons_zero, List.set_cons_succ])
        refine wpAnyP_take0 (i := 10) (v := ?_) rfl (by kernel_rfl) (by kernel_rfl) (by kernel_rfl) (by kernel_rfl) (by rfl) (fun _ _ _ h => h) (Or.inl ⟨by rfl, ?_⟩) hHeld ?_
        rotate_left 1
        · ((intro w9 hSw; clear hSw; go_simp) <;> with_reducible rfl)
        (try simp only [Act.put, List.setIfInBounds_toArray, List.set_cons_zero, List.set_cons_succ])
        refine wpAnyP_take0 (i := 11) (v := ?_) rfl (by kernel_rfl) (by kernel_rfl) (by kernel_rfl) (by kernel_rfl) (by rfl) (fun _ _ _ h => h) (Or.inl ⟨by rfl, ?_⟩) hHeld ?_
        rotate_left 1
        · ((intro w9 hSw; clear hSw; go_simp) <;> with_reducible rfl)
        (try simp only [Act.put, List.setIfInBounds_toArray, List.set_cons_zero, List.set_cons_succ])
        refine wpAnyP_ready (rs := [12]) (by kernel_rfl) (by simp) ?_
        refine AllReadyP.cons (o := _) rfl (fun K hK => ?_) AllReadyP.nil
        · go_simp
          (try simp only [hal])
          have hZ := hS0 w2
          have hgz := hHeld.1.big
          refine hK.out _ _ ?_ (fun hHeld => ?_)
          · (exact ⟨hHeld.1.alloc _, trivial⟩)
          clear hK K
          (try simp only [Act.put, List.setIfInBounds_toArray, List.set_cons_zero, List.set_cons_succ])
          refine wpAnyP_ready (rs := [13]) (by kernel_rfl) (by simp) ?_
          refine AllReadyP.cons (o := _) rfl (fun K hK => ?_) AllReadyP.nil
          · refine step_store_mid rfl 94 _ _ rfl w2.heap.size 0 L.toArray rfl rfl (hth _ _ hZ) hiA hoL ?_
            have hL5 := hfi _ _ hZ
            have hK5 := hHeld.1.put hgz L
            refine hK.out _ _ ?_ (fun hHeld => ?_)
            · (exact ⟨hK5, trivial⟩)
            clear hK K
            (try simp only [Act.put, List.setIfInBounds_toArray, List.set_cons_zero, List.set_cons_succ])
            refine wpAnyP_take0 (i := 14) (v := ?_) rfl (by kernel_rfl) (by kernel_rfl) (by kernel_rfl) (by kernel_rfl) (by rfl) (fun _ _ _ h => h) (Or.inl ⟨by rfl, ?_⟩) hHeld ?_
            rotate_left 1
            · ((intro w9 hSw; clear hSw; go_simp) <;> with_reducible rfl)
            (try simp only [Act.put, List.setIfInBounds_toArray, List.set_cons_zero, List.set_cons_succ])
            refine wpAnyP_done (by kernel_rfl) ?_ _
            (try simp only [Act.put, List.getElem_toArray, List.getElem_cons_zero, List.getElem_cons_succ, List.setIfInBounds_toArray, List.set_cons_zero, List.set_cons_succ])
            have hO9 := hHeld.1.old
            clear hth hfi hS0 hHeld hL5 hK5 hC hif
            go_wp2
            refine bodyPost_ret (v := .tuple #[.int .i64 0, .int .i64 er']) (by simp [results, Tryz.results10, go_sem]) rfl ⟨rfl, hO9⟩
      · go_simp
        (try simp only [hal])
        have hZ := hS0 w1
        have hgz := hHeld.1.big
        refine hK.out _ _ ?_ (fun hHeld => ?_)
        · (exact ⟨hHeld.1.alloc _, trivial⟩)
        clear hK K
        (try simp only [Act.put, List.setIfInBounds_toArray, List.set_cons_zero, List.set_cons_succ])
        refine wpAnyP_ready (rs := [8]) (by kernel_rfl) (by simp) ?_
        refine AllReadyP.cons (o := _) rfl (fun K hK => ?_) AllReadyP.nil
        · go_simp
          (go_at_call 47; with_reducible refine (hC _ hHeld.1.old).mono ?_; rintro e w2 ⟨rfl, hb2⟩)
          replace hZ := hZ.below hb2 (by first | (rw [World.size_alloc]; exact Nat.lt_succ_self _) | (have hz := hb1.size; rw [World.size_alloc] at hz; omega))
          refine hK.out _ _ ?_ (fun hHeld => ?_)
          · (exact ⟨hHeld.1.below hb2, trivial⟩)
          clear hK K
          (try simp only [Act.put, List.setIfInBounds_toArray, List.set_cons_zero, List.set_cons_succ])
          refine wpAnyP_take0 (i := 9) (v := ?_) rfl (by kernel_rfl) (by kernel_rfl) (by kernel_rfl) (by kernel_rfl) (by rfl) (fun _ _ _ h => h) (Or.inl ⟨by rfl, ?_⟩) hHeld ?_
          rotate_left 1
          · ((intro w9 hSw; clear hSw; go_simp) <;> with_reducible rfl)
          (try simp only [Act.put, List.setIfInBounds_toArray, List.set_cons_zero, List.set_cons_succ])
          refine wpAnyP_take0 (i := 10) (v := ?_) rfl (by kernel_rfl) (by kernel_rfl) (by kernel_rfl) (by kernel_rfl) (by rfl) (fun _ _ _ h => h) (Or.inl ⟨by rfl, ?_⟩) hHeld ?_
          rotate_left 1
          · ((intro w9 hSw; clear hSw; go_simp) <;> with_reducible rfl)
          (try simp only [Act.put, List.setIfInBounds_toArray, List.set_cons_zero, List.set_cons_succ])
          refine wpAnyP_take0 (i := 11) (v := ?_) rfl (by kernel_rfl) (by kernel_rfl) (by kernel_rfl) (by kernel_rfl) (by rfl) (fun _ _ _ h => h) (Or.inl ⟨by rfl, ?_⟩) hHeld ?_
          rotate_left 1
          · ((intro w9 hSw; clear hSw; go_simp) <;> with_reducible rfl)
          (try simp only [Act.put, List.setIfInBounds_toArray, List.set_cons_zero, List.set_cons_succ])
          refine wpAnyP_ready (rs := [13]) (by kernel_rfl) (by simp) ?_
          refine AllReadyP.cons (o := _) rfl (fun K hK => ?_) AllReadyP.nil
          · refine step_store_mid rfl 94 _ _ rfl w1.heap.size 0 L.toArray rfl rfl (hth _ _ hZ) hiA hoL ?_
            have hL5 := hfi _ _ hZ
            have hK5 := hHeld.1.put hgz L
            refine hK.out _ _ ?_ (fun hHeld => ?_)
            · (exact ⟨hK5, trivial⟩)
            clear hK K
            (try simp only [Act.put, List.setIfInBounds_toArray, List.set_cons_zero, List.set_cons_succ])
            refine wpAnyP_take0 (i := 14) (v := ?_) rfl (by kernel_rfl) (by kernel_rfl) (by kernel_rfl) (by kernel_rfl) (by rfl) (fun _ _ _ h => h) (Or.inl ⟨by rfl, ?_⟩) hHeld ?_
            rotate_left 1
            · ((intro w9 hSw; clear hSw; go_simp) <;> with_reducible rfl)
            (try simp only [Act.put, List.setIfInBounds_toArray, List.set_cons_zero, List.set_cons_succ])
            refine wpAnyP_done (by kernel_rfl) ?_ _
            (try simp only [Act.put, List.getElem_toArray, List.getElem_cons_zero, List.getElem_cons_succ, List.setIfInBounds_toArray, List.set_cons_zero, List.set_cons_succ])
            have hO9 := hHeld.1.old
            clear hth hfi hS0 hHeld hL5 hK5 hC hif
            go_wp2
            refine bodyPost_ret (v := .tuple #[.int .i64 0, .int .i64 er']) (by simp [results, Tryz.results10, go_sem]) rfl ⟨rfl, hO9⟩
    · go_simp
      (try simp only [hal])
      have hZ := hS0 w1
      have hgz := hHeld.1.big
      refine hK.out _ _ ?_ (fun hHeld => ?_)
      · (exact ⟨hHeld.1.alloc _, trivial⟩)
      clear hK K
      (try simp only [Act.put, List.setIfInBounds_toArray, List.set_cons_zero, List.set_cons_succ])
      refine wpAnyP_ready (rs := [6]) (by kernel_rfl) (by simp) ?_
      refine AllReadyP.cons (o := _) rfl (fun K hK => ?_) AllReadyP.nil
      · go_simp
        refine hK.out _ _ ?_ (fun hHeld => ?_)
        · (exact hHeld)
        clear hK K
        (try simp only [Act.put, List.setIfInBounds_toArray, List.set_cons_zero, List.set_cons_succ])
        refine wpAnyP_take0 (i := 7) (v := ?_) rfl (by kernel_rfl) (by kernel_rfl) (by kernel_rfl) (by kernel_rfl) (by rfl) (fun _ _ _ h => h) (Or.inl ⟨by rfl, ?_⟩) hHeld ?_
        rotate_left 1
        · ((intro w9 hSw; clear hSw; go_simp) <;> with_reducible rfl)
        (try simp only [Act.put, List.setIfInBounds_toArray, List.set_cons_zero, List.set_cons_succ])
        refine wpAnyP_ready (rs := [8]) (by kernel_rfl) (by simp) ?_
        refine AllReadyP.cons (o := _) rfl (fun K hK => ?_) AllReadyP.nil
        · go_simp
          (go_at_call 47; with_reducible refine (hC _ hHeld.1.old).mono ?_; rintro e w2 ⟨rfl, hb2⟩)
          replace hZ := hZ.below hb2 (by first | (rw [World.size_alloc]; exact Nat.lt_succ_self _) | (have hz := hb1.size; rw [World.size_alloc] at hz; omega))
          refine hK.out _ _ ?_ (fun hHeld => ?_)
          · (exact ⟨hHeld.1.below hb2, trivial⟩)
          clear hK K
          (try simp only [Act.put, List.setIfInBounds_toArray, List.set_cons_zero, List.set_cons_succ])
          refine wpAnyP_take0 (i := 9) (v := ?_) rfl (by kernel_rfl) (by kernel_rfl) (by kernel_rfl) (by kernel_rfl) (by rfl) (fun _ _ _ h => h) (Or.inl ⟨by rfl, ?_⟩) hHeld ?_
          rotate_left 1
          · ((intro w9 hSw; clear hSw; go_simp) <;> with_reducible rfl)
          (try simp only [Act.put, List.setIfInBounds_toArray, List.set_cons_zero, List.set_cons_succ])
          refine wpAnyP_take0 (i := 10) (v := ?_) rfl (by kernel_rfl) (by kernel_rfl) (by kernel_rfl) (by kernel_rfl) (by rfl) (fun _ _ _ h => h) (Or.inl ⟨by rfl, ?_⟩) hHeld ?_
          rotate_left 1
          · ((intro w9 hSw; clear hSw; go_simp) <;> with_reducible rfl)
          (try simp only [Act.put, List.setIfInBounds_toArray, List.set_cons_zero, List.set_cons_succ])
          refine wpAnyP_take0 (i := 11) (v := ?_) rfl (by kernel_rfl) (by kernel_rfl) (by kernel_rfl) (by kernel_rfl) (by rfl) (fun _ _ _ h => h) (Or.inl ⟨by rfl, ?_⟩) hHeld ?_
          rotate_left 1
          · ((intro w9 hSw; clear hSw; go_simp) <;> with_reducible rfl)
          (try simp only [Act.put, List.setIfInBounds_toArray, List.set_cons_zero, List.set_cons_succ])
          refine wpAnyP_ready (rs := [13]) (by kernel_rfl) (by simp) ?_
          refine AllReadyP.cons (o := _) rfl (fun K hK => ?_) AllReadyP.nil
          · refine step_store_mid rfl 94 _ _ rfl w1.heap.size 0 L.toArray rfl rfl (hth _ _ hZ) hiA hoL ?_
            have hL5 := hfi _ _ hZ
            have hK5 := hHeld.1.put hgz L
            refine hK.out _ _ ?_ (fun hHeld => ?_)
            · (exact ⟨hK5, trivial⟩)
            clear hK K
            (try simp only [Act.put, List.setIfInBounds_toArray, List.set_cons_zero, List.set_cons_succ])
            refine wpAnyP_take0 (i := 14) (v := ?_) rfl (by kernel_rfl) (by kernel_rfl) (by kernel_rfl) (by kernel_rfl) (by rfl) (fun _ _ _ h => h) (Or.inl ⟨by rfl, ?_⟩) hHeld ?_
            rotate_left 1
            · ((intro w9 hSw; clear hSw; go_simp) <;> with_reducible rfl)
            (try simp only [Act.put, List.setIfInBounds_toArray, List.set_cons_zero, List.set_cons_succ])
            refine wpAnyP_done (by kernel_rfl) ?_ _
            (try simp only [Act.put, List.getElem_toArray, List.getElem_cons_zero, List.getElem_cons_succ, List.setIfInBounds_toArray, List.set_cons_zero, List.set_cons_succ])
            have hO9 := hHeld.1.old
            clear hth hfi hS0 hHeld hL5 hK5 hC hif
            go_wp2
            refine bodyPost_ret (v := .tuple #[.int .i64 0, .int .i64 er']) (by simp [results, Tryz.results10, go_sem]) rfl ⟨rfl, hO9⟩
  · go_simp
    (try simp only [hal])
    have hZ := hS0 V
    have hgz := hHeld.1.big
    refine hK.out _ _ ?_ (fun hHeld => ?_)
    · (exact ⟨hHeld.1.alloc _, trivial⟩)
    clear hK K
    (try simp only [Act.put, List.setIfInBounds_toArray, List.set_cons_zero, List.set_cons_succ])
    refine wpAnyP_ready (rs := [3]) (by kernel_rfl) (by simp) ?_
    refine AllReadyP.cons (o := _) rfl (fun K hK => ?_) AllReadyP.nil
    · go_simp
      (go_at_call 48; with_reducible refine (hif _ hHeld.1.old).mono ?_; rintro e w1 ⟨rfl, hb1⟩)
      replace hZ := hZ.below hb1 (by first | (rw [World.size_alloc]; exact Nat.lt_succ_self _) | (have hz := hb1.size; rw [World.size_alloc] at hz; omega))
      refine hK.out _ _ ?_ (fun hHeld => ?_)
      · (exact ⟨hHeld.1.below hb1, trivial⟩)
      clear hK K
      (try simp only [Act.put, List.setIfInBounds_toArray, List.set_cons_zero, List.set_cons_succ])
      refine wpAnyP_take0 (i := 4) (v := ?_) rfl (by kernel_rfl) (by kernel_rfl) (by kernel_rfl) (by kernel_rfl) (by rfl) (fun _ _ _ h => h) (Or.inl ⟨by rfl, ?_⟩) hHeld ?_
      rotate_left 1
      · ((intro w9 hSw; clear hSw; go_simp) <;> with_reducible rfl)
      (try simp only [Act.put, List.setIfInBounds_toArray, List.set_cons_zero, List.set_cons_succ])
      refine wpAnyP_take0 (i := 5) (v := undef) rfl (by kernel_rfl) (by kernel_rfl) (by kernel_rfl) (by kernel_rfl) (by rfl) (fun _ _ _ h => h) (Or.inr ⟨by kernel_rfl, rfl⟩) hHeld ?_
      (try simp only [Act.put, List.setIfInBounds_toArray, List.set_cons_zero, List.set_cons_succ])
      refine wpAnyP_ready (rs := [6]) (by kernel_rfl) (by simp) ?_
      refine AllReadyP.cons (o := _) rfl (fun K hK => ?_) AllReadyP.nil
      · go_simp
        refine hK.out _ _ ?_ (fun hHeld => ?_)
        · (exact hHeld)
        clear hK K
        (try simp only [Act.put, List.setIfInBounds_toArray, List.set_cons_zero, List.set_cons_succ])
        refine wpAnyP_take0 (i := 7) (v := ?_) rfl (by kernel_rfl) (by kernel_rfl) (by kernel_rfl) (by kernel_rfl) (by rfl) (fun _ _ _ h => h) (Or.inl ⟨by rfl, ?_⟩) hHeld ?_
        rotate_left 1
        · ((intro w9 hSw; clear hSw; go_simp) <;> with_reducible rfl)
        (try simp only [Act.put, List.setIfInBounds_toArray, List.set_cons_zero, List.set_cons_succ])
        refine wpAnyP_ready (rs := [8]) (by kernel_rfl) (by simp) ?_
        refine AllReadyP.cons (o := _) rfl (fun K hK => ?_) AllReadyP.nil
        · go_simp
          (go_at_call 47; with_reducible refine (hC _ hHeld.1.old).mono ?_; rintro e w2 ⟨rfl, hb2⟩)
          replace hZ := hZ.below hb2 (by first | (rw [World.size_alloc]; exact Nat.lt_succ_self _) | (have hz := hb1.size; rw [World.size_alloc] at hz; omega))
          refine hK.out _ _ ?_ (fun hHeld => ?_)
          · (exact ⟨hHeld.1.below hb2, trivial⟩)
          clear hK K
          (try simp only [Act.put, List.setIfInBounds_toArray, List.set_cons_zero, List.set_cons_succ])
          refine wpAnyP_take0 (i := 9) (v := ?_) rfl (by kernel_rfl) (by kernel_rfl) (by kernel_rfl) (by kernel_rfl) (by rfl) (fun _ _ _ h => h) (Or.inl ⟨by rfl, ?_⟩) hHeld ?_
          rotate_left 1
          · ((intro w9 hSw; clear hSw; go_simp) <;> with_reducible rfl)
          (try simp only [Act.put, List.setIfInBounds_toArray, List.set_cons_zero, List.set_cons_succ])
          refine wpAnyP_take0 (i := 10) (v := ?_) rfl (by kernel_rfl) (by kernel_rfl) (by kernel_rfl) (by kernel_rfl) (by rfl) (fun _ _ _ h => h) (Or.inl ⟨by rfl, ?_⟩) hHeld ?_
          rotate_left 1
          · ((intro w9 hSw; clear hSw; go_simp) <;> with_reducible rfl)
          (try simp only [Act.put, List.setIfInBounds_toArray, List.set_cons_zero, List.set_cons_succ])
          refine wpAnyP_take0 (i := 11) (v := ?_) rfl (by kernel_rfl) (by kernel_rfl) (by kernel_rfl) (by kernel_rfl) (by rfl) (fun _ _ _ h => h) (Or.inl ⟨by rfl, ?_⟩) hHeld ?_
          rotate_left 1
          · ((intro w9 hSw; clear hSw; go_simp) <;> with_reducible rfl)
          (try simp only [Act.put, List.setIfInBounds_toArray, List.set_cons_zero, List.set_cons_succ])
          refine wpAnyP_ready (rs := [13]) (by kernel_rfl) (by simp) ?_
          refine AllReadyP.cons (o := _) rfl (fun K hK => ?_) AllReadyP.nil
          · refine step_store_mid rfl 94 _ _ rfl V.heap.size 0 L.toArray rfl rfl (hth _ _ hZ) hiA hoL ?_
            have hL5 := hfi _ _ hZ
            have hK5 := hHeld.1.put hgz L
            refine hK.out _ _ ?_ (fun hHeld => ?_)
            · (exact ⟨hK5, trivial⟩)
            clear hK K
            (try simp only [Act.put, List.setIfInBounds_toArray, List.set_cons_zero, List.set_cons_succ])
            refine wpAnyP_take0 (i := 14) (v := ?_) rfl (by kernel_rfl) (by kernel_rfl) (by kernel_rfl) (by kernel_rfl) (by rfl) (fun _ _ _ h => h) (Or.inl ⟨by rfl, ?_⟩) hHeld ?_
            rotate_left 1
            · ((intro w9 hSw; clear hSw; go_simp) <;> with_reducible rfl)
            (try simp only [Act.put, List.setIfInBounds_toArray, List.set_cons_zero, List.set_cons_succ])
            refine wpAnyP_done (by kernel_rfl) ?_ _
            (try simp only [Act.put, List.getElem_toArray, List.getElem_cons_zero, List.getElem_cons_succ, List.setIfInBounds_toArray, List.set_cons_zero, List.set_cons_succ])
            have hO9 := hHeld.1.old
            clear hth hfi hS0 hHeld hL5 hK5 hC hif
            go_wp2
            refine bodyPost_ret (v := .tuple #[.int .i64 0, .int .i64 er']) (by simp [results, Tryz.results10, go_sem]) rfl ⟨rfl, hO9⟩
end Go.Proofs.YtmjmmokbaocboaaGreatDoor
