/- A part of the proof: see the last file. -/
import Derived.Test.YtfhakedgihecoaaGreatDoorPbh
set_option linter.unusedVariables false
set_option linter.unusedSimpArgs false
set_option linter.unusedSectionVars false
namespace Go.Proofs.YtfhakedgihecoaaGreatDoor
open Go.RowKit Go.Can
set_option maxRecDepth 100000 in
set_option maxHeartbeats 8000000 in
theorem reached_not (m : Mach) (w : World) (hk : KG w) (hs : m.sn ≤ 6) (hr : m.rn ≤ 6) (h : MIn w m) (hok : m.ok = true) (hcan : ¬ m.can) :
    Calls Tryz.prog 6 #[m.val] w fun e w' => e = .returned (.bool true) ∧ Below w.heap.size w w' := by
  obtain ⟨i0, hi, hz0, hz1, hz2⟩ := info_parts Tryz.info3
  obtain ⟨W0, hW⟩ : ∃ W0, w.alloc (.cells #[.slice m.sa m.sn m.sc, .int .i64 m.c0, .int .i64 m.c1, .int .i64 m.d0, .int .i64 m.d1, .int .i64 m.w0, .int .i64 m.w1, .int .i64 m.v0, .int .i64 m.v1, .slice m.ra m.rn m.rc] 27) = W0 := ⟨_, rfl⟩
  have hO : Below w.heap.size w W0 := by rw [← hW]; exact (Below.refl _ _).alloc (Nat.le_refl _) _
  have hM : MAt W0 w.heap.size m := by rw [← hW]; exact MAt.new w m
  have hMl : w.heap.size < W0.heap.size := by rw [← hW, World.size_alloc]; omega
  have hsl := fun (W : World) => slim_any m W (by omega) (by omega)
  rw [decide_eq_true hs, decide_eq_true hr, Bool.and_true] at hsl
  have hma := fun (W : World) (hB : Below w.heap.size w W) => rmachine_any m W (by omega) (by omega) (h.below hB)
  rw [hok] at hma
  have hA7 : Able m true 7 := ⟨(fun hx => by rw [hok] at hx; cases hx), fun _ _ => rfl, fun _ hx => absurd hx hcan⟩
  obtain ⟨X0, X1, Z0, Z1, hkn⟩ : ∃ X0 X1 Z0 Z1 : Nat → Int, ∀ (k : Nat), k ≤ 12 → ∀ W, Below w.heap.size w W → Calls Tryz.prog 20 #[m.val, .int .i64 k] W fun e w' => e = .returned (.tuple #[.agg #[.int .i64 (X0 k), .int .i64 (X1 k)], .agg #[.int .i64 (Z0 k), .int .i64 (Z1 k)], .int .i64 7]) ∧ Below W.heap.size W w' :=
    ⟨fun _ => 0, fun _ => 0, fun _ => 0, fun _ => 0, fun k hk W hB => Known_no m k 7 W (by omega) (by omega) (h.below hB) (by rw [inB_yes (n := (k : Int)) (lo := 0) (hi := 12) (by omega) (by omega)]; exact hA7) (by decide)⟩
  have hmc : ∀ W, Below w.heap.size w W → Calls Tryz.prog 10 #[m.val] W fun e w' => e = .returned (.int .i64 7) ∧ Below W.heap.size W w' := by
    obtain ⟨er, hA, hM⟩ := Machine_any m w (by omega) (by omega) h
    obtain rfl := hA.rule (by rw [hok]; rfl) hcan
    exact hM
  obtain ⟨q0, q1, q2, q3, q4, q5, q6, q7, q8, q9⟩ := id hM
  go_enter Tryz.func6, Tryz.ntmps6
  go_wp2_with (first
    | (go_at_call 7; with_reducible refine (hsl _).mono ?_; rintro e w1 ⟨rfl, hb⟩; replace hM := hM.below hb hMl; replace hMl := Nat.lt_of_lt_of_le hMl hb.size; replace hO := hO.trans (hb.mono hO.size); obtain ⟨q0, q1, q2, q3, q4, q5, q6, q7, q8, q9⟩ := id hM)
    | (go_at_call 14; with_reducible refine (hma _ hO).mono ?_; rintro e wM ⟨rfl, hb⟩; replace hM := hM.below hb hMl; replace hMl := Nat.lt_of_lt_of_le hMl hb.size; replace hO := hO.trans (hb.mono hO.size); have hC := CX.new hM hMl 30))
  have hRX : RX w (wM.heap.size + 2) ((wM.alloc (Obj.cells #[.slice none 0 0, .slice none 0 0] 30)).alloc (Obj.cells #[.slice none 0 0, .slice none 0 0] 30)) 0 0 0 0 (.slice none 0 0) (.slice none 0 0) (.slice none 0 0) (.slice none 0 0) X0 Z1 X1 Z0 :=
    ⟨⟨rfl, .inl ⟨rfl, rfl⟩⟩, ⟨rfl, .inl ⟨rfl, rfl⟩⟩, ⟨rfl, .inl ⟨rfl, rfl⟩⟩, ⟨rfl, .inl ⟨rfl, rfl⟩⟩, (fun _ hx => by cases hx), (fun _ hx => by cases hx), (fun _ hx => by cases hx), (fun _ hx => by cases hx), (fun _ hx => by cases hx), (fun _ hx => by cases hx), (hO.alloc hO.size _).alloc (by rw [World.size_alloc]; have := hO.size; omega) _, by have := hO.size; omega, by rw [World.size_alloc, World.size_alloc]; omega⟩
  clear hsl hma hW hM q0 q1 q2 q3 q4 q5 q6 q7 q8 q9
  generalize ((wM.alloc (Obj.cells #[.slice none 0 0, .slice none 0 0] 30)).alloc (Obj.cells #[.slice none 0 0, .slice none 0 0] 30)) = WL at hC hRX ⊢
  obtain ⟨A, hA⟩ : ∃ A, wM.heap.size = A := ⟨_, rfl⟩
  simp only [hA] at *
  go_loopw [5] (fun i wr => ∃ (k : Nat) (p q r s : Value), k ≤ 13 ∧ i = .int .i64 k ∧ CX w.heap.size A wr m p q r s ∧ RX w (A + 2) wr k k k k p q r s X0 Z1 X1 Z0) (fun i _ => 13 - (intOf i).toNat)
  case atStart => exact ⟨0, _, _, _, _, Nat.zero_le _, rfl, hC, hRX⟩
  case round =>
    clear hC hRX
    obtain ⟨k, p, q, r, s, hk13, rfl, hC, hRX⟩ := hrel
    have hk0 : (0 : Int) ≤ (k : Int) := Int.natCast_nonneg _
    obtain ⟨⟨q0, q1, q2, q3, q4, q5, q6, q7, q8, q9⟩, cc1, cc2, cc3, cc4, cf1, cf2, cf3, cf4, _, hbig⟩ := id hC
    by_cases hlt : k < 13
    · have hlt' : (k : Int) ≤ 12 := by omega
      have hk12 : k ≤ 12 := by omega
      go_wp2_with (first
        | (go_at_call 20; with_reducible refine (hkn k hk12 _ hRX.old).mono ?_; rintro e wK ⟨rfl, hb⟩; replace hC := hC.below hb; replace hRX := hRX.below hb; have hC2 := hC.two; have hR2 := hRX.two; have q0 := fun o1 o2 => (hC2 o1 o2).mach.k0; have q1 := fun o1 o2 => (hC2 o1 o2).mach.k1; have q2 := fun o1 o2 => (hC2 o1 o2).mach.k2; have q3 := fun o1 o2 => (hC2 o1 o2).mach.k3; have q4 := fun o1 o2 => (hC2 o1 o2).mach.k4; have q5 := fun o1 o2 => (hC2 o1 o2).mach.k5; have q6 := fun o1 o2 => (hC2 o1 o2).mach.k6; have q7 := fun o1 o2 => (hC2 o1 o2).mach.k7; have q8 := fun o1 o2 => (hC2 o1 o2).mach.k8; have q9 := fun o1 o2 => (hC2 o1 o2).mach.k9; have hAB := AB.new wK (X0 k) (X1 k) (Z0 k) (Z1 k) 24; have hAx := (show A + 2 ≤ wK.heap.size from hRX.big); have hl1 := fun j hj => (hRX.o1.lt j hj).2; have hl2 := fun j hj => (hRX.o2.lt j hj).2; have hl3 := fun j hj => (hRX.o3.lt j hj).2; have hl4 := fun j hj => (hRX.o4.lt j hj).2)
        | (go_at_call 10; with_reducible refine (hmc _ (hR2 _ _).old).mono ?_; rintro e w1 ⟨rfl, hb⟩; replace hC := (hC2 _ _).below hb; replace hRX := (hR2 _ _).below hb; replace hAB := hAB.below hb; obtain ⟨⟨q0, q1, q2, q3, q4, q5, q6, q7, q8, q9⟩, cc1, cc2, cc3, cc4, cf1, cf2, cf3, cf4, _, hbig⟩ := id hC))
      have hAw := hRX.low
      have hs1 : wK.heap.size ≤ w1.heap.size := by have := hAB.big; omega
      obtain ⟨AA0, AA1, BB0, BB1, hABg⟩ := id hAB
      obtain ⟨xb, hxb⟩ : ∃ xb, wK.heap.size = xb := ⟨_, rfl⟩
      simp only [hxb] at AA0 AA1 BB0 BB1 hl1 hl2 hl3 hl4 hs1 hAx
      have hnp := fun j hj => (show A + 2 ≤ j ∧ j < xb from ⟨(hRX.o1.lt j hj).1, hl1 j hj⟩)
      have hnq := fun j hj => (show A + 2 ≤ j ∧ j < xb from ⟨(hRX.o2.lt j hj).1, hl2 j hj⟩)
      have hnr := fun j hj => (show A + 2 ≤ j ∧ j < xb from ⟨(hRX.o3.lt j hj).1, hl3 j hj⟩)
      have hns := fun j hj => (show A + 2 ≤ j ∧ j < xb from ⟨(hRX.o4.lt j hj).1, hl4 j hj⟩)
      clear hl1 hl2 hl3 hl4 hC2 hR2 hAB hb hABg
      refine wp_region_late [13, 15] (fun w9 => w9.cell? ⟨xb, 0, none⟩ = some (.int .i64 (X0 k)) ∧ w9.cell? ⟨xb, 1, none⟩ = some (.int .i64 (X1 k)) ∧ w9.cell? ⟨xb + 1, 0, none⟩ = some (.int .i64 (Z0 k)) ∧ w9.cell? ⟨xb + 1, 1, none⟩ = some (.int .i64 (Z1 k))) (fun w9 => w9.cell? ⟨A, 0, none⟩ = some p ∧ w9.cell? ⟨A, 1, none⟩ = some q) (by kernel_rfl) ?_ (fun hHeld => ?_)
      · (exact ⟨⟨AA0, AA1, BB0, BB1⟩, cc1, cc2⟩)
      have hCd := hC.below (Below.refl _ _).drew
      have hRd := hRX.below (Below.refl _ _).drew
      have hsz := (show xb ≤ w1.drew.heap.size from hs1)
      clear hC hRX
      generalize w1.drew = Wd at hHeld hCd hRd hsz ⊢
      refine wpAnyP_take0 (i := 0) (v := ?_) rfl (by kernel_rfl) (by kernel_rfl) (by kernel_rfl) (by kernel_rfl) (by rfl) (fun _ _ _ h => h) (Or.inl ⟨by rfl, ?_⟩) hHeld ?_
      rotate_left 1
      · ((intro w9 hSw; (try dsimp only at hSw); go_simp) <;> with_reducible rfl)
      (try simp only [Act.put, List.setIfInBounds_toArray, List.set_cons_zero, List.set_cons_succ])
      refine wpAnyP_take 8 (i := 1) (v := ?_) rfl (by kernel_rfl) (by kernel_rfl) (by kernel_rfl) (by kernel_rfl) (by rfl) (by kernel_rfl) (fun _ _ _ h => h) (Or.inl ⟨by rfl, ?_⟩) hHeld ?_
      rotate_left 1
      · ((intro w9 hSw; (try dsimp only at hSw); go_simp) <;> with_reducible rfl)
      (try simp only [Act.put, List.setIfInBounds_toArray, List.set_cons_zero, List.set_cons_succ])
      refine wpAnyP_take0 (i := 2) (v := ?_) rfl (by kernel_rfl) (by kernel_rfl) (by kernel_rfl) (by kernel_rfl) (by rfl) (fun _ _ _ h => h) (Or.inl ⟨by rfl, ?_⟩) hHeld ?_
      rotate_left 1
      · ((intro w9 hSw; (try dsimp only at hSw); go_simp) <;> with_reducible rfl)
      (try simp only [Act.put, List.setIfInBounds_toArray, List.set_cons_zero, List.set_cons_succ])
      refine wpAnyP_take0 (i := 3) (v := ?_) rfl (by kernel_rfl) (by kernel_rfl) (by kernel_rfl) (by kernel_rfl) (by rfl) (fun _ _ _ h => h) (Or.inl ⟨by rfl, ?_⟩) hHeld ?_
      rotate_left 1
      · ((intro w9 hSw; (try dsimp only at hSw); go_simp) <;> with_reducible rfl)
      (try simp only [Act.put, List.setIfInBounds_toArray, List.set_cons_zero, List.set_cons_succ])
      refine wpAnyP_take0 (i := 6) (v := ?_) rfl (by kernel_rfl) (by kernel_rfl) (by kernel_rfl) (by kernel_rfl) (by rfl) (fun _ _ _ h => h) (Or.inl ⟨by rfl, ?_⟩) hHeld ?_
      rotate_left 1
      · ((intro w9 hSw; (try dsimp only at hSw); go_simp) <;> with_reducible rfl)
      (try simp only [Act.put, List.setIfInBounds_toArray, List.set_cons_zero, List.set_cons_succ])
      refine wpAnyP_take 8 (i := 7) (v := ?_) rfl (by kernel_rfl) (by kernel_rfl) (by kernel_rfl) (by kernel_rfl) (by rfl) (by kernel_rfl) (fun _ _ _ h => h) (Or.inl ⟨by rfl, ?_⟩) hHeld ?_
      rotate_left 1
      · ((intro w9 hSw; (try dsimp only at hSw); go_simp) <;> with_reducible rfl)
      (try simp only [Act.put, List.setIfInBounds_toArray, List.set_cons_zero, List.set_cons_succ])
      refine wpAnyP_take0 (i := 8) (v := ?_) rfl (by kernel_rfl) (by kernel_rfl) (by kernel_rfl) (by kernel_rfl) (by rfl) (fun _ _ _ h => h) (Or.inl ⟨by rfl, ?_⟩) hHeld ?_
      rotate_left 1
      · ((intro w9 hSw; (try dsimp only at hSw); go_simp) <;> with_reducible rfl)
      (try simp only [Act.put, List.setIfInBounds_toArray, List.set_cons_zero, List.set_cons_succ])
      refine wpAnyP_take0 (i := 9) (v := ?_) rfl (by kernel_rfl) (by kernel_rfl) (by kernel_rfl) (by kernel_rfl) (by rfl) (fun _ _ _ h => h) (Or.inl ⟨by rfl, ?_⟩) hHeld ?_
      rotate_left 1
      · ((intro w9 hSw; (try dsimp only at hSw); go_simp) <;> with_reducible rfl)
      (try simp only [Act.put, List.setIfInBounds_toArray, List.set_cons_zero, List.set_cons_succ])
      refine wpAnyP_ready (rs := [4, 10]) (by kernel_rfl) (by simp) ?_
      refine AllReadyP.cons (o := _) rfl (fun K hK => ?_) (AllReadyP.cons (o := _) rfl (fun K hK => ?_) AllReadyP.nil)
      · go_simp
        refine hK.out _ _ ?_ (fun hHeld => ?_)
        · (exact ⟨⟨ca hHeld.1.1 _, ca hHeld.1.2.1 _, ca hHeld.1.2.2.1 _, ca hHeld.1.2.2.2 _⟩, ca hHeld.2.1 _, ca hHeld.2.2 _⟩)
        clear hK K
        (try simp only [Act.put, List.setIfInBounds_toArray, List.set_cons_zero, List.set_cons_succ])
        refine wpAnyP_ready (rs := [5, 10]) (by kernel_rfl) (by simp) ?_
        refine AllReadyP.cons (o := _) rfl (fun K hK => ?_) (AllReadyP.cons (o := _) rfl (fun K hK => ?_) AllReadyP.nil)
        · (refine step_append_lies _ (by rfl) _ _ _ (by rfl) (A + 2) 3 i0 _ 1 8 Tryz.underlying28 hi hz0 hz1 hz2 rfl (by omega) p k (cellsI X0 k) (by rfl) (hRd.below ((Below.refl _ _).alloc (Nat.le_refl _) _)).o1 ⟨Wd.heap.size, 0, none⟩ 1 1 [.int .i64 (X0 k)] (by rfl) (by rfl) (World.news_of_block (cs := #[.int .i64 (X0 k)]) (t := 3) (fr := (0, 0)) (World.alloc_heap_new _ _)) (by simp [Value.oneCell']) (by omega) (by unfold maxLen; omega) (by omega) (hRd.below ((Below.refl _ _).alloc (Nat.le_refl _) _)).big _ rfl ?_; intro g5 cap5 wA5 hown5 hgrow5 hat5 hlt5; have hR5 := RX.push1 (hRd.below ((Below.refl _ _).alloc (Nat.le_refl _) _)) hgrow5 hown5 hat5; have hC5 := CX.grown (hCd.below ((Below.refl _ _).alloc (Nat.le_refl _) _)) hgrow5 (fun j hj => (hnp j hj).1); have hsz5 : xb ≤ wA5.heap.size := (by have := hgrow5.size; (try simp only [World.size_alloc] at this); omega))
          refine hK.out _ _ ?_ (fun hHeld => ?_)
          · (exact ⟨⟨hgrow5.cell hHeld.1.1 (fun e => by have := hnp _ e.symm; dsimp only at this; omega), hgrow5.cell hHeld.1.2.1 (fun e => by have := hnp _ e.symm; dsimp only at this; omega), hgrow5.cell hHeld.1.2.2.1 (fun e => by have := hnp _ e.symm; dsimp only at this; omega), hgrow5.cell hHeld.1.2.2.2 (fun e => by have := hnp _ e.symm; dsimp only at this; omega)⟩, hgrow5.cell hHeld.2.1 (fun e => by have := hnp _ e.symm; dsimp only at this; omega), hgrow5.cell hHeld.2.2 (fun e => by have := hnp _ e.symm; dsimp only at this; omega)⟩)
          clear hK K
          (try simp only [Act.put, List.setIfInBounds_toArray, List.set_cons_zero, List.set_cons_succ])
          refine wpAnyP_take0 (i := 12) (v := ?_) rfl (by kernel_rfl) (by kernel_rfl) (by kernel_rfl) (by kernel_rfl) (by rfl) (fun _ _ _ h => h) (Or.inl ⟨by rfl, ?_⟩) hHeld ?_
          rotate_left 1
          · ((intro w9 hSw; (try dsimp only at hSw); go_simp) <;> with_reducible rfl)
          (try simp only [Act.put, List.setIfInBounds_toArray, List.set_cons_zero, List.set_cons_succ])
          refine wpAnyP_ready (rs := [10]) (by kernel_rfl) (by simp) ?_
          refine AllReadyP.cons (o := _) rfl (fun K hK => ?_) AllReadyP.nil
          · go_simp
            refine hK.out _ _ ?_ (fun hHeld => ?_)
            · (exact ⟨⟨ca hHeld.1.1 _, ca hHeld.1.2.1 _, ca hHeld.1.2.2.1 _, ca hHeld.1.2.2.2 _⟩, ca hHeld.2.1 _, ca hHeld.2.2 _⟩)
            clear hK K
            (try simp only [Act.put, List.setIfInBounds_toArray, List.set_cons_zero, List.set_cons_succ])
            refine wpAnyP_ready (rs := [11]) (by kernel_rfl) (by simp) ?_
            refine AllReadyP.cons (o := _) rfl (fun K hK => ?_) AllReadyP.nil
            · (refine step_append_lies _ (by rfl) _ _ _ (by rfl) (A + 2) 3 i0 _ 1 8 Tryz.underlying28 hi hz0 hz1 hz2 rfl (by omega) q k (cellsI Z1 k) (by rfl) (hR5.below ((Below.refl _ _).alloc (Nat.le_refl _) _)).o2 ⟨wA5.heap.size, 0, none⟩ 1 1 [.int .i64 (Z1 k)] (by rfl) (by rfl) (World.news_of_block (cs := #[.int .i64 (Z1 k)]) (t := 3) (fr := (0, 0)) (World.alloc_heap_new _ _)) (by simp [Value.oneCell']) (by omega) (by unfold maxLen; omega) (by omega) (hR5.below ((Below.refl _ _).alloc (Nat.le_refl _) _)).big _ rfl ?_; intro g11 cap11 wA11 hown11 hgrow11 hat11 hlt11; have hR11 := RX.push2 (hR5.below ((Below.refl _ _).alloc (Nat.le_refl _) _)) hgrow11 hown11 hat11; have hC11 := CX.grown (hC5.below ((Below.refl _ _).alloc (Nat.le_refl _) _)) hgrow11 (fun j hj => (hnq j hj).1); have hsz11 : xb ≤ wA11.heap.size := (by have := hgrow11.size; (try simp only [World.size_alloc] at this); omega); obtain ⟨_, cc1, cc2, cc3, cc4, cf1, cf2, cf3, cf4, _, _⟩ := id hC11)
              refine hK.out _ _ ?_ (fun hHeld => ?_)
              · (exact ⟨⟨hgrow11.cell hHeld.1.1 (fun e => by have := hnq _ e.symm; dsimp only at this; omega), hgrow11.cell hHeld.1.2.1 (fun e => by have := hnq _ e.symm; dsimp only at this; omega), hgrow11.cell hHeld.1.2.2.1 (fun e => by have := hnq _ e.symm; dsimp only at this; omega), hgrow11.cell hHeld.1.2.2.2 (fun e => by have := hnq _ e.symm; dsimp only at this; omega)⟩, hgrow11.cell hHeld.2.1 (fun e => by have := hnq _ e.symm; dsimp only at this; omega), hgrow11.cell hHeld.2.2 (fun e => by have := hnq _ e.symm; dsimp only at this; omega)⟩)
              clear hK K
              (try simp only [Act.put, List.setIfInBounds_toArray, List.set_cons_zero, List.set_cons_succ])
              refine wpAnyP_ready (rs := [13]) (by kernel_rfl) (by simp) ?_
              refine AllReadyP.behind (o := _) rfl (by kernel_rfl) (fun K hK => ?_) AllReadyP.nil
              · go_simp
                refine hK.out _ _ ?_ (fun hHeld => ?_)
                · (exact ⟨(World.cell?_setCell_far _ _ _ _ (by simp; omega)).trans hHeld.1.1, (World.cell?_setCell_far _ _ _ _ (by simp; omega)).trans hHeld.1.2.1, (World.cell?_setCell_far _ _ _ _ (by simp; omega)).trans hHeld.1.2.2.1, (World.cell?_setCell_far _ _ _ _ (by simp; omega)).trans hHeld.1.2.2.2⟩)
                clear hK K
                (try simp only [Act.put, List.setIfInBounds_toArray, List.set_cons_zero, List.set_cons_succ])
                refine wpAnyP_takeB (i := 14) (v := ?_) rfl (by kernel_rfl) (by kernel_rfl) (by kernel_rfl) (by kernel_rfl) (by rfl) (by kernel_rfl) (fun _ _ _ h => h) (Or.inl ⟨by rfl, ?_⟩) hHeld ?_
                rotate_left 1
                · ((intro w9 hSw; (try dsimp only at hSw); go_simp) <;> with_reducible rfl)
                (try simp only [Act.put, List.setIfInBounds_toArray, List.set_cons_zero, List.set_cons_succ])
                refine wpAnyP_ready (rs := [15]) (by kernel_rfl) (by simp) ?_
                refine AllReadyP.behind (o := _) rfl (by kernel_rfl) (fun K hK => ?_) AllReadyP.nil
                · go_simp
                  refine hK.out _ _ ?_ (fun hHeld => ?_)
                  · (exact ⟨(World.cell?_setCell_far _ _ _ _ (by simp; omega)).trans hHeld.1, (World.cell?_setCell_far _ _ _ _ (by simp; omega)).trans hHeld.2.1, (World.cell?_setCell_far _ _ _ _ (by simp; omega)).trans hHeld.2.2.1, (World.cell?_setCell_far _ _ _ _ (by simp; omega)).trans hHeld.2.2.2⟩)
                  clear hK K
                  (try simp only [Act.put, List.setIfInBounds_toArray, List.set_cons_zero, List.set_cons_succ])
                  refine wpAnyP_done (by kernel_rfl) ?_ _
                  (try simp only [Act.put, List.getElem_toArray, List.getElem_cons_zero, List.getElem_cons_succ, List.setIfInBounds_toArray, List.set_cons_zero, List.set_cons_succ])
                  have hC12 := (hC11.set1 (.slice (some ⟨g5, 0, none⟩) (k + 1) cap5)).set2 (.slice (some ⟨g11, 0, none⟩) (k + 1) cap11)
                  have hR12 := (hR11.set (a := ⟨A, 0, none⟩) (by show w.heap.size ≤ A; omega) (by show A < A + 2; omega) (.slice (some ⟨g5, 0, none⟩) (k + 1) cap5)).set (a := ⟨A, 1, none⟩) (by show w.heap.size ≤ A; omega) (by show A < A + 2; omega) (.slice (some ⟨g11, 0, none⟩) (k + 1) cap11)
                  have hsB : xb ≤ ((wA11.setCell ⟨A, 0, none⟩ (.slice (some ⟨g5, 0, none⟩) (k + 1) cap5)).setCell ⟨A, 1, none⟩ (.slice (some ⟨g11, 0, none⟩) (k + 1) cap11)).heap.size := by
                    rw [setCell_size, setCell_size]; exact hsz11
                  clear hC11 hR11 hC5 hR5 hown5 hown11 hat5 hat11 hlt5 hlt11 cc1 cc2 cc3 cc4 cf1 cf2 cf3 cf4 hgrow5 hgrow11 hsz11
                  generalize ((wA11.setCell ⟨A, 0, none⟩ (.slice (some ⟨g5, 0, none⟩) (k + 1) cap5)).setCell ⟨A, 1, none⟩ (.slice (some ⟨g11, 0, none⟩) (k + 1) cap11)) = WB at hC12 hR12 hHeld hsB ⊢
                  have hC := hC12
                  have hRX := hR12
                  clear hC12 hR12
                  obtain ⟨_, cc1, cc2, cc3, cc4, cf1, cf2, cf3, cf4, _, _⟩ := id hC
                  go_wp2_with fail
                  refine wp_region_late [13, 15] (fun w9 => w9.cell? ⟨xb, 0, none⟩ = some (.int .i64 (X0 k)) ∧ w9.cell? ⟨xb, 1, none⟩ = some (.int .i64 (X1 k)) ∧ w9.cell? ⟨xb + 1, 0, none⟩ = some (.int .i64 (Z0 k)) ∧ w9.cell? ⟨xb + 1, 1, none⟩ = some (.int .i64 (Z1 k))) (fun w9 => w9.cell? ⟨A + 1, 0, none⟩ = some r ∧ w9.cell? ⟨A + 1, 1, none⟩ = some s) (by kernel_rfl) ?_ (fun hHeld => ?_)
                  · (exact ⟨hHeld, cc3, cc4⟩)
                  have hCd := hC.below (Below.refl _ _).drew
                  have hRd := hRX.below (Below.refl _ _).drew
                  have hsz := (show xb ≤ WB.drew.heap.size from hsB)
                  clear hC hRX
                  generalize WB.drew = We at hHeld hCd hRd hsz ⊢
                  refine wpAnyP_take0 (i := 0) (v := ?_) rfl (by kernel_rfl) (by kernel_rfl) (by kernel_rfl) (by kernel_rfl) (by rfl) (fun _ _ _ h => h) (Or.inl ⟨by rfl, ?_⟩) hHeld ?_
                  rotate_left 1
                  · ((intro w9 hSw; (try dsimp only at hSw); go_simp) <;> with_reducible rfl)
                  (try simp only [Act.put, List.setIfInBounds_toArray, List.set_cons_zero, List.set_cons_succ])
                  refine wpAnyP_take 8 (i := 1) (v := ?_) rfl (by kernel_rfl) (by kernel_rfl) (by kernel_rfl) (by kernel_rfl) (by rfl) (by kernel_rfl) (fun _ _ _ h => h) (Or.inl ⟨by rfl, ?_⟩) hHeld ?_
                  rotate_left 1
                  · ((intro w9 hSw; (try dsimp only at hSw); go_simp) <;> with_reducible rfl)
                  (try simp only [Act.put, List.setIfInBounds_toArray, List.set_cons_zero, List.set_cons_succ])
                  refine wpAnyP_take0 (i := 2) (v := ?_) rfl (by kernel_rfl) (by kernel_rfl) (by kernel_rfl) (by kernel_rfl) (by rfl) (fun _ _ _ h => h) (Or.inl ⟨by rfl, ?_⟩) hHeld ?_
                  rotate_left 1
                  · ((intro w9 hSw; (try dsimp only at hSw); go_simp) <;> with_reducible rfl)
                  (try simp only [Act.put, List.setIfInBounds_toArray, List.set_cons_zero, List.set_cons_succ])
                  refine wpAnyP_take0 (i := 3) (v := ?_) rfl (by kernel_rfl) (by kernel_rfl) (by kernel_rfl) (by kernel_rfl) (by rfl) (fun _ _ _ h => h) (Or.inl ⟨by rfl, ?_⟩) hHeld ?_
                  rotate_left 1
                  · ((intro w9 hSw; (try dsimp only at hSw); go_simp) <;> with_reducible rfl)
                  (try simp only [Act.put, List.setIfInBounds_toArray, List.set_cons_zero, List.set_cons_succ])
                  refine wpAnyP_take0 (i := 6) (v := ?_) rfl (by kernel_rfl) (by kernel_rfl) (by kernel_rfl) (by kernel_rfl) (by rfl) (fun _ _ _ h => h) (Or.inl ⟨by rfl, ?_⟩) hHeld ?_
                  rotate_left 1
                  · ((intro w9 hSw; (try dsimp only at hSw); go_simp) <;> with_reducible rfl)
                  (try simp only [Act.put, List.setIfInBounds_toArray, List.set_cons_zero, List.set_cons_succ])
                  refine wpAnyP_take 8 (i := 7) (v := ?_) rfl (by kernel_rfl) (by kernel_rfl) (by kernel_rfl) (by kernel_rfl) (by rfl) (by kernel_rfl) (fun _ _ _ h => h) (Or.inl ⟨by rfl, ?_⟩) hHeld ?_
                  rotate_left 1
                  · ((intro w9 hSw; (try dsimp only at hSw); go_simp) <;> with_reducible rfl)
                  (try simp only [Act.put, List.setIfInBounds_toArray, List.set_cons_zero, List.set_cons_succ])
                  refine wpAnyP_take0 (i := 8) (v := ?_) rfl (by kernel_rfl) (by kernel_rfl) (by kernel_rfl) (by kernel_rfl) (by rfl) (fun _ _ _ h => h) (Or.inl ⟨by rfl, ?_⟩) hHeld ?_
                  rotate_left 1
                  · ((intro w9 hSw; (try dsimp only at hSw); go_simp) <;> with_reducible rfl)
                  (try simp only [Act.put, List.setIfInBounds_toArray, List.set_cons_zero, List.set_cons_succ])
                  refine wpAnyP_take0 (i := 9) (v := ?_) rfl (by kernel_rfl) (by kernel_rfl) (by kernel_rfl) (by kernel_rfl) (by rfl) (fun _ _ _ h => h) (Or.inl ⟨by rfl, ?_⟩) hHeld ?_
                  rotate_left 1
                  · ((intro w9 hSw; (try dsimp only at hSw); go_simp) <;> with_reducible rfl)
                  (try simp only [Act.put, List.setIfInBounds_toArray, List.set_cons_zero, List.set_cons_succ])
                  refine wpAnyP_ready (rs := [4, 10]) (by kernel_rfl) (by simp) ?_
                  refine AllReadyP.cons (o := _) rfl (fun K hK => ?_) (AllReadyP.cons (o := _) rfl (fun K hK => ?_) AllReadyP.nil)
                  · go_simp
                    refine hK.out _ _ ?_ (fun hHeld => ?_)
                    · (exact ⟨⟨ca hHeld.1.1 _, ca hHeld.1.2.1 _, ca hHeld.1.2.2.1 _, ca hHeld.1.2.2.2 _⟩, ca hHeld.2.1 _, ca hHeld.2.2 _⟩)
                    clear hK K
                    (try simp only [Act.put, List.setIfInBounds_toArray, List.set_cons_zero, List.set_cons_succ])
                    refine wpAnyP_ready (rs := [5, 10]) (by kernel_rfl) (by simp) ?_
                    refine AllReadyP.cons (o := _) rfl (fun K hK => ?_) (AllReadyP.cons (o := _) rfl (fun K hK => ?_) AllReadyP.nil)
                    · (refine step_append_lies _ (by rfl) _ _ _ (by rfl) (A + 2) 3 i0 _ 1 8 Tryz.underlying28 hi hz0 hz1 hz2 rfl (by omega) r k (cellsI X1 k) (by rfl) (hRd.below ((Below.refl _ _).alloc (Nat.le_refl _) _)).o3 ⟨We.heap.size, 0, none⟩ 1 1 [.int .i64 (X1 k)] (by rfl) (by rfl) (World.news_of_block (cs := #[.int .i64 (X1 k)]) (t := 3) (fr := (0, 0)) (World.alloc_heap_new _ _)) (by simp [Value.oneCell']) (by omega) (by unfold maxLen; omega) (by omega) (hRd.below ((Below.refl _ _).alloc (Nat.le_refl _) _)).big _ rfl ?_; intro g5 cap5 wA5 hown5 hgrow5 hat5 hlt5; have hR5 := RX.push3 (hRd.below ((Below.refl _ _).alloc (Nat.le_refl _) _)) hgrow5 hown5 hat5; have hC5 := CX.grown (hCd.below ((Below.refl _ _).alloc (Nat.le_refl _) _)) hgrow5 (fun j hj => (hnr j hj).1); have hsz5 : xb ≤ wA5.heap.size := (by have := hgrow5.size; (try simp only [World.size_alloc] at this); omega))
                      refine hK.out _ _ ?_ (fun hHeld => ?_)
                      · (exact ⟨⟨hgrow5.cell hHeld.1.1 (fun e => by have := hnr _ e.symm; dsimp only at this; omega), hgrow5.cell hHeld.1.2.1 (fun e => by have := hnr _ e.symm; dsimp only at this; omega), hgrow5.cell hHeld.1.2.2.1 (fun e => by have := hnr _ e.symm; dsimp only at this; omega), hgrow5.cell hHeld.1.2.2.2 (fun e => by have := hnr _ e.symm; dsimp only at this; omega)⟩, hgrow5.cell hHeld.2.1 (fun e => by have := hnr _ e.symm; dsimp only at this; omega), hgrow5.cell hHeld.2.2 (fun e => by have := hnr _ e.symm; dsimp only at this; omega)⟩)
                      clear hK K
                      (try simp only [Act.put, List.setIfInBounds_toArray, List.set_cons_zero, List.set_cons_succ])
                      refine wpAnyP_take0 (i := 12) (v := ?_) rfl (by kernel_rfl) (by kernel_rfl) (by kernel_rfl) (by kernel_rfl) (by rfl) (fun _ _ _ h => h) (Or.inl ⟨by rfl, ?_⟩) hHeld ?_
                      rotate_left 1
                      · ((intro w9 hSw; (try dsimp only at hSw); go_simp) <;> with_reducible rfl)
                      (try simp only [Act.put, List.setIfInBounds_toArray, List.set_cons_zero, List.set_cons_succ])
                      refine wpAnyP_ready (rs := [10]) (by kernel_rfl) (by simp) ?_
                      refine AllReadyP.cons (o := _) rfl (fun K hK => ?_) AllReadyP.nil
                      · go_simp
                        refine hK.out _ _ ?_ (fun hHeld => ?_)
                        · (exact ⟨⟨ca hHeld.1.1 _, ca hHeld.1.2.1 _, ca hHeld.1.2.2.1 _, ca hHeld.1.2.2.2 _⟩, ca hHeld.2.1 _, ca hHeld.2.2 _⟩)
                        clear hK K
                        (try simp only [Act.put, List.setIfInBounds_toArray, List.set_cons_zero, List.set_cons_succ])
                        refine wpAnyP_ready (rs := [11]) (by kernel_rfl) (by simp) ?_
                        refine AllReadyP.cons (o := _) rfl (fun K hK => ?_) AllReadyP.nil
                        · (refine step_append_lies _ (by rfl) _ _ _ (by rfl) (A + 2) 3 i0 _ 1 8 Tryz.underlying28 hi hz0 hz1 hz2 rfl (by omega) s k (cellsI Z0 k) (by rfl) (hR5.below ((Below.refl _ _).alloc (Nat.le_refl _) _)).o4 ⟨wA5.heap.size, 0, none⟩ 1 1 [.int .i64 (Z0 k)] (by rfl) (by rfl) (World.news_of_block (cs := #[.int .i64 (Z0 k)]) (t := 3) (fr := (0, 0)) (World.alloc_heap_new _ _)) (by simp [Value.oneCell']) (by omega) (by unfold maxLen; omega) (by omega) (hR5.below ((Below.refl _ _).alloc (Nat.le_refl _) _)).big _ rfl ?_; intro g11 cap11 wA11 hown11 hgrow11 hat11 hlt11; have hR11 := RX.push4 (hR5.below ((Below.refl _ _).alloc (Nat.le_refl _) _)) hgrow11 hown11 hat11; have hC11 := CX.grown (hC5.below ((Below.refl _ _).alloc (Nat.le_refl _) _)) hgrow11 (fun j hj => (hns j hj).1); have hsz11 : xb ≤ wA11.heap.size := (by have := hgrow11.size; (try simp only [World.size_alloc] at this); omega); obtain ⟨_, cc1, cc2, cc3, cc4, cf1, cf2, cf3, cf4, _, _⟩ := id hC11)
                          refine hK.out _ _ ?_ (fun hHeld => ?_)
                          · (exact ⟨⟨hgrow11.cell hHeld.1.1 (fun e => by have := hns _ e.symm; dsimp only at this; omega), hgrow11.cell hHeld.1.2.1 (fun e => by have := hns _ e.symm; dsimp only at this; omega), hgrow11.cell hHeld.1.2.2.1 (fun e => by have := hns _ e.symm; dsimp only at this; omega), hgrow11.cell hHeld.1.2.2.2 (fun e => by have := hns _ e.symm; dsimp only at this; omega)⟩, hgrow11.cell hHeld.2.1 (fun e => by have := hns _ e.symm; dsimp only at this; omega), hgrow11.cell hHeld.2.2 (fun e => by have := hns _ e.symm; dsimp only at this; omega)⟩)
                          clear hK K
                          (try simp only [Act.put, List.setIfInBounds_toArray, List.set_cons_zero, List.set_cons_succ])
                          refine wpAnyP_ready (rs := [13]) (by kernel_rfl) (by simp) ?_
                          refine AllReadyP.behind (o := _) rfl (by kernel_rfl) (fun K hK => ?_) AllReadyP.nil
                          · go_simp
                            refine hK.out _ _ ?_ (fun hHeld => ?_)
                            · (exact ⟨(World.cell?_setCell_far _ _ _ _ (by simp; omega)).trans hHeld.1.1, (World.cell?_setCell_far _ _ _ _ (by simp; omega)).trans hHeld.1.2.1, (World.cell?_setCell_far _ _ _ _ (by simp; omega)).trans hHeld.1.2.2.1, (World.cell?_setCell_far _ _ _ _ (by simp; omega)).trans hHeld.1.2.2.2⟩)
                            clear hK K
                            (try simp only [Act.put, List.setIfInBounds_toArray, List.set_cons_zero, List.set_cons_succ])
                            refine wpAnyP_takeB (i := 14) (v := ?_) rfl (by kernel_rfl) (by kernel_rfl) (by kernel_rfl) (by kernel_rfl) (by rfl) (by kernel_rfl) (fun _ _ _ h => h) (Or.inl ⟨by rfl, ?_⟩) hHeld ?_
                            rotate_left 1
                            · ((intro w9 hSw; (try dsimp only at hSw); go_simp) <;> with_reducible rfl)
                            (try simp only [Act.put, List.setIfInBounds_toArray, List.set_cons_zero, List.set_cons_succ])
                            refine wpAnyP_ready (rs := [15]) (by kernel_rfl) (by simp) ?_
                            refine AllReadyP.behind (o := _) rfl (by kernel_rfl) (fun K hK => ?_) AllReadyP.nil
                            · go_simp
                              refine hK.out _ _ ?_ (fun hHeld => ?_)
                              · (exact ⟨(World.cell?_setCell_far _ _ _ _ (by simp; omega)).trans hHeld.1, (World.cell?_setCell_far _ _ _ _ (by simp; omega)).trans hHeld.2.1, (World.cell?_setCell_far _ _ _ _ (by simp; omega)).trans hHeld.2.2.1, (World.cell?_setCell_far _ _ _ _ (by simp; omega)).trans hHeld.2.2.2⟩)
                              clear hK K
                              (try simp only [Act.put, List.setIfInBounds_toArray, List.set_cons_zero, List.set_cons_succ])
                              refine wpAnyP_done (by kernel_rfl) ?_ _
                              (try simp only [Act.put, List.getElem_toArray, List.getElem_cons_zero, List.getElem_cons_succ, List.setIfInBounds_toArray, List.set_cons_zero, List.set_cons_succ])
                              clear hHeld
                              have hC12 := (hC11.set3 (.slice (some ⟨g5, 0, none⟩) (k + 1) cap5)).set4 (.slice (some ⟨g11, 0, none⟩) (k + 1) cap11)
                              have hR12 := (hR11.set (a := ⟨A + 1, 0, none⟩) (by show w.heap.size ≤ A + 1; omega) (by show A + 1 < A + 2; omega) (.slice (some ⟨g5, 0, none⟩) (k + 1) cap5)).set (a := ⟨A + 1, 1, none⟩) (by show w.heap.size ≤ A + 1; omega) (by show A + 1 < A + 2; omega) (.slice (some ⟨g11, 0, none⟩) (k + 1) cap11)
                              go_wp2
                              go_roundw
                              case rel => exact ⟨k + 1, _, _, _, _, by omega, by go_num, hC12, hR12⟩
                              case measure => simp [intOf]; omega
                    · go_simp
                      refine hK.out _ _ ?_ (fun hHeld => ?_)
                      · (exact ⟨⟨ca hHeld.1.1 _, ca hHeld.1.2.1 _, ca hHeld.1.2.2.1 _, ca hHeld.1.2.2.2 _⟩, ca hHeld.2.1 _, ca hHeld.2.2 _⟩)
                      clear hK K
                      (try simp only [Act.put, List.setIfInBounds_toArray, List.set_cons_zero, List.set_cons_succ])
                      refine wpAnyP_ready (rs := [5]) (by kernel_rfl) (by simp) ?_
                      refine AllReadyP.cons (o := _) rfl (fun K hK => ?_) AllReadyP.nil
                      · (refine step_append_lies _ (by rfl) _ _ _ (by rfl) (A + 2) 3 i0 _ 1 8 Tryz.underlying28 hi hz0 hz1 hz2 rfl (by omega) r k (cellsI X1 k) (by rfl) ((hRd.below ((Below.refl _ _).alloc (Nat.le_refl _) _)).below ((Below.refl _ _).alloc (Nat.le_refl _) _)).o3 ⟨We.heap.size, 0, none⟩ 1 1 [.int .i64 (X1 k)] (by rfl) (by rfl) (World.news_of_block (cs := #[.int .i64 (X1 k)]) (t := 3) (fr := (0, 0)) (hb_alloc (World.alloc_heap_new _ _) _)) (by simp [Value.oneCell']) (by omega) (by unfold maxLen; omega) (by omega) ((hRd.below ((Below.refl _ _).alloc (Nat.le_refl _) _)).below ((Below.refl _ _).alloc (Nat.le_refl _) _)).big _ rfl ?_; intro g5 cap5 wA5 hown5 hgrow5 hat5 hlt5; have hR5 := RX.push3 ((hRd.below ((Below.refl _ _).alloc (Nat.le_refl _) _)).below ((Below.refl _ _).alloc (Nat.le_refl _) _)) hgrow5 hown5 hat5; have hC5 := CX.grown ((hCd.below ((Below.refl _ _).alloc (Nat.le_refl _) _)).below ((Below.refl _ _).alloc (Nat.le_refl _) _)) hgrow5 (fun j hj => (hnr j hj).1); have hx10 := hb_grown (hb_new2 _ _ _ _) hgrow5 (fun e => by have := (hnr _ e.symm).2; have := hsz; omega); have hsz5 : xb ≤ wA5.heap.size := (by have := hgrow5.size; (try simp only [World.size_alloc] at this); omega))
                        refine hK.out _ _ ?_ (fun hHeld => ?_)
                        · (exact ⟨⟨hgrow5.cell hHeld.1.1 (fun e => by have := hnr _ e.symm; dsimp only at this; omega), hgrow5.cell hHeld.1.2.1 (fun e => by have := hnr _ e.symm; dsimp only at this; omega), hgrow5.cell hHeld.1.2.2.1 (fun e => by have := hnr _ e.symm; dsimp only at this; omega), hgrow5.cell hHeld.1.2.2.2 (fun e => by have := hnr _ e.symm; dsimp only at this; omega)⟩, hgrow5.cell hHeld.2.1 (fun e => by have := hnr _ e.symm; dsimp only at this; omega), hgrow5.cell hHeld.2.2 (fun e => by have := hnr _ e.symm; dsimp only at this; omega)⟩)
                        clear hK K
                        (try simp only [Act.put, List.setIfInBounds_toArray, List.set_cons_zero, List.set_cons_succ])
                        refine wpAnyP_take0 (i := 12) (v := ?_) rfl (by kernel_rfl) (by kernel_rfl) (by kernel_rfl) (by kernel_rfl) (by rfl) (fun _ _ _ h => h) (Or.inl ⟨by rfl, ?_⟩) hHeld ?_
                        rotate_left 1
                        · ((intro w9 hSw; (try dsimp only at hSw); go_simp) <;> with_reducible rfl)
                        (try simp only [Act.put, List.setIfInBounds_toArray, List.set_cons_zero, List.set_cons_succ])
                        refine wpAnyP_ready (rs := [11]) (by kernel_rfl) (by simp) ?_
                        refine AllReadyP.cons (o := _) rfl (fun K hK => ?_) AllReadyP.nil
                        · (refine step_append_lies _ (by rfl) _ _ _ (by rfl) (A + 2) 3 i0 _ 1 8 Tryz.underlying28 hi hz0 hz1 hz2 rfl (by omega) s k (cellsI Z0 k) (by rfl) hR5.o4 ⟨We.heap.size + 1, 0, none⟩ 1 1 [.int .i64 (Z0 k)] (by rfl) (by rfl) (World.news_of_block (cs := #[.int .i64 (Z0 k)]) (t := 3) (fr := (0, 0)) hx10) (by simp [Value.oneCell']) (by omega) (by unfold maxLen; omega) (by omega) hR5.big _ rfl ?_; intro g11 cap11 wA11 hown11 hgrow11 hat11 hlt11; have hR11 := RX.push4 hR5 hgrow11 hown11 hat11; have hC11 := CX.grown hC5 hgrow11 (fun j hj => (hns j hj).1); have hsz11 : xb ≤ wA11.heap.size := (by have := hgrow11.size; (try simp only [World.size_alloc] at this); omega); obtain ⟨_, cc1, cc2, cc3, cc4, cf1, cf2, cf3, cf4, _, _⟩ := id hC11)
                          refine hK.out _ _ ?_ (fun hHeld => ?_)
                          · (exact ⟨⟨hgrow11.cell hHeld.1.1 (fun e => by have := hns _ e.symm; dsimp only at this; omega), hgrow11.cell hHeld.1.2.1 (fun e => by have := hns _ e.symm; dsimp only at this; omega), hgrow11.cell hHeld.1.2.2.1 (fun e => by have := hns _ e.symm; dsimp only at this; omega), hgrow11.cell hHeld.1.2.2.2 (fun e => by have := hns _ e.symm; dsimp only at this; omega)⟩, hgrow11.cell hHeld.2.1 (fun e => by have := hns _ e.symm; dsimp only at this; omega), hgrow11.cell hHeld.2.2 (fun e => by have := hns _ e.symm; dsimp only at this; omega)⟩)
                          clear hK K
                          (try simp only [Act.put, List.setIfInBounds_toArray, List.set_cons_zero, List.set_cons_succ])
                          refine wpAnyP_ready (rs := [13]) (by kernel_rfl) (by simp) ?_
                          refine AllReadyP.behind (o := _) rfl (by kernel_rfl) (fun K hK => ?_) AllReadyP.nil
                          · go_simp
                            refine hK.out _ _ ?_ (fun hHeld => ?_)
                            · (exact ⟨(World.cell?_setCell_far _ _ _ _ (by simp; omega)).trans hHeld.1.1, (World.cell?_setCell_far _ _ _ _ (by simp; omega)).trans hHeld.1.2.1, (World.cell?_setCell_far _ _ _ _ (by simp; omega)).trans hHeld.1.2.2.1, (World.cell?_setCell_far _ _ _ _ (by simp; omega)).trans hHeld.1.2.2.2⟩)
                            clear hK K
                            (try simp only [Act.put, List.setIfInBounds_toArray, List.set_cons_zero, List.set_cons_succ])
                            refine wpAnyP_takeB (i := 14) (v := ?_) rfl (by kernel_rfl) (by kernel_rfl) (by kernel_rfl) (by kernel_rfl) (by rfl) (by kernel_rfl) (fun _ _ _ h => h) (Or.inl ⟨by rfl, ?_⟩) hHeld ?_
                            rotate_left 1
                            · ((intro w9 hSw; (try dsimp only at hSw); go_simp) <;> with_reducible rfl)
                            (try simp only [Act.put, List.setIfInBounds_toArray, List.set_cons_zero, List.set_cons_succ])
                            refine wpAnyP_ready (rs := [15]) (by kernel_rfl) (by simp) ?_
                            refine AllReadyP.behind (o := _) rfl (by kernel_rfl) (fun K hK => ?_) AllReadyP.nil
                            · go_simp
                              refine hK.out _ _ ?_ (fun hHeld => ?_)
                              · (exact ⟨(World.cell?_setCell_far _ _ _ _ (by simp; omega)).trans hHeld.1, (World.cell?_setCell_far _ _ _ _ (by simp; omega)).trans hHeld.2.1, (World.cell?_setCell_far _ _ _ _ (by simp; omega)).trans hHeld.2.2.1, (World.cell?_setCell_far _ _ _ _ (by simp; omega)).trans hHeld.2.2.2⟩)
                              clear hK K
                              (try simp only [Act.put, List.setIfInBounds_toArray, List.set_cons_zero, List.set_cons_succ])
                              refine wpAnyP_done (by kernel_rfl) ?_ _
                              (try simp only [Act.put, List.getElem_toArray, List.getElem_cons_zero, List.getElem_cons_succ, List.setIfInBounds_toArray, List.set_cons_zero, List.set_cons_succ])
                              clear hHeld
                              have hC12 := (hC11.set3 (.slice (some ⟨g5, 0, none⟩) (k + 1) cap5)).set4 (.slice (some ⟨g11, 0, none⟩) (k + 1) cap11)
                              have hR12 := (hR11.set (a := ⟨A + 1, 0, none⟩) (by show w.heap.size ≤ A + 1; omega) (by show A + 1 < A + 2; omega) (.slice (some ⟨g5, 0, none⟩) (k + 1) cap5)).set (a := ⟨A + 1, 1, none⟩) (by show w.heap.size ≤ A + 1; omega) (by show A + 1 < A + 2; omega) (.slice (some ⟨g11, 0, none⟩) (k + 1) cap11)
                              go_wp2
                              go_roundw
                              case rel => exact ⟨k + 1, _, _, _, _, by omega, by go_num, hC12, hR12⟩
                              case measure => simp [intOf]; omega
                  · go_simp
                    refine hK.out _ _ ?_ (fun hHeld => ?_)
                    · (exact ⟨⟨ca hHeld.1.1 _, ca hHeld.1.2.1 _, ca hHeld.1.2.2.1 _, ca hHeld.1.2.2.2 _⟩, ca hHeld.2.1 _, ca hHeld.2.2 _⟩)
                    clear hK K
                    (try simp only [Act.put, List.setIfInBounds_toArray, List.set_cons_zero, List.set_cons_succ])
                    refine wpAnyP_ready (rs := [4]) (by kernel_rfl) (by simp) ?_
                    refine AllReadyP.cons (o := _) rfl (fun K hK => ?_) AllReadyP.nil
                    · go_simp
                      refine hK.out _ _ ?_ (fun hHeld => ?_)
                      · (exact ⟨⟨ca hHeld.1.1 _, ca hHeld.1.2.1 _, ca hHeld.1.2.2.1 _, ca hHeld.1.2.2.2 _⟩, ca hHeld.2.1 _, ca hHeld.2.2 _⟩)
                      clear hK K
                      (try simp only [Act.put, List.setIfInBounds_toArray, List.set_cons_zero, List.set_cons_succ])
                      refine wpAnyP_ready (rs := [5]) (by kernel_rfl) (by simp) ?_
                      refine AllReadyP.cons (o := _) rfl (fun K hK => ?_) AllReadyP.nil
                      · (refine step_append_lies _ (by rfl) _ _ _ (by rfl) (A + 2) 3 i0 _ 1 8 Tryz.underlying28 hi hz0 hz1 hz2 rfl (by omega) r k (cellsI X1 k) (by rfl) ((hRd.below ((Below.refl _ _).alloc (Nat.le_refl _) _)).below ((Below.refl _ _).alloc (Nat.le_refl _) _)).o3 ⟨We.heap.size + 1, 0, none⟩ 1 1 [.int .i64 (X1 k)] (by rfl) (by rfl) (World.news_of_block (cs := #[.int .i64 (X1 k)]) (t := 3) (fr := (0, 0)) (hb_new2 _ _ _ _)) (by simp [Value.oneCell']) (by omega) (by unfold maxLen; omega) (by omega) ((hRd.below ((Below.refl _ _).alloc (Nat.le_refl _) _)).below ((Below.refl _ _).alloc (Nat.le_refl _) _)).big _ rfl ?_; intro g5 cap5 wA5 hown5 hgrow5 hat5 hlt5; have hR5 := RX.push3 ((hRd.below ((Below.refl _ _).alloc (Nat.le_refl _) _)).below ((Below.refl _ _).alloc (Nat.le_refl _) _)) hgrow5 hown5 hat5; have hC5 := CX.grown ((hCd.below ((Below.refl _ _).alloc (Nat.le_refl _) _)).below ((Below.refl _ _).alloc (Nat.le_refl _) _)) hgrow5 (fun j hj => (hnr j hj).1); have hx10 := hb_grown (hb_alloc (World.alloc_heap_new _ _) _) hgrow5 (fun e => by have := (hnr _ e.symm).2; have := hsz; omega); have hsz5 : xb ≤ wA5.heap.size := (by have := hgrow5.size; (try simp only [World.size_alloc] at this); omega))
                        refine hK.out _ _ ?_ (fun hHeld => ?_)
                        · (exact ⟨⟨hgrow5.cell hHeld.1.1 (fun e => by have := hnr _ e.symm; dsimp only at this; omega), hgrow5.cell hHeld.1.2.1 (fun e => by have := hnr _ e.symm; dsimp only at this; omega), hgrow5.cell hHeld.1.2.2.1 (fun e => by have := hnr _ e.symm; dsimp only at this; omega), hgrow5.cell hHeld.1.2.2.2 (fun e => by have := hnr _ e.symm; dsimp only at this; omega)⟩, hgrow5.cell hHeld.2.1 (fun e => by have := hnr _ e.symm; dsimp only at this; omega), hgrow5.cell hHeld.2.2 (fun e => by have := hnr _ e.symm; dsimp only at this; omega)⟩)
                        clear hK K
                        (try simp only [Act.put, List.setIfInBounds_toArray, List.set_cons_zero, List.set_cons_succ])
                        refine wpAnyP_take0 (i := 12) (v := ?_) rfl (by kernel_rfl) (by kernel_rfl) (by kernel_rfl) (by kernel_rfl) (by rfl) (fun _ _ _ h => h) (Or.inl ⟨by rfl, ?_⟩) hHeld ?_
                        rotate_left 1
                        · ((intro w9 hSw; (try dsimp only at hSw); go_simp) <;> with_reducible rfl)
                        (try simp only [Act.put, List.setIfInBounds_toArray, List.set_cons_zero, List.set_cons_succ])
                        refine wpAnyP_ready (rs := [11]) (by kernel_rfl) (by simp) ?_
                        refine AllReadyP.cons (o := _) rfl (fun K hK => ?_) AllReadyP.nil
                        · (refine step_append_lies _ (by rfl) _ _ _ (by rfl) (A + 2) 3 i0 _ 1 8 Tryz.underlying28 hi hz0 hz1 hz2 rfl (by omega) s k (cellsI Z0 k) (by rfl) hR5.o4 ⟨We.heap.size, 0, none⟩ 1 1 [.int .i64 (Z0 k)] (by rfl) (by rfl) (World.news_of_block (cs := #[.int .i64 (Z0 k)]) (t := 3) (fr := (0, 0)) hx10) (by simp [Value.oneCell']) (by omega) (by unfold maxLen; omega) (by omega) hR5.big _ rfl ?_; intro g11 cap11 wA11 hown11 hgrow11 hat11 hlt11; have hR11 := RX.push4 hR5 hgrow11 hown11 hat11; have hC11 := CX.grown hC5 hgrow11 (fun j hj => (hns j hj).1); have hsz11 : xb ≤ wA11.heap.size := (by have := hgrow11.size; (try simp only [World.size_alloc] at this); omega); obtain ⟨_, cc1, cc2, cc3, cc4, cf1, cf2, cf3, cf4, _, _⟩ := id hC11)
                          refine hK.out _ _ ?_ (fun hHeld => ?_)
                          · (exact ⟨⟨hgrow11.cell hHeld.1.1 (fun e => by have := hns _ e.symm; dsimp only at this; omega), hgrow11.cell hHeld.1.2.1 (fun e => by have := hns _ e.symm; dsimp only at this; omega), hgrow11.cell hHeld.1.2.2.1 (fun e => by have := hns _ e.symm; dsimp only at this; omega), hgrow11.cell hHeld.1.2.2.2 (fun e => by have := hns _ e.symm; dsimp only at this; omega)⟩, hgrow11.cell hHeld.2.1 (fun e => by have := hns _ e.symm; dsimp only at this; omega), hgrow11.cell hHeld.2.2 (fun e => by have := hns _ e.symm; dsimp only at this; omega)⟩)
                          clear hK K
                          (try simp only [Act.put, List.setIfInBounds_toArray, List.set_cons_zero, List.set_cons_succ])
                          refine wpAnyP_ready (rs := [13]) (by kernel_rfl) (by simp) ?_
                          refine AllReadyP.behind (o := _) rfl (by kernel_rfl) (fun K hK => ?_) AllReadyP.nil
                          · go_simp
                            refine hK.out _ _ ?_ (fun hHeld => ?_)
                            · (exact ⟨(World.cell?_setCell_far _ _ _ _ (by simp; omega)).trans hHeld.1.1, (World.cell?_setCell_far _ _ _ _ (by simp; omega)).trans hHeld.1.2.1, (World.cell?_setCell_far _ _ _ _ (by simp; omega)).trans hHeld.1.2.2.1, (World.cell?_setCell_far _ _ _ _ (by simp; omega)).trans hHeld.1.2.2.2⟩)
                            clear hK K
                            (try simp only [Act.put, List.setIfInBounds_toArray, List.set_cons_zero, List.set_cons_succ])
                            refine wpAnyP_takeB (i := 14) (v := ?_) rfl (by kernel_rfl) (by kernel_rfl) (by kernel_rfl) (by kernel_rfl) (by rfl) (by kernel_rfl) (fun _ _ _ h => h) (Or.inl ⟨by rfl, ?_⟩) hHeld ?_
                            rotate_left 1
                            · ((intro w9 hSw; (try dsimp only at hSw); go_simp) <;> with_reducible rfl)
                            (try simp only [Act.put, List.setIfInBounds_toArray, List.set_cons_zero, List.set_cons_succ])
                            refine wpAnyP_ready (rs := [15]) (by kernel_rfl) (by simp) ?_
                            refine AllReadyP.behind (o := _) rfl (by kernel_rfl) (fun K hK => ?_) AllReadyP.nil
                            · go_simp
                              refine hK.out _ _ ?_ (fun hHeld => ?_)
                              · (exact ⟨(World.cell?_setCell_far _ _ _ _ (by simp; omega)).trans hHeld.1, (World.cell?_setCell_far _ _ _ _ (by simp; omega)).trans hHeld.2.1, (World.cell?_setCell_far _ _ _ _ (by simp; omega)).trans hHeld.2.2.1, (World.cell?_setCell_far _ _ _ _ (by simp; omega)).trans hHeld.2.2.2⟩)
                              clear hK K
                              (try simp only [Act.put, List.setIfInBounds_toArray, List.set_cons_zero, List.set_cons_succ])
                              refine wpAnyP_done (by kernel_rfl) ?_ _
                              (try simp only [Act.put, List.getElem_toArray, List.getElem_cons_zero, List.getElem_cons_succ, List.setIfInBounds_toArray, List.set_cons_zero, List.set_cons_succ])
                              clear hHeld
                              have hC12 := (hC11.set3 (.slice (some ⟨g5, 0, none⟩) (k + 1) cap5)).set4 (.slice (some ⟨g11, 0, none⟩) (k + 1) cap11)
                              have hR12 := (hR11.set (a := ⟨A + 1, 0, none⟩) (by show w.heap.size ≤ A + 1; omega) (by show A + 1 < A + 2; omega) (.slice (some ⟨g5, 0, none⟩) (k + 1) cap5)).set (a := ⟨A + 1, 1, none⟩) (by show w.heap.size ≤ A + 1; omega) (by show A + 1 < A + 2; omega) (.slice (some ⟨g11, 0, none⟩) (k + 1) cap11)
                              go_wp2
                              go_roundw
                              case rel => exact ⟨k + 1, _, _, _, _, by omega, by go_num, hC12, hR12⟩
                              case measure => simp [intOf]; omega
        · go_simp
          refine hK.out _ _ ?_ (fun hHeld => ?_)
          · (exact ⟨⟨ca hHeld.1.1 _, ca hHeld.1.2.1 _, ca hHeld.1.2.2.1 _, ca hHeld.1.2.2.2 _⟩, ca hHeld.2.1 _, ca hHeld.2.2 _⟩)
          clear hK K
          (try simp only [Act.put, List.setIfInBounds_toArray, List.set_cons_zero, List.set_cons_succ])
          refine wpAnyP_ready (rs := [5]) (by kernel_rfl) (by simp) ?_
          refine AllReadyP.cons (o := _) rfl (fun K hK => ?_) AllReadyP.nil
          · (refine step_append_lies _ (by rfl) _ _ _ (by rfl) (A + 2) 3 i0 _ 1 8 Tryz.underlying28 hi hz0 hz1 hz2 rfl (by omega) p k (cellsI X0 k) (by rfl) ((hRd.below ((Below.refl _ _).alloc (Nat.le_refl _) _)).below ((Below.refl _ _).alloc (Nat.le_refl _) _)).o1 ⟨Wd.heap.size, 0, none⟩ 1 1 [.int .i64 (X0 k)] (by rfl) (by rfl) (World.news_of_block (cs := #[.int .i64 (X0 k)]) (t := 3) (fr := (0, 0)) (hb_alloc (World.alloc_heap_new _ _) _)) (by simp [Value.oneCell']) (by omega) (by unfold maxLen; omega) (by omega) ((hRd.below ((Below.refl _ _).alloc (Nat.le_refl _) _)).below ((Below.refl _ _).alloc (Nat.le_refl _) _)).big _ rfl ?_; intro g5 cap5 wA5 hown5 hgrow5 hat5 hlt5; have hR5 := RX.push1 ((hRd.below ((Below.refl _ _).alloc (Nat.le_refl _) _)).below ((Below.refl _ _).alloc (Nat.le_refl _) _)) hgrow5 hown5 hat5; have hC5 := CX.grown ((hCd.below ((Below.refl _ _).alloc (Nat.le_refl _) _)).below ((Below.refl _ _).alloc (Nat.le_refl _) _)) hgrow5 (fun j hj => (hnp j hj).1); have hx10 := hb_grown (hb_new2 _ _ _ _) hgrow5 (fun e => by have := (hnp _ e.symm).2; have := hsz; omega); have hsz5 : xb ≤ wA5.heap.size := (by have := hgrow5.size; (try simp only [World.size_alloc] at this); omega))
            refine hK.out _ _ ?_ (fun hHeld => ?_)
            · (exact ⟨⟨hgrow5.cell hHeld.1.1 (fun e => by have := hnp _ e.symm; dsimp only at this; omega), hgrow5.cell hHeld.1.2.1 (fun e => by have := hnp _ e.symm; dsimp only at this; omega), hgrow5.cell hHeld.1.2.2.1 (fun e => by have := hnp _ e.symm; dsimp only at this; omega), hgrow5.cell hHeld.1.2.2.2 (fun e => by have := hnp _ e.symm; dsimp only at this; omega)⟩, hgrow5.cell hHeld.2.1 (fun e => by have := hnp _ e.symm; dsimp only at this; omega), hgrow5.cell hHeld.2.2 (fun e => by have := hnp _ e.symm; dsimp only at this; omega)⟩)
            clear hK K
            (try simp only [Act.put, List.setIfInBounds_toArray, List.set_cons_zero, List.set_cons_succ])
            refine wpAnyP_take0 (i := 12) (v := ?_) rfl (by kernel_rfl) (by kernel_rfl) (by kernel_rfl) (by kernel_rfl) (by rfl) (fun _ _ _ h => h) (Or.inl ⟨by rfl, ?_⟩) hHeld ?_
            rotate_left 1
            · ((intro w9 hSw; (try dsimp only at hSw); go_simp) <;> with_reducible rfl)
            (try simp only [Act.put, List.setIfInBounds_toArray, List.set_cons_zero, List.set_cons_succ])
            refine wpAnyP_ready (rs := [11]) (by kernel_rfl) (by simp) ?_
            refine AllReadyP.cons (o := _) rfl (fun K hK => ?_) AllReadyP.nil
            · (refine step_append_lies _ (by rfl) _ _ _ (by rfl) (A + 2) 3 i0 _ 1 8 Tryz.underlying28 hi hz0 hz1 hz2 rfl (by omega) q k (cellsI Z1 k) (by rfl) hR5.o2 ⟨Wd.heap.size + 1, 0, none⟩ 1 1 [.int .i64 (Z1 k)] (by rfl) (by rfl) (World.news_of_block (cs := #[.int .i64 (Z1 k)]) (t := 3) (fr := (0, 0)) hx10) (by simp [Value.oneCell']) (by omega) (by unfold maxLen; omega) (by omega) hR5.big _ rfl ?_; intro g11 cap11 wA11 hown11 hgrow11 hat11 hlt11; have hR11 := RX.push2 hR5 hgrow11 hown11 hat11; have hC11 := CX.grown hC5 hgrow11 (fun j hj => (hnq j hj).1); have hsz11 : xb ≤ wA11.heap.size := (by have := hgrow11.size; (try simp only [World.size_alloc] at this); omega); obtain ⟨_, cc1, cc2, cc3, cc4, cf1, cf2, cf3, cf4, _, _⟩ := id hC11)
              refine hK.out _ _ ?_ (fun hHeld => ?_)
              · (exact ⟨⟨hgrow11.cell hHeld.1.1 (fun e => by have := hnq _ e.symm; dsimp only at this; omega), hgrow11.cell hHeld.1.2.1 (fun e => by have := hnq _ e.symm; dsimp only at this; omega), hgrow11.cell hHeld.1.2.2.1 (fun e => by have := hnq _ e.symm; dsimp only at this; omega), hgrow11.cell hHeld.1.2.2.2 (fun e => by have := hnq _ e.symm; dsimp only at this; omega)⟩, hgrow11.cell hHeld.2.1 (fun e => by have := hnq _ e.symm; dsimp only at this; omega), hgrow11.cell hHeld.2.2 (fun e => by have := hnq _ e.symm; dsimp only at this; omega)⟩)
              clear hK K
              (try simp only [Act.put, List.setIfInBounds_toArray, List.set_cons_zero, List.set_cons_succ])
              refine wpAnyP_ready (rs := [13]) (by kernel_rfl) (by simp) ?_
              refine AllReadyP.behind (o := _) rfl (by kernel_rfl) (fun K hK => ?_) AllReadyP.nil
              · go_simp
                refine hK.out _ _ ?_ (fun hHeld => ?_)
                · (exact ⟨(World.cell?_setCell_far _ _ _ _ (by simp; omega)).trans hHeld.1.1, (World.cell?_setCell_far _ _ _ _ (by simp; omega)).trans hHeld.1.2.1, (World.cell?_setCell_far _ _ _ _ (by simp; omega)).trans hHeld.1.2.2.1, (World.cell?_setCell_far _ _ _ _ (by simp; omega)).trans hHeld.1.2.2.2⟩)
                clear hK K
                (try simp only [Act.put, List.setIfInBounds_toArray, List.set_cons_zero, List.set_cons_succ])
                refine wpAnyP_takeB (i := 14) (v := ?_) rfl (by kernel_rfl) (by kernel_rfl) (by kernel_rfl) (by kernel_rfl) (by rfl) (by kernel_rfl) (fun _ _ _ h => h) (Or.inl ⟨by rfl, ?_⟩) hHeld ?_
                rotate_left 1
                · ((intro w9 hSw; (try dsimp only at hSw); go_simp) <;> with_reducible rfl)
                (try simp only [Act.put, List.setIfInBounds_toArray, List.set_cons_zero, List.set_cons_succ])
                refine wpAnyP_ready (rs := [15]) (by kernel_rfl) (by simp) ?_
                refine AllReadyP.behind (o := _) rfl (by kernel_rfl) (fun K hK => ?_) AllReadyP.nil
                · go_simp
                  refine hK.out _ _ ?_ (fun hHeld => ?_)
                  · (exact ⟨(World.cell?_setCell_far _ _ _ _ (by simp; omega)).trans hHeld.1, (World.cell?_setCell_far _ _ _ _ (by simp; omega)).trans hHeld.2.1, (World.cell?_setCell_far _ _ _ _ (by simp; omega)).trans hHeld.2.2.1, (World.cell?_setCell_far _ _ _ _ (by simp; omega)).trans hHeld.2.2.2⟩)
                  clear hK K
                  (try simp only [Act.put, List.setIfInBounds_toArray, List.set_cons_zero, List.set_cons_succ])
                  refine wpAnyP_done (by kernel_rfl) ?_ _
                  (try simp only [Act.put, List.getElem_toArray, List.getElem_cons_zero, List.getElem_cons_succ, List.setIfInBounds_toArray, List.set_cons_zero, List.set_cons_succ])
                  have hC12 := (hC11.set1 (.slice (some ⟨g5, 0, none⟩) (k + 1) cap5)).set2 (.slice (some ⟨g11, 0, none⟩) (k + 1) cap11)
                  have hR12 := (hR11.set (a := ⟨A, 0, none⟩) (by show w.heap.size ≤ A; omega) (by show A < A + 2; omega) (.slice (some ⟨g5, 0, none⟩) (k + 1) cap5)).set (a := ⟨A, 1, none⟩) (by show w.heap.size ≤ A; omega) (by show A < A + 2; omega) (.slice (some ⟨g11, 0, none⟩) (k + 1) cap11)
                  have hsB : xb ≤ ((wA11.setCell ⟨A, 0, none⟩ (.slice (some ⟨g5, 0, none⟩) (k + 1) cap5)).setCell ⟨A, 1, none⟩ (.slice (some ⟨g11, 0, none⟩) (k + 1) cap11)).heap.size := by
                    rw [setCell_size, setCell_size]; exact hsz11
                  clear hC11 hR11 hC5 hR5 hown5 hown11 hat5 hat11 hlt5 hlt11 cc1 cc2 cc3 cc4 cf1 cf2 cf3 cf4 hgrow5 hgrow11 hsz11
                  generalize ((wA11.setCell ⟨A, 0, none⟩ (.slice (some ⟨g5, 0, none⟩) (k + 1) cap5)).setCell ⟨A, 1, none⟩ (.slice (some ⟨g11, 0, none⟩) (k + 1) cap11)) = WB at hC12 hR12 hHeld hsB ⊢
                  have hC := hC12
                  have hRX := hR12
                  clear hC12 hR12
                  obtain ⟨_, cc1, cc2, cc3, cc4, cf1, cf2, cf3, cf4, _, _⟩ := id hC
                  go_wp2_with fail
                  refine wp_region_late [13, 15] (fun w9 => w9.cell? ⟨xb, 0, none⟩ = some (.int .i64 (X0 k)) ∧ w9.cell? ⟨xb, 1, none⟩ = some (.int .i64 (X1 k)) ∧ w9.cell? ⟨xb + 1, 0, none⟩ = some (.int .i64 (Z0 k)) ∧ w9.cell? ⟨xb + 1, 1, none⟩ = some (.int .i64 (Z1 k))) (fun w9 => w9.cell? ⟨A + 1, 0, none⟩ = some r ∧ w9.cell? ⟨A + 1, 1, none⟩ = some s) (by kernel_rfl) ?_ (fun hHeld => ?_)
                  · (exact ⟨hHeld, cc3, cc4⟩)
                  have hCd := hC.below (Below.refl _ _).drew
                  have hRd := hRX.below (Below.refl _ _).drew
                  have hsz := (show xb ≤ WB.drew.heap.size from hsB)
                  clear hC hRX
                  generalize WB.drew = We at hHeld hCd hRd hsz ⊢
                  refine wpAnyP_take0 (i := 0) (v := ?_) rfl (by kernel_rfl) (by kernel_rfl) (by kernel_rfl) (by kernel_rfl) (by rfl) (fun _ _ _ h => h) (Or.inl ⟨by rfl, ?_⟩) hHeld ?_
                  rotate_left 1
                  · ((intro w9 hSw; (try dsimp only at hSw); go_simp) <;> with_reducible rfl)
                  (try simp only [Act.put, List.setIfInBounds_toArray, List.set_cons_zero, List.set_cons_succ])
                  refine wpAnyP_take 8 (i := 1) (v := ?_) rfl (by kernel_rfl) (by kernel_rfl) (by kernel_rfl) (by kernel_rfl) (by rfl) (by kernel_rfl) (fun _ _ _ h => h) (Or.inl ⟨by rfl, ?_⟩) hHeld ?_
                  rotate_left 1
                  · ((intro w9 hSw; (try dsimp only at hSw); go_simp) <;> with_reducible rfl)
                  (try simp only [Act.put, List.setIfInBounds_toArray, List.set_cons_zero, List.set_cons_succ])
                  refine wpAnyP_take0 (i := 2) (v := ?_) rfl (by kernel_rfl) (by kernel_rfl) (by kernel_rfl) (by kernel_rfl) (by rfl) (fun _ _ _ h => h) (Or.inl ⟨by rfl, ?_⟩) hHeld ?_
                  rotate_left 1
                  · ((intro w9 hSw; (try dsimp only at hSw); go_simp) <;> with_reducible rfl)
                  (try simp only [Act.put, List.setIfInBounds_toArray, List.set_cons_zero, List.set_cons_succ])
                  refine wpAnyP_take0 (i := 3) (v := ?_) rfl (by kernel_rfl) (by kernel_rfl) (by kernel_rfl) (by kernel_rfl) (by rfl) (fun _ _ _ h => h) (Or.inl ⟨by rfl, ?_⟩) hHeld ?_
                  rotate_left 1
                  · ((intro w9 hSw; (try dsimp only at hSw); go_simp) <;> with_reducible rfl)
                  (try simp only [Act.put, List.setIfInBounds_toArray, List.set_cons_zero, List.set_cons_succ])
                  refine wpAnyP_take0 (i := 6) (v := ?_) rfl (by kernel_rfl) (by kernel_rfl) (by kernel_rfl) (by kernel_rfl) (by rfl) (fun _ _ _ h => h) (Or.inl ⟨by rfl, ?_⟩) hHeld ?_
                  rotate_left 1
                  · ((intro w9 hSw; (try dsimp only at hSw); go_simp) <;> with_reducible rfl)
                  (try simp only [Act.put, List.setIfInBounds_toArray, List.set_cons_zero, List.set_cons_succ])
                  refine wpAnyP_take 8 (i := 7) (v := ?_) rfl (by kernel_rfl) (by kernel_rfl) (by kernel_rfl) (by kernel_rfl) (by rfl) (by kernel_rfl) (fun _ _ _ h => h) (Or.inl ⟨by rfl, ?_⟩) hHeld ?_
                  rotate_left 1
                  · ((intro w9 hSw; (try dsimp only at hSw); go_simp) <;> with_reducible rfl)
                  (try simp only [Act.put, List.setIfInBounds_toArray, List.set_cons_zero, List.set_cons_succ])
                  refine wpAnyP_take0 (i := 8) (v := ?_) rfl (by kernel_rfl) (by kernel_rfl) (by kernel_rfl) (by kernel_rfl) (by rfl) (fun _ _ _ h => h) (Or.inl ⟨by rfl, ?_⟩) hHeld ?_
                  rotate_left 1
                  · ((intro w9 hSw; (try dsimp only at hSw); go_simp) <;> with_reducible rfl)
                  (try simp only [Act.put, List.setIfInBounds_toArray, List.set_cons_zero, List.set_cons_succ])
                  refine wpAnyP_take0 (i := 9) (v := ?_) rfl (by kernel_rfl) (by kernel_rfl) (by kernel_rfl) (by kernel_rfl) (by rfl) (fun _ _ _ h => h) (Or.inl ⟨by rfl, ?_⟩) hHeld ?_
                  rotate_left 1
                  · ((intro w9 hSw; (try dsimp only at hSw); go_simp) <;> with_reducible rfl)
                  (try simp only [Act.put, List.setIfInBounds_toArray, List.set_cons_zero, List.set_cons_succ])
                  refine wpAnyP_ready (rs := [4, 10]) (by kernel_rfl) (by simp) ?_
                  refine AllReadyP.cons (o := _) rfl (fun K hK => ?_) (AllReadyP.cons (o := _) rfl (fun K hK => ?_) AllReadyP.nil)
                  · go_simp
                    refine hK.out _ _ ?_ (fun hHeld => ?_)
                    · (exact ⟨⟨ca hHeld.1.1 _, ca hHeld.1.2.1 _, ca hHeld.1.2.2.1 _, ca hHeld.1.2.2.2 _⟩, ca hHeld.2.1 _, ca hHeld.2.2 _⟩)
                    clear hK K
                    (try simp only [Act.put, List.setIfInBounds_toArray, List.set_cons_zero, List.set_cons_succ])
                    refine wpAnyP_ready (rs := [5, 10]) (by kernel_rfl) (by simp) ?_
                    refine AllReadyP.cons (o := _) rfl (fun K hK => ?_) (AllReadyP.cons (o := _) rfl (fun K hK => ?_) AllReadyP.nil)
                    · (refine step_append_lies _ (by rfl) _ _ _ (by rfl) (A + 2) 3 i0 _ 1 8 Tryz.underlying28 hi hz0 hz1 hz2 rfl (by omega) r k (cellsI X1 k) (by rfl) (hRd.below ((Below.refl _ _).alloc (Nat.le_refl _) _)).o3 ⟨We.heap.size, 0, none⟩ 1 1 [.int .i64 (X1 k)] (by rfl) (by rfl) (World.news_of_block (cs := #[.int .i64 (X1 k)]) (t := 3) (fr := (0, 0)) (World.alloc_heap_new _ _)) (by simp [Value.oneCell']) (by omega) (by unfold maxLen; omega) (by omega) (hRd.below ((Below.refl _ _).alloc (Nat.le_refl _) _)).big _ rfl ?_; intro g5 cap5 wA5 hown5 hgrow5 hat5 hlt5; have hR5 := RX.push3 (hRd.below ((Below.refl _ _).alloc (Nat.le_refl _) _)) hgrow5 hown5 hat5; have hC5 := CX.grown (hCd.below ((Below.refl _ _).alloc (Nat.le_refl _) _)) hgrow5 (fun j hj => (hnr j hj).1); have hsz5 : xb ≤ wA5.heap.size := (by have := hgrow5.size; (try simp only [World.size_alloc] at this); omega))
                      refine hK.out _ _ ?_ (fun hHeld => ?_)
                      · (exact ⟨⟨hgrow5.cell hHeld.1.1 (fun e => by have := hnr _ e.symm; dsimp only at this; omega), hgrow5.cell hHeld.1.2.1 (fun e => by have := hnr _ e.symm; dsimp only at this; omega), hgrow5.cell hHeld.1.2.2.1 (fun e => by have := hnr _ e.symm; dsimp only at this; omega), hgrow5.cell hHeld.1.2.2.2 (fun e => by have := hnr _ e.symm; dsimp only at this; omega)⟩, hgrow5.cell hHeld.2.1 (fun e => by have := hnr _ e.symm; dsimp only at this; omega), hgrow5.cell hHeld.2.2 (fun e => by have := hnr _ e.symm; dsimp only at this; omega)⟩)
                      clear hK K
                      (try simp only [Act.put, List.setIfInBounds_toArray, List.set_cons_zero, List.set_cons_succ])
                      refine wpAnyP_take0 (i := 12) (v := ?_) rfl (by kernel_rfl) (by kernel_rfl) (by kernel_rfl) (by kernel_rfl) (by rfl) (fun _ _ _ h => h) (Or.inl ⟨by rfl, ?_⟩) hHeld ?_
                      rotate_left 1
                      · ((intro w9 hSw; (try dsimp only at hSw); go_simp) <;> with_reducible rfl)
                      (try simp only [Act.put, List.setIfInBounds_toArray, List.set_cons_zero, List.set_cons_succ])
                      refine wpAnyP_ready (rs := [10]) (by kernel_rfl) (by simp) ?_
                      refine AllReadyP.cons (o := _) rfl (fun K hK => ?_) AllReadyP.nil
                      · go_simp
                        refine hK.out _ _ ?_ (fun hHeld => ?_)
                        · (exact ⟨⟨ca hHeld.1.1 _, ca hHeld.1.2.1 _, ca hHeld.1.2.2.1 _, ca hHeld.1.2.2.2 _⟩, ca hHeld.2.1 _, ca hHeld.2.2 _⟩)
                        clear hK K
                        (try simp only [Act.put, List.setIfInBounds_toArray, List.set_cons_zero, List.set_cons_succ])
                        refine wpAnyP_ready (rs := [11]) (by kernel_rfl) (by simp) ?_
                        refine AllReadyP.cons (o := _) rfl (fun K hK => ?_) AllReadyP.nil
                        · (refine step_append_lies _ (by rfl) _ _ _ (by rfl) (A + 2) 3 i0 _ 1 8 Tryz.underlying28 hi hz0 hz1 hz2 rfl (by omega) s k (cellsI Z0 k) (by rfl) (hR5.below ((Below.refl _ _).alloc (Nat.le_refl _) _)).o4 ⟨wA5.heap.size, 0, none⟩ 1 1 [.int .i64 (Z0 k)] (by rfl) (by rfl) (World.news_of_block (cs := #[.int .i64 (Z0 k)]) (t := 3) (fr := (0, 0)) (World.alloc_heap_new _ _)) (by simp [Value.oneCell']) (by omega) (by unfold maxLen; omega) (by omega) (hR5.below ((Below.refl _ _).alloc (Nat.le_refl _) _)).big _ rfl ?_; intro g11 cap11 wA11 hown11 hgrow11 hat11 hlt11; have hR11 := RX.push4 (hR5.below ((Below.refl _ _).alloc (Nat.le_refl _) _)) hgrow11 hown11 hat11; have hC11 := CX.grown (hC5.below ((Below.refl _ _).alloc (Nat.le_refl _) _)) hgrow11 (fun j hj => (hns j hj).1); have hsz11 : xb ≤ wA11.heap.size := (by have := hgrow11.size; (try simp only [World.size_alloc] at this); omega); obtain ⟨_, cc1, cc2, cc3, cc4, cf1, cf2, cf3, cf4, _, _⟩ := id hC11)
                          refine hK.out _ _ ?_ (fun hHeld => ?_)
                          · (exact ⟨⟨hgrow11.cell hHeld.1.1 (fun e => by have := hns _ e.symm; dsimp only at this; omega), hgrow11.cell hHeld.1.2.1 (fun e => by have := hns _ e.symm; dsimp only at this; omega), hgrow11.cell hHeld.1.2.2.1 (fun e => by have := hns _ e.symm; dsimp only at this; omega), hgrow11.cell hHeld.1.2.2.2 (fun e => by have := hns _ e.symm; dsimp only at this; omega)⟩, hgrow11.cell hHeld.2.1 (fun e => by have := hns _ e.symm; dsimp only at this; omega), hgrow11.cell hHeld.2.2 (fun e => by have := hns _ e.symm; dsimp only at this; omega)⟩)
                          clear hK K
                          (try simp only [Act.put, List.setIfInBounds_toArray, List.set_cons_zero, List.set_cons_succ])
                          refine wpAnyP_ready (rs := [13]) (by kernel_rfl) (by simp) ?_
                          refine AllReadyP.behind (o := _) rfl (by kernel_rfl) (fun K hK => ?_) AllReadyP.nil
                          · go_simp
                            refine hK.out _ _ ?_ (fun hHeld => ?_)
                            · (exact ⟨(World.cell?_setCell_far _ _ _ _ (by simp; omega)).trans hHeld.1.1, (World.cell?_setCell_far _ _ _ _ (by simp; omega)).trans hHeld.1.2.1, (World.cell?_setCell_far _ _ _ _ (by simp; omega)).trans hHeld.1.2.2.1, (World.cell?_setCell_far _ _ _ _ (by simp; omega)).trans hHeld.1.2.2.2⟩)
                            clear hK K
                            (try simp only [Act.put, List.setIfInBounds_toArray, List.set_cons_zero, List.set_cons_succ])
                            refine wpAnyP_takeB (i := 14) (v := ?_) rfl (by kernel_rfl) (by kernel_rfl) (by kernel_rfl) (by kernel_rfl) (by rfl) (by kernel_rfl) (fun _ _ _ h => h) (Or.inl ⟨by rfl, ?_⟩) hHeld ?_
                            rotate_left 1
                            · ((intro w9 hSw; (try dsimp only at hSw); go_simp) <;> with_reducible rfl)
                            (try simp only [Act.put, List.setIfInBounds_toArray, List.set_cons_zero, List.set_cons_succ])
                            refine wpAnyP_ready (rs := [15]) (by kernel_rfl) (by simp) ?_
                            refine AllReadyP.behind (o := _) rfl (by kernel_rfl) (fun K hK => ?_) AllReadyP.nil
                            · go_simp
                              refine hK.out _ _ ?_ (fun hHeld => ?_)
                              · (exact ⟨(World.cell?_setCell_far _ _ _ _ (by simp; omega)).trans hHeld.1, (World.cell?_setCell_far _ _ _ _ (by simp; omega)).trans hHeld.2.1, (World.cell?_setCell_far _ _ _ _ (by simp; omega)).trans hHeld.2.2.1, (World.cell?_setCell_far _ _ _ _ (by simp; omega)).trans hHeld.2.2.2⟩)
                              clear hK K
                              (try simp only [Act.put, List.setIfInBounds_toArray, List.set_cons_zero, List.set_cons_succ])
                              refine wpAnyP_done (by kernel_rfl) ?_ _
                              (try simp only [Act.put, List.getElem_toArray, List.getElem_cons_zero, List.getElem_cons_succ, List.setIfInBounds_toArray, List.set_cons_zero, List.set_cons_succ])
                              clear hHeld
                              have hC12 := (hC11.set3 (.slice (some ⟨g5, 0, none⟩) (k + 1) cap5)).set4 (.slice (some ⟨g11, 0, none⟩) (k + 1) cap11)
                              have hR12 := (hR11.set (a := ⟨A + 1, 0, none⟩) (by show w.heap.size ≤ A + 1; omega) (by show A + 1 < A + 2; omega) (.slice (some ⟨g5, 0, none⟩) (k + 1) cap5)).set (a := ⟨A + 1, 1, none⟩) (by show w.heap.size ≤ A + 1; omega) (by show A + 1 < A + 2; omega) (.slice (some ⟨g11, 0, none⟩) (k + 1) cap11)
                              go_wp2
                              go_roundw
                              case rel => exact ⟨k + 1, _, _, _, _, by omega, by go_num, hC12, hR12⟩
                              case measure => simp [intOf]; omega
                    · go_simp
                      refine hK.out _ _ ?_ (fun hHeld => ?_)
                      · (exact ⟨⟨ca hHeld.1.1 _, ca hHeld.1.2.1 _, ca hHeld.1.2.2.1 _, ca hHeld.1.2.2.2 _⟩, ca hHeld.2.1 _, ca hHeld.2.2 _⟩)
                      clear hK K
                      (try simp only [Act.put, List.setIfInBounds_toArray, List.set_cons_zero, List.set_cons_succ])
                      refine wpAnyP_ready (rs := [5]) (by kernel_rfl) (by simp) ?_
                      refine AllReadyP.cons (o := _) rfl (fun K hK => ?_) AllReadyP.nil
                      · (refine step_append_lies _ (by rfl) _ _ _ (by rfl) (A + 2) 3 i0 _ 1 8 Tryz.underlying28 hi hz0 hz1 hz2 rfl (by omega) r k (cellsI X1 k) (by rfl) ((hRd.below ((Below.refl _ _).alloc (Nat.le_refl _) _)).below ((Below.refl _ _).alloc (Nat.le_refl _) _)).o3 ⟨We.heap.size, 0, none⟩ 1 1 [.int .i64 (X1 k)] (by rfl) (by rfl) (World.news_of_block (cs := #[.int .i64 (X1 k)]) (t := 3) (fr := (0, 0)) (hb_alloc (World.alloc_heap_new _ _) _)) (by simp [Value.oneCell']) (by omega) (by unfold maxLen; omega) (by omega) ((hRd.below ((Below.refl _ _).alloc (Nat.le_refl _) _)).below ((Below.refl _ _).alloc (Nat.le_refl _) _)).big _ rfl ?_; intro g5 cap5 wA5 hown5 hgrow5 hat5 hlt5; have hR5 := RX.push3 ((hRd.below ((Below.refl _ _).alloc (Nat.le_refl _) _)).below ((Below.refl _ _).alloc (Nat.le_refl _) _)) hgrow5 hown5 hat5; have hC5 := CX.grown ((hCd.below ((Below.refl _ _).alloc (Nat.le_refl _) _)).below ((Below.refl _ _).alloc (Nat.le_refl _) _)) hgrow5 (fun j hj => (hnr j hj).1); have hx10 := hb_grown (hb_new2 _ _ _ _) hgrow5 (fun e => by have := (hnr _ e.symm).2; have := hsz; omega); have hsz5 : xb ≤ wA5.heap.size := (by have := hgrow5.size; (try simp only [World.size_alloc] at this); omega))
                        refine hK.out _ _ ?_ (fun hHeld => ?_)
                        · (exact ⟨⟨hgrow5.cell hHeld.1.1 (fun e => by have := hnr _ e.symm; dsimp only at this; omega), hgrow5.cell hHeld.1.2.1 (fun e => by have := hnr _ e.symm; dsimp only at this; omega), hgrow5.cell hHeld.1.2.2.1 (fun e => by have := hnr _ e.symm; dsimp only at this; omega), hgrow5.cell hHeld.1.2.2.2 (fun e => by have := hnr _ e.symm; dsimp only at this; omega)⟩, hgrow5.cell hHeld.2.1 (fun e => by have := hnr _ e.symm; dsimp only at this; omega), hgrow5.cell hHeld.2.2 (fun e => by have := hnr _ e.symm; dsimp only at this; omega)⟩)
                        clear hK K
                        (try simp only [Act.put, List.setIfInBounds_toArray, List.set_cons_zero, List.set_cons_succ])
                        refine wpAnyP_take0 (i := 12) (v := ?_) rfl (by kernel_rfl) (by kernel_rfl) (by kernel_rfl) (by kernel_rfl) (by rfl) (fun _ _ _ h => h) (Or.inl ⟨by rfl, ?_⟩) hHeld ?_
                        rotate_left 1
                        · ((intro w9 hSw; (try dsimp only at hSw); go_simp) <;> with_reducible rfl)
                        (try simp only [Act.put, List.setIfInBounds_toArray, List.set_cons_zero, List.set_cons_succ])
                        refine wpAnyP_ready (rs := [11]) (by kernel_rfl) (by simp) ?_
                        refine AllReadyP.cons (o := _) rfl (fun K hK => ?_) AllReadyP.nil
                        · (refine step_append_lies _ (by rfl) _ _ _ (by rfl) (A + 2) 3 i0 _ 1 8 Tryz.underlying28 hi hz0 hz1 hz2 rfl (by omega) s k (cellsI Z0 k) (by rfl) hR5.o4 ⟨We.heap.size + 1, 0, none⟩ 1 1 [.int .i64 (Z0 k)] (by rfl) (by rfl) (World.news_of_block (cs := #[.int .i64 (Z0 k)]) (t := 3) (fr := (0, 0)) hx10) (by simp [Value.oneCell']) (by omega) (by unfold maxLen; omega) (by omega) hR5.big _ rfl ?_; intro g11 cap11 wA11 hown11 hgrow11 hat11 hlt11; have hR11 := RX.push4 hR5 hgrow11 hown11 hat11; have hC11 := CX.grown hC5 hgrow11 (fun j hj => (hns j hj).1); have hsz11 : xb ≤ wA11.heap.size := (by have := hgrow11.size; (try simp only [World.size_alloc] at this); omega); obtain ⟨_, cc1, cc2, cc3, cc4, cf1, cf2, cf3, cf4, _, _⟩ := id hC11)
                          refine hK.out _ _ ?_ (fun hHeld => ?_)
                          · (exact ⟨⟨hgrow11.cell hHeld.1.1 (fun e => by have := hns _ e.symm; dsimp only at this; omega), hgrow11.cell hHeld.1.2.1 (fun e => by have := hns _ e.symm; dsimp only at this; omega), hgrow11.cell hHeld.1.2.2.1 (fun e => by have := hns _ e.symm; dsimp only at this; omega), hgrow11.cell hHeld.1.2.2.2 (fun e => by have := hns _ e.symm; dsimp only at this; omega)⟩, hgrow11.cell hHeld.2.1 (fun e => by have := hns _ e.symm; dsimp only at this; omega), hgrow11.cell hHeld.2.2 (fun e => by have := hns _ e.symm; dsimp only at this; omega)⟩)
                          clear hK K
                          (try simp only [Act.put, List.setIfInBounds_toArray, List.set_cons_zero, List.set_cons_succ])
                          refine wpAnyP_ready (rs := [13]) (by kernel_rfl) (by simp) ?_
                          refine AllReadyP.behind (o := _) rfl (by kernel_rfl) (fun K hK => ?_) AllReadyP.nil
                          · go_simp
                            refine hK.out _ _ ?_ (fun hHeld => ?_)
                            · (exact ⟨(World.cell?_setCell_far _ _ _ _ (by simp; omega)).trans hHeld.1.1, (World.cell?_setCell_far _ _ _ _ (by simp; omega)).trans hHeld.1.2.1, (World.cell?_setCell_far _ _ _ _ (by simp; omega)).trans hHeld.1.2.2.1, (World.cell?_setCell_far _ _ _ _ (by simp; omega)).trans hHeld.1.2.2.2⟩)
                            clear hK K
                            (try simp only [Act.put, List.setIfInBounds_toArray, List.set_cons_zero, List.set_cons_succ])
                            refine wpAnyP_takeB (i := 14) (v := ?_) rfl (by kernel_rfl) (by kernel_rfl) (by kernel_rfl) (by kernel_rfl) (by rfl) (by kernel_rfl) (fun _ _ _ h => h) (Or.inl ⟨by rfl, ?_⟩) hHeld ?_
                            rotate_left 1
                            · ((intro w9 hSw; (try dsimp only at hSw); go_simp) <;> with_reducible rfl)
                            (try simp only [Act.put, List.setIfInBounds_toArray, List.set_cons_zero, List.set_cons_succ])
                            refine wpAnyP_ready (rs := [15]) (by kernel_rfl) (by simp) ?_
                            refine AllReadyP.behind (o := _) rfl (by kernel_rfl) (fun K hK => ?_) AllReadyP.nil
                            · go_simp
                              refine hK.out _ _ ?_ (fun hHeld => ?_)
                              · (exact ⟨(World.cell?_setCell_far _ _ _ _ (by simp; omega)).trans hHeld.1, (World.cell?_setCell_far _ _ _ _ (by simp; omega)).trans hHeld.2.1, (World.cell?_setCell_far _ _ _ _ (by simp; omega)).trans hHeld.2.2.1, (World.cell?_setCell_far _ _ _ _ (by simp; omega)).trans hHeld.2.2.2⟩)
                              clear hK K
                              (try simp only [Act.put, List.setIfInBounds_toArray, List.set_cons_zero, List.set_cons_succ])
                              refine wpAnyP_done (by kernel_rfl) ?_ _
                              (try simp only [Act.put, List.getElem_toArray, List.getElem_cons_zero, List.getElem_cons_succ, List.setIfInBounds_toArray, List.set_cons_zero, List.set_cons_succ])
                              clear hHeld
                              have hC12 := (hC11.set3 (.slice (some ⟨g5, 0, none⟩) (k + 1) cap5)).set4 (.slice (some ⟨g11, 0, none⟩) (k + 1) cap11)
                              have hR12 := (hR11.set (a := ⟨A + 1, 0, none⟩) (by show w.heap.size ≤ A + 1; omega) (by show A + 1 < A + 2; omega) (.slice (some ⟨g5, 0, none⟩) (k + 1) cap5)).set (a := ⟨A + 1, 1, none⟩) (by show w.heap.size ≤ A + 1; omega) (by show A + 1 < A + 2; omega) (.slice (some ⟨g11, 0, none⟩) (k + 1) cap11)
                              go_wp2
                              go_roundw
                              case rel => exact ⟨k + 1, _, _, _, _, by omega, by go_num, hC12, hR12⟩
                              case measure => simp [intOf]; omega
                  · go_simp
                    refine hK.out _ _ ?_ (fun hHeld => ?_)
                    · (exact ⟨⟨ca hHeld.1.1 _, ca hHeld.1.2.1 _, ca hHeld.1.2.2.1 _, ca hHeld.1.2.2.2 _⟩, ca hHeld.2.1 _, ca hHeld.2.2 _⟩)
                    clear hK K
                    (try simp only [Act.put, List.setIfInBounds_toArray, List.set_cons_zero, List.set_cons_succ])
                    refine wpAnyP_ready (rs := [4]) (by kernel_rfl) (by simp) ?_
                    refine AllReadyP.cons (o := _) rfl (fun K hK => ?_) AllReadyP.nil
                    · go_simp
                      refine hK.out _ _ ?_ (fun hHeld => ?_)
                      · (exact ⟨⟨ca hHeld.1.1 _, ca hHeld.1.2.1 _, ca hHeld.1.2.2.1 _, ca hHeld.1.2.2.2 _⟩, ca hHeld.2.1 _, ca hHeld.2.2 _⟩)
                      clear hK K
                      (try simp only [Act.put, List.setIfInBounds_toArray, List.set_cons_zero, List.set_cons_succ])
                      refine wpAnyP_ready (rs := [5]) (by kernel_rfl) (by simp) ?_
                      refine AllReadyP.cons (o := _) rfl (fun K hK => ?_) AllReadyP.nil
                      · (refine step_append_lies _ (by rfl) _ _ _ (by rfl) (A + 2) 3 i0 _ 1 8 Tryz.underlying28 hi hz0 hz1 hz2 rfl (by omega) r k (cellsI X1 k) (by rfl) ((hRd.below ((Below.refl _ _).alloc (Nat.le_refl _) _)).below ((Below.refl _ _).alloc (Nat.le_refl _) _)).o3 ⟨We.heap.size + 1, 0, none⟩ 1 1 [.int .i64 (X1 k)] (by rfl) (by rfl) (World.news_of_block (cs := #[.int .i64 (X1 k)]) (t := 3) (fr := (0, 0)) (hb_new2 _ _ _ _)) (by simp [Value.oneCell']) (by omega) (by unfold maxLen; omega) (by omega) ((hRd.below ((Below.refl _ _).alloc (Nat.le_refl _) _)).below ((Below.refl _ _).alloc (Nat.le_refl _) _)).big _ rfl ?_; intro g5 cap5 wA5 hown5 hgrow5 hat5 hlt5; have hR5 := RX.push3 ((hRd.below ((Below.refl _ _).alloc (Nat.le_refl _) _)).below ((Below.refl _ _).alloc (Nat.le_refl _) _)) hgrow5 hown5 hat5; have hC5 := CX.grown ((hCd.below ((Below.refl _ _).alloc (Nat.le_refl _) _)).below ((Below.refl _ _).alloc (Nat.le_refl _) _)) hgrow5 (fun j hj => (hnr j hj).1); have hx10 := hb_grown (hb_alloc (World.alloc_heap_new _ _) _) hgrow5 (fun e => by have := (hnr _ e.symm).2; have := hsz; omega); have hsz5 : xb ≤ wA5.heap.size := (by have := hgrow5.size; (try simp only [World.size_alloc] at this); omega))
                        refine hK.out _ _ ?_ (fun hHeld => ?_)
                        · (exact ⟨⟨hgrow5.cell hHeld.1.1 (fun e => by have := hnr _ e.symm; dsimp only at this; omega), hgrow5.cell hHeld.1.2.1 (fun e => by have := hnr _ e.symm; dsimp only at this; omega), hgrow5.cell hHeld.1.2.2.1 (fun e => by have := hnr _ e.symm; dsimp only at this; omega), hgrow5.cell hHeld.1.2.2.2 (fun e => by have := hnr _ e.symm; dsimp only at this; omega)⟩, hgrow5.cell hHeld.2.1 (fun e => by have := hnr _ e.symm; dsimp only at this; omega), hgrow5.cell hHeld.2.2 (fun e => by have := hnr _ e.symm; dsimp only at this; omega)⟩)
                        clear hK K
                        (try simp only [Act.put, List.setIfInBounds_toArray, List.set_cons_zero, List.set_cons_succ])
                        refine wpAnyP_take0 (i := 12) (v := ?_) rfl (by kernel_rfl) (by kernel_rfl) (by kernel_rfl) (by kernel_rfl) (by rfl) (fun _ _ _ h => h) (Or.inl ⟨by rfl, ?_⟩) hHeld ?_
                        rotate_left 1
                        · ((intro w9 hSw; (try dsimp only at hSw); go_simp) <;> with_reducible rfl)
                        (try simp only [Act.put, List.setIfInBounds_toArray, List.set_cons_zero, List.set_cons_succ])
                        refine wpAnyP_ready (rs := [11]) (by kernel_rfl) (by simp) ?_
                        refine AllReadyP.cons (o := _) rfl (fun K hK => ?_) AllReadyP.nil
                        · (refine step_append_lies _ (by rfl) _ _ _ (by rfl) (A + 2) 3 i0 _ 1 8 Tryz.underlying28 hi hz0 hz1 hz2 rfl (by omega) s k (cellsI Z0 k) (by rfl) hR5.o4 ⟨We.heap.size, 0, none⟩ 1 1 [.int .i64 (Z0 k)] (by rfl) (by rfl) (World.news_of_block (cs := #[.int .i64 (Z0 k)]) (t := 3) (fr := (0, 0)) hx10) (by simp [Value.oneCell']) (by omega) (by unfold maxLen; omega) (by omega) hR5.big _ rfl ?_; intro g11 cap11 wA11 hown11 hgrow11 hat11 hlt11; have hR11 := RX.push4 hR5 hgrow11 hown11 hat11; have hC11 := CX.grown hC5 hgrow11 (fun j hj => (hns j hj).1); have hsz11 : xb ≤ wA11.heap.size := (by have := hgrow11.size; (try simp only [World.size_alloc] at this); omega); obtain ⟨_, cc1, cc2, cc3, cc4, cf1, cf2, cf3, cf4, _, _⟩ := id hC11)
                          refine hK.out _ _ ?_ (fun hHeld => ?_)
                          · (exact ⟨⟨hgrow11.cell hHeld.1.1 (fun e => by have := hns _ e.symm; dsimp only at this; omega), hgrow11.cell hHeld.1.2.1 (fun e => by have := hns _ e.symm; dsimp only at this; omega), hgrow11.cell hHeld.1.2.2.1 (fun e => by have := hns _ e.symm; dsimp only at this; omega), hgrow11.cell hHeld.1.2.2.2 (fun e => by have := hns _ e.symm; dsimp only at this; omega)⟩, hgrow11.cell hHeld.2.1 (fun e => by have := hns _ e.symm; dsimp only at this; omega), hgrow11.cell hHeld.2.2 (fun e => by have := hns _ e.symm; dsimp only at this; omega)⟩)
                          clear hK K
                          (try simp only [Act.put, List.setIfInBounds_toArray, List.set_cons_zero, List.set_cons_succ])
                          refine wpAnyP_ready (rs := [13]) (by kernel_rfl) (by simp) ?_
                          refine AllReadyP.behind (o := _) rfl (by kernel_rfl) (fun K hK => ?_) AllReadyP.nil
                          · go_simp
                            refine hK.out _ _ ?_ (fun hHeld => ?_)
                            · (exact ⟨(World.cell?_setCell_far _ _ _ _ (by simp; omega)).trans hHeld.1.1, (World.cell?_setCell_far _ _ _ _ (by simp; omega)).trans hHeld.1.2.1, (World.cell?_setCell_far _ _ _ _ (by simp; omega)).trans hHeld.1.2.2.1, (World.cell?_setCell_far _ _ _ _ (by simp; omega)).trans hHeld.1.2.2.2⟩)
                            clear hK K
                            (try simp only [Act.put, List.setIfInBounds_toArray, List.set_cons_zero, List.set_cons_succ])
                            refine wpAnyP_takeB (i := 14) (v := ?_) rfl (by kernel_rfl) (by kernel_rfl) (by kernel_rfl) (by kernel_rfl) (by rfl) (by kernel_rfl) (fun _ _ _ h => h) (Or.inl ⟨by rfl, ?_⟩) hHeld ?_
                            rotate_left 1
                            · ((intro w9 hSw; (try dsimp only at hSw); go_simp) <;> with_reducible rfl)
                            (try simp only [Act.put, List.setIfInBounds_toArray, List.set_cons_zero, List.set_cons_succ])
                            refine wpAnyP_ready (rs := [15]) (by kernel_rfl) (by simp) ?_
                            refine AllReadyP.behind (o := _) rfl (by kernel_rfl) (fun K hK => ?_) AllReadyP.nil
                            · go_simp
                              refine hK.out _ _ ?_ (fun hHeld => ?_)
                              · (exact ⟨(World.cell?_setCell_far _ _ _ _ (by simp; omega)).trans hHeld.1, (World.cell?_setCell_far _ _ _ _ (by simp; omega)).trans hHeld.2.1, (World.cell?_setCell_far _ _ _ _ (by simp; omega)).trans hHeld.2.2.1, (World.cell?_setCell_far _ _ _ _ (by simp; omega)).trans hHeld.2.2.2⟩)
                              clear hK K
                              (try simp only [Act.put, List.setIfInBounds_toArray, List.set_cons_zero, List.set_cons_succ])
                              refine wpAnyP_done (by kernel_rfl) ?_ _
                              (try simp only [Act.put, List.getElem_toArray, List.getElem_cons_zero, List.getElem_cons_succ, List.setIfInBounds_toArray, List.set_cons_zero, List.set_cons_succ])
                              clear hHeld
                              have hC12 := (hC11.set3 (.slice (some ⟨g5, 0, none⟩) (k + 1) cap5)).set4 (.slice (some ⟨g11, 0, none⟩) (k + 1) cap11)
                              have hR12 := (hR11.set (a := ⟨A + 1, 0, none⟩) (by show w.heap.size ≤ A + 1; omega) (by show A + 1 < A + 2; omega) (.slice (some ⟨g5, 0, none⟩) (k + 1) cap5)).set (a := ⟨A + 1, 1, none⟩) (by show w.heap.size ≤ A + 1; omega) (by show A + 1 < A + 2; omega) (.slice (some ⟨g11, 0, none⟩) (k + 1) cap11)
                              go_wp2
                              go_roundw
                              case rel => exact ⟨k + 1, _, _, _, _, by omega, by go_num, hC12, hR12⟩
                              case measure => simp [intOf]; omega
      · go_simp
        refine hK.out _ _ ?_ (fun hHeld => ?_)
        · (exact ⟨⟨ca hHeld.1.1 _, ca hHeld.1.2.1 _, ca hHeld.1.2.2.1 _, ca hHeld.1.2.2.2 _⟩, ca hHeld.2.1 _, ca hHeld.2.2 _⟩)
        clear hK K
        (try simp only [Act.put, List.setIfInBounds_toArray, List.set_cons_zero, List.set_cons_succ])
        refine wpAnyP_ready (rs := [4]) (by kernel_rfl) (by simp) ?_
        refine AllReadyP.cons (o := _) rfl (fun K hK => ?_) AllReadyP.nil
        · go_simp
          refine hK.out _ _ ?_ (fun hHeld => ?_)
          · (exact ⟨⟨ca hHeld.1.1 _, ca hHeld.1.2.1 _, ca hHeld.1.2.2.1 _, ca hHeld.1.2.2.2 _⟩, ca hHeld.2.1 _, ca hHeld.2.2 _⟩)
          clear hK K
          (try simp only [Act.put, List.setIfInBounds_toArray, List.set_cons_zero, List.set_cons_succ])
          refine wpAnyP_ready (rs := [5]) (by kernel_rfl) (by simp) ?_
          refine AllReadyP.cons (o := _) rfl (fun K hK => ?_) AllReadyP.nil
          · (refine step_append_lies _ (by rfl) _ _ _ (by rfl) (A + 2) 3 i0 _ 1 8 Tryz.underlying28 hi hz0 hz1 hz2 rfl (by omega) p k (cellsI X0 k) (by rfl) ((hRd.below ((Below.refl _ _).alloc (Nat.le_refl _) _)).below ((Below.refl _ _).alloc (Nat.le_refl _) _)).o1 ⟨Wd.heap.size + 1, 0, none⟩ 1 1 [.int .i64 (X0 k)] (by rfl) (by rfl) (World.news_of_block (cs := #[.int .i64 (X0 k)]) (t := 3) (fr := (0, 0)) (hb_new2 _ _ _ _)) (by simp [Value.oneCell']) (by omega) (by unfold maxLen; omega) (by omega) ((hRd.below ((Below.refl _ _).alloc (Nat.le_refl _) _)).below ((Below.refl _ _).alloc (Nat.le_refl _) _)).big _ rfl ?_; intro g5 cap5 wA5 hown5 hgrow5 hat5 hlt5; have hR5 := RX.push1 ((hRd.below ((Below.refl _ _).alloc (Nat.le_refl _) _)).below ((Below.refl _ _).alloc (Nat.le_refl _) _)) hgrow5 hown5 hat5; have hC5 := CX.grown ((hCd.below ((Below.refl _ _).alloc (Nat.le_refl _) _)).below ((Below.refl _ _).alloc (Nat.le_refl _) _)) hgrow5 (fun j hj => (hnp j hj).1); have hx10 := hb_grown (hb_alloc (World.alloc_heap_new _ _) _) hgrow5 (fun e => by have := (hnp _ e.symm).2; have := hsz; omega); have hsz5 : xb ≤ wA5.heap.size := (by have := hgrow5.size; (try simp only [World.size_alloc] at this); omega))
            refine hK.out _ _ ?_ (fun hHeld => ?_)
            · (exact ⟨⟨hgrow5.cell hHeld.1.1 (fun e => by have := hnp _ e.symm; dsimp only at this; omega), hgrow5.cell hHeld.1.2.1 (fun e => by have := hnp _ e.symm; dsimp only at this; omega), hgrow5.cell hHeld.1.2.2.1 (fun e => by have := hnp _ e.symm; dsimp only at this; omega), hgrow5.cell hHeld.1.2.2.2 (fun e => by have := hnp _ e.symm; dsimp only at this; omega)⟩, hgrow5.cell hHeld.2.1 (fun e => by have := hnp _ e.symm; dsimp only at this; omega), hgrow5.cell hHeld.2.2 (fun e => by have := hnp _ e.symm; dsimp only at this; omega)⟩)
            clear hK K
            (try simp only [Act.put, List.setIfInBounds_toArray, List.set_cons_zero, List.set_cons_succ])
            refine wpAnyP_take0 (i := 12) (v := ?_) rfl (by kernel_rfl) (by kernel_rfl) (by kernel_rfl) (by kernel_rfl) (by rfl) (fun _ _ _ h => h) (Or.inl ⟨by rfl, ?_⟩) hHeld ?_
            rotate_left 1
            · ((intro w9 hSw; (try dsimp only at hSw); go_simp) <;> with_reducible rfl)
            (try simp only [Act.put, List.setIfInBounds_toArray, List.set_cons_zero, List.set_cons_succ])
            refine wpAnyP_ready (rs := [11]) (by kernel_rfl) (by simp) ?_
            refine AllReadyP.cons (o := _) rfl (fun K hK => ?_) AllReadyP.nil
            · (refine step_append_lies _ (by rfl) _ _ _ (by rfl) (A + 2) 3 i0 _ 1 8 Tryz.underlying28 hi hz0 hz1 hz2 rfl (by omega) q k (cellsI Z1 k) (by rfl) hR5.o2 ⟨Wd.heap.size, 0, none⟩ 1 1 [.int .i64 (Z1 k)] (by rfl) (by rfl) (World.news_of_block (cs := #[.int .i64 (Z1 k)]) (t := 3) (fr := (0, 0)) hx10) (by simp [Value.oneCell']) (by omega) (by unfold maxLen; omega) (by omega) hR5.big _ rfl ?_; intro g11 cap11 wA11 hown11 hgrow11 hat11 hlt11; have hR11 := RX.push2 hR5 hgrow11 hown11 hat11; have hC11 := CX.grown hC5 hgrow11 (fun j hj => (hnq j hj).1); have hsz11 : xb ≤ wA11.heap.size := (by have := hgrow11.size; (try simp only [World.size_alloc] at this); omega); obtain ⟨_, cc1, cc2, cc3, cc4, cf1, cf2, cf3, cf4, _, _⟩ := id hC11)
              refine hK.out _ _ ?_ (fun hHeld => ?_)
              · (exact ⟨⟨hgrow11.cell hHeld.1.1 (fun e => by have := hnq _ e.symm; dsimp only at this; omega), hgrow11.cell hHeld.1.2.1 (fun e => by have := hnq _ e.symm; dsimp only at this; omega), hgrow11.cell hHeld.1.2.2.1 (fun e => by have := hnq _ e.symm; dsimp only at this; omega), hgrow11.cell hHeld.1.2.2.2 (fun e => by have := hnq _ e.symm; dsimp only at this; omega)⟩, hgrow11.cell hHeld.2.1 (fun e => by have := hnq _ e.symm; dsimp only at this; omega), hgrow11.cell hHeld.2.2 (fun e => by have := hnq _ e.symm; dsimp only at this; omega)⟩)
              clear hK K
              (try simp only [Act.put, List.setIfInBounds_toArray, List.set_cons_zero, List.set_cons_succ])
              refine wpAnyP_ready (rs := [13]) (by kernel_rfl) (by simp) ?_
              refine AllReadyP.behind (o := _) rfl (by kernel_rfl) (fun K hK => ?_) AllReadyP.nil
              · go_simp
                refine hK.out _ _ ?_ (fun hHeld => ?_)
                · (exact ⟨(World.cell?_setCell_far _ _ _ _ (by simp; omega)).trans hHeld.1.1, (World.cell?_setCell_far _ _ _ _ (by simp; omega)).trans hHeld.1.2.1, (World.cell?_setCell_far _ _ _ _ (by simp; omega)).trans hHeld.1.2.2.1, (World.cell?_setCell_far _ _ _ _ (by simp; omega)).trans hHeld.1.2.2.2⟩)
                clear hK K
                (try simp only [Act.put, List.setIfInBounds_toArray, List.set_cons_zero, List.set_cons_succ])
                refine wpAnyP_takeB (i := 14) (v := ?_) rfl (by kernel_rfl) (by kernel_rfl) (by kernel_rfl) (by kernel_rfl) (by rfl) (by kernel_rfl) (fun _ _ _ h => h) (Or.inl ⟨by rfl, ?_⟩) hHeld ?_
                rotate_left 1
                · ((intro w9 hSw; (try dsimp only at hSw); go_simp) <;> with_reducible rfl)
                (try simp only [Act.put, List.setIfInBounds_toArray, List.set_cons_zero, List.set_cons_succ])
                refine wpAnyP_ready (rs := [15]) (by kernel_rfl) (by simp) ?_
                refine AllReadyP.behind (o := _) rfl (by kernel_rfl) (fun K hK => ?_) AllReadyP.nil
                · go_simp
                  refine hK.out _ _ ?_ (fun hHeld => ?_)
                  · (exact ⟨(World.cell?_setCell_far _ _ _ _ (by simp; omega)).trans hHeld.1, (World.cell?_setCell_far _ _ _ _ (by simp; omega)).trans hHeld.2.1, (World.cell?_setCell_far _ _ _ _ (by simp; omega)).trans hHeld.2.2.1, (World.cell?_setCell_far _ _ _ _ (by simp; omega)).trans hHeld.2.2.2⟩)
                  clear hK K
                  (try simp only [Act.put, List.setIfInBounds_toArray, List.set_cons_zero, List.set_cons_succ])
                  refine wpAnyP_done (by kernel_rfl) ?_ _
                  (try simp only [Act.put, List.getElem_toArray, List.getElem_cons_zero, List.getElem_cons_succ, List.setIfInBounds_toArray, List.set_cons_zero, List.set_cons_succ])
                  have hC12 := (hC11.set1 (.slice (some ⟨g5, 0, none⟩) (k + 1) cap5)).set2 (.slice (some ⟨g11, 0, none⟩) (k + 1) cap11)
                  have hR12 := (hR11.set (a := ⟨A, 0, none⟩) (by show w.heap.size ≤ A; omega) (by show A < A + 2; omega) (.slice (some ⟨g5, 0, none⟩) (k + 1) cap5)).set (a := ⟨A, 1, none⟩) (by show w.heap.size ≤ A; omega) (by show A < A + 2; omega) (.slice (some ⟨g11, 0, none⟩) (k + 1) cap11)
                  have hsB : xb ≤ ((wA11.setCell ⟨A, 0, none⟩ (.slice (some ⟨g5, 0, none⟩) (k + 1) cap5)).setCell ⟨A, 1, none⟩ (.slice (some ⟨g11, 0, none⟩) (k + 1) cap11)).heap.size := by
                    rw [setCell_size, setCell_size]; exact hsz11
                  clear hC11 hR11 hC5 hR5 hown5 hown11 hat5 hat11 hlt5 hlt11 cc1 cc2 cc3 cc4 cf1 cf2 cf3 cf4 hgrow5 hgrow11 hsz11
                  generalize ((wA11.setCell ⟨A, 0, none⟩ (.slice (some ⟨g5, 0, none⟩) (k + 1) cap5)).setCell ⟨A, 1, none⟩ (.slice (some ⟨g11, 0, none⟩) (k + 1) cap11)) = WB at hC12 hR12 hHeld hsB ⊢
                  have hC := hC12
                  have hRX := hR12
                  clear hC12 hR12
                  obtain ⟨_, cc1, cc2, cc3, cc4, cf1, cf2, cf3, cf4, _, _⟩ := id hC
                  go_wp2_with fail
                  refine wp_region_late [13, 15] (fun w9 => w9.cell? ⟨xb, 0, none⟩ = some (.int .i64 (X0 k)) ∧ w9.cell? ⟨xb, 1, none⟩ = some (.int .i64 (X1 k)) ∧ w9.cell? ⟨xb + 1, 0, none⟩ = some (.int .i64 (Z0 k)) ∧ w9.cell? ⟨xb + 1, 1, none⟩ = some (.int .i64 (Z1 k))) (fun w9 => w9.cell? ⟨A + 1, 0, none⟩ = some r ∧ w9.cell? ⟨A + 1, 1, none⟩ = some s) (by kernel_rfl) ?_ (fun hHeld => ?_)
                  · (exact ⟨hHeld, cc3, cc4⟩)
                  have hCd := hC.below (Below.refl _ _).drew
                  have hRd := hRX.below (Below.refl _ _).drew
                  have hsz := (show xb ≤ WB.drew.heap.size from hsB)
                  clear hC hRX
                  generalize WB.drew = We at hHeld hCd hRd hsz ⊢
                  refine wpAnyP_take0 (i := 0) (v := ?_) rfl (by kernel_rfl) (by kernel_rfl) (by kernel_rfl) (by kernel_rfl) (by rfl) (fun _ _ _ h => h) (Or.inl ⟨by rfl, ?_⟩) hHeld ?_
                  rotate_left 1
                  · ((intro w9 hSw; (try dsimp only at hSw); go_simp) <;> with_reducible rfl)
                  (try simp only [Act.put, List.setIfInBounds_toArray, List.set_cons_zero, List.set_cons_succ])
                  refine wpAnyP_take 8 (i := 1) (v := ?_) rfl (by kernel_rfl) (by kernel_rfl) (by kernel_rfl) (by kernel_rfl) (by rfl) (by kernel_rfl) (fun _ _ _ h => h) (Or.inl ⟨by rfl, ?_⟩) hHeld ?_
                  rotate_left 1
                  · ((intro w9 hSw; (try dsimp only at hSw); go_simp) <;> with_reducible rfl)
                  (try simp only [Act.put, List.setIfInBounds_toArray, List.set_cons_zero, List.set_cons_succ])
                  refine wpAnyP_take0 (i := 2) (v := ?_) rfl (by kernel_rfl) (by kernel_rfl) (by kernel_rfl) (by kernel_rfl) (by rfl) (fun _ _ _ h => h) (Or.inl ⟨by rfl, ?_⟩) hHeld ?_
                  rotate_left 1
                  · ((intro w9 hSw; (try dsimp only at hSw); go_simp) <;> with_reducible rfl)
                  (try simp only [Act.put, List.setIfInBounds_toArray, List.set_cons_zero, List.set_cons_succ])
                  refine wpAnyP_take0 (i := 3) (v := ?_) rfl (by kernel_rfl) (by kernel_rfl) (by kernel_rfl) (by kernel_rfl) (by rfl) (fun _ _ _ h => h) (Or.inl ⟨by rfl, ?_⟩) hHeld ?_
                  rotate_left 1
                  · ((intro w9 hSw; (try dsimp only at hSw); go_simp) <;> with_reducible rfl)
                  (try simp only [Act.put, List.setIfInBounds_toArray, List.set_cons_zero, List.set_cons_succ])
                  refine wpAnyP_take0 (i := 6) (v := ?_) rfl (by kernel_rfl) (by kernel_rfl) (by kernel_rfl) (by kernel_rfl) (by rfl) (fun _ _ _ h => h) (Or.inl ⟨by rfl, ?_⟩) hHeld ?_
                  rotate_left 1
                  · ((intro w9 hSw; (try dsimp only at hSw); go_simp) <;> with_reducible rfl)
                  (try simp only [Act.put, List.setIfInBounds_toArray, List.set_cons_zero, List.set_cons_succ])
                  refine wpAnyP_take 8 (i := 7) (v := ?_) rfl (by kernel_rfl) (by kernel_rfl) (by kernel_rfl) (by kernel_rfl) (by rfl) (by kernel_rfl) (fun _ _ _ h => h) (Or.inl ⟨by rfl, ?_⟩) hHeld ?_
                  rotate_left 1
                  · ((intro w9 hSw; (try dsimp only at hSw); go_simp) <;> with_reducible rfl)
                  (try simp only [Act.put, List.setIfInBounds_toArray, List.set_cons_zero, List.set_cons_succ])
                  refine wpAnyP_take0 (i := 8) (v := ?_) rfl (by kernel_rfl) (by kernel_rfl) (by kernel_rfl) (by kernel_rfl) (by rfl) (fun _ _ _ h => h) (Or.inl ⟨by rfl, ?_⟩) hHeld ?_
                  rotate_left 1
                  · ((intro w9 hSw; (try dsimp only at hSw); go_simp) <;> with_reducible rfl)
                  (try simp only [Act.put, List.setIfInBounds_toArray, List.set_cons_zero, List.set_cons_succ])
                  refine wpAnyP_take0 (i := 9) (v := ?_) rfl (by kernel_rfl) (by kernel_rfl) (by kernel_rfl) (by kernel_rfl) (by rfl) (fun _ _ _ h => h) (Or.inl ⟨by rfl, ?_⟩) hHeld ?_
                  rotate_left 1
                  · ((intro w9 hSw; (try dsimp only at hSw); go_simp) <;> with_reducible rfl)
                  (try simp only [Act.put, List.setIfInBounds_toArray, List.set_cons_zero, List.set_cons_succ])
                  refine wpAnyP_ready (rs := [4, 10]) (by kernel_rfl) (by simp) ?_
                  refine AllReadyP.cons (o := _) rfl (fun K hK => ?_) (AllReadyP.cons (o := _) rfl (fun K hK => ?_) AllReadyP.nil)
                  · go_simp
                    refine hK.out _ _ ?_ (fun hHeld => ?_)
                    · (exact ⟨⟨ca hHeld.1.1 _, ca hHeld.1.2.1 _, ca hHeld.1.2.2.1 _, ca hHeld.1.2.2.2 _⟩, ca hHeld.2.1 _, ca hHeld.2.2 _⟩)
                    clear hK K
                    (try simp only [Act.put, List.setIfInBounds_toArray, List.set_cons_zero, List.set_cons_succ])
                    refine wpAnyP_ready (rs := [5, 10]) (by kernel_rfl) (by simp) ?_
                    refine AllReadyP.cons (o := _) rfl (fun K hK => ?_) (AllReadyP.cons (o := _) rfl (fun K hK => ?_) AllReadyP.nil)
                    · (refine step_append_lies _ (by rfl) _ _ _ (by rfl) (A + 2) 3 i0 _ 1 8 Tryz.underlying28 hi hz0 hz1 hz2 rfl (by omega) r k (cellsI X1 k) (by rfl) (hRd.below ((Below.refl _ _).alloc (Nat.le_refl _) _)).o3 ⟨We.heap.size, 0, none⟩ 1 1 [.int .i64 (X1 k)] (by rfl) (by rfl) (World.news_of_block (cs := #[.int .i64 (X1 k)]) (t := 3) (fr := (0, 0)) (World.alloc_heap_new _ _)) (by simp [Value.oneCell']) (by omega) (by unfold maxLen; omega) (by omega) (hRd.below ((Below.refl _ _).alloc (Nat.le_refl _) _)).big _ rfl ?_; intro g5 cap5 wA5 hown5 hgrow5 hat5 hlt5; have hR5 := RX.push3 (hRd.below ((Below.refl _ _).alloc (Nat.le_refl _) _)) hgrow5 hown5 hat5; have hC5 := CX.grown (hCd.below ((Below.refl _ _).alloc (Nat.le_refl _) _)) hgrow5 (fun j hj => (hnr j hj).1); have hsz5 : xb ≤ wA5.heap.size := (by have := hgrow5.size; (try simp only [World.size_alloc] at this); omega))
                      refine hK.out _ _ ?_ (fun hHeld => ?_)
                      · (exact ⟨⟨hgrow5.cell hHeld.1.1 (fun e => by have := hnr _ e.symm; dsimp only at this; omega), hgrow5.cell hHeld.1.2.1 (fun e => by have := hnr _ e.symm; dsimp only at this; omega), hgrow5.cell hHeld.1.2.2.1 (fun e => by have := hnr _ e.symm; dsimp only at this; omega), hgrow5.cell hHeld.1.2.2.2 (fun e => by have := hnr _ e.symm; dsimp only at this; omega)⟩, hgrow5.cell hHeld.2.1 (fun e => by have := hnr _ e.symm; dsimp only at this; omega), hgrow5.cell hHeld.2.2 (fun e => by have := hnr _ e.symm; dsimp only at this; omega)⟩)
                      clear hK K
                      (try simp only [Act.put, List.setIfInBounds_toArray, List.set_cons_zero, List.set_cons_succ])
                      refine wpAnyP_take0 (i := 12) (v := ?_) rfl (by kernel_rfl) (by kernel_rfl) (by kernel_rfl) (by kernel_rfl) (by rfl) (fun _ _ _ h => h) (Or.inl ⟨by rfl, ?_⟩) hHeld ?_
                      rotate_left 1
                      · ((intro w9 hSw; (try dsimp only at hSw); go_simp) <;> with_reducible rfl)
                      (try simp only [Act.put, List.setIfInBounds_toArray, List.set_cons_zero, List.set_cons_succ])
                      refine wpAnyP_ready (rs := [10]) (by kernel_rfl) (by simp) ?_
                      refine AllReadyP.cons (o := _) rfl (fun K hK => ?_) AllReadyP.nil
                      · go_simp
                        refine hK.out _ _ ?_ (fun hHeld => ?_)
                        · (exact ⟨⟨ca hHeld.1.1 _, ca hHeld.1.2.1 _, ca hHeld.1.2.2.1 _, ca hHeld.1.2.2.2 _⟩, ca hHeld.2.1 _, ca hHeld.2.2 _⟩)
                        clear hK K
                        (try simp only [Act.put, List.setIfInBounds_toArray, List.set_cons_zero, List.set_cons_succ])
                        refine wpAnyP_ready (rs := [11]) (by kernel_rfl) (by simp) ?_
                        refine AllReadyP.cons (o := _) rfl (fun K hK => ?_) AllReadyP.nil
                        · (refine step_append_lies _ (by rfl) _ _ _ (by rfl) (A + 2) 3 i0 _ 1 8 Tryz.underlying28 hi hz0 hz1 hz2 rfl (by omega) s k (cellsI Z0 k) (by rfl) (hR5.below ((Below.refl _ _).alloc (Nat.le_refl _) _)).o4 ⟨wA5.heap.size, 0, none⟩ 1 1 [.int .i64 (Z0 k)] (by rfl) (by rfl) (World.news_of_block (cs := #[.int .i64 (Z0 k)]) (t := 3) (fr := (0, 0)) (World.alloc_heap_new _ _)) (by simp [Value.oneCell']) (by omega) (by unfold maxLen; omega) (by omega) (hR5.below ((Below.refl _ _).alloc (Nat.le_refl _) _)).big _ rfl ?_; intro g11 cap11 wA11 hown11 hgrow11 hat11 hlt11; have hR11 := RX.push4 (hR5.below ((Below.refl _ _).alloc (Nat.le_refl _) _)) hgrow11 hown11 hat11; have hC11 := CX.grown (hC5.below ((Below.refl _ _).alloc (Nat.le_refl _) _)) hgrow11 (fun j hj => (hns j hj).1); have hsz11 : xb ≤ wA11.heap.size := (by have := hgrow11.size; (try simp only [World.size_alloc] at this); omega); obtain ⟨_, cc1, cc2, cc3, cc4, cf1, cf2, cf3, cf4, _, _⟩ := id hC11)
                          refine hK.out _ _ ?_ (fun hHeld => ?_)
                          · (exact ⟨⟨hgrow11.cell hHeld.1.1 (fun e => by have := hns _ e.symm; dsimp only at this; omega), hgrow11.cell hHeld.1.2.1 (fun e => by have := hns _ e.symm; dsimp only at this; omega), hgrow11.cell hHeld.1.2.2.1 (fun e => by have := hns _ e.symm; dsimp only at this; omega), hgrow11.cell hHeld.1.2.2.2 (fun e => by have := hns _ e.symm; dsimp only at this; omega)⟩, hgrow11.cell hHeld.2.1 (fun e => by have := hns _ e.symm; dsimp only at this; omega), hgrow11.cell hHeld.2.2 (fun e => by have := hns _ e.symm; dsimp only at this; omega)⟩)
                          clear hK K
                          (try simp only [Act.put, List.setIfInBounds_toArray, List.set_cons_zero, List.set_cons_succ])
                          refine wpAnyP_ready (rs := [13]) (by kernel_rfl) (by simp) ?_
                          refine AllReadyP.behind (o := _) rfl (by kernel_rfl) (fun K hK => ?_) AllReadyP.nil
                          · go_simp
                            refine hK.out _ _ ?_ (fun hHeld => ?_)
                            · (exact ⟨(World.cell?_setCell_far _ _ _ _ (by simp; omega)).trans hHeld.1.1, (World.cell?_setCell_far _ _ _ _ (by simp; omega)).trans hHeld.1.2.1, (World.cell?_setCell_far _ _ _ _ (by simp; omega)).trans hHeld.1.2.2.1, (World.cell?_setCell_far _ _ _ _ (by simp; omega)).trans hHeld.1.2.2.2⟩)
                            clear hK K
                            (try simp only [Act.put, List.setIfInBounds_toArray, List.set_cons_zero, List.set_cons_succ])
                            refine wpAnyP_takeB (i := 14) (v := ?_) rfl (by kernel_rfl) (by kernel_rfl) (by kernel_rfl) (by kernel_rfl) (by rfl) (by kernel_rfl) (fun _ _ _ h => h) (Or.inl ⟨by rfl, ?_⟩) hHeld ?_
                            rotate_left 1
                            · ((intro w9 hSw; (try dsimp only at hSw); go_simp) <;> with_reducible rfl)
                            (try simp only [Act.put, List.setIfInBounds_toArray, List.set_cons_zero, List.set_cons_succ])
                            refine wpAnyP_ready (rs := [15]) (by kernel_rfl) (by simp) ?_
                            refine AllReadyP.behind (o := _) rfl (by kernel_rfl) (fun K hK => ?_) AllReadyP.nil
                            · go_simp
                              refine hK.out _ _ ?_ (fun hHeld => ?_)
                              · (exact ⟨(World.cell?_setCell_far _ _ _ _ (by simp; omega)).trans hHeld.1, (World.cell?_setCell_far _ _ _ _ (by simp; omega)).trans hHeld.2.1, (World.cell?_setCell_far _ _ _ _ (by simp; omega)).trans hHeld.2.2.1, (World.cell?_setCell_far _ _ _ _ (by simp; omega)).trans hHeld.2.2.2⟩)
                              clear hK K
                              (try simp only [Act.put, List.setIfInBounds_toArray, List.set_cons_zero, List.set_cons_succ])
                              refine wpAnyP_done (by kernel_rfl) ?_ _
                              (try simp only [Act.put, List.getElem_toArray, List.getElem_cons_zero, List.getElem_cons_succ, List.setIfInBounds_toArray, List.set_cons_zero, List.set_cons_succ])
                              clear hHeld
                              have hC12 := (hC11.set3 (.slice (some ⟨g5, 0, none⟩) (k + 1) cap5)).set4 (.slice (some ⟨g11, 0, none⟩) (k + 1) cap11)
                              have hR12 := (hR11.set (a := ⟨A + 1, 0, none⟩) (by show w.heap.size ≤ A + 1; omega) (by show A + 1 < A + 2; omega) (.slice (some ⟨g5, 0, none⟩) (k + 1) cap5)).set (a := ⟨A + 1, 1, none⟩) (by show w.heap.size ≤ A + 1; omega) (by show A + 1 < A + 2; omega) (.slice (some ⟨g11, 0, none⟩) (k + 1) cap11)
                              go_wp2
                              go_roundw
                              case rel => exact ⟨k + 1, _, _, _, _, by omega, by go_num, hC12, hR12⟩
                              case measure => simp [intOf]; omega
                    · go_simp
                      refine hK.out _ _ ?_ (fun hHeld => ?_)
                      · (exact ⟨⟨ca hHeld.1.1 _, ca hHeld.1.2.1 _, ca hHeld.1.2.2.1 _, ca hHeld.1.2.2.2 _⟩, ca hHeld.2.1 _, ca hHeld.2.2 _⟩)
                      clear hK K
                      (try simp only [Act.put, List.setIfInBounds_toArray, List.set_cons_zero, List.set_cons_succ])
                      refine wpAnyP_ready (rs := [5]) (by kernel_rfl) (by simp) ?_
                      refine AllReadyP.cons (o := _) rfl (fun K hK => ?_) AllReadyP.nil
                      · (refine step_append_lies _ (by rfl) _ _ _ (by rfl) (A + 2) 3 i0 _ 1 8 Tryz.underlying28 hi hz0 hz1 hz2 rfl (by omega) r k (cellsI X1 k) (by rfl) ((hRd.below ((Below.refl _ _).alloc (Nat.le_refl _) _)).below ((Below.refl _ _).alloc (Nat.le_refl _) _)).o3 ⟨We.heap.size, 0, none⟩ 1 1 [.int .i64 (X1 k)] (by rfl) (by rfl) (World.news_of_block (cs := #[.int .i64 (X1 k)]) (t := 3) (fr := (0, 0)) (hb_alloc (World.alloc_heap_new _ _) _)) (by simp [Value.oneCell']) (by omega) (by unfold maxLen; omega) (by omega) ((hRd.below ((Below.refl _ _).alloc (Nat.le_refl _) _)).below ((Below.refl _ _).alloc (Nat.le_refl _) _)).big _ rfl ?_; intro g5 cap5 wA5 hown5 hgrow5 hat5 hlt5; have hR5 := RX.push3 ((hRd.below ((Below.refl _ _).alloc (Nat.le_refl _) _)).below ((Below.refl _ _).alloc (Nat.le_refl _) _)) hgrow5 hown5 hat5; have hC5 := CX.grown ((hCd.below ((Below.refl _ _).alloc (Nat.le_refl _) _)).below ((Below.refl _ _).alloc (Nat.le_refl _) _)) hgrow5 (fun j hj => (hnr j hj).1); have hx10 := hb_grown (hb_new2 _ _ _ _) hgrow5 (fun e => by have := (hnr _ e.symm).2; have := hsz; omega); have hsz5 : xb ≤ wA5.heap.size := (by have := hgrow5.size; (try simp only [World.size_alloc] at this); omega))
                        refine hK.out _ _ ?_ (fun hHeld => ?_)
                        · (exact ⟨⟨hgrow5.cell hHeld.1.1 (fun e => by have := hnr _ e.symm; dsimp only at this; omega), hgrow5.cell hHeld.1.2.1 (fun e => by have := hnr _ e.symm; dsimp only at this; omega), hgrow5.cell hHeld.1.2.2.1 (fun e => by have := hnr _ e.symm; dsimp only at this; omega), hgrow5.cell hHeld.1.2.2.2 (fun e => by have := hnr _ e.symm; dsimp only at this; omega)⟩, hgrow5.cell hHeld.2.1 (fun e => by have := hnr _ e.symm; dsimp only at this; omega), hgrow5.cell hHeld.2.2 (fun e => by have := hnr _ e.symm; dsimp only at this; omega)⟩)
                        clear hK K
                        (try simp only [Act.put, List.setIfInBounds_toArray, List.set_cons_zero, List.set_cons_succ])
                        refine wpAnyP_take0 (i := 12) (v := ?_) rfl (by kernel_rfl) (by kernel_rfl) (by kernel_rfl) (by kernel_rfl) (by rfl) (fun _ _ _ h => h) (Or.inl ⟨by rfl, ?_⟩) hHeld ?_
                        rotate_left 1
                        · ((intro w9 hSw; (try dsimp only at hSw); go_simp) <;> with_reducible rfl)
                        (try simp only [Act.put, List.setIfInBounds_toArray, List.set_cons_zero, List.set_cons_succ])
                        refine wpAnyP_ready (rs := [11]) (by kernel_rfl) (by simp) ?_
                        refine AllReadyP.cons (o := _) rfl (fun K hK => ?_) AllReadyP.nil
                        · (refine step_append_lies _ (by rfl) _ _ _ (by rfl) (A + 2) 3 i0 _ 1 8 Tryz.underlying28 hi hz0 hz1 hz2 rfl (by omega) s k (cellsI Z0 k) (by rfl) hR5.o4 ⟨We.heap.size + 1, 0, none⟩ 1 1 [.int .i64 (Z0 k)] (by rfl) (by rfl) (World.news_of_block (cs := #[.int .i64 (Z0 k)]) (t := 3) (fr := (0, 0)) hx10) (by simp [Value.oneCell']) (by omega) (by unfold maxLen; omega) (by omega) hR5.big _ rfl ?_; intro g11 cap11 wA11 hown11 hgrow11 hat11 hlt11; have hR11 := RX.push4 hR5 hgrow11 hown11 hat11; have hC11 := CX.grown hC5 hgrow11 (fun j hj => (hns j hj).1); have hsz11 : xb ≤ wA11.heap.size := (by have := hgrow11.size; (try simp only [World.size_alloc] at this); omega); obtain ⟨_, cc1, cc2, cc3, cc4, cf1, cf2, cf3, cf4, _, _⟩ := id hC11)
                          refine hK.out _ _ ?_ (fun hHeld => ?_)
                          · (exact ⟨⟨hgrow11.cell hHeld.1.1 (fun e => by have := hns _ e.symm; dsimp only at this; omega), hgrow11.cell hHeld.1.2.1 (fun e => by have := hns _ e.symm; dsimp only at this; omega), hgrow11.cell hHeld.1.2.2.1 (fun e => by have := hns _ e.symm; dsimp only at this; omega), hgrow11.cell hHeld.1.2.2.2 (fun e => by have := hns _ e.symm; dsimp only at this; omega)⟩, hgrow11.cell hHeld.2.1 (fun e => by have := hns _ e.symm; dsimp only at this; omega), hgrow11.cell hHeld.2.2 (fun e => by have := hns _ e.symm; dsimp only at this; omega)⟩)
                          clear hK K
                          (try simp only [Act.put, List.setIfInBounds_toArray, List.set_cons_zero, List.set_cons_succ])
                          refine wpAnyP_ready (rs := [13]) (by kernel_rfl) (by simp) ?_
                          refine AllReadyP.behind (o := _) rfl (by kernel_rfl) (fun K hK => ?_) AllReadyP.nil
                          · go_simp
                            refine hK.out _ _ ?_ (fun hHeld => ?_)
                            · (exact ⟨(World.cell?_setCell_far _ _ _ _ (by simp; omega)).trans hHeld.1.1, (World.cell?_setCell_far _ _ _ _ (by simp; omega)).trans hHeld.1.2.1, (World.cell?_setCell_far _ _ _ _ (by simp; omega)).trans hHeld.1.2.2.1, (World.cell?_setCell_far _ _ _ _ (by simp; omega)).trans hHeld.1.2.2.2⟩)
                            clear hK K
                            (try simp only [Act.put, List.setIfInBounds_toArray, List.set_cons_zero, List.set_cons_succ])
                            refine wpAnyP_takeB (i := 14) (v := ?_) rfl (by kernel_rfl) (by kernel_rfl) (by kernel_rfl) (by kernel_rfl) (by rfl) (by kernel_rfl) (fun _ _ _ h => h) (Or.inl ⟨by rfl, ?_⟩) hHeld ?_
                            rotate_left 1
                            · ((intro w9 hSw; (try dsimp only at hSw); go_simp) <;> with_reducible rfl)
                            (try simp only [Act.put, List.setIfInBounds_toArray, List.set_cons_zero, List.set_cons_succ])
                            refine wpAnyP_ready (rs := [15]) (by kernel_rfl) (by simp) ?_
                            refine AllReadyP.behind (o := _) rfl (by kernel_rfl) (fun K hK => ?_) AllReadyP.nil
                            · go_simp
                              refine hK.out _ _ ?_ (fun hHeld => ?_)
                              · (exact ⟨(World.cell?_setCell_far _ _ _ _ (by simp; omega)).trans hHeld.1, (World.cell?_setCell_far _ _ _ _ (by simp; omega)).trans hHeld.2.1, (World.cell?_setCell_far _ _ _ _ (by simp; omega)).trans hHeld.2.2.1, (World.cell?_setCell_far _ _ _ _ (by simp; omega)).trans hHeld.2.2.2⟩)
                              clear hK K
                              (try simp only [Act.put, List.setIfInBounds_toArray, List.set_cons_zero, List.set_cons_succ])
                              refine wpAnyP_done (by kernel_rfl) ?_ _
                              (try simp only [Act.put, List.getElem_toArray, List.getElem_cons_zero, List.getElem_cons_succ, List.setIfInBounds_toArray, List.set_cons_zero, List.set_cons_succ])
                              clear hHeld
                              have hC12 := (hC11.set3 (.slice (some ⟨g5, 0, none⟩) (k + 1) cap5)).set4 (.slice (some ⟨g11, 0, none⟩) (k + 1) cap11)
                              have hR12 := (hR11.set (a := ⟨A + 1, 0, none⟩) (by show w.heap.size ≤ A + 1; omega) (by show A + 1 < A + 2; omega) (.slice (some ⟨g5, 0, none⟩) (k + 1) cap5)).set (a := ⟨A + 1, 1, none⟩) (by show w.heap.size ≤ A + 1; omega) (by show A + 1 < A + 2; omega) (.slice (some ⟨g11, 0, none⟩) (k + 1) cap11)
                              go_wp2
                              go_roundw
                              case rel => exact ⟨k + 1, _, _, _, _, by omega, by go_num, hC12, hR12⟩
                              case measure => simp [intOf]; omega
                  · go_simp
                    refine hK.out _ _ ?_ (fun hHeld => ?_)
                    · (exact ⟨⟨ca hHeld.1.1 _, ca hHeld.1.2.1 _, ca hHeld.1.2.2.1 _, ca hHeld.1.2.2.2 _⟩, ca hHeld.2.1 _, ca hHeld.2.2 _⟩)
                    clear hK K
                    (try simp only [Act.put, List.setIfInBounds_toArray, List.set_cons_zero, List.set_cons_succ])
                    refine wpAnyP_ready (rs := [4]) (by kernel_rfl) (by simp) ?_
                    refine AllReadyP.cons (o := _) rfl (fun K hK => ?_) AllReadyP.nil
                    · go_simp
                      refine hK.out _ _ ?_ (fun hHeld => ?_)
                      · (exact ⟨⟨ca hHeld.1.1 _, ca hHeld.1.2.1 _, ca hHeld.1.2.2.1 _, ca hHeld.1.2.2.2 _⟩, ca hHeld.2.1 _, ca hHeld.2.2 _⟩)
                      clear hK K
                      (try simp only [Act.put, List.setIfInBounds_toArray, List.set_cons_zero, List.set_cons_succ])
                      refine wpAnyP_ready (rs := [5]) (by kernel_rfl) (by simp) ?_
                      refine AllReadyP.cons (o := _) rfl (fun K hK => ?_) AllReadyP.nil
                      · (refine step_append_lies _ (by rfl) _ _ _ (by rfl) (A + 2) 3 i0 _ 1 8 Tryz.underlying28 hi hz0 hz1 hz2 rfl (by omega) r k (cellsI X1 k) (by rfl) ((hRd.below ((Below.refl _ _).alloc (Nat.le_refl _) _)).below ((Below.refl _ _).alloc (Nat.le_refl _) _)).o3 ⟨We.heap.size + 1, 0, none⟩ 1 1 [.int .i64 (X1 k)] (by rfl) (by rfl) (World.news_of_block (cs := #[.int .i64 (X1 k)]) (t := 3) (fr := (0, 0)) (hb_new2 _ _ _ _)) (by simp [Value.oneCell']) (by omega) (by unfold maxLen; omega) (by omega) ((hRd.below ((Below.refl _ _).alloc (Nat.le_refl _) _)).below ((Below.refl _ _).alloc (Nat.le_refl _) _)).big _ rfl ?_; intro g5 cap5 wA5 hown5 hgrow5 hat5 hlt5; have hR5 := RX.push3 ((hRd.below ((Below.refl _ _).alloc (Nat.le_refl _) _)).below ((Below.refl _ _).alloc (Nat.le_refl _) _)) hgrow5 hown5 hat5; have hC5 := CX.grown ((hCd.below ((Below.refl _ _).alloc (Nat.le_refl _) _)).below ((Below.refl _ _).alloc (Nat.le_refl _) _)) hgrow5 (fun j hj => (hnr j hj).1); have hx10 := hb_grown (hb_alloc (World.alloc_heap_new _ _) _) hgrow5 (fun e => by have := (hnr _ e.symm).2; have := hsz; omega); have hsz5 : xb ≤ wA5.heap.size := (by have := hgrow5.size; (try simp only [World.size_alloc] at this); omega))
                        refine hK.out _ _ ?_ (fun hHeld => ?_)
                        · (exact ⟨⟨hgrow5.cell hHeld.1.1 (fun e => by have := hnr _ e.symm; dsimp only at this; omega), hgrow5.cell hHeld.1.2.1 (fun e => by have := hnr _ e.symm; dsimp only at this; omega), hgrow5.cell hHeld.1.2.2.1 (fun e => by have := hnr _ e.symm; dsimp only at this; omega), hgrow5.cell hHeld.1.2.2.2 (fun e => by have := hnr _ e.symm; dsimp only at this; omega)⟩, hgrow5.cell hHeld.2.1 (fun e => by have := hnr _ e.symm; dsimp only at this; omega), hgrow5.cell hHeld.2.2 (fun e => by have := hnr _ e.symm; dsimp only at this; omega)⟩)
                        clear hK K
                        (try simp only [Act.put, List.setIfInBounds_toArray, List.set_cons_zero, List.set_cons_succ])
                        refine wpAnyP_take0 (i := 12) (v := ?_) rfl (by kernel_rfl) (by kernel_rfl) (by kernel_rfl) (by kernel_rfl) (by rfl) (fun _ _ _ h => h) (Or.inl ⟨by rfl, ?_⟩) hHeld ?_
                        rotate_left 1
                        · ((intro w9 hSw; (try dsimp only at hSw); go_simp) <;> with_reducible rfl)
                        (try simp only [Act.put, List.setIfInBounds_toArray, List.set_cons_zero, List.set_cons_succ])
                        refine wpAnyP_ready (rs := [11]) (by kernel_rfl) (by simp) ?_
                        refine AllReadyP.cons (o := _) rfl (fun K hK => ?_) AllReadyP.nil
                        · (refine step_append_lies _ (by rfl) _ _ _ (by rfl) (A + 2) 3 i0 _ 1 8 Tryz.underlying28 hi hz0 hz1 hz2 rfl (by omega) s k (cellsI Z0 k) (by rfl) hR5.o4 ⟨We.heap.size, 0, none⟩ 1 1 [.int .i64 (Z0 k)] (by rfl) (by rfl) (World.news_of_block (cs := #[.int .i64 (Z0 k)]) (t := 3) (fr := (0, 0)) hx10) (by simp [Value.oneCell']) (by omega) (by unfold maxLen; omega) (by omega) hR5.big _ rfl ?_; intro g11 cap11 wA11 hown11 hgrow11 hat11 hlt11; have hR11 := RX.push4 hR5 hgrow11 hown11 hat11; have hC11 := CX.grown hC5 hgrow11 (fun j hj => (hns j hj).1); have hsz11 : xb ≤ wA11.heap.size := (by have := hgrow11.size; (try simp only [World.size_alloc] at this); omega); obtain ⟨_, cc1, cc2, cc3, cc4, cf1, cf2, cf3, cf4, _, _⟩ := id hC11)
                          refine hK.out _ _ ?_ (fun hHeld => ?_)
                          · (exact ⟨⟨hgrow11.cell hHeld.1.1 (fun e => by have := hns _ e.symm; dsimp only at this; omega), hgrow11.cell hHeld.1.2.1 (fun e => by have := hns _ e.symm; dsimp only at this; omega), hgrow11.cell hHeld.1.2.2.1 (fun e => by have := hns _ e.symm; dsimp only at this; omega), hgrow11.cell hHeld.1.2.2.2 (fun e => by have := hns _ e.symm; dsimp only at this; omega)⟩, hgrow11.cell hHeld.2.1 (fun e => by have := hns _ e.symm; dsimp only at this; omega), hgrow11.cell hHeld.2.2 (fun e => by have := hns _ e.symm; dsimp only at this; omega)⟩)
                          clear hK K
                          (try simp only [Act.put, List.setIfInBounds_toArray, List.set_cons_zero, List.set_cons_succ])
                          refine wpAnyP_ready (rs := [13]) (by kernel_rfl) (by simp) ?_
                          refine AllReadyP.behind (o := _) rfl (by kernel_rfl) (fun K hK => ?_) AllReadyP.nil
                          · go_simp
                            refine hK.out _ _ ?_ (fun hHeld => ?_)
                            · (exact ⟨(World.cell?_setCell_far _ _ _ _ (by simp; omega)).trans hHeld.1.1, (World.cell?_setCell_far _ _ _ _ (by simp; omega)).trans hHeld.1.2.1, (World.cell?_setCell_far _ _ _ _ (by simp; omega)).trans hHeld.1.2.2.1, (World.cell?_setCell_far _ _ _ _ (by simp; omega)).trans hHeld.1.2.2.2⟩)
                            clear hK K
                            (try simp only [Act.put, List.setIfInBounds_toArray, List.set_cons_zero, List.set_cons_succ])
                            refine wpAnyP_takeB (i := 14) (v := ?_) rfl (by kernel_rfl) (by kernel_rfl) (by kernel_rfl) (by kernel_rfl) (by rfl) (by kernel_rfl) (fun _ _ _ h => h) (Or.inl ⟨by rfl, ?_⟩) hHeld ?_
                            rotate_left 1
                            · ((intro w9 hSw; (try dsimp only at hSw); go_simp) <;> with_reducible rfl)
                            (try simp only [Act.put, List.setIfInBounds_toArray, List.set_cons_zero, List.set_cons_succ])
                            refine wpAnyP_ready (rs := [15]) (by kernel_rfl) (by simp) ?_
                            refine AllReadyP.behind (o := _) rfl (by kernel_rfl) (fun K hK => ?_) AllReadyP.nil
                            · go_simp
                              refine hK.out _ _ ?_ (fun hHeld => ?_)
                              · (exact ⟨(World.cell?_setCell_far _ _ _ _ (by simp; omega)).trans hHeld.1, (World.cell?_setCell_far _ _ _ _ (by simp; omega)).trans hHeld.2.1, (World.cell?_setCell_far _ _ _ _ (by simp; omega)).trans hHeld.2.2.1, (World.cell?_setCell_far _ _ _ _ (by simp; omega)).trans hHeld.2.2.2⟩)
                              clear hK K
                              (try simp only [Act.put, List.setIfInBounds_toArray, List.set_cons_zero, List.set_cons_succ])
                              refine wpAnyP_done (by kernel_rfl) ?_ _
                              (try simp only [Act.put, List.getElem_toArray, List.getElem_cons_zero, List.getElem_cons_succ, List.setIfInBounds_toArray, List.set_cons_zero, List.set_cons_succ])
                              clear hHeld
                              have hC12 := (hC11.set3 (.slice (some ⟨g5, 0, none⟩) (k + 1) cap5)).set4 (.slice (some ⟨g11, 0, none⟩) (k + 1) cap11)
                              have hR12 := (hR11.set (a := ⟨A + 1, 0, none⟩) (by show w.heap.size ≤ A + 1; omega) (by show A + 1 < A + 2; omega) (.slice (some ⟨g5, 0, none⟩) (k + 1) cap5)).set (a := ⟨A + 1, 1, none⟩) (by show w.heap.size ≤ A + 1; omega) (by show A + 1 < A + 2; omega) (.slice (some ⟨g11, 0, none⟩) (k + 1) cap11)
                              go_wp2
                              go_roundw
                              case rel => exact ⟨k + 1, _, _, _, _, by omega, by go_num, hC12, hR12⟩
                              case measure => simp [intOf]; omega
    · obtain rfl : k = 13 := by omega
      go_wp2_with (first
        | (go_at_call 10; with_reducible refine (hmc _ hRX.old).mono ?_; rintro e w1 ⟨rfl, hb⟩; replace hC := hC.below hb; replace hRX := hRX.below hb; obtain ⟨⟨q0, q1, q2, q3, q4, q5, q6, q7, q8, q9⟩, cc1, cc2, cc3, cc4, cf1, cf2, cf3, cf4, _, hbig⟩ := id hC)
        | (go_at_call 9; refine (known_ok _ (hk.below hRX.old)).mono ?_; rintro e w1 ⟨rfl, hb⟩; replace hRX := hRX.below hb))
      go_ret
      exact ⟨rfl, hRX.old⟩
end Go.Proofs.YtfhakedgihecoaaGreatDoor
