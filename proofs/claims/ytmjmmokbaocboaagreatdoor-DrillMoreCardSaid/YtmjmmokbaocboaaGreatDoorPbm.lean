/- A part of the proof: see the last file. -/
import Derived.Test.YtmjmmokbaocboaaGreatDoorPaq
set_option linter.unusedVariables false
set_option linter.unusedSimpArgs false
set_option linter.unusedSectionVars false
namespace Go.Proofs.YtmjmmokbaocboaaGreatDoor
open Go.RowKit
set_option maxRecDepth 100000 in
set_option maxHeartbeats 1000000 in
theorem Gauge_ok (a1 : Option Addr) (c1 : Nat) (r : Int) (HX HY : Nat → Int) (m : Mach) (w : World) (hn : m.sn ≤ 1000) (hr : m.rn ≤ 9223372036854775807) (hp : PSc w (.slice a1 m.sn c1) m.sn HX HY) (h : MIn w m) (hok : m.ok = true) (hc : m.can)
    (hme : measB m.sn HX HY r = true) (wd : Nat → Int) (hwd : ∀ k, k ≤ 12 → IsWord (goodB m.sn HX HY m.SX m.SY r) (m.axX.ends k).1 (m.axX.ends k).2 (m.axY.ends k).1 (m.axY.ends k).2 (wd k)) (n : Nat) (hgz : IsGauge wd n) :
    Calls Tryz.prog 13 #[.agg #[.slice a1 m.sn c1, .int .i64 r], m.val] w fun e w' => e = .returned (.tuple #[.int .i64 n, .int .i64 0]) ∧ Below w.heap.size w w' := by
  obtain ⟨⟨q1, q2⟩, ⟨q3, q4⟩, q5⟩ := meas_parts hme
  obtain ⟨b1, o1, k1, e1, l1, p1⟩ := PSl_posD hp.1 (by omega)
  cases e1
  obtain ⟨sb, so, k0, e0, lsb, pS⟩ := PSl_posD h.stops (by omega)
  have hsa : PLift (m.sa = some ⟨sb, so, none⟩) := ⟨by injection e0⟩
  clear e0
  have hst := (Mach.ok_parts hok).1
  have hsS : ∀ i, i < m.sn → (-20 ≤ m.SX i ∧ m.SX i ≤ 20) ∧ (-20 ≤ m.SY i ∧ m.SY i ≤ 20) := fun i hi => by
    unfold Mach.okStops arB at hst
    rw [Bool.and_eq_true, allB_iff] at hst
    have := hst.2 i hi
    unfold ptB at this
    rw [Bool.and_eq_true, inB_iff, inB_iff] at this
    omega
  have hbX := fun k hk => Axis.any_bound (Mach.fineX hok) k hk
  have hbY := fun k hk => Axis.any_bound (Mach.fineY hok) k hk
  obtain ⟨L, er, hE, hC⟩ := examine_any m true w hn hr h
  obtain ⟨hLe, rfl⟩ := hE.ok (by rw [hok]; rfl) hc
  have hif := fun (W : World) (hB : Below w.heap.size w W) => isFor_any (.slice (some ⟨b1, o1, none⟩) m.sn c1) (some ⟨b1, o1, none⟩) m.sn c1 r HX HY m W rfl hn (by omega) ⟨hp.1.below hB, hp.2⟩
  rw [show (decide (chkE m.sn HX HY r = 0) && decide (m.sn = m.sn)) = true by rw [chk_meas, hme]; simp] at hif
  obtain ⟨W0, hW0⟩ : ∃ W0, (w.alloc (Obj.cells #[.slice (some ⟨b1, o1, none⟩) m.sn c1, .int .i64 r] 24)).alloc (.cells #[.slice m.sa m.sn m.sc, .int .i64 m.c0, .int .i64 m.c1, .int .i64 m.d0, .int .i64 m.d1, .int .i64 m.w0, .int .i64 m.w1, .int .i64 m.v0, .int .i64 m.v1, .slice m.ra m.rn m.rc] 29) = W0 := ⟨_, rfl⟩
  have hSX : SX w W0 m (.slice (some ⟨b1, o1, none⟩) m.sn c1) r := by rw [← hW0]; exact SX.new w m _ r
  have hal : (#[.slice none 0 0, .int .i64 0, .int .i64 0, .int .i64 0, .int .i64 0, .int .i64 0, .int .i64 0, .int .i64 0, .int .i64 0, .slice none 0 0, .int .i64 0, .int .i64 0, .int .i64 0, .int .i64 0, .int .i64 0, .int .i64 0, .int .i64 0, .int .i64 0, .int .i64 0, .int .i64 0, .int .i64 0, .int .i64 0, .int .i64 0, .int .i64 0, .int .i64 0, .int .i64 0, .int .i64 0, .int .i64 0, .int .i64 0, .int .i64 0, .int .i64 0, .int .i64 0, .int .i64 0, .int .i64 0, .int .i64 0, .int .i64 0, .int .i64 0, .int .i64 0, .int .i64 0, .int .i64 0, .int .i64 0, .int .i64 0, .int .i64 0, .int .i64 0, .int .i64 0, .int .i64 0, .int .i64 0, .int .i64 0, .int .i64 0, .int .i64 0, .int .i64 0, .int .i64 0, .int .i64 0, .int .i64 0, .int .i64 0, .int .i64 0, .int .i64 0, .int .i64 0, .int .i64 0, .int .i64 0, .int .i64 0, .int .i64 0] : Array Value) = zst.toArray := rfl
  have hlz : zst.length = 62 := zM.st_length rfl rfl
  have hlL := hE.length
  have hoL := all_oneCell_toArray hE.one
  have hi0 : (Tryz.prog.info? 94).map (·.size) = some 62 := by kernel_rfl
  have hiL : (Tryz.prog.info? 94).map (·.size) = some L.length := by rw [hlL]; exact hi0
  have hiA : (Tryz.prog.info? 94).map (·.size) = some L.toArray.size := by rw [List.size_toArray, hlL]; exact hi0
  have hS0 := fun (W : World) => SAt.new W zst 94
  have hth := fun (W : World) (g : Nat) (H : SAt W g zst) => H.there 0 L.toArray.size (by rw [List.size_toArray, hlL, hlz]; omega)
  have hfi := fun (W : World) (g : Nat) (H : SAt W g zst) => SAt.fill (L' := L) H (by rw [hlL, hlz])
  have hat : ∀ (j : Nat) (W : World), j < 12 → Calls Tryz.prog 52 #[.agg L.toArray, .int .i64 ((j : Int) + 1)] W fun e w' => e = .returned (.agg #[.int .i64 (m.axX.ends (j + 1)).1, .int .i64 (m.axX.ends (j + 1)).2, .int .i64 (m.axY.ends (j + 1)).1, .int .i64 (m.axY.ends (j + 1)).2]) ∧ Below W.heap.size W w' := fun j W hj => by
    obtain ⟨x0, x1⟩ := st_atX m m.axX.ends m.axY.ends (j + 1) (by omega)
    obtain ⟨x2, x3⟩ := st_atY m m.axX.ends m.axY.ends (j + 1) (by omega)
    rw [← hLe] at x0 x1 x2 x3
    have := at_any L (j + 1) (by omega) _ _ _ _ W x0 x1 x2 x3
    rw [show ((j + 1 : Nat) : Int) = (j : Int) + 1 by omega] at this
    exact this
  clear hi0 hE hLe
  generalize m.axX.ends = EX at *
  generalize m.axY.ends = EY at *
  generalize zst = Z at *
  generalize hQ : goodB m.sn HX HY m.SX m.SY r = Q at hwd
  go_enter Tryz.func13, Tryz.ntmps13
  go_wp2_with fail
  rename_i Q' K hKK
  have fin : ∀ (g : Nat) (V : World), SX w V m (.slice (some ⟨b1, o1, none⟩) m.sn c1) r → SAt V g L → w.heap.size + 2 ≤ g → g < V.heap.size → K { tmps := #[.agg #[.slice (some ⟨b1, o1, none⟩) m.sn c1, .int .i64 r], m.val, .pointer (some ⟨w.heap.size, 0, none⟩), .pointer (some ⟨w.heap.size + 1, 0, none⟩), .int .i64 0, .int .i64 0, .pointer (some ⟨g, 0, none⟩), .int .i64 0, undef, undef, .tuple #[.agg L.toArray, .int .i64 0], m.val, .agg #[.slice (some ⟨b1, o1, none⟩) m.sn c1, .int .i64 r], m.val, .bool true, .tuple #[.agg L.toArray, .int .i64 0], .agg L.toArray, .int .i64 0, undef, undef, undef, undef, undef, undef, undef, undef, undef, undef, undef, undef, undef, undef, undef, undef, undef, undef], defers := [] } V := by
    intro g V hX hS hg1 hg2
    refine hKK _ _ ?_
    have hgo := fun (W : World) => goodness_any b1 o1 m.sn c1 sb so r m hsa.down Q W
    have hVb := hX.big
    clear hif hC hSX hW0 hS0 hth hfi
    have hQ : PLift (goodB m.sn HX HY m.SX m.SY r = Q) := ⟨hQ⟩
    have hX1 := PLift.up hX
    have z0 := hX.c0
    have z1 := hX.c1
    obtain ⟨y0, y1, y2, y3, y4, y5, y6, y7, y8, y9⟩ := hX.mach
    clear hX
    go_wp2_with (go_at_call 50; with_reducible refine (hgo _).mono ?_; rintro e w3 ⟨rfl, hb3, t0, t1, hg3⟩)
    clear z0 z1 y0 y1 y2 y3 y4 y5 y6 y7 y8 y9
    have hl3 := hg3.lt
    have hbA : Below w3.heap.size w3 (w3.alloc (Obj.cells #[.slice (some ⟨sb, so, none⟩) m.sn m.sc, .func (.func 95) #[] #[.pointer (some ⟨V.heap.size, 0, none⟩)], .map (some (V.heap.size + 1 + 1 + 1))] 101)) := (Below.refl _ _).alloc (Nat.le_refl _) _
    have hb3' := hb3.size
    have hX3 := (hX1.down.below hb3).below hbA
    have hO4 := hX3.old
    have hz4 := hO4.size
    have hbV := hb3.trans (hbA.mono hb3')
    have hG0 : GX w (w3.alloc (Obj.cells #[.slice (some ⟨sb, so, none⟩) m.sn m.sc, .func (.func 95) #[] #[.pointer (some ⟨V.heap.size, 0, none⟩)], .map (some (V.heap.size + 1 + 1 + 1))] 101)) m.sn sb so m.sc V.heap.size b1 o1 c1 (V.heap.size + 1 + 1 + 1) 0 g w3.heap.size m.SX m.SY HX HY r L Q :=
      ⟨hO4, ⟨pS.below hO4 lsb, p1.below hO4 l1, (hbA.cell (p := ⟨V.heap.size, 0, none⟩) (by show V.heap.size < _; omega)).trans t0, (hbA.cell (p := ⟨V.heap.size, 1, none⟩) (by show V.heap.size < _; omega)).trans t1, by omega, by omega, by rw [World.size_alloc]; omega, q3, q4, q1, q2, hsS, q5⟩,
        hg3.below hbA hl3, hS.below hbV hg2, cells_new w3 _ _ rfl, cells_new w3 _ _ rfl, cells_new w3 _ _ rfl, by omega, by omega, by rw [World.size_alloc]; omega, by omega, by omega, by omega, by omega⟩
    generalize w3.alloc (Obj.cells #[.slice (some ⟨sb, so, none⟩) m.sn m.sc, .func (.func 95) #[] #[.pointer (some ⟨V.heap.size, 0, none⟩)], .map (some (V.heap.size + 1 + 1 + 1))] 101) = W4 at *
    clear hX1 hgo hb3 t0 t1 hg3 hX3 hbV hbA
    go_loopw [24] (fun i wr => ∃ j : Nat, j ≤ 12 ∧ i = .int .i64 j ∧ GX w wr m.sn sb so m.sc V.heap.size b1 o1 c1 (V.heap.size + 1 + 1 + 1) (j * 40401) g w3.heap.size m.SX m.SY HX HY r L Q ∧ ∀ i, i < j → wd (i + 1) = 3) (fun i _ => 12 - (intOf i).toNat)
    case atStart => exact ⟨0, Nat.zero_le _, rfl, by rw [Nat.zero_mul]; exact hG0, fun i hi => absurd hi (Nat.not_lt_zero _)⟩
    case round =>
      obtain ⟨j, hj, rfl, hG, hall⟩ := hrel
      by_cases hlt : j < 12
      · have hlt' : (j : Int) < 12 := by omega
        have hgmj := hG.gm
        have hwj : IntKind.i64.wrap ((j : Int) + 1) = (j : Int) + 1 := IntWalk.i64_in _ (by omega)
        have hbx := hbX (j + 1) (by omega)
        have hby := hbY (j + 1) (by omega)
        have hwv := hwd (j + 1) (by omega)
        by_cases hw3 : wd (j + 1) = 3
        · rw [hw3] at hwv
          go_wp2_with fail
          refine wp_region_late [] (fun w9 => GX w w9 m.sn sb so m.sc V.heap.size b1 o1 c1 (V.heap.size + 1 + 1 + 1) ((j + 1) * 40401) g w3.heap.size m.SX m.SY HX HY r L Q) (fun w9 => True) (by kernel_rfl) ?_ (fun hHeld => ?_)
          · (exact ⟨(hG.mono (by omega)).below (Below.refl _ _).drew, trivial⟩)
          refine wpAnyP_take0 (i := 0) (v := ?_) rfl (by kernel_rfl) (by kernel_rfl) (by kernel_rfl) (by kernel_rfl) (by rfl) (fun _ _ _ h => h) (Or.inl ⟨by rfl, ?_⟩) hHeld ?_
          rotate_left 1
          · ((intro w9 hSw; have q0 := hSw.t0; have q1 := hSw.t1; have q2 := hSw.t2; clear hSw; go_simp) <;> with_reducible rfl)
          (try simp only [Act.put, List.setIfInBounds_toArray, List.set_cons_zero, List.set_cons_succ])
          refine wpAnyP_take0 (i := 1) (v := .agg L.toArray) rfl (by kernel_rfl) (by kernel_rfl) (by kernel_rfl) (by kernel_rfl) (by rfl) (fun _ _ _ h => h) (yieldsIf_load_mid (by rfl) 94 _ rfl g 0 rfl L _ (fun w9 hSw => hSw.st.c) Tryz.underlying94 rfl hiL) hHeld ?_
          (try simp only [Act.put, List.setIfInBounds_toArray, List.set_cons_zero, List.set_cons_succ])
          refine wpAnyP_take0 (i := 2) (v := ?_) rfl (by kernel_rfl) (by kernel_rfl) (by kernel_rfl) (by kernel_rfl) (by rfl) (fun _ _ _ h => h) (Or.inl ⟨by rfl, ?_⟩) hHeld ?_
          rotate_left 1
          · ((intro w9 hSw; clear hSw; go_simp) <;> with_reducible rfl)
          (try simp only [Act.put, List.setIfInBounds_toArray, List.set_cons_zero, List.set_cons_succ])
          refine wpAnyP_take0 (i := 3) (v := ?_) rfl (by kernel_rfl) (by kernel_rfl) (by kernel_rfl) (by kernel_rfl) (by rfl) (fun _ _ _ h => h) (Or.inl ⟨by rfl, ?_⟩) hHeld ?_
          rotate_left 1
          · ((intro w9 hSw; clear hSw; go_simp) <;> with_reducible rfl)
          (try simp only [Act.put, List.setIfInBounds_toArray, List.set_cons_zero, List.set_cons_succ])
          refine wpAnyP_ready (rs := [4]) (by kernel_rfl) (by simp) ?_
          refine AllReadyP.cons (o := _) rfl (fun K hK => ?_) AllReadyP.nil
          · go_simp
            (go_at_call 52; with_reducible refine (hat j _ hlt).mono ?_; rintro e w5 ⟨rfl, hb5⟩)
            refine hK.out _ _ ?_ (fun hHeld => ?_)
            · (exact ⟨hHeld.1.below hb5, trivial⟩)
            clear hK K
            (try simp only [Act.put, List.setIfInBounds_toArray, List.set_cons_zero, List.set_cons_succ])
            refine wpAnyP_ready (rs := [5]) (by kernel_rfl) (by simp) ?_
            refine AllReadyP.cons (o := _) rfl (fun K hK => ?_) AllReadyP.nil
            · go_simp
              have hG5 := hHeld.1
              have hgm5 := hgmj.below ((Below.refl _ _).drew.trans hb5) hgmj.lt
              (go_at_call 51; refine (callsIn_wide.1 (word_in (.slice (some ⟨sb, so, none⟩) m.sn m.sc) (.func (.func 95) #[] #[.pointer (some ⟨V.heap.size, 0, none⟩)]) (V.heap.size + 1 + 1 + 1) (j * 40401) 3 Q _ _ _ _ 3 w5 (by omega) (by omega) (by omega) (by omega) (by omega) (by omega) hgm5.lt hgm5 (by omega) (by omega) hwv (fun W jj x y hg hgm hjj hx hy => by
                rw [← hQ.down] at hgm ⊢
                exact does_any m.sn sb so m.sc V.heap.size b1 o1 c1 (V.heap.size + 1 + 1 + 1) jj m.SX m.SY HX HY r x y hx hy W (hG5.tg.grown hg hG5.ls hG5.l1 hG5.lc) hgm hjj hG5.ls hG5.l1 hG5.lc))).mono ?_; rintro e w6 ⟨rfl, hg6, hgr6⟩)
              refine hK.out _ _ ?_ (fun hHeld => ?_)
              · (exact ⟨hG5.grown hgr6 (hg6.mono (by omega)), trivial⟩)
              clear hK K
              (try simp only [Act.put, List.setIfInBounds_toArray, List.set_cons_zero, List.set_cons_succ])
              refine wpAnyP_take0 (i := 6) (v := ?_) rfl (by kernel_rfl) (by kernel_rfl) (by kernel_rfl) (by kernel_rfl) (by rfl) (fun _ _ _ h => h) (Or.inl ⟨by rfl, ?_⟩) hHeld ?_
              rotate_left 1
              · ((intro w9 hSw; clear hSw; go_simp) <;> with_reducible rfl)
              (try simp only [Act.put, List.setIfInBounds_toArray, List.set_cons_zero, List.set_cons_succ])
              refine wpAnyP_done (by kernel_rfl) ?_ _
              (try simp only [Act.put, List.getElem_toArray, List.getElem_cons_zero, List.getElem_cons_succ, List.setIfInBounds_toArray, List.set_cons_zero, List.set_cons_succ])
              have hG9 := hHeld.1
              clear hHeld hwv
              go_wp2
              go_roundw
              case rel =>
                refine ⟨j + 1, by omega, by go_num, hG9, fun i hi => ?_⟩
                rcases Nat.lt_succ_iff_lt_or_eq.1 hi with h1 | rfl
                · exact hall i h1
                · exact hw3
              case measure => simp [intOf]; omega
        · obtain rfl : n = j := hgz.same ⟨by omega, hall, fun _ => hw3⟩
          generalize wd (n + 1) = v at *
          go_wp2_with fail
          refine wp_region_late [] (fun w9 => GX w w9 m.sn sb so m.sc V.heap.size b1 o1 c1 (V.heap.size + 1 + 1 + 1) ((n + 1) * 40401) g w3.heap.size m.SX m.SY HX HY r L Q) (fun w9 => True) (by kernel_rfl) ?_ (fun hHeld => ?_)
          · (exact ⟨(hG.mono (by omega)).below (Below.refl _ _).drew, trivial⟩)
          refine wpAnyP_take0 (i := 0) (v := ?_) rfl (by kernel_rfl) (by kernel_rfl) (by kernel_rfl) (by kernel_rfl) (by rfl) (fun _ _ _ h => h) (Or.inl ⟨by rfl, ?_⟩) hHeld ?_
          rotate_left 1
          · ((intro w9 hSw; have q0 := hSw.t0; have q1 := hSw.t1; have q2 := hSw.t2; clear hSw; go_simp) <;> with_reducible rfl)
          (try simp only [Act.put, List.setIfInBounds_toArray, List.set_cons_zero, List.set_cons_succ])
          refine wpAnyP_take0 (i := 1) (v := .agg L.toArray) rfl (by kernel_rfl) (by kernel_rfl) (by kernel_rfl) (by kernel_rfl) (by rfl) (fun _ _ _ h => h) (yieldsIf_load_mid (by rfl) 94 _ rfl g 0 rfl L _ (fun w9 hSw => hSw.st.c) Tryz.underlying94 rfl hiL) hHeld ?_
          (try simp only [Act.put, List.setIfInBounds_toArray, List.set_cons_zero, List.set_cons_succ])
          refine wpAnyP_take0 (i := 2) (v := ?_) rfl (by kernel_rfl) (by kernel_rfl) (by kernel_rfl) (by kernel_rfl) (by rfl) (fun _ _ _ h => h) (Or.inl ⟨by rfl, ?_⟩) hHeld ?_
          rotate_left 1
          · ((intro w9 hSw; clear hSw; go_simp) <;> with_reducible rfl)
          (try simp only [Act.put, List.setIfInBounds_toArray, List.set_cons_zero, List.set_cons_succ])
          refine wpAnyP_take0 (i := 3) (v := ?_) rfl (by kernel_rfl) (by kernel_rfl) (by kernel_rfl) (by kernel_rfl) (by rfl) (fun _ _ _ h => h) (Or.inl ⟨by rfl, ?_⟩) hHeld ?_
          rotate_left 1
          · ((intro w9 hSw; clear hSw; go_simp) <;> with_reducible rfl)
          (try simp only [Act.put, List.setIfInBounds_toArray, List.set_cons_zero, List.set_cons_succ])
          refine wpAnyP_ready (rs := [4]) (by kernel_rfl) (by simp) ?_
          refine AllReadyP.cons (o := _) rfl (fun K hK => ?_) AllReadyP.nil
          · go_simp
            (go_at_call 52; with_reducible refine (hat n _ hlt).mono ?_; rintro e w5 ⟨rfl, hb5⟩)
            refine hK.out _ _ ?_ (fun hHeld => ?_)
            · (exact ⟨hHeld.1.below hb5, trivial⟩)
            clear hK K
            (try simp only [Act.put, List.setIfInBounds_toArray, List.set_cons_zero, List.set_cons_succ])
            refine wpAnyP_ready (rs := [5]) (by kernel_rfl) (by simp) ?_
            refine AllReadyP.cons (o := _) rfl (fun K hK => ?_) AllReadyP.nil
            · go_simp
              have hG5 := hHeld.1
              have hgm5 := hgmj.below ((Below.refl _ _).drew.trans hb5) hgmj.lt
              (go_at_call 51; refine (callsIn_wide.1 (word_in (.slice (some ⟨sb, so, none⟩) m.sn m.sc) (.func (.func 95) #[] #[.pointer (some ⟨V.heap.size, 0, none⟩)]) (V.heap.size + 1 + 1 + 1) (n * 40401) 3 Q _ _ _ _ v w5 (by omega) (by omega) (by omega) (by omega) (by omega) (by omega) hgm5.lt hgm5 (by omega) (by omega) hwv (fun W jj x y hg hgm hjj hx hy => by
                rw [← hQ.down] at hgm ⊢
                exact does_any m.sn sb so m.sc V.heap.size b1 o1 c1 (V.heap.size + 1 + 1 + 1) jj m.SX m.SY HX HY r x y hx hy W (hG5.tg.grown hg hG5.ls hG5.l1 hG5.lc) hgm hjj hG5.ls hG5.l1 hG5.lc))).mono ?_; rintro e w6 ⟨rfl, hg6, hgr6⟩)
              refine hK.out _ _ ?_ (fun hHeld => ?_)
              · (exact ⟨hG5.grown hgr6 (hg6.mono (by omega)), trivial⟩)
              clear hK K
              (try simp only [Act.put, List.setIfInBounds_toArray, List.set_cons_zero, List.set_cons_succ])
              refine wpAnyP_take0 (i := 6) (v := ?_) rfl (by kernel_rfl) (by kernel_rfl) (by kernel_rfl) (by kernel_rfl) (by rfl) (fun _ _ _ h => h) (Or.inl ⟨by rfl, ?_⟩) hHeld ?_
              rotate_left 1
              · ((intro w9 hSw; clear hSw; go_simp) <;> with_reducible rfl)
              (try simp only [Act.put, List.setIfInBounds_toArray, List.set_cons_zero, List.set_cons_succ])
              refine wpAnyP_done (by kernel_rfl) ?_ _
              (try simp only [Act.put, List.getElem_toArray, List.getElem_cons_zero, List.getElem_cons_succ, List.setIfInBounds_toArray, List.set_cons_zero, List.set_cons_succ])
              have hO9 := hHeld.1.old
              clear hHeld hwv
              go_wp2
              refine bodyPost_ret (v := .tuple #[.int .i64 n, .int .i64 0]) (by simp [results, Tryz.results13, go_sem]) rfl ⟨rfl, hO9⟩
      · obtain rfl : j = 12 := by omega
        obtain rfl : n = 12 := hgz.same ⟨by omega, hall, fun h => absurd h (by omega)⟩
        have hO9 := hG.old
        clear hG
        go_wp2
        refine bodyPost_ret (v := .tuple #[.int .i64 12, .int .i64 0]) (by simp [results, Tryz.results13, go_sem]) rfl ⟨rfl, hO9⟩
  clear hKK hat hgz
  refine wp_region_late [] (fun w9 => SX w w9 m (.slice (some ⟨b1, o1, none⟩) m.sn c1) r) (fun w9 => True) (by kernel_rfl) ?_ (fun hHeld => ?_)
  · (exact ⟨hSX.drew, trivial⟩)
  generalize W0.drew = V at hHeld ⊢
  refine wpAnyP_take0 (i := 0) (v := ?_) rfl (by kernel_rfl) (by kernel_rfl) (by kernel_rfl) (by kernel_rfl) (by rfl) (fun _ _ _ h => h) (Or.inl ⟨by rfl, ?_⟩) hHeld ?_
  rotate_left 1
  · ((intro w9 hSw; have q0 := hSw.mach.k0; have q1 := hSw.mach.k1; have q2 := hSw.mach.k2; have q3 := hSw.mach.k3; have q4 := hSw.mach.k4; have q5 := hSw.mach.k5; have q6 := hSw.mach.k6; have q7 := hSw.mach.k7; have q8 := hSw.mach.k8; have q9 := hSw.mach.k9; clear hSw; go_simp) <;> with_reducible rfl)
  (try simp only [Act.put, List.setIfInBounds_toArray, List.set_cons_zero, List.set_cons_succ])
  refine wpAnyP_take0 (i := 1) (v := ?_) rfl (by kernel_rfl) (by kernel_rfl) (by kernel_rfl) (by kernel_rfl) (by rfl) (fun _ _ _ h => h) (Or.inl ⟨by rfl, ?_⟩) hHeld ?_
  rotate_left 1
  · ((intro w9 hSw; have q0 := hSw.c0; have q1 := hSw.c1; clear hSw; go_simp) <;> with_reducible rfl)
  (try simp only [Act.put, List.setIfInBounds_toArray, List.set_cons_zero, List.set_cons_succ])
  refine wpAnyP_take0 (i := 2) (v := ?_) rfl (by kernel_rfl) (by kernel_rfl) (by kernel_rfl) (by kernel_rfl) (by rfl) (fun _ _ _ h => h) (Or.inl ⟨by rfl, ?_⟩) hHeld ?_
  rotate_left 1
  · ((intro w9 hSw; have q0 := hSw.mach.k0; have q1 := hSw.mach.k1; have q2 := hSw.mach.k2; have q3 := hSw.mach.k3; have q4 := hSw.mach.k4; have q5 := hSw.mach.k5; have q6 := hSw.mach.k6; have q7 := hSw.mach.k7; have q8 := hSw.mach.k8; have q9 := hSw.mach.k9; clear hSw; go_simp) <;> with_reducible rfl)
  (try simp only [Act.put, List.setIfInBounds_toArray, List.set_cons_zero, List.set_cons_succ])
  refine wpAnyP_ready (rs := [3, 8]) (by kernel_rfl) (by simp) ?_
  refine AllReadyP.cons (o := _) rfl (fun K hK => ?_) (AllReadyP.cons (o := _) rfl (fun K hK => ?_) AllReadyP.nil)
  · go_simp
    (go_at_call 48; with_reducible refine (hif _ hHeld.1.old).mono ?_; rintro e w1 ⟨rfl, hb1⟩)
    refine hK.out _ _ ?_ (fun hHeld => ?_)
    · (exact ⟨hHeld.1.below hb1, trivial⟩)
    clear hK K
    (try simp only [Act.put, List.setIfInBounds_toArray, List.set_cons_zero, List.set_cons_succ])
    refine wpAnyP_ready (rs := [4, 8]) (by kernel_rfl) (by simp) ?_
    refine AllReadyP.cons (o := _) rfl (fun K hK => ?_) (AllReadyP.cons (o := _) rfl (fun K hK => ?_) AllReadyP.nil)
    · go_simp
      (go_at_call 47; with_reducible refine (hC _ hHeld.1.old).mono ?_; rintro e w2 ⟨rfl, hb2⟩)
      refine hK.out _ _ ?_ (fun hHeld => ?_)
      · (exact ⟨hHeld.1.below hb2, trivial⟩)
      clear hK K
      (try simp only [Act.put, List.setIfInBounds_toArray, List.set_cons_zero, List.set_cons_succ])
      refine wpAnyP_take0 (i := 5) (v := ?_) rfl (by kernel_rfl) (by kernel_rfl) (by kernel_rfl) (by kernel_rfl) (by rfl) (fun _ _ _ h => h) (Or.inl ⟨by rfl, ?_⟩) hHeld ?_
      rotate_left 1
      · ((intro w9 hSw; clear hSw; go_simp) <;> with_reducible rfl)
      (try simp only [Act.put, List.setIfInBounds_toArray, List.set_cons_zero, List.set_cons_succ])
      refine wpAnyP_take0 (i := 6) (v := ?_) rfl (by kernel_rfl) (by kernel_rfl) (by kernel_rfl) (by kernel_rfl) (by rfl) (fun _ _ _ h => h) (Or.inl ⟨by rfl, ?_⟩) hHeld ?_
      rotate_left 1
      · ((intro w9 hSw; clear hSw; go_simp) <;> with_reducible rfl)
      (try simp only [Act.put, List.setIfInBounds_toArray, List.set_cons_zero, List.set_cons_succ])
      refine wpAnyP_take0 (i := 7) (v := ?_) rfl (by kernel_rfl) (by kernel_rfl) (by kernel_rfl) (by kernel_rfl) (by rfl) (fun _ _ _ h => h) (Or.inl ⟨by rfl, ?_⟩) hHeld ?_
      rotate_left 1
      · ((intro w9 hSw; clear hSw; go_simp) <;> with_reducible rfl)
      (try simp only [Act.put, List.setIfInBounds_toArray, List.set_cons_zero, List.set_cons_succ])
      refine wpAnyP_ready (rs := [8]) (by kernel_rfl) (by simp) ?_
      refine AllReadyP.cons (o := _) rfl (fun K hK => ?_) AllReadyP.nil
      · go_simp
        (try simp only [hal])
        have hZ := hS0 w2
        have hgzz := hHeld.1.big
        refine hK.out _ _ ?_ (fun hHeld => ?_)
        · (exact ⟨hHeld.1.alloc _, trivial⟩)
        clear hK K
        (try simp only [Act.put, List.setIfInBounds_toArray, List.set_cons_zero, List.set_cons_succ])
        refine wpAnyP_ready (rs := [9]) (by kernel_rfl) (by simp) ?_
        refine AllReadyP.cons (o := _) rfl (fun K hK => ?_) AllReadyP.nil
        · refine step_store_mid rfl 94 _ _ rfl w2.heap.size 0 L.toArray rfl rfl (hth _ _ hZ) hiA hoL ?_
          have hL5 := hfi _ _ hZ
          have hK5 := hHeld.1.put hgzz L
          refine hK.out _ _ ?_ (fun hHeld => ?_)
          · (exact ⟨hK5, trivial⟩)
          clear hK K
          (try simp only [Act.put, List.setIfInBounds_toArray, List.set_cons_zero, List.set_cons_succ])
          refine wpAnyP_take0 (i := 10) (v := ?_) rfl (by kernel_rfl) (by kernel_rfl) (by kernel_rfl) (by kernel_rfl) (by rfl) (fun _ _ _ h => h) (Or.inl ⟨by rfl, ?_⟩) hHeld ?_
          rotate_left 1
          · ((intro w9 hSw; clear hSw; go_simp) <;> with_reducible rfl)
          (try simp only [Act.put, List.setIfInBounds_toArray, List.set_cons_zero, List.set_cons_succ])
          refine wpAnyP_done (by kernel_rfl) ?_ _
          (try simp only [Act.put, List.getElem_toArray, List.getElem_cons_zero, List.getElem_cons_succ, List.setIfInBounds_toArray, List.set_cons_zero, List.set_cons_succ])
          have hX9 := hHeld.1
          clear hth hfi hS0 hHeld hC hif
          exact fin _ _ hX9 hL5 (by first | exact hgzz | omega) (hL5.lt (by omega))
    · go_simp
      (try simp only [hal])
      have hZ := hS0 w1
      have hgzz := hHeld.1.big
      refine hK.out _ _ ?_ (fun hHeld => ?_)
      · (exact ⟨hHeld.1.alloc _, trivial⟩)
      clear hK K
      (try simp only [Act.put, List.setIfInBounds_toArray, List.set_cons_zero, List.set_cons_succ])
      refine wpAnyP_ready (rs := [4]) (by kernel_rfl) (by simp) ?_
      refine AllReadyP.cons (o := _) rfl (fun K hK => ?_) AllReadyP.nil
      · go_simp
        (go_at_call 47; with_reducible refine (hC _ hHeld.1.old).mono ?_; rintro e w2 ⟨rfl, hb2⟩)
        replace hZ := hZ.below hb2 (by first | (rw [World.size_alloc]; exact Nat.lt_succ_self _) | (have hz := hb1.size; rw [World.size_alloc] at hz; omega))
        refine hK.out _ _ ?_ (fun hHeld => ?_)
        · (exact ⟨hHeld.1.below hb2, trivial⟩)
        clear hK K
        (try simp only [Act.put, List.setIfInBounds_toArray, List.set_cons_zero, List.set_cons_succ])
        refine wpAnyP_take0 (i := 5) (v := ?_) rfl (by kernel_rfl) (by kernel_rfl) (by kernel_rfl) (by kernel_rfl) (by rfl) (fun _ _ _ h => h) (Or.inl ⟨by rfl, ?_⟩) hHeld ?_
        rotate_left 1
        · ((intro w9 hSw; clear hSw; go_simp) <;> with_reducible rfl)
        (try simp only [Act.put, List.setIfInBounds_toArray, List.set_cons_zero, List.set_cons_succ])
        refine wpAnyP_take0 (i := 6) (v := ?_) rfl (by kernel_rfl) (by kernel_rfl) (by kernel_rfl) (by kernel_rfl) (by rfl) (fun _ _ _ h => h) (Or.inl ⟨by rfl, ?_⟩) hHeld ?_
        rotate_left 1
        · ((intro w9 hSw; clear hSw; go_simp) <;> with_reducible rfl)
        (try simp only [Act.put, List.setIfInBounds_toArray, List.set_cons_zero, List.set_cons_succ])
        refine wpAnyP_take0 (i := 7) (v := ?_) rfl (by kernel_rfl) (by kernel_rfl) (by kernel_rfl) (by kernel_rfl) (by rfl) (fun _ _ _ h => h) (Or.inl ⟨by rfl, ?_⟩) hHeld ?_
        rotate_left 1
        · ((intro w9 hSw; clear hSw; go_simp) <;> with_reducible rfl)
        (try simp only [Act.put, List.setIfInBounds_toArray, List.set_cons_zero, List.set_cons_succ])
        refine wpAnyP_ready (rs := [9]) (by kernel_rfl) (by simp) ?_
        refine AllReadyP.cons (o := _) rfl (fun K hK => ?_) AllReadyP.nil
        · refine step_store_mid rfl 94 _ _ rfl w1.heap.size 0 L.toArray rfl rfl (hth _ _ hZ) hiA hoL ?_
          have hL5 := hfi _ _ hZ
          have hK5 := hHeld.1.put hgzz L
          refine hK.out _ _ ?_ (fun hHeld => ?_)
          · (exact ⟨hK5, trivial⟩)
          clear hK K
          (try simp only [Act.put, List.setIfInBounds_toArray, List.set_cons_zero, List.set_cons_succ])
          refine wpAnyP_take0 (i := 10) (v := ?_) rfl (by kernel_rfl) (by kernel_rfl) (by kernel_rfl) (by kernel_rfl) (by rfl) (fun _ _ _ h => h) (Or.inl ⟨by rfl, ?_⟩) hHeld ?_
          rotate_left 1
          · ((intro w9 hSw; clear hSw; go_simp) <;> with_reducible rfl)
          (try simp only [Act.put, List.setIfInBounds_toArray, List.set_cons_zero, List.set_cons_succ])
          refine wpAnyP_done (by kernel_rfl) ?_ _
          (try simp only [Act.put, List.getElem_toArray, List.getElem_cons_zero, List.getElem_cons_succ, List.setIfInBounds_toArray, List.set_cons_zero, List.set_cons_succ])
          have hX9 := hHeld.1
          clear hth hfi hS0 hHeld hC hif
          exact fin _ _ hX9 hL5 (by first | exact hgzz | omega) (hL5.lt (by omega))
  · go_simp
    (try simp only [hal])
    have hZ := hS0 V
    have hgzz := hHeld.1.big
    refine hK.out _ _ ?_ (fun hHeld => ?_)
    · (exact ⟨hHeld.1.alloc _, trivial⟩)
    clear hK K
    (try simp only [Act.put, List.setIfInBounds_toArray, List.set_cons_zero, List.set_cons_succ])
    refine wpAnyP_ready (rs := [3]) (by kernel_rfl) (by simp) ?_
    refine AllReadyP.cons (o := _) rfl (fun K hK => ?_) AllReadyP.nil
    · go_simp
      (go_at_call 48; with_reducible refine (hif _ hHeld.1.old).mono ?_; rintro e w1 ⟨rfl, hb1⟩)
      replace hZ := hZ.below hb1 (by first | (rw [World.size_alloc]; exact Nat.lt_succ_self _) | (have hz := hb1.size; rw [World.size_alloc] at hz; omega))
      refine hK.out _ _ ?_ (fun hHeld => ?_)
      · (exact ⟨hHeld.1.below hb1, trivial⟩)
      clear hK K
      (try simp only [Act.put, List.setIfInBounds_toArray, List.set_cons_zero, List.set_cons_succ])
      refine wpAnyP_ready (rs := [4]) (by kernel_rfl) (by simp) ?_
      refine AllReadyP.cons (o := _) rfl (fun K hK => ?_) AllReadyP.nil
      · go_simp
        (go_at_call 47; with_reducible refine (hC _ hHeld.1.old).mono ?_; rintro e w2 ⟨rfl, hb2⟩)
        replace hZ := hZ.below hb2 (by first | (rw [World.size_alloc]; exact Nat.lt_succ_self _) | (have hz := hb1.size; rw [World.size_alloc] at hz; omega))
        refine hK.out _ _ ?_ (fun hHeld => ?_)
        · (exact ⟨hHeld.1.below hb2, trivial⟩)
        clear hK K
        (try simp only [Act.put, List.setIfInBounds_toArray, List.set_cons_zero, List.set_cons_succ])
        refine wpAnyP_take0 (i := 5) (v := ?_) rfl (by kernel_rfl) (by kernel_rfl) (by kernel_rfl) (by kernel_rfl) (by rfl) (fun _ _ _ h => h) (Or.inl ⟨by rfl, ?_⟩) hHeld ?_
        rotate_left 1
        · ((intro w9 hSw; clear hSw; go_simp) <;> with_reducible rfl)
        (try simp only [Act.put, List.setIfInBounds_toArray, List.set_cons_zero, List.set_cons_succ])
        refine wpAnyP_take0 (i := 6) (v := ?_) rfl (by kernel_rfl) (by kernel_rfl) (by kernel_rfl) (by kernel_rfl) (by rfl) (fun _ _ _ h => h) (Or.inl ⟨by rfl, ?_⟩) hHeld ?_
        rotate_left 1
        · ((intro w9 hSw; clear hSw; go_simp) <;> with_reducible rfl)
        (try simp only [Act.put, List.setIfInBounds_toArray, List.set_cons_zero, List.set_cons_succ])
        refine wpAnyP_take0 (i := 7) (v := ?_) rfl (by kernel_rfl) (by kernel_rfl) (by kernel_rfl) (by kernel_rfl) (by rfl) (fun _ _ _ h => h) (Or.inl ⟨by rfl, ?_⟩) hHeld ?_
        rotate_left 1
        · ((intro w9 hSw; clear hSw; go_simp) <;> with_reducible rfl)
        (try simp only [Act.put, List.setIfInBounds_toArray, List.set_cons_zero, List.set_cons_succ])
        refine wpAnyP_ready (rs := [9]) (by kernel_rfl) (by simp) ?_
        refine AllReadyP.cons (o := _) rfl (fun K hK => ?_) AllReadyP.nil
        · refine step_store_mid rfl 94 _ _ rfl V.heap.size 0 L.toArray rfl rfl (hth _ _ hZ) hiA hoL ?_
          have hL5 := hfi _ _ hZ
          have hK5 := hHeld.1.put hgzz L
          refine hK.out _ _ ?_ (fun hHeld => ?_)
          · (exact ⟨hK5, trivial⟩)
          clear hK K
          (try simp only [Act.put, List.setIfInBounds_toArray, List.set_cons_zero, List.set_cons_succ])
          refine wpAnyP_take0 (i := 10) (v := ?_) rfl (by kernel_rfl) (by kernel_rfl) (by kernel_rfl) (by kernel_rfl) (by rfl) (fun _ _ _ h => h) (Or.inl ⟨by rfl, ?_⟩) hHeld ?_
          rotate_left 1
          · ((intro w9 hSw; clear hSw; go_simp) <;> with_reducible rfl)
          (try simp only [Act.put, List.setIfInBounds_toArray, List.set_cons_zero, List.set_cons_succ])
          refine wpAnyP_done (by kernel_rfl) ?_ _
          (try simp only [Act.put, List.getElem_toArray, List.getElem_cons_zero, List.getElem_cons_succ, List.setIfInBounds_toArray, List.set_cons_zero, List.set_cons_succ])
          have hX9 := hHeld.1
          clear hth hfi hS0 hHeld hC hif
          exact fin _ _ hX9 hL5 (by first | exact hgzz | omega) (hL5.lt (by omega))
end Go.Proofs.YtmjmmokbaocboaaGreatDoor
