/- A part of the proof: see the last file. -/
import Derived.Test.YtmjmmokbaocboaaGreatDoorPal
import Derived.Test.YtmjmmokbaocboaaGreatDoorPao
set_option linter.unusedVariables false
set_option linter.unusedSimpArgs false
set_option linter.unusedSectionVars false
namespace Go.Proofs.YtmjmmokbaocboaaGreatDoor
open Go.RowKit
/-- a measure and a machine in blocks of their own. -/
structure SX (w W : World) (m : Mach) (v1 : Value) (r : Int) : Prop where
  c0 : W.cell? ⟨w.heap.size, 0, none⟩ = some v1
  c1 : W.cell? ⟨w.heap.size, 1, none⟩ = some (.int .i64 r)
  mach : MAt W (w.heap.size + 1) m
  old : Below w.heap.size w W
  big : w.heap.size + 2 ≤ W.heap.size
theorem SX.below {w W W' : World} {m : Mach} {v1 : Value} {r : Int} (h : SX w W m v1 r) (hb : Below W.heap.size W W') : SX w W' m v1 r := by
  have := h.big
  exact ⟨(hb.cell (p := ⟨w.heap.size, 0, none⟩) (by show w.heap.size < _; omega)).trans h.c0, (hb.cell (p := ⟨w.heap.size, 1, none⟩) (by show w.heap.size < _; omega)).trans h.c1, h.mach.below hb (by omega), h.old.trans (hb.mono (by omega)), Nat.le_trans h.big hb.size⟩
theorem SX.alloc {w W : World} {m : Mach} {v1 : Value} {r : Int} (h : SX w W m v1 r) (o : Obj) : SX w (W.alloc o) m v1 r := h.below ((Below.refl _ _).alloc (Nat.le_refl _) o)
theorem SX.drew {w W : World} {m : Mach} {v1 : Value} {r : Int} (h : SX w W m v1 r) : SX w W.drew m v1 r := h.below (Below.refl _ _).drew
theorem SX.put {w W : World} {m : Mach} {v1 : Value} {r : Int} (h : SX w W m v1 r) {g : Nat} (hg : w.heap.size + 2 ≤ g) (L : List Value) : SX w (W.setCells g 0 L) m v1 r := by
  have hl := h.big
  have hbl : Below (w.heap.size + 2) W (W.setCells g 0 L) := below_setCells hg L 0 W (Below.refl _ _)
  exact ⟨(hbl.cell (p := ⟨w.heap.size, 0, none⟩) (by show w.heap.size < _; omega)).trans h.c0, (hbl.cell (p := ⟨w.heap.size, 1, none⟩) (by show w.heap.size < _; omega)).trans h.c1, h.mach.below hbl (by omega), below_setCells (by omega) L 0 W h.old, by rw [size_setCells]; exact hl⟩
theorem SX.grown {w W W' : World} {m : Mach} {v1 : Value} {r : Int} {b : Nat} (h : SX w W m v1 r) (hg : W.grownBy W' (some b)) (hb : w.heap.size + 2 ≤ b) : SX w W' m v1 r := by
  have hl := h.big
  have hbl : Below (w.heap.size + 2) W W' := (Below.refl _ _).grown hg hl fun k e => by cases e; exact hb
  exact ⟨(hbl.cell (p := ⟨w.heap.size, 0, none⟩) (by show w.heap.size < _; omega)).trans h.c0, (hbl.cell (p := ⟨w.heap.size, 1, none⟩) (by show w.heap.size < _; omega)).trans h.c1, h.mach.below hbl (by omega), h.old.trans (hbl.mono (by omega)), Nat.le_trans hl hg.size⟩
theorem SX.new (w : World) (m : Mach) (v1 : Value) (r : Int) : SX w ((w.alloc (Obj.cells #[v1, .int .i64 r] 24)).alloc (.cells #[.slice m.sa m.sn m.sc, .int .i64 m.c0, .int .i64 m.c1, .int .i64 m.d0, .int .i64 m.d1, .int .i64 m.w0, .int .i64 m.w1, .int .i64 m.v0, .int .i64 m.v1, .slice m.ra m.rn m.rc] 29)) m v1 r := by
  have h := MAt.new (w.alloc (Obj.cells #[v1, .int .i64 r] 24)) m
  rw [World.size_alloc] at h
  exact ⟨cell_under w _ _ _ _ rfl, cell_under w _ _ _ _ rfl, h, ((Below.refl _ _).alloc (Nat.le_refl _) _).alloc (by rw [World.size_alloc]; omega) _, by rw [World.size_alloc, World.size_alloc]; omega⟩
theorem SAt.lt {W : World} {g : Nat} {L : List Value} (h : SAt W g L) (hl : 0 < L.length) : g < W.heap.size := by
  have h1 := h.c 0 _ (List.getElem?_eq_getElem hl)
  refine Classical.byContradiction fun hn => ?_
  have h2 : W.heap[g]? = none := by simp; omega
  simp [World.cell?, h2] at h1
set_option maxRecDepth 100000 in
set_option maxHeartbeats 1000000 in
theorem Sure_ok (a1 : Option Addr) (c1 : Nat) (r : Int) (HX HY : Nat → Int) (m : Mach) (k : Nat) (hk1 : 1 ≤ k) (hk : k ≤ 12) (w : World) (hn : m.sn ≤ 1000) (hr : m.rn ≤ 9223372036854775807) (hp : PSc w (.slice a1 m.sn c1) m.sn HX HY) (h : MIn w m) (hok : m.ok = true) (hc : m.can)
    (hme : measB m.sn HX HY r = true) (v : Int) (hv : IsWord (goodB m.sn HX HY m.SX m.SY r) (m.axX.ends k).1 (m.axX.ends k).2 (m.axY.ends k).1 (m.axY.ends k).2 v) :
    Calls Tryz.prog 10 #[.agg #[.slice a1 m.sn c1, .int .i64 r], m.val, .int .i64 k] w fun e w' => e = .returned (.tuple #[.int .i64 v, .int .i64 0]) ∧ Below w.heap.size w w' := by
  obtain ⟨⟨q1, q2⟩, ⟨q3, q4⟩, q5⟩ := meas_parts hme
  obtain ⟨b1, o1, k1, e1, l1, p1⟩ := PSl_posD hp.1 (by omega)
  cases e1
  obtain ⟨sb, so, k0, e0, lsb, pS⟩ := PSl_posD h.stops (by omega)
  have hsa : PLift (m.sa = some ⟨sb, so, none⟩) := ⟨by injection e0⟩
  clear e0
  have hst := (Mach.ok_parts hok).1
  have hsS : ∀ i, i < m.sn → (-20 ≤ m.SX i ∧ m.SX i ≤ 20) ∧ (-20 ≤ m.SY i ∧ m.SY i ≤ 20) := fun i hi => by
    unfold Mach.okStops arB at hst
    rw [Bool.and_eq_true, allB_iff] at hst
    have := hst.2 i hi
    unfold ptB at this
    rw [Bool.and_eq_true, inB_iff, inB_iff] at this
    omega
  have hbX := Axis.any_bound (Mach.fineX hok) k hk
  have hbY := Axis.any_bound (Mach.fineY hok) k hk
  obtain ⟨L, er, hE, hC⟩ := examine_any m true w hn hr h
  obtain ⟨hLe, rfl⟩ := hE.ok (by rw [hok]; rfl) hc
  have hwi := fun (W : World) => within_any (k : Int) 1 12 W
  rw [show inB (k : Int) 1 12 = true from inB_yes (by omega) (by omega)] at hwi
  have hif := fun (W : World) (hB : Below w.heap.size w W) => isFor_any (.slice (some ⟨b1, o1, none⟩) m.sn c1) (some ⟨b1, o1, none⟩) m.sn c1 r HX HY m W rfl hn (by omega) ⟨hp.1.below hB, hp.2⟩
  rw [show (decide (chkE m.sn HX HY r = 0) && decide (m.sn = m.sn)) = true by rw [chk_meas, hme]; simp] at hif
  obtain ⟨W0, hW0⟩ : ∃ W0, (w.alloc (Obj.cells #[.slice (some ⟨b1, o1, none⟩) m.sn c1, .int .i64 r] 24)).alloc (.cells #[.slice m.sa m.sn m.sc, .int .i64 m.c0, .int .i64 m.c1, .int .i64 m.d0, .int .i64 m.d1, .int .i64 m.w0, .int .i64 m.w1, .int .i64 m.v0, .int .i64 m.v1, .slice m.ra m.rn m.rc] 29) = W0 := ⟨_, rfl⟩
  have hSX : SX w W0 m (.slice (some ⟨b1, o1, none⟩) m.sn c1) r := by rw [← hW0]; exact SX.new w m _ r
  have hal : (#[.slice none 0 0, .int .i64 0, .int .i64 0, .int .i64 0, .int .i64 0, .int .i64 0, .int .i64 0, .int .i64 0, .int .i64 0, .slice none 0 0, .int .i64 0, .int .i64 0, .int .i64 0, .int .i64 0, .int .i64 0, .int .i64 0, .int .i64 0, .int .i64 0, .int .i64 0, .int .i64 0, .int .i64 0, .int .i64 0, .int .i64 0, .int .i64 0, .int .i64 0, .int .i64 0, .int .i64 0, .int .i64 0, .int .i64 0, .int .i64 0, .int .i64 0, .int .i64 0, .int .i64 0, .int .i64 0, .int .i64 0, .int .i64 0, .int .i64 0, .int .i64 0, .int .i64 0, .int .i64 0, .int .i64 0, .int .i64 0, .int .i64 0, .int .i64 0, .int .i64 0, .int .i64 0, .int .i64 0, .int .i64 0, .int .i64 0, .int .i64 0, .int .i64 0, .int .i64 0, .int .i64 0, .int .i64 0, .int .i64 0, .int .i64 0, .int .i64 0, .int .i64 0, .int .i64 0, .int .i64 0, .int .i64 0, .int .i64 0] : Array Value) = zst.toArray := rfl
  have hlz : zst.length = 62 := zM.st_length rfl rfl
  have hlL := hE.length
  have hoL := all_oneCell_toArray hE.one
  have hi0 : (Tryz.prog.info? 94).map (·.size) = some 62 := by kernel_rfl
  have hiL : (Tryz.prog.info? 94).map (·.size) = some L.length := by rw [hlL]; exact hi0
  have hiA : (Tryz.prog.info? 94).map (·.size) = some L.toArray.size := by rw [List.size_toArray, hlL]; exact hi0
  have hS0 := fun (W : World) => SAt.new W zst 94
  have hth := fun (W : World) (g : Nat) (H : SAt W g zst) => H.there 0 L.toArray.size (by rw [List.size_toArray, hlL, hlz]; omega)
  have hfi := fun (W : World) (g : Nat) (H : SAt W g zst) => SAt.fill (L' := L) H (by rw [hlL, hlz])
  obtain ⟨x0, x1⟩ := st_atX m m.axX.ends m.axY.ends k hk
  obtain ⟨x2, x3⟩ := st_atY m m.axX.ends m.axY.ends k hk
  rw [← hLe] at x0 x1 x2 x3
  have hat := fun (W : World) => at_any L k hk _ _ _ _ W x0 x1 x2 x3
  clear hi0 hE hLe x0 x1 x2 x3
  generalize m.axX.ends k = X at *
  generalize m.axY.ends k = Y at *
  obtain ⟨X0, X1⟩ := X
  obtain ⟨Y0, Y1⟩ := Y
  dsimp only at hat hv hbX hbY
  generalize zst = Z at *
  generalize hQ : goodB m.sn HX HY m.SX m.SY r = Q at hv
  go_enter Tryz.func10, Tryz.ntmps10
  go_wp2_with fail
  rename_i Q' K hKK
  have fin : ∀ (g : Nat) (V : World), SX w V m (.slice (some ⟨b1, o1, none⟩) m.sn c1) r → SAt V g L → w.heap.size + 2 ≤ g → g < V.heap.size → K { tmps := #[.agg #[.slice (some ⟨b1, o1, none⟩) m.sn c1, .int .i64 r], m.val, .int .i64 k, .pointer (some ⟨w.heap.size, 0, none⟩), .pointer (some ⟨w.heap.size + 1, 0, none⟩), undef, .int .i64 0, .int .i64 0, .pointer (some ⟨g, 0, none⟩), .int .i64 0, .tuple #[.agg L.toArray, .int .i64 0], m.val, .agg #[.slice (some ⟨b1, o1, none⟩) m.sn c1, .int .i64 r], m.val, .bool true, .bool true, .int .i64 k, .bool true, .bool true, .tuple #[.agg L.toArray, .int .i64 0], .agg L.toArray, .int .i64 0, undef, undef, undef, undef, undef, undef, undef, undef, undef, undef], defers := [] } V := by
    intro g V hX hS hg1 hg2
    refine hKK _ _ ?_
    have hgo := fun (W : World) => goodness_any b1 o1 m.sn c1 sb so r m hsa.down Q W
    have hVb := hX.big
    have hz4 : V.heap.size ≤ V.drew.heap.size := Nat.le_refl _
    clear hif hwi hC hSX hW0 hS0 hth hfi
    have hQ : PLift (goodB m.sn HX HY m.SX m.SY r = Q) := ⟨hQ⟩
    go_wp2_with fail
    refine wp_region_late [] (fun w9 => SX w w9 m (.slice (some ⟨b1, o1, none⟩) m.sn c1) r ∧ SAt w9 g L) (fun w9 => True) (by kernel_rfl) ?_ (fun hHeld => ?_)
    · (exact ⟨⟨hX.drew, hS.below (Below.refl _ _).drew hg2⟩, trivial⟩)
    generalize V.drew = V4 at *
    refine wpAnyP_take0 (i := 0) (v := ?_) rfl (by kernel_rfl) (by kernel_rfl) (by kernel_rfl) (by kernel_rfl) (by rfl) (fun _ _ _ h => h) (Or.inl ⟨by rfl, ?_⟩) hHeld ?_
    rotate_left 1
    · ((intro w9 hSw; have q0 := hSw.1.c0; have q1 := hSw.1.c1; clear hSw; go_simp) <;> with_reducible rfl)
    (try simp only [Act.put, List.setIfInBounds_toArray, List.set_cons_zero, List.set_cons_succ])
    refine wpAnyP_take0 (i := 1) (v := ?_) rfl (by kernel_rfl) (by kernel_rfl) (by kernel_rfl) (by kernel_rfl) (by rfl) (fun _ _ _ h => h) (Or.inl ⟨by rfl, ?_⟩) hHeld ?_
    rotate_left 1
    · ((intro w9 hSw; have q0 := hSw.1.mach.k0; have q1 := hSw.1.mach.k1; have q2 := hSw.1.mach.k2; have q3 := hSw.1.mach.k3; have q4 := hSw.1.mach.k4; have q5 := hSw.1.mach.k5; have q6 := hSw.1.mach.k6; have q7 := hSw.1.mach.k7; have q8 := hSw.1.mach.k8; have q9 := hSw.1.mach.k9; clear hSw; go_simp) <;> with_reducible rfl)
    (try simp only [Act.put, List.setIfInBounds_toArray, List.set_cons_zero, List.set_cons_succ])
    refine wpAnyP_take0 (i := 3) (v := .agg L.toArray) rfl (by kernel_rfl) (by kernel_rfl) (by kernel_rfl) (by kernel_rfl) (by rfl) (fun _ _ _ h => h) (yieldsIf_load_mid (by rfl) 94 _ rfl g 0 rfl L _ (fun w9 hSw => hSw.2.c) Tryz.underlying94 rfl hiL) hHeld ?_
    (try simp only [Act.put, List.setIfInBounds_toArray, List.set_cons_zero, List.set_cons_succ])
    refine wpAnyP_take0 (i := 4) (v := ?_) rfl (by kernel_rfl) (by kernel_rfl) (by kernel_rfl) (by kernel_rfl) (by rfl) (fun _ _ _ h => h) (Or.inl ⟨by rfl, ?_⟩) hHeld ?_
    rotate_left 1
    · ((intro w9 hSw; clear hSw; go_simp) <;> with_reducible rfl)
    (try simp only [Act.put, List.setIfInBounds_toArray, List.set_cons_zero, List.set_cons_succ])
    refine wpAnyP_ready (rs := [2]) (by kernel_rfl) (by simp) ?_
    refine AllReadyP.cons (o := _) rfl (fun K hK => ?_) AllReadyP.nil
    · go_simp
      (go_at_call 50; with_reducible refine (hgo _).mono ?_; rintro e w3 ⟨rfl, hb3, t0, t1, hg3⟩)
      refine hK.out _ _ ?_ (fun hHeld => ?_)
      · (exact ⟨⟨hHeld.1.1.below hb3, hHeld.1.2.below hb3 (Nat.lt_of_lt_of_le hg2 hz4)⟩, trivial⟩)
      clear hK K
      (try simp only [Act.put, List.setIfInBounds_toArray, List.set_cons_zero, List.set_cons_succ])
      refine wpAnyP_ready (rs := [5]) (by kernel_rfl) (by simp) ?_
      refine AllReadyP.cons (o := _) rfl (fun K hK => ?_) AllReadyP.nil
      · go_simp
        (go_at_call 52; with_reducible refine (hat _).mono ?_; rintro e w5 ⟨rfl, hb5⟩)
        refine hK.out _ _ ?_ (fun hHeld => ?_)
        · (exact ⟨⟨hHeld.1.1.below hb5, hHeld.1.2.below hb5 (Nat.lt_of_lt_of_le (Nat.lt_of_lt_of_le hg2 hz4) hb3.size)⟩, trivial⟩)
        clear hK K
        (try simp only [Act.put, List.setIfInBounds_toArray, List.set_cons_zero, List.set_cons_succ])
        refine wpAnyP_ready (rs := [6]) (by kernel_rfl) (by simp) ?_
        refine AllReadyP.cons (o := _) rfl (fun K hK => ?_) AllReadyP.nil
        · go_simp
          have hO5 := hHeld.1.1.old
          have hz5 := hO5.size
          have hl3 := hg3.lt
          have u0 := (hb5.cell (p := ⟨V4.heap.size, 0, none⟩) (by show V4.heap.size < _; omega)).trans t0
          have u1 := (hb5.cell (p := ⟨V4.heap.size, 1, none⟩) (by show V4.heap.size < _; omega)).trans t1
          have hg5 := hg3.below hb5 hl3
          have hl5 := hg5.lt
          have hT5 : TrialG w5 m.sn sb so m.sc V4.heap.size b1 o1 c1 m.SX m.SY HX HY r := ⟨pS.below hO5 lsb, p1.below hO5 l1, u0, u1, Nat.lt_of_lt_of_le lsb hz5, Nat.lt_of_lt_of_le l1 hz5, by omega, q3, q4, q1, q2, hsS, q5⟩
          (go_at_call 51; refine (callsIn_wide.1 (word_in (.slice (some ⟨sb, so, none⟩) m.sn m.sc) (.func (.func 95) #[] #[.pointer (some ⟨V4.heap.size, 0, none⟩)]) (V4.heap.size + 1 + 1 + 1) 0 3 Q X0 X1 Y0 Y1 v w5 (by omega) (by omega) (by omega) (by omega) (by omega) (by omega) hl5 hg5 (by omega) (by omega) hv (fun W j x y hg hgm hj hx hy => by
            rw [← hQ.down] at hgm ⊢
            exact does_any m.sn sb so m.sc V4.heap.size b1 o1 c1 (V4.heap.size + 1 + 1 + 1) j m.SX m.SY HX HY r x y hx hy W (hT5.grown hg (by omega) (by omega) (by omega)) hgm hj (by omega) (by omega) (by omega)))).mono ?_; rintro e w6 ⟨rfl, hg6, hgr6⟩)
          refine hK.out _ _ ?_ (fun hHeld => ?_)
          · (exact ⟨⟨hHeld.1.1.grown hgr6 (by omega), hHeld.1.2.far (hgr6.block g (by omega) (by intro e; injection e; omega))⟩, trivial⟩)
          clear hK K
          (try simp only [Act.put, List.setIfInBounds_toArray, List.set_cons_zero, List.set_cons_succ])
          refine wpAnyP_take0 (i := 7) (v := ?_) rfl (by kernel_rfl) (by kernel_rfl) (by kernel_rfl) (by kernel_rfl) (by rfl) (fun _ _ _ h => h) (Or.inl ⟨by rfl, ?_⟩) hHeld ?_
          rotate_left 1
          · ((intro w9 hSw; clear hSw; go_simp) <;> with_reducible rfl)
          (try simp only [Act.put, List.setIfInBounds_toArray, List.set_cons_zero, List.set_cons_succ])
          refine wpAnyP_take0 (i := 8) (v := ?_) rfl (by kernel_rfl) (by kernel_rfl) (by kernel_rfl) (by kernel_rfl) (by rfl) (fun _ _ _ h => h) (Or.inl ⟨by rfl, ?_⟩) hHeld ?_
          rotate_left 1
          · ((intro w9 hSw; clear hSw; go_simp) <;> with_reducible rfl)
          (try simp only [Act.put, List.setIfInBounds_toArray, List.set_cons_zero, List.set_cons_succ])
          refine wpAnyP_done (by kernel_rfl) ?_ _
          (try simp only [Act.put, List.getElem_toArray, List.getElem_cons_zero, List.getElem_cons_succ, List.setIfInBounds_toArray, List.set_cons_zero, List.set_cons_succ])
          have hO9 := hHeld.1.1.old
          clear hHeld
          go_wp2
          refine bodyPost_ret (v := .tuple #[.int .i64 v, .int .i64 0]) (by simp [results, Tryz.results10, go_sem]) rfl ⟨rfl, hO9⟩
  clear hKK hat
  refine wp_region_late [] (fun w9 => SX w w9 m (.slice (some ⟨b1, o1, none⟩) m.sn c1) r) (fun w9 => True) (by kernel_rfl) ?_ (fun hHeld => ?_)
  · (exact ⟨hSX.drew, trivial⟩)
  generalize W0.drew = V at hHeld ⊢
  refine wpAnyP_take0 (i := 0) (v := ?_) rfl (by kernel_rfl) (by kernel_rfl) (by kernel_rfl) (by kernel_rfl) (by rfl) (fun _ _ _ h => h) (Or.inl ⟨by rfl, ?_⟩) hHeld ?_
  rotate_left 1
  · ((intro w9 hSw; have q0 := hSw.mach.k0; have q1 := hSw.mach.k1; have q2 := hSw.mach.k2; have q3 := hSw.mach.k3; have q4 := hSw.mach.k4; have q5 := hSw.mach.k5; have q6 := hSw.mach.k6; have q7 := hSw.mach.k7; have q8 := hSw.mach.k8; have q9 := hSw.mach.k9; clear hSw; go_simp) <;> with_reducible rfl)
  (try simp only [Act.put, List.setIfInBounds_toArray, List.set_cons_zero, List.set_cons_succ])
  refine wpAnyP_take0 (i := 1) (v := ?_) rfl (by kernel_rfl) (by kernel_rfl) (by kernel_rfl) (by kernel_rfl) (by rfl) (fun _ _ _ h => h) (Or.inl ⟨by rfl, ?_⟩) hHeld ?_
  rotate_left 1
  · ((intro w9 hSw; have q0 := hSw.c0; have q1 := hSw.c1; clear hSw; go_simp) <;> with_reducible rfl)
  (try simp only [Act.put, List.setIfInBounds_toArray, List.set_cons_zero, List.set_cons_succ])
  refine wpAnyP_take0 (i := 2) (v := ?_) rfl (by kernel_rfl) (by kernel_rfl) (by kernel_rfl) (by kernel_rfl) (by rfl) (fun _ _ _ h => h) (Or.inl ⟨by rfl, ?_⟩) hHeld ?_
  rotate_left 1
  · ((intro w9 hSw; have q0 := hSw.mach.k0; have q1 := hSw.mach.k1; have q2 := hSw.mach.k2; have q3 := hSw.mach.k3; have q4 := hSw.mach.k4; have q5 := hSw.mach.k5; have q6 := hSw.mach.k6; have q7 := hSw.mach.k7; have q8 := hSw.mach.k8; have q9 := hSw.mach.k9; clear hSw; go_simp) <;> with_reducible rfl)
  (try simp only [Act.put, List.setIfInBounds_toArray, List.set_cons_zero, List.set_cons_succ])
  refine wpAnyP_ready (rs := [3, 12]) (by kernel_rfl) (by simp) ?_
  refine AllReadyP.cons (o := _) rfl (fun K hK => ?_) (AllReadyP.cons (o := _) rfl (fun K hK => ?_) AllReadyP.nil)
  · go_simp
    (go_at_call 48; with_reducible refine (hif _ hHeld.1.old).mono ?_; rintro e w1 ⟨rfl, hb1⟩)
    refine hK.out _ _ ?_ (fun hHeld => ?_)
    · (exact ⟨hHeld.1.below hb1, trivial⟩)
    clear hK K
    (try simp only [Act.put, List.setIfInBounds_toArray, List.set_cons_zero, List.set_cons_succ])
    refine wpAnyP_take0 (i := 4) (v := ?_) rfl (by kernel_rfl) (by kernel_rfl) (by kernel_rfl) (by kernel_rfl) (by rfl) (fun _ _ _ h => h) (Or.inl ⟨by rfl, ?_⟩) hHeld ?_
    rotate_left 1
    · ((intro w9 hSw; clear hSw; go_simp) <;> with_reducible rfl)
    (try simp only [Act.put, List.setIfInBounds_toArray, List.set_cons_zero, List.set_cons_succ])
    refine wpAnyP_take0 (i := 5) (v := ?_) rfl (by kernel_rfl) (by kernel_rfl) (by kernel_rfl) (by kernel_rfl) (by rfl) (fun _ _ _ h => h) (Or.inl ⟨by kernel_rfl, ?_⟩) hHeld ?_
    rotate_left 1
    · ((intro w9 hSw; clear hSw; go_simp) <;> with_reducible rfl)
    (try simp only [Act.put, List.setIfInBounds_toArray, List.set_cons_zero, List.set_cons_succ])
    refine wpAnyP_ready (rs := [6, 12]) (by kernel_rfl) (by simp) ?_
    refine AllReadyP.cons (o := _) rfl (fun K hK => ?_) (AllReadyP.cons (o := _) rfl (fun K hK => ?_) AllReadyP.nil)
    · go_simp
      (go_at_call 49; with_reducible refine (hwi _).mono ?_; rintro e w8 ⟨rfl, rfl⟩)
      refine hK.out _ _ ?_ (fun hHeld => ?_)
      · (exact hHeld)
      clear hK K
      (try simp only [Act.put, List.setIfInBounds_toArray, List.set_cons_zero, List.set_cons_succ])
      refine wpAnyP_take0 (i := 7) (v := ?_) rfl (by kernel_rfl) (by kernel_rfl) (by kernel_rfl) (by kernel_rfl) (by rfl) (fun _ _ _ h => h) (Or.inl ⟨by rfl, ?_⟩) hHeld ?_
      rotate_left 1
      · ((intro w9 hSw; clear hSw; go_simp) <;> with_reducible rfl)
      (try simp only [Act.put, List.setIfInBounds_toArray, List.set_cons_zero, List.set_cons_succ])
      refine wpAnyP_ready (rs := [8, 12]) (by kernel_rfl) (by simp) ?_
      refine AllReadyP.cons (o := _) rfl (fun K hK => ?_) (AllReadyP.cons (o := _) rfl (fun K hK => ?_) AllReadyP.nil)
      · go_simp
        (go_at_call 47; with_reducible refine (hC _ hHeld.1.old).mono ?_; rintro e w2 ⟨rfl, hb2⟩)
        refine hK.out _ _ ?_ (fun hHeld => ?_)
        · (exact ⟨hHeld.1.below hb2, trivial⟩)
        clear hK K
        (try simp only [Act.put, List.setIfInBounds_toArray, List.set_cons_zero, List.set_cons_succ])
        refine wpAnyP_take0 (i := 9) (v := ?_) rfl (by kernel_rfl) (by kernel_rfl) (by kernel_rfl) (by kernel_rfl) (by rfl) (fun _ _ _ h => h) (Or.inl ⟨by rfl, ?_⟩) hHeld ?_
        rotate_left 1
        · ((intro w9 hSw; clear hSw; go_simp) <;> with_reducible rfl)
        (try simp only [Act.put, List.setIfInBounds_toArray, List.set_cons_zero, List.set_cons_succ])
        refine wpAnyP_take0 (i := 10) (v := ?_) rfl (by kernel_rfl) (by kernel_rfl) (by kernel_rfl) (by kernel_rfl) (by rfl) (fun _ _ _ h => h) (Or.inl ⟨by rfl, ?_⟩) hHeld ?_
        rotate_left 1
        · ((intro w9 hSw; clear hSw; go_simp) <;> with_reducible rfl)
        (try simp only [Act.put, List.setIfInBounds_toArray, List.set_cons_zero, List.set_cons_succ])
        refine wpAnyP_take0 (i := 11) (v := ?_) rfl (by kernel_rfl) (by kernel_rfl) (by kernel_rfl) (by kernel_rfl) (by rfl) (fun _ _ _ h => h) (Or.inl ⟨by rfl, ?_⟩) hHeld ?_
        rotate_left 1
        · ((intro w9 hSw; clear hSw; go_simp) <;> with_reducible rfl)
        (try simp only [Act.put, List.setIfInBounds_toArray, List.set_cons_zero, List.set_cons_succ])
        refine wpAnyP_ready (rs := [12]) (by kernel_rfl) (by simp) ?_
        refine AllReadyP.cons (o := _) rfl (fun K hK => ?_) AllReadyP.nil
        · go_simp
          (try simp only [hal])
          have hZ := hS0 w2
          have hgz := hHeld.1.big
          refine hK.out _ _ ?_ (fun hHeld => ?_)
          · (exact ⟨hHeld.1.alloc _, trivial⟩)
          clear hK K
          (try simp only [Act.put, List.setIfInBounds_toArray, List.set_cons_zero, List.set_cons_succ])
          refine wpAnyP_ready (rs := [13]) (by kernel_rfl) (by simp) ?_
          refine AllReadyP.cons (o := _) rfl (fun K hK => ?_) AllReadyP.nil
          · refine step_store_mid rfl 94 _ _ rfl w2.heap.size 0 L.toArray rfl rfl (hth _ _ hZ) hiA hoL ?_
            have hL5 := hfi _ _ hZ
            have hK5 := hHeld.1.put hgz L
            refine hK.out _ _ ?_ (fun hHeld => ?_)
            · (exact ⟨hK5, trivial⟩)
            clear hK K
            (try simp only [Act.put, List.setIfInBounds_toArray, List.set_cons_zero, List.set_cons_succ])
            refine wpAnyP_take0 (i := 14) (v := ?_) rfl (by kernel_rfl) (by kernel_rfl) (by kernel_rfl) (by kernel_rfl) (by rfl) (fun _ _ _ h => h) (Or.inl ⟨by rfl, ?_⟩) hHeld ?_
            rotate_left 1
            · ((intro w9 hSw; clear hSw; go_simp) <;> with_reducible rfl)
            (try simp only [Act.put, List.setIfInBounds_toArray, List.set_cons_zero, List.set_cons_succ])
            refine wpAnyP_done (by kernel_rfl) ?_ _
            (try simp only [Act.put, List.getElem_toArray, List.getElem_cons_zero, List.getElem_cons_succ, List.setIfInBounds_toArray, List.set_cons_zero, List.set_cons_succ])
            have hX9 := hHeld.1
            clear hth hfi hS0 hHeld hC hif hwi
            exact fin _ _ hX9 hL5 (by first | exact hgz | omega) (hL5.lt (by omega))
      · go_simp
        (try simp only [hal])
        have hZ := hS0 w1
        have hgz := hHeld.1.big
        refine hK.out _ _ ?_ (fun hHeld => ?_)
        · (exact ⟨hHeld.1.alloc _, trivial⟩)
        clear hK K
        (try simp only [Act.put, List.setIfInBounds_toArray, List.set_cons_zero, List.set_cons_succ])
        refine wpAnyP_ready (rs := [8]) (by kernel_rfl) (by simp) ?_
        refine AllReadyP.cons (o := _) rfl (fun K hK => ?_) AllReadyP.nil
        · go_simp
          (go_at_call 47; with_reducible refine (hC _ hHeld.1.old).mono ?_; rintro e w2 ⟨rfl, hb2⟩)
          replace hZ := hZ.below hb2 (by first | (rw [World.size_alloc]; exact Nat.lt_succ_self _) | (have hz := hb1.size; rw [World.size_alloc] at hz; omega))
          refine hK.out _ _ ?_ (fun hHeld => ?_)
          · (exact ⟨hHeld.1.below hb2, trivial⟩)
          clear hK K
          (try simp only [Act.put, List.setIfInBounds_toArray, List.set_cons_zero, List.set_cons_succ])
          refine wpAnyP_take0 (i := 9) (v := ?_) rfl (by kernel_rfl) (by kernel_rfl) (by kernel_rfl) (by kernel_rfl) (by rfl) (fun _ _ _ h => h) (Or.inl ⟨by rfl, ?_⟩) hHeld ?_
          rotate_left 1
          · ((intro w9 hSw; clear hSw; go_simp) <;> with_reducible rfl)
          (try simp only [Act.put, List.setIfInBounds_toArray, List.set_cons_zero, List.set_cons_succ])
          refine wpAnyP_take0 (i := 10) (v := ?_) rfl (by kernel_rfl) (by kernel_rfl) (by kernel_rfl) (by kernel_rfl) (by rfl) (fun _ _ _ h => h) (Or.inl ⟨by rfl, ?_⟩) hHeld ?_
          rotate_left 1
          · ((intro w9 hSw; clear hSw; go_simp) <;> with_reducible rfl)
          (try simp only [Act.put, List.setIfInBounds_toArray, List.set_cons_zero, List.set_cons_succ])
          refine wpAnyP_take0 (i := 11) (v := ?_) rfl (by kernel_rfl) (by kernel_rfl) (by kernel_rfl) (by kernel_rfl) (by rfl) (fun _ _ _ h => h) (Or.inl ⟨by rfl, ?_⟩) hHeld ?_
          rotate_left 1
          · ((intro w9 hSw; clear hSw; go_simp) <;> with_reducible rfl)
          (try simp only [Act.put, List.setIfInBounds_toArray, List.set_cons_zero, List.set_cons_succ])
          refine wpAnyP_ready (rs := [13]) (by kernel_rfl) (by simp) ?_
          refine AllReadyP.cons (o := _) rfl (fun K hK => ?_) AllReadyP.nil
          · refine step_store_mid rfl 94 _ _ rfl w1.heap.size 0 L.toArray rfl rfl (hth _ _ hZ) hiA hoL ?_
            have hL5 := hfi _ _ hZ
            have hK5 := hHeld.1.put hgz L
            refine hK.out _ _ ?_ (fun hHeld => ?_)
            · (exact ⟨hK5, trivial⟩)
            clear hK K
            (try simp only [Act.put, List.setIfInBounds_toArray, List.set_cons_zero, List.set_cons_succ])
            refine wpAnyP_take0 (i := 14) (v := ?_) rfl (by kernel_rfl) (by kernel_rfl) (by kernel_rfl) (by kernel_rfl) (by rfl) (fun _ _ _ h => h) (Or.inl ⟨by rfl, ?_⟩) hHeld ?_
            rotate_left 1
            · ((intro w9 hSw; clear hSw; go_simp) <;> with_reducible rfl)
            (try simp only [Act.put, List.setIfInBounds_toArray, List.set_cons_zero, List.set_cons_succ])
            refine wpAnyP_done (by kernel_rfl) ?_ _
            (try simp only [Act.put, List.getElem_toArray, List.getElem_cons_zero, List.getElem_cons_succ, List.setIfInBounds_toArray, List.set_cons_zero, List.set_cons_succ])
            have hX9 := hHeld.1
            clear hth hfi hS0 hHeld hC hif hwi
            exact fin _ _ hX9 hL5 (by first | exact hgz | omega) (hL5.lt (by omega))
    · go_simp
      (try simp only [hal])
      have hZ := hS0 w1
      have hgz := hHeld.1.big
      refine hK.out _ _ ?_ (fun hHeld => ?_)
      · (exact ⟨hHeld.1.alloc _, trivial⟩)
      clear hK K
      (try simp only [Act.put, List.setIfInBounds_toArray, List.set_cons_zero, List.set_cons_succ])
      refine wpAnyP_ready (rs := [6]) (by kernel_rfl) (by simp) ?_
      refine AllReadyP.cons (o := _) rfl (fun K hK => ?_) AllReadyP.nil
      · go_simp
        (go_at_call 49; with_reducible refine (hwi _).mono ?_; rintro e w8 ⟨rfl, rfl⟩)
        refine hK.out _ _ ?_ (fun hHeld => ?_)
        · (exact hHeld)
        clear hK K
        (try simp only [Act.put, List.setIfInBounds_toArray, List.set_cons_zero, List.set_cons_succ])
        refine wpAnyP_take0 (i := 7) (v := ?_) rfl (by kernel_rfl) (by kernel_rfl) (by kernel_rfl) (by kernel_rfl) (by rfl) (fun _ _ _ h => h) (Or.inl ⟨by rfl, ?_⟩) hHeld ?_
        rotate_left 1
        · ((intro w9 hSw; clear hSw; go_simp) <;> with_reducible rfl)
        (try simp only [Act.put, List.setIfInBounds_toArray, List.set_cons_zero, List.set_cons_succ])
        refine wpAnyP_ready (rs := [8]) (by kernel_rfl) (by simp) ?_
        refine AllReadyP.cons (o := _) rfl (fun K hK => ?_) AllReadyP.nil
        · go_simp
          (go_at_call 47; with_reducible refine (hC _ hHeld.1.old).mono ?_; rintro e w2 ⟨rfl, hb2⟩)
          replace hZ := hZ.below hb2 (by first | (rw [World.size_alloc]; exact Nat.lt_succ_self _) | (have hz := hb1.size; rw [World.size_alloc] at hz; omega))
          refine hK.out _ _ ?_ (fun hHeld => ?_)
          · (exact ⟨hHeld.1.below hb2, trivial⟩)
          clear hK K
          (try simp only [Act.put, List.setIfInBounds_toArray, List.set_cons_zero, List.set_cons_succ])
          refine wpAnyP_take0 (i := 9) (v := ?_) rfl (by kernel_rfl) (by kernel_rfl) (by kernel_rfl) (by kernel_rfl) (by rfl) (fun _ _ _ h => h) (Or.inl ⟨by rfl, ?_⟩) hHeld ?_
          rotate_left 1
          · ((intro w9 hSw; clear hSw; go_simp) <;> with_reducible rfl)
          (try simp only [Act.put, List.setIfInBounds_toArray, List.set_cons_zero, List.set_cons_succ])
          refine wpAnyP_take0 (i := 10) (v := ?_) rfl (by kernel_rfl) (by kernel_rfl) (by kernel_rfl) (by kernel_rfl) (by rfl) (fun _ _ _ h => h) (Or.inl ⟨by rfl, ?_⟩) hHeld ?_
          rotate_left 1
          · ((intro w9 hSw; clear hSw; go_simp) <;> with_reducible rfl)
          (try simp only [Act.put, List.setIfInBounds_toArray, List.set_cons_zero, List.set_cons_succ])
          refine wpAnyP_take0 (i := 11) (v := ?_) rfl (by kernel_rfl) (by kernel_rfl) (by kernel_rfl) (by kernel_rfl) (by rfl) (fun _ _ _ h => h) (Or.inl ⟨by rfl, ?_⟩) hHeld ?_
          rotate_left 1
          · ((intro w9 hSw; clear hSw; go_simp) <;> with_reducible rfl)
          (try simp only [Act.put, List.setIfInBounds_toArray, List.set_cons_zero, List.set_cons_succ])
          refine wpAnyP_ready (rs := [13]) (by kernel_rfl) (by simp) ?_
          refine AllReadyP.cons (o := _) rfl (fun K hK => ?_) AllReadyP.nil
          · refine step_store_mid rfl 94 _ _ rfl w1.heap.size 0 L.toArray rfl rfl (hth _ _ hZ) hiA hoL ?_
            have hL5 := hfi _ _ hZ
            have hK5 := hHeld.1.put hgz L
            refine hK.out _ _ ?_ (fun hHeld => ?_)
            · (exact ⟨hK5, trivial⟩)
            clear hK K
            (try simp only [Act.put, List.setIfInBounds_toArray, List.set_cons_zero, List.set_cons_succ])
            refine wpAnyP_take0 (i := 14) (v := ?_) rfl (by kernel_rfl) (by kernel_rfl) (by kernel_rfl) (by kernel_rfl) (by rfl) (fun _ _ _ h => h) (Or.inl ⟨by rfl, ?_⟩) hHeld ?_
            rotate_left 1
            · ((intro w9 hSw; clear hSw; go_simp) <;> with_reducible rfl)
            (try simp only [Act.put, List.setIfInBounds_toArray, List.set_cons_zero, List.set_cons_succ])
            refine wpAnyP_done (by kernel_rfl) ?_ _
            (try simp only [Act.put, List.getElem_toArray, List.getElem_cons_zero, List.getElem_cons_succ, List.setIfInBounds_toArray, List.set_cons_zero, List.set_cons_succ])
            have hX9 := hHeld.1
            clear hth hfi hS0 hHeld hC hif hwi
            exact fin _ _ hX9 hL5 (by first | exact hgz | omega) (hL5.lt (by omega))
  · go_simp
    (try simp only [hal])
    have hZ := hS0 V
    have hgz := hHeld.1.big
    refine hK.out _ _ ?_ (fun hHeld => ?_)
    · (exact ⟨hHeld.1.alloc _, trivial⟩)
    clear hK K
    (try simp only [Act.put, List.setIfInBounds_toArray, List.set_cons_zero, List.set_cons_succ])
    refine wpAnyP_ready (rs := [3]) (by kernel_rfl) (by simp) ?_
    refine AllReadyP.cons (o := _) rfl (fun K hK => ?_) AllReadyP.nil
    · go_simp
      (go_at_call 48; with_reducible refine (hif _ hHeld.1.old).mono ?_; rintro e w1 ⟨rfl, hb1⟩)
      replace hZ := hZ.below hb1 (by first | (rw [World.size_alloc]; exact Nat.lt_succ_self _) | (have hz := hb1.size; rw [World.size_alloc] at hz; omega))
      refine hK.out _ _ ?_ (fun hHeld => ?_)
      · (exact ⟨hHeld.1.below hb1, trivial⟩)
      clear hK K
      (try simp only [Act.put, List.setIfInBounds_toArray, List.set_cons_zero, List.set_cons_succ])
      refine wpAnyP_take0 (i := 4) (v := ?_) rfl (by kernel_rfl) (by kernel_rfl) (by kernel_rfl) (by kernel_rfl) (by rfl) (fun _ _ _ h => h) (Or.inl ⟨by rfl, ?_⟩) hHeld ?_
      rotate_left 1
      · ((intro w9 hSw; clear hSw; go_simp) <;> with_reducible rfl)
      (try simp only [Act.put, List.setIfInBounds_toArray, List.set_cons_zero, List.set_cons_succ])
      refine wpAnyP_take0 (i := 5) (v := ?_) rfl (by kernel_rfl) (by kernel_rfl) (by kernel_rfl) (by kernel_rfl) (by rfl) (fun _ _ _ h => h) (Or.inl ⟨by kernel_rfl, ?_⟩) hHeld ?_
      rotate_left 1
      · ((intro w9 hSw; clear hSw; go_simp) <;> with_reducible rfl)
      (try simp only [Act.put, List.setIfInBounds_toArray, List.set_cons_zero, List.set_cons_succ])
      refine wpAnyP_ready (rs := [6]) (by kernel_rfl) (by simp) ?_
      refine AllReadyP.cons (o := _) rfl (fun K hK => ?_) AllReadyP.nil
      · go_simp
        (go_at_call 49; with_reducible refine (hwi _).mono ?_; rintro e w8 ⟨rfl, rfl⟩)
        refine hK.out _ _ ?_ (fun hHeld => ?_)
        · (exact hHeld)
        clear hK K
        (try simp only [Act.put, List.setIfInBounds_toArray, List.set_cons_zero, List.set_cons_succ])
        refine wpAnyP_take0 (i := 7) (v := ?_) rfl (by kernel_rfl) (by kernel_rfl) (by kernel_rfl) (by kernel_rfl) (by rfl) (fun _ _ _ h => h) (Or.inl ⟨by rfl, ?_⟩) hHeld ?_
        rotate_left 1
        · ((intro w9 hSw; clear hSw; go_simp) <;> with_reducible rfl)
        (try simp only [Act.put, List.setIfInBounds_toArray, List.set_cons_zero, List.set_cons_succ])
        refine wpAnyP_ready (rs := [8]) (by kernel_rfl) (by simp) ?_
        refine AllReadyP.cons (o := _) rfl (fun K hK => ?_) AllReadyP.nil
        · go_simp
          (go_at_call 47; with_reducible refine (hC _ hHeld.1.old).mono ?_; rintro e w2 ⟨rfl, hb2⟩)
          replace hZ := hZ.below hb2 (by first | (rw [World.size_alloc]; exact Nat.lt_succ_self _) | (have hz := hb1.size; rw [World.size_alloc] at hz; omega))
          refine hK.out _ _ ?_ (fun hHeld => ?_)
          · (exact ⟨hHeld.1.below hb2, trivial⟩)
          clear hK K
          (try simp only [Act.put, List.setIfInBounds_toArray, List.set_cons_zero, List.set_cons_succ])
          refine wpAnyP_take0 (i := 9) (v := ?_) rfl (by kernel_rfl) (by kernel_rfl) (by kernel_rfl) (by kernel_rfl) (by rfl) (fun _ _ _ h => h) (Or.inl ⟨by rfl, ?_⟩) hHeld ?_
          rotate_left 1
          · ((intro w9 hSw; clear hSw; go_simp) <;> with_reducible rfl)
          (try simp only [Act.put, List.setIfInBounds_toArray, List.set_cons_zero, List.set_cons_succ])
          refine wpAnyP_take0 (i := 10) (v := ?_) rfl (by kernel_rfl) (by kernel_rfl) (by kernel_rfl) (by kernel_rfl) (by rfl) (fun _ _ _ h => h) (Or.inl ⟨by rfl, ?_⟩) hHeld ?_
          rotate_left 1
          · ((intro w9 hSw; clear hSw; go_simp) <;> with_reducible rfl)
          (try simp only [Act.put, List.setIfInBounds_toArray, List.set_cons_zero, List.set_cons_succ])
          refine wpAnyP_take0 (i := 11) (v := ?_) rfl (by kernel_rfl) (by kernel_rfl) (by kernel_rfl) (by kernel_rfl) (by rfl) (fun _ _ _ h => h) (Or.inl ⟨by rfl, ?_⟩) hHeld ?_
          rotate_left 1
          · ((intro w9 hSw; clear hSw; go_simp) <;> with_reducible rfl)
          (try simp only [Act.put, List.setIfInBounds_toArray, List.set_cons_zero, List.set_cons_succ])
          refine wpAnyP_ready (rs := [13]) (by kernel_rfl) (by simp) ?_
          refine AllReadyP.cons (o := _) rfl (fun K hK => ?_) AllReadyP.nil
          · refine step_store_mid rfl 94 _ _ rfl V.heap.size 0 L.toArray rfl rfl (hth _ _ hZ) hiA hoL ?_
            have hL5 := hfi _ _ hZ
            have hK5 := hHeld.1.put hgz L
            refine hK.out _ _ ?_ (fun hHeld => ?_)
            · (exact ⟨hK5, trivial⟩)
            clear hK K
            (try simp only [Act.put, List.setIfInBounds_toArray, List.set_cons_zero, List.set_cons_succ])
            refine wpAnyP_take0 (i := 14) (v := ?_) rfl (by kernel_rfl) (by kernel_rfl) (by kernel_rfl) (by kernel_rfl) (by rfl) (fun _ _ _ h => h) (Or.inl ⟨by rfl, ?_⟩) hHeld ?_
            rotate_left 1
            · ((intro w9 hSw; clear hSw; go_simp) <;> with_reducible rfl)
            (try simp only [Act.put, List.setIfInBounds_toArray, List.set_cons_zero, List.set_cons_succ])
            refine wpAnyP_done (by kernel_rfl) ?_ _
            (try simp only [Act.put, List.getElem_toArray, List.getElem_cons_zero, List.getElem_cons_succ, List.setIfInBounds_toArray, List.set_cons_zero, List.set_cons_succ])
            have hX9 := hHeld.1
            clear hth hfi hS0 hHeld hC hif hwi
            exact fin _ _ hX9 hL5 (by first | exact hgz | omega) (hL5.lt (by omega))
end Go.Proofs.YtmjmmokbaocboaaGreatDoor
