/- A part of the proof: see the last file. -/
import Derived.Test.YtppefjmllebacaaGreatDoorPam
set_option linter.unusedVariables false
set_option linter.unusedSimpArgs false
set_option linter.unusedSectionVars false
namespace Go.Proofs.YtppefjmllebacaaGreatDoor
open Go.RowKit
theorem two_far {W : World} {B b j : Nat} {u v : Value} (hne : B ≠ b) : ((W.setCell ⟨b, 0, none⟩ u).setCell ⟨b, 1, none⟩ v).cell? ⟨B, j, none⟩ = W.cell? ⟨B, j, none⟩ :=
  World.cell?_of_block ((Below.heap_setCell _ ⟨b, 1, none⟩ v B hne).trans (Below.heap_setCell W ⟨b, 0, none⟩ u B hne))
theorem step_store_mid {P : Program} {ops : Array Oper} {o : Oper} {a : Act} {w : World} {K : Act → World → Prop} {Q : Exit → Act → World → Prop} {E : Prop} (hgd : o.guard = none) (ty : TypeId) (x y : Operand) (ho : o.op = .store ty x y)
    (b off : Nat) (cells : Array Value) (hx : a.eval x = .pointer (some ⟨b, off, none⟩)) (hy : a.eval y = .agg cells) (ht : w.there b off cells.size) (hi : (P.info? ty).map (·.size) = some cells.size) (h1 : cells.all (·.oneCell') = true)
    (h : K (a.put o.dst undef) (w.setCells b off cells.toList)) : if Region.wanted o (yielded ops a.tmps) = true then Oper.wp P o a w K Q else E := by
  have hw : Region.wanted o (yielded ops a.tmps) = true := by simp [Region.wanted, hgd]
  rw [if_pos hw]
  exact wp_store_mid ty x y ho b off cells hx hy ht hi h1 h
/-- what stays while Known works: the machine's cells, and the two results. -/
structure KS (w W : World) (m : Mach) : Prop where
  mat : MAt W w.heap.size m
  p : Two W (w.heap.size + 1) 0 0
  q : Two W (w.heap.size + 1 + 1) 0 0
  old : Below w.heap.size w W
  lt : w.heap.size + 3 ≤ W.heap.size
theorem KS.below {w W W' : World} {m : Mach} (h : KS w W m) (hb : Below W.heap.size W W') : KS w W' m := by
  have := h.lt
  exact ⟨h.mat.below hb (by omega), h.p.below hb (by omega), h.q.below hb (by omega), h.old.trans (hb.mono (by omega)), Nat.le_trans h.lt hb.size⟩
theorem KS.alloc {w W : World} {m : Mach} (h : KS w W m) (o : Obj) : KS w (W.alloc o) m := h.below ((Below.refl _ _).alloc (Nat.le_refl _) o)
theorem KS.drew {w W : World} {m : Mach} (h : KS w W m) : KS w W.drew m := h.below (Below.refl _ _).drew
theorem KS.put {w W : World} {m : Mach} (h : KS w W m) {g : Nat} (hg : w.heap.size + 3 ≤ g) (L : List Value) : KS w (W.setCells g 0 L) m := by
  have hl := h.lt
  have hk : ∀ b, b < w.heap.size + 3 → (W.setCells g 0 L).heap[b]? = W.heap[b]? := fun b hb => World.heap_setCells_other W g 0 L (by omega) (by omega)
  have hbl : Below (w.heap.size + 3) W (W.setCells g 0 L) := below_setCells hg L 0 W (Below.refl _ _)
  exact ⟨h.mat.below hbl (by omega), h.p.below hbl (by omega), h.q.below hbl (by omega), below_setCells (by omega) L 0 W h.old, by rw [size_setCells]; exact hl⟩
theorem KS.new (w : World) (m : Mach) : KS w (((w.alloc (.cells #[.slice m.sa m.sn m.sc, .int .i64 m.c0, .int .i64 m.c1, .int .i64 m.d0, .int .i64 m.d1, .int .i64 m.w0, .int .i64 m.w1, .int .i64 m.v0, .int .i64 m.v1, .slice m.ra m.rn m.rc] 27)).alloc (Obj.cells #[.int .i64 0, .int .i64 0] 24)).alloc (Obj.cells #[.int .i64 0, .int .i64 0] 24)) m := by
  have h1 : Below w.heap.size w (w.alloc (.cells #[.slice m.sa m.sn m.sc, .int .i64 m.c0, .int .i64 m.c1, .int .i64 m.d0, .int .i64 m.d1, .int .i64 m.w0, .int .i64 m.w1, .int .i64 m.v0, .int .i64 m.v1, .slice m.ra m.rn m.rc] 27)) := (Below.refl _ _).alloc (Nat.le_refl _) _
  have hm := MAt.new w m
  have hz : (w.alloc (.cells #[.slice m.sa m.sn m.sc, .int .i64 m.c0, .int .i64 m.c1, .int .i64 m.d0, .int .i64 m.d1, .int .i64 m.w0, .int .i64 m.w1, .int .i64 m.v0, .int .i64 m.v1, .slice m.ra m.rn m.rc] 27)).heap.size = w.heap.size + 1 := World.size_alloc _ _
  generalize w.alloc (.cells #[.slice m.sa m.sn m.sc, .int .i64 m.c0, .int .i64 m.c1, .int .i64 m.d0, .int .i64 m.d1, .int .i64 m.w0, .int .i64 m.w1, .int .i64 m.v0, .int .i64 m.v1, .slice m.ra m.rn m.rc] 27) = W1 at *
  have hp := Two.new W1 24 0 0
  have h2 : Below W1.heap.size W1 (W1.alloc (Obj.cells #[.int .i64 0, .int .i64 0] 24)) := (Below.refl _ _).alloc (Nat.le_refl _) _
  have hz2 : (W1.alloc (Obj.cells #[.int .i64 0, .int .i64 0] 24)).heap.size = W1.heap.size + 1 := World.size_alloc _ _
  generalize W1.alloc (Obj.cells #[.int .i64 0, .int .i64 0] 24) = W2 at *
  have hq := Two.new W2 24 0 0
  have h3 : Below W2.heap.size W2 (W2.alloc (Obj.cells #[.int .i64 0, .int .i64 0] 24)) := (Below.refl _ _).alloc (Nat.le_refl _) _
  have hz3 : (W2.alloc (Obj.cells #[.int .i64 0, .int .i64 0] 24)).heap.size = W2.heap.size + 1 := World.size_alloc _ _
  rw [hz] at hp
  rw [hz2, hz] at hq
  exact ⟨(hm.below h2 (by omega)).below h3 (by omega), hp.below h3 (by omega), hq, (h1.trans (h2.mono (by omega))).trans (h3.mono (by omega)), by omega⟩
set_option maxRecDepth 100000 in
set_option maxHeartbeats 8000000 in
theorem Known_ok (m : Mach) (b : Nat) (hb : b ≤ 12) (w : World) (hs : m.sn ≤ 1000) (hr : m.rn ≤ 9223372036854775807) (h : MIn w m) (hok : m.ok = true) (hc : m.can) :
    Calls Tryz.prog 18 #[m.val, .int .i64 b] w fun e w' => e = .returned (.tuple #[.agg #[.int .i64 (m.axX.ends b).1, .int .i64 (m.axX.ends b).2], .agg #[.int .i64 (m.axY.ends b).1, .int .i64 (m.axY.ends b).2], .int .i64 0]) ∧ Below w.heap.size w w' := by
  obtain ⟨L, er, hE, hC⟩ := examine_any m true w hs hr h
  obtain ⟨hLe, rfl⟩ := hE.ok (by rw [hok]; rfl) hc
  have hfine : inB (b : Int) 0 12 = true := inB_yes (by omega) (by omega)
  have hwi := fun (W : World) => within_any (b : Int) 0 12 W
  rw [hfine] at hwi
  obtain ⟨x0, x1⟩ := st_atX m m.axX.ends m.axY.ends b hb
  obtain ⟨x2, x3⟩ := st_atY m m.axX.ends m.axY.ends b hb
  rw [← hLe] at x0 x1 x2 x3
  have hat := fun (W : World) => at_any L b hb _ _ _ _ W x0 x1 x2 x3
  obtain ⟨W0, hW0⟩ : ∃ W0, ((w.alloc (.cells #[.slice m.sa m.sn m.sc, .int .i64 m.c0, .int .i64 m.c1, .int .i64 m.d0, .int .i64 m.d1, .int .i64 m.w0, .int .i64 m.w1, .int .i64 m.v0, .int .i64 m.v1, .slice m.ra m.rn m.rc] 27)).alloc (Obj.cells #[.int .i64 0, .int .i64 0] 24)).alloc (Obj.cells #[.int .i64 0, .int .i64 0] 24) = W0 := ⟨_, rfl⟩
  have hKS0 : KS w W0 m := by rw [← hW0]; exact KS.new w m
  have hal : (#[.slice none 0 0, .int .i64 0, .int .i64 0, .int .i64 0, .int .i64 0, .int .i64 0, .int .i64 0, .int .i64 0, .int .i64 0, .slice none 0 0, .int .i64 0, .int .i64 0, .int .i64 0, .int .i64 0, .int .i64 0, .int .i64 0, .int .i64 0, .int .i64 0, .int .i64 0, .int .i64 0, .int .i64 0, .int .i64 0, .int .i64 0, .int .i64 0, .int .i64 0, .int .i64 0, .int .i64 0, .int .i64 0, .int .i64 0, .int .i64 0, .int .i64 0, .int .i64 0, .int .i64 0, .int .i64 0, .int .i64 0, .int .i64 0, .int .i64 0, .int .i64 0, .int .i64 0, .int .i64 0, .int .i64 0, .int .i64 0, .int .i64 0, .int .i64 0, .int .i64 0, .int .i64 0, .int .i64 0, .int .i64 0, .int .i64 0, .int .i64 0, .int .i64 0, .int .i64 0, .int .i64 0, .int .i64 0, .int .i64 0, .int .i64 0, .int .i64 0, .int .i64 0, .int .i64 0, .int .i64 0, .int .i64 0, .int .i64 0] : Array Value) = zst.toArray := rfl
  have hlz : zst.length = 62 := zM.st_length rfl rfl
  have hlL := hE.length
  have hoL := all_oneCell_toArray hE.one
  have hi0 : (Tryz.prog.info? 83).map (·.size) = some 62 := by kernel_rfl
  have hiL : (Tryz.prog.info? 83).map (·.size) = some L.length := by rw [hlL]; exact hi0
  have hiA : (Tryz.prog.info? 83).map (·.size) = some L.toArray.size := by rw [List.size_toArray, hlL]; exact hi0
  have hS0 := fun (W : World) => SAt.new W zst 83
  have hth := fun (W : World) (g : Nat) (H : SAt W g zst) => H.there 0 L.toArray.size (by rw [List.size_toArray, hlL, hlz]; omega)
  have hfi := fun (W : World) (g : Nat) (H : SAt W g zst) => SAt.fill (L' := L) H (by rw [hlL, hlz])
  clear hi0 hE hLe x0 x1 x2 x3 hfine
  generalize m.axX.ends b = X at *
  generalize m.axY.ends b = Y at *
  obtain ⟨X0, X1⟩ := X
  obtain ⟨Y0, Y1⟩ := Y
  dsimp only at hat ⊢
  generalize zst = Z at *
  have hKS1 := hKS0
  obtain ⟨⟨q0, q1, q2, q3, q4, q5, q6, q7, q8, q9⟩, _, _, _, _⟩ := hKS1
  go_enter Tryz.func18, Tryz.ntmps18
  go_wp2_with fail
  refine wp_region_held_drew (S := fun W => KS w W m) (by kernel_rfl) ?_ (fun hHeld => ?_)
  · first | exact hKS0.drew | exact hKS0
  generalize W0.drew = W at hHeld ⊢
  refine wpAnyH_take (i := 0) (v := ?_) rfl (by kernel_rfl) (by kernel_rfl) (by kernel_rfl) (fun _ _ _ h => h) (Or.inl ⟨by rfl, ?_⟩) (by assumption) ?_
  rotate_left 1
  · ((intro w9 hSw; (try dsimp only at hSw); obtain ⟨⟨s0, s1, s2, s3, s4, s5, s6, s7, s8, s9⟩, _, _, _, _⟩ := hSw; go_simp) <;> with_reducible rfl)
  (try simp only [Act.put, List.setIfInBounds_toArray, List.set_cons_zero, List.set_cons_succ])
  refine wpAnyH_take (i := 1) (v := ?_) rfl (by kernel_rfl) (by kernel_rfl) (by kernel_rfl) (fun _ _ _ h => h) (Or.inl ⟨by rfl, ?_⟩) (by assumption) ?_
  rotate_left 1
  · ((intro w9 hSw; clear hSw; go_simp) <;> with_reducible rfl)
  (try simp only [Act.put, List.setIfInBounds_toArray, List.set_cons_zero, List.set_cons_succ])
  refine wpAnyH_ready (rs := [2, 7]) (by kernel_rfl) (by simp) ?_
  refine AllReadyH.cons (o := _) rfl (fun K hK => ?_) (AllReadyH.cons (o := _) rfl (fun K hK => ?_) AllReadyH.nil)
  · go_simp
    (go_at_call 42; with_reducible refine (hwi _).mono ?_; rintro e w8 ⟨rfl, rfl⟩)
    refine hK.out _ _ ?_ (fun hHeld => ?_)
    · exact hHeld
    clear hK K
    (try simp only [Act.put, List.setIfInBounds_toArray, List.set_cons_zero, List.set_cons_succ])
    refine wpAnyH_ready (rs := [3, 7]) (by kernel_rfl) (by simp) ?_
    refine AllReadyH.cons (o := _) rfl (fun K hK => ?_) (AllReadyH.cons (o := _) rfl (fun K hK => ?_) AllReadyH.nil)
    · go_simp
      (go_at_call 37; with_reducible refine (hC _ hHeld.old).mono ?_; rintro e w1 ⟨rfl, hbb⟩)
      refine hK.out _ _ ?_ (fun hHeld => ?_)
      · exact hHeld.below hbb
      clear hK K
      (try simp only [Act.put, List.setIfInBounds_toArray, List.set_cons_zero, List.set_cons_succ])
      refine wpAnyH_take (i := 4) (v := ?_) rfl (by kernel_rfl) (by kernel_rfl) (by kernel_rfl) (fun _ _ _ h => h) (Or.inl ⟨by rfl, ?_⟩) (by assumption) ?_
      rotate_left 1
      · ((intro w9 hSw; clear hSw; go_simp) <;> with_reducible rfl)
      (try simp only [Act.put, List.setIfInBounds_toArray, List.set_cons_zero, List.set_cons_succ])
      refine wpAnyH_take (i := 5) (v := ?_) rfl (by kernel_rfl) (by kernel_rfl) (by kernel_rfl) (fun _ _ _ h => h) (Or.inl ⟨by rfl, ?_⟩) (by assumption) ?_
      rotate_left 1
      · ((intro w9 hSw; clear hSw; go_simp) <;> with_reducible rfl)
      (try simp only [Act.put, List.setIfInBounds_toArray, List.set_cons_zero, List.set_cons_succ])
      refine wpAnyH_take (i := 6) (v := ?_) rfl (by kernel_rfl) (by kernel_rfl) (by kernel_rfl) (fun _ _ _ h => h) (Or.inl ⟨by rfl, ?_⟩) (by assumption) ?_
      rotate_left 1
      · ((intro w9 hSw; clear hSw; go_simp) <;> with_reducible rfl)
      (try simp only [Act.put, List.setIfInBounds_toArray, List.set_cons_zero, List.set_cons_succ])
      refine wpAnyH_ready (rs := [7]) (by kernel_rfl) (by simp) ?_
      refine AllReadyH.cons (o := _) rfl (fun K hK => ?_) AllReadyH.nil
      · go_simp
        (try simp only [hal])
        have hZ := hS0 w1
        have hgz := hHeld.lt
        refine hK.out _ _ ?_ (fun hHeld => ?_)
        · exact hHeld.alloc _
        clear hK K
        (try simp only [Act.put, List.setIfInBounds_toArray, List.set_cons_zero, List.set_cons_succ])
        refine wpAnyH_ready (rs := [8]) (by kernel_rfl) (by simp) ?_
        refine AllReadyH.cons (o := _) rfl (fun K hK => ?_) AllReadyH.nil
        · refine step_store_mid rfl 83 _ _ rfl w1.heap.size 0 L.toArray rfl rfl (hth _ _ hZ) hiA hoL ?_
          have hL5 := hfi _ _ hZ
          have hK5 := hHeld.put hgz L
          refine hK.out _ _ ?_ (fun hHeld => ?_)
          · exact hK5
          clear hK K
          (try simp only [Act.put, List.setIfInBounds_toArray, List.set_cons_zero, List.set_cons_succ])
          refine wpAnyH_take (i := 9) (v := ?_) rfl (by kernel_rfl) (by kernel_rfl) (by kernel_rfl) (fun _ _ _ h => h) (Or.inl ⟨by rfl, ?_⟩) (by assumption) ?_
          rotate_left 1
          · ((intro w9 hSw; clear hSw; go_simp) <;> with_reducible rfl)
          (try simp only [Act.put, List.setIfInBounds_toArray, List.set_cons_zero, List.set_cons_succ])
          refine wpAnyH_done (by kernel_rfl) ?_ _
          simp only [Act.put, List.getElem_toArray, List.getElem_cons_zero, List.getElem_cons_succ, List.setIfInBounds_toArray, List.set_cons_zero, List.set_cons_succ]
          have hrg := hL5.c
          clear hth hfi hS0 hL5
          go_wp2_with (first
            | (with_reducible refine wpList_load_mid rfl 83 _ rfl w1.heap.size 0 rfl L _ hrg Tryz.underlying83 rfl hiL ?_)
            | (go_at_call 49; with_reducible refine (hat _).mono ?_; rintro e w2 ⟨rfl, hb2'⟩))
          have hK6 := (hK5.below hb2').alloc (Obj.cells #[.int .i64 X0, .int .i64 X1, .int .i64 Y0, .int .i64 Y1] 96)
          have hd0 := cells_new w2 #[.int .i64 X0, .int .i64 X1, .int .i64 Y0, .int .i64 Y1] 96 (j := 0) rfl
          have hd1 := cells_new w2 #[.int .i64 X0, .int .i64 X1, .int .i64 Y0, .int .i64 Y1] 96 (j := 1) rfl
          have hd2 := cells_new w2 #[.int .i64 X0, .int .i64 X1, .int .i64 Y0, .int .i64 Y1] 96 (j := 2) rfl
          have hd3 := cells_new w2 #[.int .i64 X0, .int .i64 X1, .int .i64 Y0, .int .i64 Y1] 96 (j := 3) rfl
          generalize w2.alloc (Obj.cells #[.int .i64 X0, .int .i64 X1, .int .i64 Y0, .int .i64 Y1] 96) = V at *
          have hK7 := (hK5.below hb2').lt
          clear hb2' hK5 hHeld hat hrg
          obtain ⟨_, ⟨p0, p1, p2, p3⟩, ⟨r0, r1, r2, r3⟩, hVo, hVl⟩ := hK6
          have hB6 : w.heap.size + 3 ≤ w2.heap.size := hK7
          generalize w2.heap.size = B at *
          refine wp_region_held_drew (S := fun W => W.cell? ⟨B, 0, none⟩ = some (.int .i64 X0) ∧ W.cell? ⟨B, 1, none⟩ = some (.int .i64 X1) ∧ W.cell? ⟨B, 2, none⟩ = some (.int .i64 Y0) ∧ W.cell? ⟨B, 3, none⟩ = some (.int .i64 Y1)) (by kernel_rfl) ?_ (fun hHeld => ?_)
          · (try dsimp only); (first | (go_keep; done) | exact ⟨hd0, hd1, hd2, hd3⟩)
          refine wpAnyH_take (i := 0) (v := ?_) rfl (by kernel_rfl) (by kernel_rfl) (by kernel_rfl) (fun _ _ _ h => h) (Or.inl ⟨by rfl, ?_⟩) (by assumption) ?_
          rotate_left 1
          · ((intro w9 hSw; (try dsimp only at hSw); go_simp) <;> with_reducible rfl)
          (try simp only [Act.put, List.setIfInBounds_toArray, List.set_cons_zero, List.set_cons_succ])
          refine wpAnyH_take (i := 1) (v := ?_) rfl (by kernel_rfl) (by kernel_rfl) (by kernel_rfl) (fun _ _ _ h => h) (Or.inl ⟨by rfl, ?_⟩) (by assumption) ?_
          rotate_left 1
          · ((intro w9 hSw; (try dsimp only at hSw); go_simp) <;> with_reducible rfl)
          (try simp only [Act.put, List.setIfInBounds_toArray, List.set_cons_zero, List.set_cons_succ])
          refine wpAnyH_take (i := 2) (v := ?_) rfl (by kernel_rfl) (by kernel_rfl) (by kernel_rfl) (fun _ _ _ h => h) (Or.inl ⟨by rfl, ?_⟩) (by assumption) ?_
          rotate_left 1
          · ((intro w9 hSw; (try dsimp only at hSw); go_simp) <;> with_reducible rfl)
          (try simp only [Act.put, List.setIfInBounds_toArray, List.set_cons_zero, List.set_cons_succ])
          refine wpAnyH_take (i := 3) (v := ?_) rfl (by kernel_rfl) (by kernel_rfl) (by kernel_rfl) (fun _ _ _ h => h) (Or.inl ⟨by rfl, ?_⟩) (by assumption) ?_
          rotate_left 1
          · ((intro w9 hSw; (try dsimp only at hSw); go_simp) <;> with_reducible rfl)
          (try simp only [Act.put, List.setIfInBounds_toArray, List.set_cons_zero, List.set_cons_succ])
          refine wpAnyH_ready (rs := [4]) (by kernel_rfl) (by simp) ?_
          refine AllReadyH.cons (o := _) rfl (fun K hK => ?_) AllReadyH.nil
          go_simp
          refine hK.out _ _ ?_ (fun hHeld => ?_)
          · (first | (go_keep; done) | (refine ⟨?_, ?_, ?_, ?_⟩ <;> ((try simp only [World.cell?_drew]); first | (rw [two_far (by omega)]; assumption) | (rw [two_far (by omega), two_far (by omega)]; assumption))))
          clear hK K
          (try simp only [Act.put, List.setIfInBounds_toArray, List.set_cons_zero, List.set_cons_succ])
          refine wpAnyH_ready (rs := [5]) (by kernel_rfl) (by simp) ?_
          refine AllReadyH.cons (o := _) rfl (fun K hK => ?_) AllReadyH.nil
          go_simp
          refine hK.out _ _ ?_ (fun hHeld => ?_)
          · (first | (go_keep; done) | (refine ⟨?_, ?_, ?_, ?_⟩ <;> ((try simp only [World.cell?_drew]); first | (rw [two_far (by omega)]; assumption) | (rw [two_far (by omega), two_far (by omega)]; assumption))))
          clear hK K
          (try simp only [Act.put, List.setIfInBounds_toArray, List.set_cons_zero, List.set_cons_succ])
          refine wpAnyH_take (i := 6) (v := ?_) rfl (by kernel_rfl) (by kernel_rfl) (by kernel_rfl) (fun _ _ _ h => h) (Or.inl ⟨by rfl, ?_⟩) (by assumption) ?_
          rotate_left 1
          · ((intro w9 hSw; clear hSw; go_simp) <;> with_reducible rfl)
          (try simp only [Act.put, List.setIfInBounds_toArray, List.set_cons_zero, List.set_cons_succ])
          refine wpAnyH_done (by kernel_rfl) ?_ _
          simp only [Act.put, List.getElem_toArray, List.getElem_cons_zero, List.getElem_cons_succ, List.setIfInBounds_toArray, List.set_cons_zero, List.set_cons_succ]
          go_wp2
          refine bodyPost_ret (v := .tuple #[.agg #[.int .i64 X0, .int .i64 X1], .agg #[.int .i64 Y0, .int .i64 Y1], .int .i64 0]) (by simp [results, Tryz.results18, go_sem, p0, p1, r0, r1]) rfl ⟨rfl, ?_⟩
          first | exact (((hVo.drew.setCell (p := ⟨w.heap.size + 1, 0, none⟩) (Nat.le_succ _) _).setCell (p := ⟨w.heap.size + 1, 1, none⟩) (Nat.le_succ _) _).setCell (p := ⟨w.heap.size + 1 + 1, 0, none⟩) (Nat.le_trans (Nat.le_succ _) (Nat.le_succ _)) _).setCell (p := ⟨w.heap.size + 1 + 1, 1, none⟩) (Nat.le_trans (Nat.le_succ _) (Nat.le_succ _)) _ | exact ((((hVo.setCell (p := ⟨w.heap.size + 1, 0, none⟩) (Nat.le_succ _) _).setCell (p := ⟨w.heap.size + 1, 1, none⟩) (Nat.le_succ _) _).setCell (p := ⟨w.heap.size + 1 + 1, 0, none⟩) (Nat.le_trans (Nat.le_succ _) (Nat.le_succ _)) _).setCell (p := ⟨w.heap.size + 1 + 1, 1, none⟩) (Nat.le_trans (Nat.le_succ _) (Nat.le_succ _)) _).drew
    · go_simp
      (try simp only [hal])
      have hZ := hS0 W
      have hgz := hHeld.lt
      refine hK.out _ _ ?_ (fun hHeld => ?_)
      · exact hHeld.alloc _
      clear hK K
      (try simp only [Act.put, List.setIfInBounds_toArray, List.set_cons_zero, List.set_cons_succ])
      refine wpAnyH_ready (rs := [3]) (by kernel_rfl) (by simp) ?_
      refine AllReadyH.cons (o := _) rfl (fun K hK => ?_) AllReadyH.nil
      · go_simp
        (go_at_call 37; with_reducible refine (hC _ hHeld.old).mono ?_; rintro e w1 ⟨rfl, hbb⟩)
        replace hZ := hZ.below hbb (by rw [World.size_alloc]; exact Nat.lt_succ_self _)
        refine hK.out _ _ ?_ (fun hHeld => ?_)
        · exact hHeld.below hbb
        clear hK K
        (try simp only [Act.put, List.setIfInBounds_toArray, List.set_cons_zero, List.set_cons_succ])
        refine wpAnyH_take (i := 4) (v := ?_) rfl (by kernel_rfl) (by kernel_rfl) (by kernel_rfl) (fun _ _ _ h => h) (Or.inl ⟨by rfl, ?_⟩) (by assumption) ?_
        rotate_left 1
        · ((intro w9 hSw; clear hSw; go_simp) <;> with_reducible rfl)
        (try simp only [Act.put, List.setIfInBounds_toArray, List.set_cons_zero, List.set_cons_succ])
        refine wpAnyH_take (i := 5) (v := ?_) rfl (by kernel_rfl) (by kernel_rfl) (by kernel_rfl) (fun _ _ _ h => h) (Or.inl ⟨by rfl, ?_⟩) (by assumption) ?_
        rotate_left 1
        · ((intro w9 hSw; clear hSw; go_simp) <;> with_reducible rfl)
        (try simp only [Act.put, List.setIfInBounds_toArray, List.set_cons_zero, List.set_cons_succ])
        refine wpAnyH_take (i := 6) (v := ?_) rfl (by kernel_rfl) (by kernel_rfl) (by kernel_rfl) (fun _ _ _ h => h) (Or.inl ⟨by rfl, ?_⟩) (by assumption) ?_
        rotate_left 1
        · ((intro w9 hSw; clear hSw; go_simp) <;> with_reducible rfl)
        (try simp only [Act.put, List.setIfInBounds_toArray, List.set_cons_zero, List.set_cons_succ])
        refine wpAnyH_ready (rs := [8]) (by kernel_rfl) (by simp) ?_
        refine AllReadyH.cons (o := _) rfl (fun K hK => ?_) AllReadyH.nil
        · refine step_store_mid rfl 83 _ _ rfl W.heap.size 0 L.toArray rfl rfl (hth _ _ hZ) hiA hoL ?_
          have hL5 := hfi _ _ hZ
          have hK5 := hHeld.put hgz L
          refine hK.out _ _ ?_ (fun hHeld => ?_)
          · exact hK5
          clear hK K
          (try simp only [Act.put, List.setIfInBounds_toArray, List.set_cons_zero, List.set_cons_succ])
          refine wpAnyH_take (i := 9) (v := ?_) rfl (by kernel_rfl) (by kernel_rfl) (by kernel_rfl) (fun _ _ _ h => h) (Or.inl ⟨by rfl, ?_⟩) (by assumption) ?_
          rotate_left 1
          · ((intro w9 hSw; clear hSw; go_simp) <;> with_reducible rfl)
          (try simp only [Act.put, List.setIfInBounds_toArray, List.set_cons_zero, List.set_cons_succ])
          refine wpAnyH_done (by kernel_rfl) ?_ _
          simp only [Act.put, List.getElem_toArray, List.getElem_cons_zero, List.getElem_cons_succ, List.setIfInBounds_toArray, List.set_cons_zero, List.set_cons_succ]
          have hrg := hL5.c
          clear hth hfi hS0 hL5
          go_wp2_with (first
            | (with_reducible refine wpList_load_mid rfl 83 _ rfl W.heap.size 0 rfl L _ hrg Tryz.underlying83 rfl hiL ?_)
            | (go_at_call 49; with_reducible refine (hat _).mono ?_; rintro e w2 ⟨rfl, hb2'⟩))
          have hK6 := (hK5.below hb2').alloc (Obj.cells #[.int .i64 X0, .int .i64 X1, .int .i64 Y0, .int .i64 Y1] 96)
          have hd0 := cells_new w2 #[.int .i64 X0, .int .i64 X1, .int .i64 Y0, .int .i64 Y1] 96 (j := 0) rfl
          have hd1 := cells_new w2 #[.int .i64 X0, .int .i64 X1, .int .i64 Y0, .int .i64 Y1] 96 (j := 1) rfl
          have hd2 := cells_new w2 #[.int .i64 X0, .int .i64 X1, .int .i64 Y0, .int .i64 Y1] 96 (j := 2) rfl
          have hd3 := cells_new w2 #[.int .i64 X0, .int .i64 X1, .int .i64 Y0, .int .i64 Y1] 96 (j := 3) rfl
          generalize w2.alloc (Obj.cells #[.int .i64 X0, .int .i64 X1, .int .i64 Y0, .int .i64 Y1] 96) = V at *
          have hK7 := (hK5.below hb2').lt
          clear hb2' hK5 hHeld hat hrg
          obtain ⟨_, ⟨p0, p1, p2, p3⟩, ⟨r0, r1, r2, r3⟩, hVo, hVl⟩ := hK6
          have hB6 : w.heap.size + 3 ≤ w2.heap.size := hK7
          generalize w2.heap.size = B at *
          refine wp_region_held_drew (S := fun W => W.cell? ⟨B, 0, none⟩ = some (.int .i64 X0) ∧ W.cell? ⟨B, 1, none⟩ = some (.int .i64 X1) ∧ W.cell? ⟨B, 2, none⟩ = some (.int .i64 Y0) ∧ W.cell? ⟨B, 3, none⟩ = some (.int .i64 Y1)) (by kernel_rfl) ?_ (fun hHeld => ?_)
          · (try dsimp only); (first | (go_keep; done) | exact ⟨hd0, hd1, hd2, hd3⟩)
          refine wpAnyH_take (i := 0) (v := ?_) rfl (by kernel_rfl) (by kernel_rfl) (by kernel_rfl) (fun _ _ _ h => h) (Or.inl ⟨by rfl, ?_⟩) (by assumption) ?_
          rotate_left 1
          · ((intro w9 hSw; (try dsimp only at hSw); go_simp) <;> with_reducible rfl)
          (try simp only [Act.put, List.setIfInBounds_toArray, List.set_cons_zero, List.set_cons_succ])
          refine wpAnyH_take (i := 1) (v := ?_) rfl (by kernel_rfl) (by kernel_rfl) (by kernel_rfl) (fun _ _ _ h => h) (Or.inl ⟨by rfl, ?_⟩) (by assumption) ?_
          rotate_left 1
          · ((intro w9 hSw; (try dsimp only at hSw); go_simp) <;> with_reducible rfl)
          (try simp only [Act.put, List.setIfInBounds_toArray, List.set_cons_zero, List.set_cons_succ])
          refine wpAnyH_take (i := 2) (v := ?_) rfl (by kernel_rfl) (by kernel_rfl) (by kernel_rfl) (fun _ _ _ h => h) (Or.inl ⟨by rfl, ?_⟩) (by assumption) ?_
          rotate_left 1
          · ((intro w9 hSw; (try dsimp only at hSw); go_simp) <;> with_reducible rfl)
          (try simp only [Act.put, List.setIfInBounds_toArray, List.set_cons_zero, List.set_cons_succ])
          refine wpAnyH_take (i := 3) (v := ?_) rfl (by kernel_rfl) (by kernel_rfl) (by kernel_rfl) (fun _ _ _ h => h) (Or.inl ⟨by rfl, ?_⟩) (by assumption) ?_
          rotate_left 1
          · ((intro w9 hSw; (try dsimp only at hSw); go_simp) <;> with_reducible rfl)
          (try simp only [Act.put, List.setIfInBounds_toArray, List.set_cons_zero, List.set_cons_succ])
          refine wpAnyH_ready (rs := [4]) (by kernel_rfl) (by simp) ?_
          refine AllReadyH.cons (o := _) rfl (fun K hK => ?_) AllReadyH.nil
          go_simp
          refine hK.out _ _ ?_ (fun hHeld => ?_)
          · (first | (go_keep; done) | (refine ⟨?_, ?_, ?_, ?_⟩ <;> ((try simp only [World.cell?_drew]); first | (rw [two_far (by omega)]; assumption) | (rw [two_far (by omega), two_far (by omega)]; assumption))))
          clear hK K
          (try simp only [Act.put, List.setIfInBounds_toArray, List.set_cons_zero, List.set_cons_succ])
          refine wpAnyH_ready (rs := [5]) (by kernel_rfl) (by simp) ?_
          refine AllReadyH.cons (o := _) rfl (fun K hK => ?_) AllReadyH.nil
          go_simp
          refine hK.out _ _ ?_ (fun hHeld => ?_)
          · (first | (go_keep; done) | (refine ⟨?_, ?_, ?_, ?_⟩ <;> ((try simp only [World.cell?_drew]); first | (rw [two_far (by omega)]; assumption) | (rw [two_far (by omega), two_far (by omega)]; assumption))))
          clear hK K
          (try simp only [Act.put, List.setIfInBounds_toArray, List.set_cons_zero, List.set_cons_succ])
          refine wpAnyH_take (i := 6) (v := ?_) rfl (by kernel_rfl) (by kernel_rfl) (by kernel_rfl) (fun _ _ _ h => h) (Or.inl ⟨by rfl, ?_⟩) (by assumption) ?_
          rotate_left 1
          · ((intro w9 hSw; clear hSw; go_simp) <;> with_reducible rfl)
          (try simp only [Act.put, List.setIfInBounds_toArray, List.set_cons_zero, List.set_cons_succ])
          refine wpAnyH_done (by kernel_rfl) ?_ _
          simp only [Act.put, List.getElem_toArray, List.getElem_cons_zero, List.getElem_cons_succ, List.setIfInBounds_toArray, List.set_cons_zero, List.set_cons_succ]
          go_wp2
          refine bodyPost_ret (v := .tuple #[.agg #[.int .i64 X0, .int .i64 X1], .agg #[.int .i64 Y0, .int .i64 Y1], .int .i64 0]) (by simp [results, Tryz.results18, go_sem, p0, p1, r0, r1]) rfl ⟨rfl, ?_⟩
          first | exact (((hVo.drew.setCell (p := ⟨w.heap.size + 1, 0, none⟩) (Nat.le_succ _) _).setCell (p := ⟨w.heap.size + 1, 1, none⟩) (Nat.le_succ _) _).setCell (p := ⟨w.heap.size + 1 + 1, 0, none⟩) (Nat.le_trans (Nat.le_succ _) (Nat.le_succ _)) _).setCell (p := ⟨w.heap.size + 1 + 1, 1, none⟩) (Nat.le_trans (Nat.le_succ _) (Nat.le_succ _)) _ | exact ((((hVo.setCell (p := ⟨w.heap.size + 1, 0, none⟩) (Nat.le_succ _) _).setCell (p := ⟨w.heap.size + 1, 1, none⟩) (Nat.le_succ _) _).setCell (p := ⟨w.heap.size + 1 + 1, 0, none⟩) (Nat.le_trans (Nat.le_succ _) (Nat.le_succ _)) _).setCell (p := ⟨w.heap.size + 1 + 1, 1, none⟩) (Nat.le_trans (Nat.le_succ _) (Nat.le_succ _)) _).drew
  · go_simp
    (try simp only [hal])
    have hZ := hS0 W
    have hgz := hHeld.lt
    refine hK.out _ _ ?_ (fun hHeld => ?_)
    · exact hHeld.alloc _
    clear hK K
    (try simp only [Act.put, List.setIfInBounds_toArray, List.set_cons_zero, List.set_cons_succ])
    refine wpAnyH_ready (rs := [2]) (by kernel_rfl) (by simp) ?_
    refine AllReadyH.cons (o := _) rfl (fun K hK => ?_) AllReadyH.nil
    · go_simp
      (go_at_call 42; with_reducible refine (hwi _).mono ?_; rintro e w8 ⟨rfl, rfl⟩)
      refine hK.out _ _ ?_ (fun hHeld => ?_)
      · exact hHeld
      clear hK K
      (try simp only [Act.put, List.setIfInBounds_toArray, List.set_cons_zero, List.set_cons_succ])
      refine wpAnyH_ready (rs := [3]) (by kernel_rfl) (by simp) ?_
      refine AllReadyH.cons (o := _) rfl (fun K hK => ?_) AllReadyH.nil
      · go_simp
        (go_at_call 37; with_reducible refine (hC _ hHeld.old).mono ?_; rintro e w1 ⟨rfl, hbb⟩)
        replace hZ := hZ.below hbb (by rw [World.size_alloc]; exact Nat.lt_succ_self _)
        refine hK.out _ _ ?_ (fun hHeld => ?_)
        · exact hHeld.below hbb
        clear hK K
        (try simp only [Act.put, List.setIfInBounds_toArray, List.set_cons_zero, List.set_cons_succ])
        refine wpAnyH_take (i := 4) (v := ?_) rfl (by kernel_rfl) (by kernel_rfl) (by kernel_rfl) (fun _ _ _ h => h) (Or.inl ⟨by rfl, ?_⟩) (by assumption) ?_
        rotate_left 1
        · ((intro w9 hSw; clear hSw; go_simp) <;> with_reducible rfl)
        (try simp only [Act.put, List.setIfInBounds_toArray, List.set_cons_zero, List.set_cons_succ])
        refine wpAnyH_take (i := 5) (v := ?_) rfl (by kernel_rfl) (by kernel_rfl) (by kernel_rfl) (fun _ _ _ h => h) (Or.inl ⟨by rfl, ?_⟩) (by assumption) ?_
        rotate_left 1
        · ((intro w9 hSw; clear hSw; go_simp) <;> with_reducible rfl)
        (try simp only [Act.put, List.setIfInBounds_toArray, List.set_cons_zero, List.set_cons_succ])
        refine wpAnyH_take (i := 6) (v := ?_) rfl (by kernel_rfl) (by kernel_rfl) (by kernel_rfl) (fun _ _ _ h => h) (Or.inl ⟨by rfl, ?_⟩) (by assumption) ?_
        rotate_left 1
        · ((intro w9 hSw; clear hSw; go_simp) <;> with_reducible rfl)
        (try simp only [Act.put, List.setIfInBounds_toArray, List.set_cons_zero, List.set_cons_succ])
        refine wpAnyH_ready (rs := [8]) (by kernel_rfl) (by simp) ?_
        refine AllReadyH.cons (o := _) rfl (fun K hK => ?_) AllReadyH.nil
        · refine step_store_mid rfl 83 _ _ rfl W.heap.size 0 L.toArray rfl rfl (hth _ _ hZ) hiA hoL ?_
          have hL5 := hfi _ _ hZ
          have hK5 := hHeld.put hgz L
          refine hK.out _ _ ?_ (fun hHeld => ?_)
          · exact hK5
          clear hK K
          (try simp only [Act.put, List.setIfInBounds_toArray, List.set_cons_zero, List.set_cons_succ])
          refine wpAnyH_take (i := 9) (v := ?_) rfl (by kernel_rfl) (by kernel_rfl) (by kernel_rfl) (fun _ _ _ h => h) (Or.inl ⟨by rfl, ?_⟩) (by assumption) ?_
          rotate_left 1
          · ((intro w9 hSw; clear hSw; go_simp) <;> with_reducible rfl)
          (try simp only [Act.put, List.setIfInBounds_toArray, List.set_cons_zero, List.set_cons_succ])
          refine wpAnyH_done (by kernel_rfl) ?_ _
          simp only [Act.put, List.getElem_toArray, List.getElem_cons_zero, List.getElem_cons_succ, List.setIfInBounds_toArray, List.set_cons_zero, List.set_cons_succ]
          have hrg := hL5.c
          clear hth hfi hS0 hL5
          go_wp2_with (first
            | (with_reducible refine wpList_load_mid rfl 83 _ rfl W.heap.size 0 rfl L _ hrg Tryz.underlying83 rfl hiL ?_)
            | (go_at_call 49; with_reducible refine (hat _).mono ?_; rintro e w2 ⟨rfl, hb2'⟩))
          have hK6 := (hK5.below hb2').alloc (Obj.cells #[.int .i64 X0, .int .i64 X1, .int .i64 Y0, .int .i64 Y1] 96)
          have hd0 := cells_new w2 #[.int .i64 X0, .int .i64 X1, .int .i64 Y0, .int .i64 Y1] 96 (j := 0) rfl
          have hd1 := cells_new w2 #[.int .i64 X0, .int .i64 X1, .int .i64 Y0, .int .i64 Y1] 96 (j := 1) rfl
          have hd2 := cells_new w2 #[.int .i64 X0, .int .i64 X1, .int .i64 Y0, .int .i64 Y1] 96 (j := 2) rfl
          have hd3 := cells_new w2 #[.int .i64 X0, .int .i64 X1, .int .i64 Y0, .int .i64 Y1] 96 (j := 3) rfl
          generalize w2.alloc (Obj.cells #[.int .i64 X0, .int .i64 X1, .int .i64 Y0, .int .i64 Y1] 96) = V at *
          have hK7 := (hK5.below hb2').lt
          clear hb2' hK5 hHeld hat hrg
          obtain ⟨_, ⟨p0, p1, p2, p3⟩, ⟨r0, r1, r2, r3⟩, hVo, hVl⟩ := hK6
          have hB6 : w.heap.size + 3 ≤ w2.heap.size := hK7
          generalize w2.heap.size = B at *
          refine wp_region_held_drew (S := fun W => W.cell? ⟨B, 0, none⟩ = some (.int .i64 X0) ∧ W.cell? ⟨B, 1, none⟩ = some (.int .i64 X1) ∧ W.cell? ⟨B, 2, none⟩ = some (.int .i64 Y0) ∧ W.cell? ⟨B, 3, none⟩ = some (.int .i64 Y1)) (by kernel_rfl) ?_ (fun hHeld => ?_)
          · (try dsimp only); (first | (go_keep; done) | exact ⟨hd0, hd1, hd2, hd3⟩)
          refine wpAnyH_take (i := 0) (v := ?_) rfl (by kernel_rfl) (by kernel_rfl) (by kernel_rfl) (fun _ _ _ h => h) (Or.inl ⟨by rfl, ?_⟩) (by assumption) ?_
          rotate_left 1
          · ((intro w9 hSw; (try dsimp only at hSw); go_simp) <;> with_reducible rfl)
          (try simp only [Act.put, List.setIfInBounds_toArray, List.set_cons_zero, List.set_cons_succ])
          refine wpAnyH_take (i := 1) (v := ?_) rfl (by kernel_rfl) (by kernel_rfl) (by kernel_rfl) (fun _ _ _ h => h) (Or.inl ⟨by rfl, ?_⟩) (by assumption) ?_
          rotate_left 1
          · ((intro w9 hSw; (try dsimp only at hSw); go_simp) <;> with_reducible rfl)
          (try simp only [Act.put, List.setIfInBounds_toArray, List.set_cons_zero, List.set_cons_succ])
          refine wpAnyH_take (i := 2) (v := ?_) rfl (by kernel_rfl) (by kernel_rfl) (by kernel_rfl) (fun _ _ _ h => h) (Or.inl ⟨by rfl, ?_⟩) (by assumption) ?_
          rotate_left 1
          · ((intro w9 hSw; (try dsimp only at hSw); go_simp) <;> with_reducible rfl)
          (try simp only [Act.put, List.setIfInBounds_toArray, List.set_cons_zero, List.set_cons_succ])
          refine wpAnyH_take (i := 3) (v := ?_) rfl (by kernel_rfl) (by kernel_rfl) (by kernel_rfl) (fun _ _ _ h => h) (Or.inl ⟨by rfl, ?_⟩) (by assumption) ?_
          rotate_left 1
          · ((intro w9 hSw; (try dsimp only at hSw); go_simp) <;> with_reducible rfl)
          (try simp only [Act.put, List.setIfInBounds_toArray, List.set_cons_zero, List.set_cons_succ])
          refine wpAnyH_ready (rs := [4]) (by kernel_rfl) (by simp) ?_
          refine AllReadyH.cons (o := _) rfl (fun K hK => ?_) AllReadyH.nil
          go_simp
          refine hK.out _ _ ?_ (fun hHeld => ?_)
          · (first | (go_keep; done) | (refine ⟨?_, ?_, ?_, ?_⟩ <;> ((try simp only [World.cell?_drew]); first | (rw [two_far (by omega)]; assumption) | (rw [two_far (by omega), two_far (by omega)]; assumption))))
          clear hK K
          (try simp only [Act.put, List.setIfInBounds_toArray, List.set_cons_zero, List.set_cons_succ])
          refine wpAnyH_ready (rs := [5]) (by kernel_rfl) (by simp) ?_
          refine AllReadyH.cons (o := _) rfl (fun K hK => ?_) AllReadyH.nil
          go_simp
          refine hK.out _ _ ?_ (fun hHeld => ?_)
          · (first | (go_keep; done) | (refine ⟨?_, ?_, ?_, ?_⟩ <;> ((try simp only [World.cell?_drew]); first | (rw [two_far (by omega)]; assumption) | (rw [two_far (by omega), two_far (by omega)]; assumption))))
          clear hK K
          (try simp only [Act.put, List.setIfInBounds_toArray, List.set_cons_zero, List.set_cons_succ])
          refine wpAnyH_take (i := 6) (v := ?_) rfl (by kernel_rfl) (by kernel_rfl) (by kernel_rfl) (fun _ _ _ h => h) (Or.inl ⟨by rfl, ?_⟩) (by assumption) ?_
          rotate_left 1
          · ((intro w9 hSw; clear hSw; go_simp) <;> with_reducible rfl)
          (try simp only [Act.put, List.setIfInBounds_toArray, List.set_cons_zero, List.set_cons_succ])
          refine wpAnyH_done (by kernel_rfl) ?_ _
          simp only [Act.put, List.getElem_toArray, List.getElem_cons_zero, List.getElem_cons_succ, List.setIfInBounds_toArray, List.set_cons_zero, List.set_cons_succ]
          go_wp2
          refine bodyPost_ret (v := .tuple #[.agg #[.int .i64 X0, .int .i64 X1], .agg #[.int .i64 Y0, .int .i64 Y1], .int .i64 0]) (by simp [results, Tryz.results18, go_sem, p0, p1, r0, r1]) rfl ⟨rfl, ?_⟩
          first | exact (((hVo.drew.setCell (p := ⟨w.heap.size + 1, 0, none⟩) (Nat.le_succ _) _).setCell (p := ⟨w.heap.size + 1, 1, none⟩) (Nat.le_succ _) _).setCell (p := ⟨w.heap.size + 1 + 1, 0, none⟩) (Nat.le_trans (Nat.le_succ _) (Nat.le_succ _)) _).setCell (p := ⟨w.heap.size + 1 + 1, 1, none⟩) (Nat.le_trans (Nat.le_succ _) (Nat.le_succ _)) _ | exact ((((hVo.setCell (p := ⟨w.heap.size + 1, 0, none⟩) (Nat.le_succ _) _).setCell (p := ⟨w.heap.size + 1, 1, none⟩) (Nat.le_succ _) _).setCell (p := ⟨w.heap.size + 1 + 1, 0, none⟩) (Nat.le_trans (Nat.le_succ _) (Nat.le_succ _)) _).setCell (p := ⟨w.heap.size + 1 + 1, 1, none⟩) (Nat.le_trans (Nat.le_succ _) (Nat.le_succ _)) _).drew
end Go.Proofs.YtppefjmllebacaaGreatDoor
