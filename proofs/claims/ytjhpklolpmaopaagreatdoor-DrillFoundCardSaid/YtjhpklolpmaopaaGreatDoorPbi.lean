/- A part of the proof: see the last file. -/
import Derived.Test.YtjhpklolpmaopaaGreatDoorPaa
import Derived.Test.YtjhpklolpmaopaaGreatDoorPbh
import Derived.Test.YtjhpklolpmaopaaGreatDoorPbd
set_option linter.unusedVariables false
set_option linter.unusedSimpArgs false
set_option linter.unusedSectionVars false
namespace Go.Proofs.YtjhpklolpmaopaaGreatDoor
open Go.RowKit
set_option maxRecDepth 100000 in
set_option maxHeartbeats 1000000 in
theorem Could_ok (a1 : Option Addr) (c1 : Nat) (r : Int) (HX HY : Nat → Int) (m : Mach) (w : World) (hn : m.sn ≤ 1000) (hr : m.rn ≤ 9223372036854775807) (hp : PSl w (.slice a1 m.sn c1) m.sn HX HY) (h : MIn w m) (hok : m.ok = true) (hc : m.can)
  (hbu : butB m.sn HX HY r = true) (sg : Nat → Bool) (hsg : ∀ k, k ≤ 12 → (sg k = false ↔ ∀ x y, InBox (m.axX.ends k).1 (m.axX.ends k).2 (m.axY.ends k).1 (m.axY.ends k).2 x y → agreeB m.sn HX HY m.SX m.SY r x y = false)) :
  Calls Tryz.prog 17 #[m.val, .agg #[.slice a1 m.sn c1, .int .i64 r]] w fun e w' => ∃ v : Value, e = .returned (.tuple #[v, .int .i64 0]) ∧ w'.ownsRow w.heap.size 3 1 v (blanksTo sg 12).length (iCells (blanksTo sg 12)) ∧ Below w.heap.size w w' := by
 obtain ⟨⟨q1, q2⟩, ⟨q3, q4⟩, q5⟩ := but_parts hbu
 obtain ⟨b1, o1, k1, e1, l1, p1⟩ := PSl_posD hp (by omega)
 cases e1
 obtain ⟨sb, so, k0, e0, lsb, pS⟩ := PSl_posD h.stops (by omega)
 have hsa : PLift (m.sa = some ⟨sb, so, none⟩) := ⟨by injection e0⟩
 clear e0
 have hst := (Mach.ok_parts hok).1
 have hsS : ∀ i, i < m.sn → (-20 ≤ m.SX i ∧ m.SX i ≤ 20) ∧ (-20 ≤ m.SY i ∧ m.SY i ≤ 20) := fun i hi => by
  unfold Mach.okStops arB at hst
  rw [Bool.and_eq_true, allB_iff] at hst
  have := hst.2 i hi
  unfold ptB at this
  rw [Bool.and_eq_true, inB_iff, inB_iff] at this
  omega
 have hbX := fun k (hk : k ≤ 12) => (by have := Axis.any_bound (Mach.fineX hok) k hk; exact ⟨this.1, this.2.1, by omega⟩ : -48 ≤ (m.axX.ends k).1 ∧ (m.axX.ends k).2 ≤ 48 ∧ (m.axX.ends k).1 ≤ 1000)
 have hbY := fun k (hk : k ≤ 12) => (by have := Axis.any_bound (Mach.fineY hok) k hk; exact ⟨this.1, this.2.1, by omega⟩ : -48 ≤ (m.axY.ends k).1 ∧ (m.axY.ends k).2 ≤ 48 ∧ (m.axY.ends k).1 ≤ 1000)
 obtain ⟨L, er, hE, hC⟩ := examine_any m true w hn hr h
 obtain ⟨hLe, rfl⟩ := hE.ok (by rw [hok]; rfl) hc
 have hif := fun (W : World) (hB : Below w.heap.size w W) => isOf_any (.slice (some ⟨b1, o1, none⟩) m.sn c1) (some ⟨b1, o1, none⟩) m.sn c1 r HX HY m W rfl hn (by omega) (hp.below hB)
 rw [show (butB m.sn HX HY r && decide (m.sn = m.sn)) = true by rw [hbu]; simp] at hif
 obtain ⟨W0, hW0⟩ : ∃ W0, (w.alloc (.cells #[.slice m.sa m.sn m.sc, .int .i64 m.c0, .int .i64 m.c1, .int .i64 m.d0, .int .i64 m.d1, .int .i64 m.w0, .int .i64 m.w1, .int .i64 m.v0, .int .i64 m.v1, .slice m.ra m.rn m.rc] 27)).alloc (Obj.cells #[.slice (some ⟨b1, o1, none⟩) m.sn c1, .int .i64 r] 41) = W0 := ⟨_, rfl⟩
 have hSX : SB w W0 m (.slice (some ⟨b1, o1, none⟩) m.sn c1) r := by rw [← hW0]; exact SB.new w m _ r
 have hal := zst_lit
 have hlz : zst.length = 62 := zM.st_length rfl rfl
 have hlL := hE.length
 have hoL := all_oneCell_toArray hE.one
 have hi0 : (Tryz.prog.info? 93).map (·.size) = some 62 := by kernel_rfl
 have hiL : (Tryz.prog.info? 93).map (·.size) = some L.length := by rw [hlL]; exact hi0
 have hiA : (Tryz.prog.info? 93).map (·.size) = some L.toArray.size := by rw [List.size_toArray, hlL]; exact hi0
 have hS0 := fun (W : World) => SAt.new W zst 93
 have hth := fun (W : World) (g : Nat) (H : SAt W g zst) => H.there 0 L.toArray.size (by rw [List.size_toArray, hlL, hlz]; omega)
 have hfi := fun (W : World) (g : Nat) (H : SAt W g zst) => SAt.fill (L' := L) H (by rw [hlL, hlz])
 have hat : ∀ (j : Nat) (W : World), j < 12 → Calls Tryz.prog 52 #[.agg L.toArray, .int .i64 ((j : Int) + 1)] W fun e w' => e = .returned (.agg #[.int .i64 (m.axX.ends (j + 1)).1, .int .i64 (m.axX.ends (j + 1)).2, .int .i64 (m.axY.ends (j + 1)).1, .int .i64 (m.axY.ends (j + 1)).2]) ∧ Below W.heap.size W w' := fun j W hj => by
  obtain ⟨x0, x1⟩ := st_atX m m.axX.ends m.axY.ends (j + 1) (by omega)
  obtain ⟨x2, x3⟩ := st_atY m m.axX.ends m.axY.ends (j + 1) (by omega)
  rw [← hLe] at x0 x1 x2 x3
  have := at_any L (j + 1) (by omega) _ _ _ _ W x0 x1 x2 x3
  rw [show ((j + 1 : Nat) : Int) = (j : Int) + 1 by omega] at this
  exact this
 have hLm : ∀ (j : Nat) (u : Value), m.cells[j]? = some u → L[j]? = some u := fun j u h => by
  rw [hLe]
  unfold Mach.st
  rw [List.getElem?_append_left (by exact (List.getElem?_eq_some_iff.1 h).1)]
  exact h
 have hco := fun (V : World) (hO : Below w.heap.size w V) => could_any m L m.axX.ends m.axY.ends b1 o1 c1 sb so r HX HY sg V hsa.down hLm hat hlL (pS.below hO lsb) (p1.below hO l1) (Nat.lt_of_lt_of_le lsb hO.size) (Nat.lt_of_lt_of_le l1 hO.size) q3 (by omega) q1 q2 hsS q5 hbX hbY hsg
 clear hi0 hE hLe hat hLm hsg hbX hbY
 generalize zst = Z at *
 go_enter Tryz.func17, Tryz.ntmps17
 go_wp2_with fail
 rename_i Q' K hKK
 have fin : ∀ (g : Nat) (V : World), SB w V m (.slice (some ⟨b1, o1, none⟩) m.sn c1) r → SAt V g L → w.heap.size + 2 ≤ g → g < V.heap.size → K { tmps := #[m.val, .agg #[.slice (some ⟨b1, o1, none⟩) m.sn c1, .int .i64 r], .pointer (some ⟨w.heap.size, 0, none⟩), .pointer (some ⟨w.heap.size + 1, 0, none⟩), .slice none 0 0, .int .i64 0, .pointer (some ⟨g, 0, none⟩), .int .i64 0, .tuple #[.agg L.toArray, .int .i64 0], m.val, .agg #[.slice (some ⟨b1, o1, none⟩) m.sn c1, .int .i64 r], m.val, .bool true, .tuple #[.agg L.toArray, .int .i64 0], .agg L.toArray, .int .i64 0, undef, undef, undef, undef, undef, undef], defers := [] } V := by
  intro g V hX hS hg1 hg2
  refine hKK _ _ ?_
  have hgo := hco V hX.old
  have hO := hX.old
  have hz := hO.size
  clear hif hC hSX hW0 hS0 hth hfi hco
  have z0 := hX.c0
  have z1 := hX.c1
  have hrg := hS.c
  clear hX
  go_wp2_with (first
   | (go_at_call 48; with_reducible refine hgo.mono ?_; rintro e w3 ⟨v, rfl, hrow, hb3⟩)
   | (with_reducible refine wpList_load_mid rfl 93 _ rfl g 0 rfl L _ hrg Tryz.underlying93 rfl hiL ?_))
  refine bodyPost_ret (v := .tuple #[v, .int .i64 0]) (by simp [results, Tryz.results17, go_sem]) rfl ⟨v, rfl, hrow.mono hz, hO.trans (hb3.mono hz)⟩
 clear hKK hco
 refine wp_region_late [] (fun w9 => SB w w9 m (.slice (some ⟨b1, o1, none⟩) m.sn c1) r) (fun w9 => True) (by kernel_rfl) ?_ (fun hHeld => ?_)
 ·(exact ⟨hSX.drew, trivial⟩)
 generalize W0.drew = V at hHeld ⊢
 refine tk2 0 rfl (by (intro w9 hSw; have q0 := hSw.mach.k0; have q1 := hSw.mach.k1; have q2 := hSw.mach.k2; have q3 := hSw.mach.k3; have q4 := hSw.mach.k4; have q5 := hSw.mach.k5; have q6 := hSw.mach.k6; have q7 := hSw.mach.k7; have q8 := hSw.mach.k8; have q9 := hSw.mach.k9; clear hSw; go_simp) <;> with_reducible rfl) hHeld ?_
 refine tk2 1 rfl (by (intro w9 hSw; have q0 := hSw.c0; have q1 := hSw.c1; clear hSw; go_simp) <;> with_reducible rfl) hHeld ?_
 refine tk2 2 rfl (by (intro w9 hSw; have q0 := hSw.mach.k0; have q1 := hSw.mach.k1; have q2 := hSw.mach.k2; have q3 := hSw.mach.k3; have q4 := hSw.mach.k4; have q5 := hSw.mach.k5; have q6 := hSw.mach.k6; have q7 := hSw.mach.k7; have q8 := hSw.mach.k8; have q9 := hSw.mach.k9; clear hSw; go_simp) <;> with_reducible rfl) hHeld ?_
 refine wpAnyP_ready (rs := [3, 8]) (by kernel_rfl) (by simp) ?_
 refine AllReadyP.cons (o := _) rfl (fun K hK => ?_) (AllReadyP.cons (o := _) rfl (fun K hK => ?_) AllReadyP.nil)
 ·go_simp
  (go_at_call 47; with_reducible refine (hif _ hHeld.1.old).mono ?_; rintro e w1 ⟨rfl, hb1⟩)
  refine hK.out _ _ ?_ (fun hHeld => ?_)
  ·(exact ⟨hHeld.1.below hb1, trivial⟩)
  clear hK K
  (try simp only [Act.put, xpA, xpZ, xpS])
  refine wpAnyP_ready (rs := [4, 8]) (by kernel_rfl) (by simp) ?_
  refine AllReadyP.cons (o := _) rfl (fun K hK => ?_) (AllReadyP.cons (o := _) rfl (fun K hK => ?_) AllReadyP.nil)
  ·go_simp
   (go_at_call 46; with_reducible refine (hC _ hHeld.1.old).mono ?_; rintro e w2 ⟨rfl, hb2⟩)
   refine hK.out _ _ ?_ (fun hHeld => ?_)
   ·(exact ⟨hHeld.1.below hb2, trivial⟩)
   clear hK K
   (try simp only [Act.put, xpA, xpZ, xpS])
   refine tk1 5 rfl hHeld ?_
   refine tk1 6 rfl hHeld ?_
   refine tk1 7 rfl hHeld ?_
   refine rd1 8 rfl (fun K hK => ?_)
   go_simp
   (try simp only [hal])
   have hZ := hS0 w2
   have hgzz := hHeld.1.big
   refine hK.out _ _ ?_ (fun hHeld => ?_)
   ·(exact ⟨hHeld.1.alloc _, trivial⟩)
   clear hK K
   (try simp only [Act.put, xpA, xpZ, xpS])
   refine rd1 9 rfl (fun K hK => ?_)
   refine step_store_mid rfl 93 _ _ rfl w2.heap.size 0 L.toArray rfl rfl (hth _ _ hZ) hiA hoL ?_
   have hL5 := hfi _ _ hZ
   have hK5 := hHeld.1.put hgzz L
   refine hK.out _ _ ?_ (fun hHeld => ?_)
   ·(exact ⟨hK5, trivial⟩)
   clear hK K
   (try simp only [Act.put, xpA, xpZ, xpS])
   refine tk1 10 rfl hHeld ?_
   refine wpAnyP_done (by kernel_rfl) ?_ _
   (try simp only [Act.put, List.getElem_toArray, List.getElem_cons_zero, List.getElem_cons_succ, xpA, xpZ, xpS])
   have hX9 := hHeld.1
   clear hth hfi hS0 hHeld hC hif
   exact fin _ _ hX9 hL5 (by first | exact hgzz | omega) (hL5.lt (by omega))
  ·go_simp
   (try simp only [hal])
   have hZ := hS0 w1
   have hgzz := hHeld.1.big
   refine hK.out _ _ ?_ (fun hHeld => ?_)
   ·(exact ⟨hHeld.1.alloc _, trivial⟩)
   clear hK K
   (try simp only [Act.put, xpA, xpZ, xpS])
   refine rd1 4 rfl (fun K hK => ?_)
   go_simp
   (go_at_call 46; with_reducible refine (hC _ hHeld.1.old).mono ?_; rintro e w2 ⟨rfl, hb2⟩)
   replace hZ := hZ.below hb2 (by first | (rw [World.size_alloc]; exact Nat.lt_succ_self _) | (have hz := hb1.size; rw [World.size_alloc] at hz; omega))
   refine hK.out _ _ ?_ (fun hHeld => ?_)
   ·(exact ⟨hHeld.1.below hb2, trivial⟩)
   clear hK K
   (try simp only [Act.put, xpA, xpZ, xpS])
   refine tk1 5 rfl hHeld ?_
   refine tk1 6 rfl hHeld ?_
   refine tk1 7 rfl hHeld ?_
   refine rd1 9 rfl (fun K hK => ?_)
   refine step_store_mid rfl 93 _ _ rfl w1.heap.size 0 L.toArray rfl rfl (hth _ _ hZ) hiA hoL ?_
   have hL5 := hfi _ _ hZ
   have hK5 := hHeld.1.put hgzz L
   refine hK.out _ _ ?_ (fun hHeld => ?_)
   ·(exact ⟨hK5, trivial⟩)
   clear hK K
   (try simp only [Act.put, xpA, xpZ, xpS])
   refine tk1 10 rfl hHeld ?_
   refine wpAnyP_done (by kernel_rfl) ?_ _
   (try simp only [Act.put, List.getElem_toArray, List.getElem_cons_zero, List.getElem_cons_succ, xpA, xpZ, xpS])
   have hX9 := hHeld.1
   clear hth hfi hS0 hHeld hC hif
   exact fin _ _ hX9 hL5 (by first | exact hgzz | omega) (hL5.lt (by omega))
 ·go_simp
  (try simp only [hal])
  have hZ := hS0 V
  have hgzz := hHeld.1.big
  refine hK.out _ _ ?_ (fun hHeld => ?_)
  ·(exact ⟨hHeld.1.alloc _, trivial⟩)
  clear hK K
  (try simp only [Act.put, xpA, xpZ, xpS])
  refine rd1 3 rfl (fun K hK => ?_)
  go_simp
  (go_at_call 47; with_reducible refine (hif _ hHeld.1.old).mono ?_; rintro e w1 ⟨rfl, hb1⟩)
  replace hZ := hZ.below hb1 (by first | (rw [World.size_alloc]; exact Nat.lt_succ_self _) | (have hz := hb1.size; rw [World.size_alloc] at hz; omega))
  refine hK.out _ _ ?_ (fun hHeld => ?_)
  ·(exact ⟨hHeld.1.below hb1, trivial⟩)
  clear hK K
  (try simp only [Act.put, xpA, xpZ, xpS])
  refine rd1 4 rfl (fun K hK => ?_)
  go_simp
  (go_at_call 46; with_reducible refine (hC _ hHeld.1.old).mono ?_; rintro e w2 ⟨rfl, hb2⟩)
  replace hZ := hZ.below hb2 (by first | (rw [World.size_alloc]; exact Nat.lt_succ_self _) | (have hz := hb1.size; rw [World.size_alloc] at hz; omega))
  refine hK.out _ _ ?_ (fun hHeld => ?_)
  ·(exact ⟨hHeld.1.below hb2, trivial⟩)
  clear hK K
  (try simp only [Act.put, xpA, xpZ, xpS])
  refine tk1 5 rfl hHeld ?_
  refine tk1 6 rfl hHeld ?_
  refine tk1 7 rfl hHeld ?_
  refine rd1 9 rfl (fun K hK => ?_)
  refine step_store_mid rfl 93 _ _ rfl V.heap.size 0 L.toArray rfl rfl (hth _ _ hZ) hiA hoL ?_
  have hL5 := hfi _ _ hZ
  have hK5 := hHeld.1.put hgzz L
  refine hK.out _ _ ?_ (fun hHeld => ?_)
  ·(exact ⟨hK5, trivial⟩)
  clear hK K
  (try simp only [Act.put, xpA, xpZ, xpS])
  refine tk1 10 rfl hHeld ?_
  refine wpAnyP_done (by kernel_rfl) ?_ _
  (try simp only [Act.put, List.getElem_toArray, List.getElem_cons_zero, List.getElem_cons_succ, xpA, xpZ, xpS])
  have hX9 := hHeld.1
  clear hth hfi hS0 hHeld hC hif
  exact fin _ _ hX9 hL5 (by first | exact hgzz | omega) (hL5.lt (by omega))
end Go.Proofs.YtjhpklolpmaopaaGreatDoor
namespace Go.Proofs.YtjhpklolpmaopaaGreatDoor
open Go.RowKit
end Go.Proofs.YtjhpklolpmaopaaGreatDoor
namespace Go.Proofs.YtjhpklolpmaopaaGreatDoor
open Go.RowKit Go.Can
/-- a machine among others. -/
structure MOff (W : World) (b o : Nat) (m : Mach) : Prop where
  k0 : W.cell? ⟨b, o, none⟩ = some (.slice m.sa m.sn m.sc)
  k1 : W.cell? ⟨b, o + 1, none⟩ = some (.int .i64 m.c0)
  k2 : W.cell? ⟨b, o + 2, none⟩ = some (.int .i64 m.c1)
  k3 : W.cell? ⟨b, o + 3, none⟩ = some (.int .i64 m.d0)
  k4 : W.cell? ⟨b, o + 4, none⟩ = some (.int .i64 m.d1)
  k5 : W.cell? ⟨b, o + 5, none⟩ = some (.int .i64 m.w0)
  k6 : W.cell? ⟨b, o + 6, none⟩ = some (.int .i64 m.w1)
  k7 : W.cell? ⟨b, o + 7, none⟩ = some (.int .i64 m.v0)
  k8 : W.cell? ⟨b, o + 8, none⟩ = some (.int .i64 m.v1)
  k9 : W.cell? ⟨b, o + 9, none⟩ = some (.slice m.ra m.rn m.rc)
theorem MOff.below {W W' : World} {b o : Nat} {m : Mach} {B : Nat} (h : MOff W b o m) (hb : Below B W W') (hl : b < B) : MOff W' b o m :=
  ⟨(hb.cell (p := ⟨b, o, none⟩) hl).trans h.k0, (hb.cell (p := ⟨b, o + 1, none⟩) hl).trans h.k1, (hb.cell (p := ⟨b, o + 2, none⟩) hl).trans h.k2, (hb.cell (p := ⟨b, o + 3, none⟩) hl).trans h.k3, (hb.cell (p := ⟨b, o + 4, none⟩) hl).trans h.k4, (hb.cell (p := ⟨b, o + 5, none⟩) hl).trans h.k5, (hb.cell (p := ⟨b, o + 6, none⟩) hl).trans h.k6, (hb.cell (p := ⟨b, o + 7, none⟩) hl).trans h.k7, (hb.cell (p := ⟨b, o + 8, none⟩) hl).trans h.k8, (hb.cell (p := ⟨b, o + 9, none⟩) hl).trans h.k9⟩
/-- a list of machines. -/
structure MLs (w : World) (b off n : Nat) (M : Nat → Mach) : Prop where
  cells : ∀ i, i < n → MOff w b (off + i * 10) (M i)
  ins : ∀ i, i < n → MIn w (M i)
  lt : b < w.heap.size
theorem MLs.below {w w' : World} {b off n : Nat} {M : Nat → Mach} (h : MLs w b off n M) (hb : Below w.heap.size w w') : MLs w' b off n M :=
  ⟨fun i hi => (h.cells i hi).below hb h.lt, fun i hi => (h.ins i hi).below hb, Nat.lt_of_lt_of_le h.lt hb.size⟩
def MSl (w : World) (v : Value) (n : Nat) (M : Nat → Mach) : Prop := (∃ a c, v = .slice a 0 c ∧ n = 0) ∨ ∃ b off c, v = .slice (some ⟨b, off, none⟩) n c ∧ MLs w b off n M
theorem MSl.below {w w' : World} {v : Value} {n : Nat} {M : Nat → Mach} (h : MSl w v n M) (hb : Below w.heap.size w w') : MSl w' v n M := by
  rcases h with h | ⟨b, off, c, h1, h2⟩
  · exact .inl h
  · exact .inr ⟨b, off, c, h1, h2.below hb⟩
theorem could_st (m : Mach) (a1 : Option Addr) (bn c1 : Nat) (r : Int) (HX HY : Nat → Int) (w : World) (hbn : bn = m.sn) (hp : PSl w (.slice a1 bn c1) bn HX HY) (h : MIn w m) (hok : m.ok = true)
    (hbu : butB bn HX HY r = true) (sg : Nat → Bool) (hsg : ∀ k, k ≤ 12 → (sg k = false ↔ ∀ x y, InBox (m.axX.ends k).1 (m.axX.ends k).2 (m.axY.ends k).1 (m.axY.ends k).2 x y → agreeB m.sn HX HY m.SX m.SY r x y = false))
    (L : List Value) (hLe : L = m.st (crsL m.axX.ends 13) (crsL m.axY.ends 13)) (hlL : L.length = 62) :
    ∀ V, Below w.heap.size w V → Calls Tryz.prog 48 #[.agg L.toArray, .agg #[.slice a1 bn c1, .int .i64 r]] V fun e w' => ∃ v : Value, e = .returned v ∧ w'.ownsRow V.heap.size 3 1 v (blanksTo sg 12).length (iCells (blanksTo sg 12)) ∧ Below V.heap.size V w' := by
  subst hbn
  obtain ⟨⟨q1, q2⟩, ⟨q3, q4⟩, q5⟩ := but_parts hbu
  obtain ⟨b1, o1, k1, e1, l1, p1⟩ := PSl_posD hp (by omega)
  cases e1
  obtain ⟨sb, so, k0, e0, lsb, pS⟩ := PSl_posD h.stops (by omega)
  have hsa : PLift (m.sa = some ⟨sb, so, none⟩) := ⟨by injection e0⟩
  clear e0
  have hst := (Mach.ok_parts hok).1
  have hsS : ∀ i, i < m.sn → (-20 ≤ m.SX i ∧ m.SX i ≤ 20) ∧ (-20 ≤ m.SY i ∧ m.SY i ≤ 20) := fun i hi => by
    unfold Mach.okStops arB at hst
    rw [Bool.and_eq_true, allB_iff] at hst
    have := hst.2 i hi
    unfold ptB at this
    rw [Bool.and_eq_true, inB_iff, inB_iff] at this
    omega
  have hbX := fun k (hk : k ≤ 12) => (by have := Axis.any_bound (Mach.fineX hok) k hk; exact ⟨this.1, this.2.1, by omega⟩ : -48 ≤ (m.axX.ends k).1 ∧ (m.axX.ends k).2 ≤ 48 ∧ (m.axX.ends k).1 ≤ 1000)
  have hbY := fun k (hk : k ≤ 12) => (by have := Axis.any_bound (Mach.fineY hok) k hk; exact ⟨this.1, this.2.1, by omega⟩ : -48 ≤ (m.axY.ends k).1 ∧ (m.axY.ends k).2 ≤ 48 ∧ (m.axY.ends k).1 ≤ 1000)
  have hat : ∀ (j : Nat) (W : World), j < 12 → Calls Tryz.prog 52 #[.agg L.toArray, .int .i64 ((j : Int) + 1)] W fun e w' => e = .returned (.agg #[.int .i64 (m.axX.ends (j + 1)).1, .int .i64 (m.axX.ends (j + 1)).2, .int .i64 (m.axY.ends (j + 1)).1, .int .i64 (m.axY.ends (j + 1)).2]) ∧ Below W.heap.size W w' := fun j W hj => by
    obtain ⟨x0, x1⟩ := st_atX m m.axX.ends m.axY.ends (j + 1) (by omega)
    obtain ⟨x2, x3⟩ := st_atY m m.axX.ends m.axY.ends (j + 1) (by omega)
    rw [← hLe] at x0 x1 x2 x3
    have := at_any L (j + 1) (by omega) _ _ _ _ W x0 x1 x2 x3
    rw [show ((j + 1 : Nat) : Int) = (j : Int) + 1 by omega] at this
    exact this
  have hLm : ∀ (j : Nat) (u : Value), m.cells[j]? = some u → L[j]? = some u := fun j u h => by
    rw [hLe]
    unfold Mach.st
    rw [List.getElem?_append_left (by exact (List.getElem?_eq_some_iff.1 h).1)]
    exact h
  intro V hO
  exact could_any m L m.axX.ends m.axY.ends b1 o1 c1 sb so r HX HY sg V hsa.down hLm hat hlL (pS.below hO lsb) (p1.below hO l1) (Nat.lt_of_lt_of_le lsb hO.size) (Nat.lt_of_lt_of_le l1 hO.size) q3 (by omega) q1 q2 hsS q5 hbX hbY hsg
/-- the numbers below j of which something is so. -/
def whoL (P : Nat → Bool) (j : Nat) : List Nat := (List.range j).filter P
theorem whoL_yes {P : Nat → Bool} {j : Nat} (h : P j = true) : whoL P (j + 1) = whoL P j ++ [j] := by unfold whoL; rw [List.range_succ, List.filter_append]; simp [h]
theorem whoL_no {P : Nat → Bool} {j : Nat} (h : P j = false) : whoL P (j + 1) = whoL P j := by unfold whoL; rw [List.range_succ, List.filter_append]; simp [h]
theorem whoL_length (P : Nat → Bool) (j : Nat) : (whoL P j).length ≤ j := by unfold whoL; exact Nat.le_trans (List.length_filter_le _ _) (by simp)
/-- a machine and a button that fit each other are as defined. -/
def fitB8 (bn : Nat) (HX HY : Nat → Int) (r : Int) (m : Mach) : Bool := m.ok && (butB bn HX HY r && decide (bn = m.sn))
def seenB (sg : Nat → Nat → Bool) (i : Nat) : Bool := decide (0 < (blanksTo (sg i) 12).length)
set_option maxRecDepth 100000 in
set_option maxHeartbeats 8000000 in
theorem Who_some (b off n lc : Nat) (M : Nat → Mach) (a1 : Option Addr) (bn c1 : Nat) (r : Int) (HX HY : Nat → Int) (sg : Nat → Nat → Bool) (w : World) (hn1 : 1 ≤ n) (hn4 : n ≤ 4) (hbn : bn ≤ 1000) (hM : MLs w b off n M) (hsz : ∀ i, i < n → (M i).sn ≤ 1000 ∧ (M i).rn ≤ 1000)
    (hp : PSl w (.slice a1 bn c1) bn HX HY)
    (hsg : ∀ i, i < n → ∀ k, k ≤ 12 → (sg i k = false ↔ ∀ x y, InBox ((M i).axX.ends k).1 ((M i).axX.ends k).2 ((M i).axY.ends k).1 ((M i).axY.ends k).2 x y → agreeB (M i).sn HX HY (M i).SX (M i).SY r x y = false)) :
    Calls Tryz.prog 18 #[.slice (some ⟨b, off, none⟩) n lc, .agg #[.slice a1 bn c1, .int .i64 r]] w fun e w' => Below w.heap.size w w' ∧
      (((∃ i, i < n ∧ fitB8 bn HX HY r (M i) = false) ∧ e = .returned (.tuple #[.slice none 0 0, .int .i64 2])) ∨
       ((∀ i, i < n → fitB8 bn HX HY r (M i) = true) ∧ (∃ i, i < n ∧ ¬ (M i).can) ∧ e = .returned (.tuple #[.slice none 0 0, .int .i64 7])) ∨
       ((∀ i, i < n → fitB8 bn HX HY r (M i) = true) ∧ (∀ i, i < n → (M i).can) ∧ ∃ v, e = .returned (.tuple #[v, .int .i64 0]) ∧ w'.ownsRow w.heap.size 3 1 v (whoL (seenB sg) n).length (iCells (whoL (seenB sg) n)))) := by
  obtain ⟨i0, hi, hz0, hz1, hz2⟩ := info_parts infoInt
  have hin : inB (n : Int) 1 4 = true := inB_yes (by omega) (by omega)
  have hwi := fun (W : World) => within_any (n : Int) 1 4 W
  rw [hin] at hwi
  obtain ⟨W0, hW0⟩ : ∃ W0, w.alloc (Obj.cells #[.slice a1 bn c1, .int .i64 r] 41) = W0 := ⟨_, rfl⟩
  have hB0 : Below w.heap.size w W0 := by rw [← hW0]; exact (Below.refl _ _).alloc (Nat.le_refl _) _
  have hs0 : W0.heap.size = w.heap.size + 1 := by rw [← hW0]; exact World.size_alloc _ _
  have c0 : W0.cell? ⟨w.heap.size, 0, none⟩ = some (.slice a1 bn c1) := by rw [← hW0]; exact cells_new w _ _ rfl
  have c1' : W0.cell? ⟨w.heap.size, 1, none⟩ = some (.int .i64 r) := by rw [← hW0]; exact cells_new w _ _ rfl
  go_enter Tryz.func18, Tryz.ntmps18
  go_wp2_with (first | (go_at_call 49; with_reducible refine (hwi _).mono ?_; rintro e w8 ⟨rfl, rfl⟩))
  go_loopw [19] (fun i wr => ∃ j : Nat, j ≤ n ∧ i = .int .i64 j ∧ Below W0.heap.size W0 wr ∧ Hid (∀ k, k < j → fitB8 bn HX HY r (M k) = true)) (fun i _ => n - (intOf i).toNat)
  case atStart => exact ⟨0, Nat.zero_le _, rfl, Below.refl _ _, ⟨fun k hk => absurd hk (Nat.not_lt_zero k)⟩⟩
  case round =>
    obtain ⟨j, hj, rfl, hbl, hall⟩ := hrel
    rename World => wm
    have hj0 : (0 : Int) ≤ (j : Int) := Int.natCast_nonneg _
    have hww : Below w.heap.size w wm := hB0.trans (hbl.mono hB0.size)
    have hzl := hww.size
    have hzl0 := hbl.size
    by_cases hlt : j < n
    · have hj1 : (j : Int) < (n : Int) := by omega
      obtain ⟨hs, hr⟩ := hsz j hlt
      have hMj := (hM.ins j hlt)
      obtain ⟨y0, y1, y2, y3, y4, y5, y6, y7, y8, y9⟩ := (hM.cells j hlt).below hww hM.lt
      have hism := fun (W : World) (hW : Below w.heap.size w W) => isMachine_any (M j) W hs (by omega) (hMj.below hW)
      have hiso := fun (W : World) (hW : Below w.heap.size w W) => isOf_any (.slice a1 bn c1) a1 bn c1 r HX HY (M j) W rfl hbn (by omega) (hp.below hW)
      have hst : Hid (∀ x y, (M j).ok = x → (butB bn HX HY r && decide (bn = (M j).sn)) = y → fitB8 bn HX HY r (M j) = (x && y)) := ⟨fun x y hx hy => by unfold fitB8; rw [hx, hy]⟩
      generalize hx : (M j).ok = x at *
      generalize hy : (butB bn HX HY r && decide (bn = (M j).sn)) = y at *
      have hfx := Hid.mk (hst.down x y rfl rfl)
      clear hst
      have hnew := MAt.new wm (M j)
      have hAl : Below wm.heap.size wm (wm.alloc (.cells #[.slice (M j).sa (M j).sn (M j).sc, .int .i64 (M j).c0, .int .i64 (M j).c1, .int .i64 (M j).d0, .int .i64 (M j).d1, .int .i64 (M j).w0, .int .i64 (M j).w1, .int .i64 (M j).v0, .int .i64 (M j).v1, .slice (M j).ra (M j).rn (M j).rc] 27)) := (Below.refl _ _).alloc (Nat.le_refl _) _
      have hz2' : (wm.alloc (.cells #[.slice (M j).sa (M j).sn (M j).sc, .int .i64 (M j).c0, .int .i64 (M j).c1, .int .i64 (M j).d0, .int .i64 (M j).d1, .int .i64 (M j).w0, .int .i64 (M j).w1, .int .i64 (M j).v0, .int .i64 (M j).v1, .slice (M j).ra (M j).rn (M j).rc] 27)).heap.size = wm.heap.size + 1 := World.size_alloc _ _
      generalize hWA : wm.alloc (.cells #[.slice (M j).sa (M j).sn (M j).sc, .int .i64 (M j).c0, .int .i64 (M j).c1, .int .i64 (M j).d0, .int .i64 (M j).d1, .int .i64 (M j).w0, .int .i64 (M j).w1, .int .i64 (M j).v0, .int .i64 (M j).v1, .slice (M j).ra (M j).rn (M j).rc] 27) = WA at hnew hAl hz2'
      have hwA : Below w.heap.size w WA := hww.trans (hAl.mono hww.size)
      have h0A : Below W0.heap.size W0 WA := hbl.trans (hAl.mono hbl.size)
      have hF : ∀ W, Below WA.heap.size WA W → MAt W wm.heap.size (M j) ∧ W.cell? ⟨w.heap.size, 0, none⟩ = some (.slice a1 bn c1) ∧ W.cell? ⟨w.heap.size, 1, none⟩ = some (.int .i64 r) := fun W hW => by
        have h0W := h0A.trans (hW.mono h0A.size)
        exact ⟨hnew.below hW (by omega), (h0W.cell (p := ⟨w.heap.size, 0, none⟩) (by show w.heap.size < _; omega)).trans c0, (h0W.cell (p := ⟨w.heap.size, 1, none⟩) (by show w.heap.size < _; omega)).trans c1'⟩
      obtain ⟨x0, x1, x2, x3, x4, x5, x6, x7, x8, x9⟩ := hnew
      cases x with
      | false =>
        go_wp2_with (first | (go_at_call 43; with_reducible refine (hism _ hwA).mono ?_; rintro e w3 ⟨rfl, hb3⟩))
        refine bodyPost_ret (v := .tuple #[.slice none 0 0, .int .i64 2]) (by simp [results, Tryz.results18, go_sem]) rfl ⟨hwA.trans (hb3.mono hwA.size), .inl ⟨⟨j, hlt, hfx.down⟩, rfl⟩⟩
      | true =>
        cases y with
        | false =>
          go_wp2_with (first
            | (go_at_call 43; with_reducible refine (hism _ hwA).mono ?_; rintro e w3 ⟨rfl, hb3⟩; obtain ⟨⟨v0, v1, v2, v3, v4, v5, v6, v7, v8, v9⟩, d0, d1⟩ := hF _ hb3; have hw3 := hwA.trans (hb3.mono hwA.size))
            | (go_at_call 47; with_reducible refine (hiso _ hw3).mono ?_; rintro e w4 ⟨rfl, hb4⟩))
          refine bodyPost_ret (v := .tuple #[.slice none 0 0, .int .i64 2]) (by simp [results, Tryz.results18, go_sem]) rfl ⟨hw3.trans (hb4.mono hw3.size), .inl ⟨⟨j, hlt, hfx.down⟩, rfl⟩⟩
        | true =>
          go_wp2_with (first
            | (go_at_call 43; with_reducible refine (hism _ hwA).mono ?_; rintro e w3 ⟨rfl, hb3⟩; obtain ⟨⟨v0, v1, v2, v3, v4, v5, v6, v7, v8, v9⟩, d0, d1⟩ := hF _ hb3; have hw3 := hwA.trans (hb3.mono hwA.size))
            | (go_at_call 47; with_reducible refine (hiso _ hw3).mono ?_; rintro e w4 ⟨rfl, hb4⟩))
          have hw4 : Below W0.heap.size W0 w4 := h0A.trans ((hb3.trans (hb4.mono hb3.size)).mono h0A.size)
          go_roundw
          case rel => exact ⟨j + 1, by omega, by go_num, hw4, ⟨fun k hk => (Nat.lt_or_eq_of_le (Nat.le_of_lt_succ hk)).elim (fun h1 => hall.down k h1) (fun h1 => by rw [h1]; exact hfx.down)⟩⟩
          case measure => simp [intOf]; omega
    · obtain rfl : j = n := by omega
      have hall := hall.down
      have hparts : ∀ i, i < j → (M i).ok = true ∧ butB bn HX HY r = true ∧ bn = (M i).sn := fun i hi => by
        have := hall i hi
        unfold fitB8 at this
        rw [Bool.and_eq_true, Bool.and_eq_true, decide_eq_true_iff] at this
        exact this
      have hbu := (hparts 0 (by omega)).2.1
      go_wp2
      go_loopw [8, 35] (fun v i wr => ∃ q : Nat, q ≤ j ∧ i = .int .i64 q ∧ Below wm.heap.size wm wr ∧ wr.ownsRow wm.heap.size 3 1 v (whoL (seenB sg) q).length (iCells (whoL (seenB sg) q)) ∧ Hid (∀ k, k < q → (M k).can)) (fun _ i _ => j - (intOf i).toNat)
      case atStart => exact ⟨0, Nat.zero_le _, rfl, Below.refl _ _, ⟨by simp [iCells, whoL], .inl ⟨rfl, by simp [whoL]⟩⟩, ⟨fun k hk => absurd hk (Nat.not_lt_zero k)⟩⟩
      case round =>
        obtain ⟨q, hq, rfl, hbz, hown, hcan⟩ := hrel
        rename World => wz
        obtain ⟨vb, vd, rfl⟩ := ownsRow_slice hown
        have hq0 : (0 : Int) ≤ (q : Int) := Int.natCast_nonneg _
        have hwz : Below w.heap.size w wz := hww.trans (hbz.mono hww.size)
        have hz9 := hbz.size
        by_cases hlq : q < j
        · have hq1 : (q : Int) < (j : Int) := by omega
          obtain ⟨hs, hr⟩ := hsz q hlq
          obtain ⟨p1, p2, p3'⟩ := hparts q hlq
          have p3 := Hid.mk p3'
          clear p3'
          have hMq := (hM.ins q hlq)
          obtain ⟨y0, y1, y2, y3, y4, y5, y6, y7, y8, y9⟩ := (hM.cells q hlq).below hwz hM.lt
          obtain ⟨L, er, hE, hC⟩ := examine_any (M q) true w hs (by omega) hMq
          have hlz : zst.length = 62 := zM.st_length rfl rfl
          have hlL := hE.length
          have hoL := all_oneCell_toArray hE.one
          have hi0 : (Tryz.prog.info? 93).map (·.size) = some 62 := by kernel_rfl
          have hiL : (Tryz.prog.info? 93).map (·.size) = some L.length := by rw [hlL]; exact hi0
          have hiA : (Tryz.prog.info? 93).map (·.size) = some L.toArray.size := by rw [List.size_toArray, hlL]; exact hi0
          have hS0 := fun (W : World) => SAt.new W zst 93
          have hth := fun (W : World) (g : Nat) (H : SAt W g zst) => H.there 0 L.toArray.size (by rw [List.size_toArray, hlL, hlz]; omega)
          have hfi := fun (W : World) (g : Nat) (H : SAt W g zst) => SAt.fill (L' := L) H (by rw [hlL, hlz])
          have hal := zst_lit
          have hnew := MAt.new wz (M q)
          have hAl : Below wz.heap.size wz (wz.alloc (.cells #[.slice (M q).sa (M q).sn (M q).sc, .int .i64 (M q).c0, .int .i64 (M q).c1, .int .i64 (M q).d0, .int .i64 (M q).d1, .int .i64 (M q).w0, .int .i64 (M q).w1, .int .i64 (M q).v0, .int .i64 (M q).v1, .slice (M q).ra (M q).rn (M q).rc] 27)) := (Below.refl _ _).alloc (Nat.le_refl _) _
          have hz2' : (wz.alloc (.cells #[.slice (M q).sa (M q).sn (M q).sc, .int .i64 (M q).c0, .int .i64 (M q).c1, .int .i64 (M q).d0, .int .i64 (M q).d1, .int .i64 (M q).w0, .int .i64 (M q).w1, .int .i64 (M q).v0, .int .i64 (M q).v1, .slice (M q).ra (M q).rn (M q).rc] 27)).heap.size = wz.heap.size + 1 := World.size_alloc _ _
          generalize hWA : wz.alloc (.cells #[.slice (M q).sa (M q).sn (M q).sc, .int .i64 (M q).c0, .int .i64 (M q).c1, .int .i64 (M q).d0, .int .i64 (M q).d1, .int .i64 (M q).w0, .int .i64 (M q).w1, .int .i64 (M q).v0, .int .i64 (M q).v1, .slice (M q).ra (M q).rn (M q).rc] 27) = WA at hnew hAl hz2'
          have hwA : Below w.heap.size w WA := hwz.trans (hAl.mono hwz.size)
          have hzA : Below wm.heap.size wm WA := hbz.trans (hAl.mono hbz.size)
          obtain ⟨x0, x1, x2, x3, x4, x5, x6, x7, x8, x9⟩ := hnew
          clear hi0
          generalize zst = Z at *
          have hmq : Hid (∀ x, (M q).can → L = (M q).st (crsL (M q).axX.ends 13) (crsL (M q).axY.ends 13) → sg q = x → ∀ V, Below w.heap.size w V → Calls Tryz.prog 48 #[.agg L.toArray, .agg #[.slice a1 bn c1, .int .i64 r]] V fun e w' => ∃ v : Value, e = .returned v ∧ w'.ownsRow V.heap.size 3 1 v (blanksTo x 12).length (iCells (blanksTo x 12)) ∧ Below V.heap.size V w') :=
            ⟨fun x _ hLe hx => by subst hx; exact could_st (M q) a1 bn c1 r HX HY w p3.down hp hMq p1 p2 (sg q) (hsg q hlq) L hLe hlL⟩
          by_cases hc : (M q).can
          · obtain ⟨hLe, rfl⟩ := hE.ok (by rw [p1]; rfl) hc
            have hco := hmq.down (sg q) hc hLe rfl
            have hcan' : Hid (∀ k, k < q + 1 → (M k).can) := ⟨fun k hk => (Nat.lt_or_eq_of_le (Nat.le_of_lt_succ hk)).elim (fun h1 => hcan.down k h1) (fun h1 => by rw [h1]; exact hc)⟩
            have hsee : Hid (seenB sg q = decide (0 < (blanksTo (sg q) 12).length)) := ⟨rfl⟩
            clear hmq hE hLe
            generalize blanksTo (sg q) 12 = bl at hco hsee
            have hll := whoL_length (seenB sg) q
            rcases Nat.eq_zero_or_pos bl.length with hp0 | hp0
            · have hw0 : Hid (whoL (seenB sg) (q + 1) = whoL (seenB sg) q) := ⟨whoL_no (by rw [hsee.down, hp0]; rfl)⟩
              rw [hp0] at hco
              go_wp2_with (first
                | (go_at_call 46; with_reducible refine (hC _ hwA).mono ?_; rintro e w3 ⟨rfl, hb3⟩)
                | (with_reducible refine wpList_store_mid rfl 93 _ _ rfl w3.heap.size 0 L.toArray rfl rfl (hth _ _ (hS0 w3)) hiA hoL ?_; have hL5 := hfi _ _ (hS0 w3); have hb5 : Below w3.heap.size w3 ((w3.alloc (Obj.cells Z.toArray 93)).setCells w3.heap.size 0 L) := below_setCells (Nat.le_refl _) L 0 _ ((Below.refl _ _).alloc (Nat.le_refl _) _); generalize (w3.alloc (Obj.cells Z.toArray 93)).setCells w3.heap.size 0 L = W5 at hL5 hb5 ⊢; have hw5 := hwA.trans ((hb3.trans (hb5.mono hb3.size)).mono hwA.size); have h05 : Below wz.heap.size wz W5 := hAl.trans ((hb3.trans (hb5.mono hb3.size)).mono hAl.size); have hwm5 : Below W0.heap.size W0 W5 := hbl.trans ((hbz.trans (h05.mono hbz.size)).mono hbl.size); have d0 := (hwm5.cell (p := ⟨w.heap.size, 0, none⟩) (by show w.heap.size < _; omega)).trans c0; have d1 := (hwm5.cell (p := ⟨w.heap.size, 1, none⟩) (by show w.heap.size < _; omega)).trans c1'; have hrg := hL5.c)
                | (with_reducible refine wpList_load_mid rfl 93 _ rfl w3.heap.size 0 rfl L _ hrg Tryz.underlying93 rfl hiL ?_)
                | (go_at_call 48; with_reducible refine (hco _ hw5).mono ?_; rintro e w6 ⟨v, rfl, hrow6, hb6⟩; obtain ⟨va, vc, rfl⟩ := ownsRow_slice hrow6))
              have h06 := h05.trans (hb6.mono h05.size)
              go_roundw
              case rel => exact ⟨q + 1, by omega, by go_num, hbz.trans (h06.mono hbz.size), by rw [hw0.down]; exact ownsRow_below hown h06, hcan'⟩
              case measure => simp [intOf]; omega
            · have hw0 : Hid (whoL (seenB sg) (q + 1) = whoL (seenB sg) q ++ [q]) := ⟨whoL_yes (by rw [hsee.down]; exact decide_eq_true hp0)⟩
              generalize bl.length = bln at hco hp0
              have hp1 : (0 : Int) < (bln : Int) := by omega
              go_wp2_with (first
                | (go_at_call 46; with_reducible refine (hC _ hwA).mono ?_; rintro e w3 ⟨rfl, hb3⟩)
                | (with_reducible refine wpList_store_mid rfl 93 _ _ rfl w3.heap.size 0 L.toArray rfl rfl (hth _ _ (hS0 w3)) hiA hoL ?_; have hL5 := hfi _ _ (hS0 w3); have hb5 : Below w3.heap.size w3 ((w3.alloc (Obj.cells Z.toArray 93)).setCells w3.heap.size 0 L) := below_setCells (Nat.le_refl _) L 0 _ ((Below.refl _ _).alloc (Nat.le_refl _) _); generalize (w3.alloc (Obj.cells Z.toArray 93)).setCells w3.heap.size 0 L = W5 at hL5 hb5 ⊢; have hw5 := hwA.trans ((hb3.trans (hb5.mono hb3.size)).mono hwA.size); have h05 : Below wz.heap.size wz W5 := hAl.trans ((hb3.trans (hb5.mono hb3.size)).mono hAl.size); have hwm5 : Below W0.heap.size W0 W5 := hbl.trans ((hbz.trans (h05.mono hbz.size)).mono hbl.size); have d0 := (hwm5.cell (p := ⟨w.heap.size, 0, none⟩) (by show w.heap.size < _; omega)).trans c0; have d1 := (hwm5.cell (p := ⟨w.heap.size, 1, none⟩) (by show w.heap.size < _; omega)).trans c1'; have hrg := hL5.c)
                | (with_reducible refine wpList_load_mid rfl 93 _ rfl w3.heap.size 0 rfl L _ hrg Tryz.underlying93 rfl hiL ?_)
                | (go_at_call 48; with_reducible refine (hco _ hw5).mono ?_; rintro e w6 ⟨v, rfl, hrow6, hb6⟩; obtain ⟨va, vc, rfl⟩ := ownsRow_slice hrow6; have h06 := h05.trans (hb6.mono h05.size); have hwm6 := hbz.trans (h06.mono hbz.size); have hown6 := ownsRow_below hown h06; have hz6 := hwm6.size)
                | (at_builtin; refine wpList_append_own _ rfl _ _ 28 rfl wm.heap.size 3 i0 (.int .i64 0) 1 8 Tryz.underlying28 hi hz0 hz1 hz2 rfl (by decide) _ (whoL (seenB sg) q).length _ rfl (hown6.alloc _) ⟨w6.heap.size, 0, none⟩ 1 1 [.int .i64 (q : Int)] rfl rfl ?c1 ?c2 ?c3 ?c4 ?c5 ?_))
              case c1 => exact cells_one1 _ _ _
              case c2 => simp [Value.oneCell']
              case c3 => unfold maxLen; omega
              case c4 => omega
              case c5 => (try simp only [World.size_alloc]); omega
              intro v7 w7 hown7 hgrow7 _
              have hb7 : Below wm.heap.size wm w7 := (hwm6.alloc hwm6.size _).grown hgrow7 (by rw [World.size_alloc]; omega) fun x hx => (hown.lt x hx).1
              have hown8 : w7.ownsRow wm.heap.size 3 1 v7 (whoL (seenB sg) (q + 1)).length (iCells (whoL (seenB sg) (q + 1))) := by rw [hw0.down]; unfold iCells; rw [List.map_append, List.length_append]; exact hown7
              clear hgrow7 hown7
              go_wp2
              go_roundw
              case rel => exact ⟨q + 1, by omega, by go_num, hb7, hown8, hcan'⟩
              case measure => simp [intOf]; omega
          · obtain ⟨hLz, rfl⟩ := hE.rule (by rw [p1]; rfl) hc
            clear hmq hE hLz
            go_wp2_with (first
              | (go_at_call 46; with_reducible refine (hC _ hwA).mono ?_; rintro e w3 ⟨rfl, hb3⟩)
              | (with_reducible refine wpList_store_mid rfl 93 _ _ rfl w3.heap.size 0 L.toArray rfl rfl (hth _ _ (hS0 w3)) hiA hoL ?_; have hL5 := hfi _ _ (hS0 w3); have hb5 : Below w3.heap.size w3 ((w3.alloc (Obj.cells Z.toArray 93)).setCells w3.heap.size 0 L) := below_setCells (Nat.le_refl _) L 0 _ ((Below.refl _ _).alloc (Nat.le_refl _) _); generalize (w3.alloc (Obj.cells Z.toArray 93)).setCells w3.heap.size 0 L = W5 at hL5 hb5 ⊢; have hw5 := hwA.trans ((hb3.trans (hb5.mono hb3.size)).mono hwA.size); have h05 : Below wz.heap.size wz W5 := hAl.trans ((hb3.trans (hb5.mono hb3.size)).mono hAl.size); have hwm5 : Below W0.heap.size W0 W5 := hbl.trans ((hbz.trans (h05.mono hbz.size)).mono hbl.size); have d0 := (hwm5.cell (p := ⟨w.heap.size, 0, none⟩) (by show w.heap.size < _; omega)).trans c0; have d1 := (hwm5.cell (p := ⟨w.heap.size, 1, none⟩) (by show w.heap.size < _; omega)).trans c1'; have hrg := hL5.c))
            refine bodyPost_ret (v := .tuple #[.slice none 0 0, .int .i64 7]) (by simp [results, Tryz.results18, go_sem]) rfl ⟨hw5, .inr (.inl ⟨hall, ⟨q, hlq, hc⟩, rfl⟩)⟩
        · obtain rfl : q = j := by omega
          have hO9 := PLift.up hown
          clear hown
          go_wp2
          refine bodyPost_ret (v := .tuple #[.slice vb (whoL (seenB sg) q).length vd, .int .i64 0]) (by simp [results, Tryz.results18, go_sem]) rfl ⟨hwz, .inr (.inr ⟨hall, hcan.down, _, rfl, hO9.down.mono hzl⟩)⟩
end Go.Proofs.YtjhpklolpmaopaaGreatDoor
namespace Go.Proofs.YtjhpklolpmaopaaGreatDoor
open Go.RowKit Go.Can
/-! ### Match, case by case -/
end Go.Proofs.YtjhpklolpmaopaaGreatDoor
namespace Go.Proofs.YtjhpklolpmaopaaGreatDoor
open Go.RowKit Go.Can
end Go.Proofs.YtjhpklolpmaopaaGreatDoor
namespace Go.Proofs.YtjhpklolpmaopaaGreatDoor
open Go.RowKit Go.Can
/-! ### What turning does -/
end Go.Proofs.YtjhpklolpmaopaaGreatDoor
namespace Go.Proofs.YtjhpklolpmaopaaGreatDoor
open Go.RowKit Go.Can
/-! ### Orders, one before another -/
/-- an order, of numbers. -/
def ordB (n : Nat) (F : Nat → Int) (many : Int) : Bool := decide (∀ i, i < n → (∀ k, k < i → F i ≠ F k) ∧ inB (F i) 0 (many - 1) = true) && decide ((n : Int) = many)
theorem perm2 : ∀ a, a < 2 → ∀ b, b < 2 → b ≠ a → [a, b] ∈ ords 2 := by rw [ords2]; decide
def chk3 : Bool := (List.range 3).all fun a => (List.range 3).all fun b => (List.range 3).all fun c => (decide (b = a) || decide (c = a) || decide (c = b)) || (ords 3).contains [a, b, c]
def chk4 : Bool := (List.range 4).all fun a => (List.range 4).all fun b => (List.range 4).all fun c => (List.range 4).all fun d => (decide (b = a) || decide (c = a) || decide (c = b) || decide (d = a) || decide (d = b) || decide (d = c)) || (ords 4).contains [a, b, c, d]
theorem chk3_ok : chk3 = true := by decide +kernel
theorem chk4_ok : chk4 = true := by decide +kernel
theorem perm3 : ∀ a, a < 3 → ∀ b, b < 3 → ∀ c, c < 3 → (b ≠ a ∧ c ≠ a ∧ c ≠ b) → [a, b, c] ∈ ords 3 := by
 intro a ha b hb c hc ⟨h1, h2, h3⟩
 have h := chk3_ok
 unfold chk3 at h
 simp only [List.all_eq_true, List.mem_range] at h
 have := h a ha b hb c hc
 simpa [h1, h2, h3] using this
theorem perm4 : ∀ a, a < 4 → ∀ b, b < 4 → ∀ c, c < 4 → ∀ d, d < 4 → (b ≠ a ∧ c ≠ a ∧ c ≠ b ∧ d ≠ a ∧ d ≠ b ∧ d ≠ c) → [a, b, c, d] ∈ ords 4 := by
 intro a ha b hb c hc d hd ⟨h1, h2, h3, h4, h5, h6⟩
 have h := chk4_ok
 unfold chk4 at h
 simp only [List.all_eq_true, List.mem_range] at h
 have := h a ha b hb c hc d hd
 simpa [h1, h2, h3, h4, h5, h6] using this
theorem ordB_ords {n : Nat} {F : Nat → Int} (h1 : 2 ≤ n) (h2 : n ≤ 4) (h : ordB n F n = true) : ∃ q ∈ ords n, ∀ i, i < n → F i = ((q.getD i 0 : Nat) : Int) := by
 unfold ordB at h
 rw [Bool.and_eq_true, decide_eq_true_iff] at h
 have hh := h.1
 have hN : ∀ i, i < n → F i = ((F i).toNat : Int) ∧ (F i).toNat < n := fun i hi => by
  have := inB_iff.1 (hh i hi).2
  omega
 have hD : ∀ i k, i < n → k < i → (F i).toNat ≠ (F k).toNat := fun i k hi hk e => by
  have a := (hN i hi).1
  have b := (hN k (by omega)).1
  exact (hh i hi).1 k hk (by omega)
 obtain rfl | rfl | rfl : n = 2 ∨ n = 3 ∨ n = 4 := by omega
 ·refine ⟨[(F 0).toNat, (F 1).toNat], perm2 _ (hN 0 (by omega)).2 _ (hN 1 (by omega)).2 (hD 1 0 (by omega) (by omega)), fun i hi => ?_⟩
  obtain rfl | rfl : i = 0 ∨ i = 1 := by omega
  ·exact (hN 0 (by omega)).1
  ·exact (hN 1 (by omega)).1
 ·refine ⟨[(F 0).toNat, (F 1).toNat, (F 2).toNat], perm3 _ (hN 0 (by omega)).2 _ (hN 1 (by omega)).2 _ (hN 2 (by omega)).2 ⟨hD 1 0 (by omega) (by omega), hD 2 0 (by omega) (by omega), hD 2 1 (by omega) (by omega)⟩, fun i hi => ?_⟩
  obtain rfl | rfl | rfl : i = 0 ∨ i = 1 ∨ i = 2 := by omega
  ·exact (hN 0 (by omega)).1
  ·exact (hN 1 (by omega)).1
  ·exact (hN 2 (by omega)).1
 ·refine ⟨[(F 0).toNat, (F 1).toNat, (F 2).toNat, (F 3).toNat], perm4 _ (hN 0 (by omega)).2 _ (hN 1 (by omega)).2 _ (hN 2 (by omega)).2 _ (hN 3 (by omega)).2 ⟨hD 1 0 (by omega) (by omega), hD 2 0 (by omega) (by omega), hD 2 1 (by omega) (by omega), hD 3 0 (by omega) (by omega), hD 3 1 (by omega) (by omega), hD 3 2 (by omega) (by omega)⟩, fun i hi => ?_⟩
  obtain rfl | rfl | rfl | rfl : i = 0 ∨ i = 1 ∨ i = 2 ∨ i = 3 := by omega
  ·exact (hN 0 (by omega)).1
  ·exact (hN 1 (by omega)).1
  ·exact (hN 2 (by omega)).1
  ·exact (hN 3 (by omega)).1
theorem ords_ordB {n : Nat} (h1 : 2 ≤ n) (h2 : n ≤ 4) : ∀ q ∈ ords n, ordB n (fun i => ((q.getD i 0 : Nat) : Int)) n = true := by
 intro q hq
 have key : ∀ i, i < n → (∀ k, k < i → q.getD i 0 ≠ q.getD k 0) ∧ q.getD i 0 < n := by
  revert q
  obtain rfl | rfl | rfl : n = 2 ∨ n = 3 ∨ n = 4 := by omega
  ·rw [ords2]; decide
  ·rw [ords3]; decide
  ·rw [ords4]; decide +kernel
 unfold ordB
 rw [Bool.and_eq_true, decide_eq_true_iff, decide_eq_true_iff]
 refine ⟨fun i hi => ⟨fun k hk e => (key i hi).1 k hk (by dsimp only at e; omega), inB_yes (Int.natCast_nonneg _) (by have := (key i hi).2; dsimp only; omega)⟩, rfl⟩
end Go.Proofs.YtjhpklolpmaopaaGreatDoor
namespace Go.Proofs.YtjhpklolpmaopaaGreatDoor
open Go.RowKit Go.Can
theorem ordB_dup {n i k : Nat} {F : Nat → Int} {m : Int} (hi : i < n) (hk : k < i) (h : F i = F k) : ordB n F m = false := by
 unfold ordB
 rw [decide_eq_false (fun hh => (hh i hi).1 k hk h)]; rfl
theorem ordB_out {n i : Nat} {F : Nat → Int} {m : Int} (hi : i < n) (h : inB (F i) 0 (m - 1) = false) : ordB n F m = false := by
 unfold ordB
 rw [decide_eq_false (fun hh => by have := (hh i hi).2; rw [h] at this; cases this)]; rfl
theorem ordB_end {n : Nat} {F : Nat → Int} {m : Int} (h : ∀ i, i < n → (∀ k, k < i → F i ≠ F k) ∧ inB (F i) 0 (m - 1) = true) : ordB n F m = decide ((n : Int) = m) := by
 unfold ordB
 rw [decide_eq_true h]; rfl
set_option maxRecDepth 100000 in
set_option maxHeartbeats 2000000 in
theorem order_some (b off n cap : Nat) (F : Nat → Int) (m : Int) (w : World) (hn : n ≤ 1000) (hm0 : 0 ≤ m) (hm1 : m ≤ 1000) (hp : Ints w b off n F) (hb : b < w.heap.size) :
  Calls Tryz.prog 11 #[.slice (some ⟨b, off, none⟩) n cap, .int .i64 m] w fun e w' => e = .returned (.bool (ordB n F m)) ∧ Below w.heap.size w w' := by
 go_enter Tryz.func11, Tryz.ntmps11
 go_wp2
 go_loopw [5] (fun i wr => ∃ j : Nat, j ≤ n ∧ i = .int .i64 j ∧ Below w.heap.size w wr ∧ ∀ a, a < j → (∀ k, k < a → F a ≠ F k) ∧ inB (F a) 0 (m - 1) = true) (fun i _ => n - (intOf i).toNat)
 case atStart => exact ⟨0, Nat.zero_le _, rfl, Below.refl _ _, fun _ h => absurd h (Nat.not_lt_zero _)⟩
 case round =>
  obtain ⟨i, hi, rfl, hbl, hall⟩ := hrel
  by_cases hlt : i < n
  ·have hlt' : (i : Int) < n := by omega
   have hi0 : (0 : Int) ≤ (i : Int) := Int.natCast_nonneg _
   go_wp2
   go_loopw [6] (fun i' wr => ∃ k : Nat, k ≤ i ∧ i' = .int .i64 k ∧ Below w.heap.size w wr ∧ ∀ k', k' < k → F i ≠ F k') (fun i' _ => i - (intOf i').toNat)
   case atStart => exact ⟨0, Nat.zero_le _, rfl, hbl, fun _ h => absurd h (Nat.not_lt_zero _)⟩
   case round =>
    obtain ⟨k, hk, rfl, hbk, hne⟩ := hrel
    have d0 := (hbk.cell (p := ⟨b, off + i, none⟩) hb).trans (hp i hlt)
    by_cases hlk : k < i
    ·have hlk' : (k : Int) < i := by omega
     have hkn : (k : Int) < n := by omega
     have hk0 : (0 : Int) ≤ (k : Int) := Int.natCast_nonneg _
     have d1 := (hbk.cell (p := ⟨b, off + k, none⟩) hb).trans (hp k (by omega))
     by_cases he : F i = F k
     ·go_wp2
      go_quiet (fail)
      have hb3 : Below w.heap.size w (wr.drewN nq) := ⟨hbk.os, hbk.tape, hbk.output, hbk.size, hbk.block⟩
      go_wp2
      go_ret
      exact ⟨ret_bool (ordB_dup hlt hlk he).symm, hb3⟩
     ·go_wp2
      go_quiet (fail)
      have hb3 : Below w.heap.size w (wr.drewN nq) := ⟨hbk.os, hbk.tape, hbk.output, hbk.size, hbk.block⟩
      go_wp2
      go_roundw
      case rel => exact ⟨k + 1, by omega, by go_num, hb3, all_succ (p := fun k' => F i ≠ F k') hne he⟩
      case measure => simp [intOf]; omega
    ·obtain rfl : i = k := by omega
     cases hin : inB (F i) 0 (m - 1) with
     | true =>
      go_wp2_with (go_at_call 25; refine (in_any _ _ _ _).mono ?_; rw [hin]; rintro e w' ⟨rfl, rfl⟩)
      go_roundw
      case rel => exact ⟨i + 1, by omega, by go_num, hbk, all_succ (p := fun a => (∀ k, k < a → F a ≠ F k) ∧ inB (F a) 0 (m - 1) = true) hall ⟨hne, hin⟩⟩
      case measure => simp [intOf]; omega
     | false =>
      go_wp2_with (go_at_call 25; refine (in_any _ _ _ _).mono ?_; rw [hin]; rintro e w' ⟨rfl, rfl⟩)
      go_ret
      exact ⟨ret_bool (ordB_out hlt hin).symm, hbk⟩
  ·obtain rfl : n = i := by omega
   go_wp2
   go_ret
   exact ⟨ret_bool (ordB_end hall).symm, hbl⟩
end Go.Proofs.YtjhpklolpmaopaaGreatDoor
namespace Go.Proofs.YtjhpklolpmaopaaGreatDoor
open Go.RowKit
/-! ### The math of a button that was found: a truth with a turn, an order and errors agrees with its blank -/
theorem trn_forms (p : Int × Int) : trn 0 p = p ∧ trn 1 p = (-p.2, p.1) ∧ trn 2 p = (-p.1, -p.2) ∧ trn 3 p = (-(-p.2), -p.1) ∧ trn 4 p = (-p.1, p.2) ∧ trn 5 p = (-p.2, -p.1) ∧ trn 6 p = (-(-p.1), -p.2) ∧ trn 7 p = (-(-p.2), -(-p.1)) :=
 ⟨rfl, rfl, rfl, rfl, rfl, rfl, rfl, rfl⟩
theorem trn_close {t : Nat} (ht : t < 8) {a b : Int × Int} {r : Int} (h1 : -r ≤ a.1 - b.1 ∧ a.1 - b.1 ≤ r) (h2 : -r ≤ a.2 - b.2 ∧ a.2 - b.2 ≤ r) :
  (-r ≤ (trn t a).1 - (trn t b).1 ∧ (trn t a).1 - (trn t b).1 ≤ r) ∧ -r ≤ (trn t a).2 - (trn t b).2 ∧ (trn t a).2 - (trn t b).2 ≤ r := by
 obtain ⟨a0, a1, a2, a3, a4, a5, a6, a7⟩ := trn_forms a
 obtain ⟨b0, b1, b2, b3, b4, b5, b6, b7⟩ := trn_forms b
 have h : t = 0 ∨ t = 1 ∨ t = 2 ∨ t = 3 ∨ t = 4 ∨ t = 5 ∨ t = 6 ∨ t = 7 := by omega
 rcases h with rfl | rfl | rfl | rfl | rfl | rfl | rfl | rfl
 ·rw [a0, b0]; omega
 ·rw [a1, b1]; dsimp only; omega
 ·rw [a2, b2]; dsimp only; omega
 ·rw [a3, b3]; dsimp only; omega
 ·rw [a4, b4]; dsimp only; omega
 ·rw [a5, b5]; dsimp only; omega
 ·rw [a6, b6]; dsimp only; omega
 ·rw [a7, b7]; dsimp only; omega
/-- what was drilled with errors agrees. -/
theorem found_agree {n : Nat} {SX SY HX HY : Nat → Int} {r x y : Int} {t : Nat} {q : List Nat} (ht : t < 8) (hq : q ∈ ords n) (hx : -1000 ≤ x ∧ x ≤ 1000) (hy : -1000 ≤ y ∧ y ≤ 1000)
  (h : ∀ i, i < n → (-r ≤ HX (q.getD i 0) - (trn t (SX i + x, SY i + y)).1 ∧ HX (q.getD i 0) - (trn t (SX i + x, SY i + y)).1 ≤ r) ∧ -r ≤ HY (q.getD i 0) - (trn t (SX i + x, SY i + y)).2 ∧ HY (q.getD i 0) - (trn t (SX i + x, SY i + y)).2 ≤ r) :
  agreeB n HX HY SX SY r x y = true := by
 obtain ⟨t', ht', hb⟩ := trn_back t 0 ht (by decide)
 refine (agree_box hx hy).2 ⟨t', ht', q, hq, (boxB_has hx hy n).2 fun i hi => ?_⟩
 have hh := h i hi
 have hc := trn_close ht' (a := trn t (SX i + x, SY i + y)) (b := (HX (q.getD i 0), HY (q.getD i 0))) (r := r) (by dsimp only; omega) (by dsimp only; omega)
 rw [hb, (trn_forms (SX i + x, SY i + y)).1] at hc
 dsimp only at hc
 unfold fitB nearB
 dsimp only
 rw [inB_yes (by omega) (by omega), inB_yes (by omega) (by omega)]
 rfl
theorem blanks_mem {sg : Nat → Bool} {k : Nat} (h1 : 1 ≤ k) (h2 : k ≤ 12) (h : sg k = true) : k ∈ blanksTo sg 12 := by
 unfold blanksTo
 refine List.mem_filter.2 ⟨List.mem_map.2 ⟨k - 1, List.mem_range.2 (by omega), by omega⟩, h⟩
theorem who_one {P : Nat → Bool} (h : P 0 = true) : whoL P 1 = [0] := by
 unfold whoL
 rw [show List.range 1 = [0] from rfl, List.filter_cons, if_pos h]; rfl
theorem seen_one {sg : Nat → Nat → Bool} {i k : Nat} (h1 : 1 ≤ k) (h2 : k ≤ 12) (h : sg i k = true) : seenB sg i = true := by
 unfold seenB
 exact decide_eq_true (List.length_pos_of_mem (blanks_mem h1 h2 h))
/-- what a button proves holds of each truth whose blank it agrees with. -/
theorem found_proves {m : Mach} {HX HY : Nat → Int} {r : Int} {k bl : Nat} {PL : List (Int × Int)} {F G : Nat → Int} (hok : m.ok = true) (hF : m.axX.truth F) (hG : m.axY.truth G) (hk : k ≤ 12) (hbl : bl ≤ 12)
  (hPL : ∀ x y, (x, y) ∈ PL ↔ InBox (m.axX.ends k).1 (m.axX.ends k).2 (m.axY.ends k).1 (m.axY.ends k).2 x y ∧ agreeB m.sn HX HY m.SX m.SY r x y = true) (hag : agreeB m.sn HX HY m.SX m.SY r (F k) (G k) = true) :
  canW m k (hullL PL) ∧ (((wX m k (hullL PL)).ends bl).1 ≤ F bl ∧ F bl ≤ ((wX m k (hullL PL)).ends bl).2) ∧ ((wY m k (hullL PL)).ends bl).1 ≤ G bl ∧ G bl ≤ ((wY m k (hullL PL)).ends bl).2 := by
 have iX := Axis.ends_in (Mach.fineX hok) hF k hk
 have iY := Axis.ends_in (Mach.fineY hok) hG k hk
 have hmem : (F k, G k) ∈ PL := (hPL _ _).2 ⟨by unfold InBox; omega, hag⟩
 have bX := Axis.any_bound (Mach.fineX hok) k hk
 have bY := Axis.any_bound (Mach.fineY hok) k hk
 have hpt : ∀ p ∈ PL, (-48 ≤ p.1 ∧ p.1 ≤ 48) ∧ (-48 ≤ p.2 ∧ p.2 ≤ 48) := fun p hp => by
  have := ((hPL p.1 p.2).1 hp).1
  unfold InBox at this
  omega
 obtain ⟨hbd, hin, _⟩ := hullL_spec _ PL rfl hpt
 have h4 := hin _ hmem
 dsimp only at h4
 have tX : (wX m k (hullL PL)).truth F := ((plusX m k (hullL PL)).truth F).2 ⟨hF, h4.1, h4.2.1⟩
 have tY : (wY m k (hullL PL)).truth G := ((plusY m k (hullL PL)).truth G).2 ⟨hG, h4.2.2.1, h4.2.2.2⟩
 have fX := wX_fine (m := m) hok hk hbd
 have fY := wY_fine (m := m) hok hk hbd
 exact ⟨⟨(Axis.can_truth fX).2 ⟨F, tX⟩, (Axis.can_truth fY).2 ⟨G, tY⟩⟩, Axis.ends_in fX tX bl hbl, Axis.ends_in fY tY bl hbl⟩
end Go.Proofs.YtjhpklolpmaopaaGreatDoor
