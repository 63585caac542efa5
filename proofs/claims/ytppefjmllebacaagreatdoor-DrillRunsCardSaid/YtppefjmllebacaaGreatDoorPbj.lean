/- A part of the proof: see the last file. -/
import Derived.Test.YtppefjmllebacaaGreatDoorPab
import Derived.Test.YtppefjmllebacaaGreatDoorPaa
import Derived.Test.YtppefjmllebacaaGreatDoorPam
import Derived.Test.YtppefjmllebacaaGreatDoorPbh
import Derived.Test.YtppefjmllebacaaGreatDoorPbi
import Derived.Test.YtppefjmllebacaaGreatDoorPbf
import Derived.ProofKit
import Derived.LaidMore
import Derived.OpenShut
import Derived.Stop.Joined
import Derived.Deep.Slices
import Derived.Carry
import Derived.ChangeSame
import Derived.Below
import Derived.Laws.EntriesVeiled
import Derived.RangeFuncRecord
import Derived.Test.YtppefjmllebacaaGreatDoorPal
set_option linter.unusedVariables false
set_option linter.unusedSimpArgs false
set_option linter.unusedSectionVars false
namespace Go.Proofs.YtppefjmllebacaaGreatDoor
open Go.RowKit
set_option maxRecDepth 100000 in
set_option maxHeartbeats 4000000 in
theorem rmoved_some (b off n cap : Nat) (X Y : Nat → Int) (x y : Int) (w : World) (hn : n ≤ 1000) (hp : Pts w b off n X Y) (hb : b < w.heap.size) (hx : -80 ≤ x ∧ x ≤ 80) (hy : -80 ≤ y ∧ y ≤ 80) (hall : ∀ i, i < n → small (X i, Y i)) :
    Calls Tryz.prog 17 #[.slice (some ⟨b, off, none⟩) n cap, .int .i64 x, .int .i64 y] w fun e w' => ∃ v', e = .returned v' ∧ w'.ownsRow w.heap.size 52 2 v' n (ptsCells (fun i => (X i + x, Y i + y)) n) ∧ Below w.heap.size w w' := by
  obtain ⟨i0, hi, hz0, hz1, hz2⟩ := info_parts Tryz.info52
  go_enter Tryz.func17, Tryz.ntmps17
  go_wp2
  go_loopw [7, 8] (fun v i wr => ∃ k : Nat, k ≤ n ∧ i = .int .i64 k ∧ wr.ownsRow w.heap.size 52 2 v k (ptsCells (fun i => (X i + x, Y i + y)) k) ∧ Below w.heap.size w wr) (fun _ i _ => n - (intOf i).toNat)
  case atStart => exact ⟨0, Nat.zero_le _, rfl, ⟨rfl, .inl ⟨rfl, rfl⟩⟩, Below.refl _ _⟩
  case round =>
    obtain ⟨k, hk, rfl, hown, hbl⟩ := hrel
    by_cases hlt : k < n
    · obtain ⟨e0, e1⟩ := hp.below hbl hb k hlt
      have ak : u7.ownBlock ≠ some b := fun e => by have := (hown.lt b e).1; omega
      have hbw : b < wr.heap.size := Nat.lt_of_lt_of_le hb hbl.size
      have hk0 : (0 : Int) ≤ (k : Int) := Int.natCast_nonneg _
      have hk1 : (k : Int) < (n : Int) := by omega
      have hbs := hbl.size
      obtain ⟨⟨hx1, hx2⟩, hy1, hy2⟩ := hall k hlt
      dsimp only at hx1 hx2 hy1 hy2
      have hw1 : IntKind.i64.wrap (X k + x) = X k + x := IntWalk.i64_in _ (by omega)
      have hw2 : IntKind.i64.wrap (Y k + y) = Y k + y := IntWalk.i64_in _ (by omega)
      go_wp2_with fail
      go_region_held3 (fun w' => w'.cell? ⟨b, off + k * 2, none⟩ = some (.int .i64 (X k)) ∧ w'.cell? ⟨b, off + k * 2 + 1, none⟩ = some (.int .i64 (Y k)))
        (first
          | go_keep
          | (go_split_ands
             refine ⟨?_, ?_⟩
             · (rw [hgrow.cell_far _ (by simp; omega) (Ne.symm ak)]; assumption)
             · (rw [hgrow.cell_far _ (by simp; omega) (Ne.symm ak)]; assumption)))
        ((refine step_append_lies _ (by rfl) _ _ _ (by rfl) w.heap.size 52 i0 _ 2 16 Tryz.underlying22 hi hz0 hz1 hz2 rfl (by omega) u7 k (ptsCells (fun i => (X i + x, Y i + y)) k) (by rfl) ((hown.alloc _).drew)
            ⟨wr.heap.size, 0, none⟩ 1 1 [.int .i64 (X k + x), .int .i64 (Y k + y)] (by rfl) (by rfl) (World.news_of_block (cs := #[.int .i64 (X k + x), .int .i64 (Y k + y)]) (t := 52) (fr := (0, 0)) (heap_alloc_new wr _)) (by simp [Value.oneCell'])
            (by omega) (by unfold maxLen; omega) (by omega) (by simp; omega) (wr.heap.size + 1) (by simp) ?_; intro gg cap w1 hown1 hgrow hat hlt))
      have hb3 : Below w.heap.size w w1 := ((hbl.alloc hbl.size _).drew).grown hgrow ((hbl.alloc hbl.size _).drew).size fun k hk => (hown.lt k hk).1
      clear hgrow hat hlt
      go_wp2
      go_roundw
      case rel => exact ⟨k + 1, by omega, by go_num, hown1, hb3⟩
      case measure => simp [intOf]; omega
    · obtain rfl : n = k := by omega
      go_wp2
      go_ret
      exact ⟨_, rfl, hown, hbl⟩
end Go.Proofs.YtppefjmllebacaaGreatDoor
namespace Go.Proofs.YtppefjmllebacaaGreatDoor
open Go.RowKit
set_option maxRecDepth 100000 in
set_option maxHeartbeats 4000000 in
theorem Holes_no (m : Mach) (a1 : Option Addr) (n1 c1 : Nat) (a2 : Option Addr) (n2 c2 : Nat) (F G : Nat → Int) (b : Int) (w : World) (hs : m.sn ≤ 1000) (hr : m.rn ≤ 9223372036854775807) (h : MIn w m) (h1 : n1 ≤ 1000) (h2 : n2 ≤ 1000) (hF : IntsSl w (.slice a1 n1 c1) n1 F) (hG : IntsSl w (.slice a2 n2 c2) n2 G) (hc1 : n1 ≤ c1) (hc2 : n2 ≤ c2) (hno : ((m.ok && (offB n1 F && offB n2 G)) && ((m.axX.holdB F && m.axY.holdB G) && inB b 0 12)) = false) :
    Calls Tryz.prog 11 #[m.val, .agg #[.slice a1 n1 c1, .slice a2 n2 c2], .int .i64 b] w fun e w' => e = .returned (.tuple #[.slice none 0 0, .int .i64 2]) ∧ Below w.heap.size w w' := by
  obtain ⟨r, er, hfi, hres⟩ : ∃ (r : Bool) (er : Int), (∀ W, Below w.heap.size w W → Calls Tryz.prog 10 #[m.val, .agg #[.slice a1 n1 c1, .slice a2 n2 c2]] W fun e w' => e = .returned (.tuple #[.bool r, .int .i64 er]) ∧ Below W.heap.size W w') ∧ (er = 2 ∨ (er = 0 ∧ r = false) ∨ (er = 0 ∧ r = true ∧ inB b 0 12 = false)) := by
    cases hg : (m.ok && (offB n1 F && offB n2 G)) with
    | false => exact ⟨false, 2, fun W hB => Fits_no m a1 n1 c1 a2 n2 c2 F G W hs hr (h.below hB) h1 h2 (isl_below hF hB) (isl_below hG hB) hg, .inl rfl⟩
    | true =>
      rw [hg, Bool.true_and] at hno
      have hg' := hg
      rw [Bool.and_eq_true, Bool.and_eq_true] at hg'
      refine ⟨_, 0, fun W hB => Fits_yes m a1 n1 c1 a2 n2 c2 F G W hs hr (h.below hB) h1 h2 (isl_below hF hB) (isl_below hG hB) hg'.1 hg'.2.1 hg'.2.2 hc1 hc2, .inr ?_⟩
      generalize (m.axX.holdB F && m.axY.holdB G) = z at *
      cases z
      · exact .inl ⟨rfl, rfl⟩
      · rw [Bool.true_and] at hno; exact .inr ⟨rfl, rfl, hno⟩
  obtain ⟨W0, hW⟩ : ∃ W0, (w.alloc (.cells #[.slice m.sa m.sn m.sc, .int .i64 m.c0, .int .i64 m.c1, .int .i64 m.d0, .int .i64 m.d1, .int .i64 m.w0, .int .i64 m.w1, .int .i64 m.v0, .int .i64 m.v1, .slice m.ra m.rn m.rc] 27)).alloc (.cells #[.slice a1 n1 c1, .slice a2 n2 c2] 30) = W0 := ⟨_, rfl⟩
  have hb0 : Below w.heap.size w W0 := by rw [← hW]; exact ((Below.refl _ _).alloc (Nat.le_refl _) _).alloc (by rw [World.size_alloc]; omega) _
  have k0 : W0.cell? ⟨w.heap.size + 1, 0, none⟩ = some (.slice a1 n1 c1) := by
    have h := cells_new (w.alloc (.cells #[.slice m.sa m.sn m.sc, .int .i64 m.c0, .int .i64 m.c1, .int .i64 m.d0, .int .i64 m.d1, .int .i64 m.w0, .int .i64 m.w1, .int .i64 m.v0, .int .i64 m.v1, .slice m.ra m.rn m.rc] 27)) #[.slice a1 n1 c1, .slice a2 n2 c2] 30 (j := 0) rfl
    rw [World.size_alloc, hW] at h; exact h
  have k1 : W0.cell? ⟨w.heap.size + 1, 1, none⟩ = some (.slice a2 n2 c2) := by
    have h := cells_new (w.alloc (.cells #[.slice m.sa m.sn m.sc, .int .i64 m.c0, .int .i64 m.c1, .int .i64 m.d0, .int .i64 m.d1, .int .i64 m.w0, .int .i64 m.w1, .int .i64 m.v0, .int .i64 m.v1, .slice m.ra m.rn m.rc] 27)) #[.slice a1 n1 c1, .slice a2 n2 c2] 30 (j := 1) rfl
    rw [World.size_alloc, hW] at h; exact h
  have hMB : MAt W0 w.heap.size m := by rw [← hW]; exact (MAt.new w m).below ((Below.refl _ _).alloc (Nat.le_refl _) _) (by rw [World.size_alloc]; omega)
  obtain ⟨q0, q1, q2, q3, q4, q5, q6, q7, q8, q9⟩ := hMB
  have hwi := fun (W : World) => within_any b 0 12 W
  generalize inB b 0 12 = fine at *
  have hfi0 := hfi _ hb0
  clear hfi hno
  rcases hres with rfl | ⟨rfl, rfl⟩ | ⟨rfl, rfl, rfl⟩
  all_goals
    go_enter Tryz.func11, Tryz.ntmps11
    go_wp2_with (first
      | (go_at_call 10; with_reducible refine hfi0.mono ?_; rintro e w1 ⟨rfl, hb1⟩)
      | (go_at_call 42; with_reducible refine (hwi _).mono ?_; rintro e w2 ⟨rfl, rfl⟩))
    go_ret2
    exact ⟨rfl, hb0.trans (hb1.mono hb0.size)⟩
end Go.Proofs.YtppefjmllebacaaGreatDoor
namespace Go.Proofs.YtppefjmllebacaaGreatDoor
open Go.RowKit
set_option maxRecDepth 100000 in
set_option maxHeartbeats 4000000 in
/-- long lists. -/
theorem runs_long (m : Mach) (a1 : Option Addr) (n1 c1 : Nat) (a2 : Option Addr) (n2 c2 : Nat) (n : Int) (w : World) (hk : KG w) (hs : m.sn ≤ 9223372036854775807) (hr : m.rn ≤ 9223372036854775807) (h1 : n1 ≤ 9223372036854775807) (h2 : n2 ≤ 9223372036854775807) (hno : ((decide (m.sn ≤ 6) && decide (m.rn ≤ 6)) && (decide (n1 ≤ 15) && decide (n2 ≤ 15))) = false) :
    Calls Tryz.prog 3 #[m.val, .agg #[.slice a1 n1 c1, .slice a2 n2 c2], .int .i64 n] w fun e w' => e = .returned (.bool true) ∧ Below w.heap.size w w' := by
  obtain ⟨W0, hW⟩ : ∃ W0, (w.alloc (.cells #[.slice m.sa m.sn m.sc, .int .i64 m.c0, .int .i64 m.c1, .int .i64 m.d0, .int .i64 m.d1, .int .i64 m.w0, .int .i64 m.w1, .int .i64 m.v0, .int .i64 m.v1, .slice m.ra m.rn m.rc] 27)).alloc (.cells #[.slice a1 n1 c1, .slice a2 n2 c2] 30) = W0 := ⟨_, rfl⟩
  have hX : MX w W0 m a1 n1 c1 a2 n2 c2 := by rw [← hW]; exact MX.new w m a1 n1 c1 a2 n2 c2
  have hsl := fun (W : World) => slim_any m W hs hr
  have hbr := fun (W : World) => brief_any a1 n1 c1 a2 n2 c2 W h1 h2
  generalize (decide (m.sn ≤ 6) && decide (m.rn ≤ 6)) = s at *
  generalize (decide (n1 ≤ 15) && decide (n2 ≤ 15)) = b at *
  obtain ⟨⟨q0, q1, q2, q3, q4, q5, q6, q7, q8, q9⟩, x0, x1, _, _⟩ := id hX
  cases s <;> cases b
  all_goals first
    | exact absurd hno (by decide)
    | (go_enter Tryz.func3, Tryz.ntmps3
       go_wp2_with (first
         | (go_at_call 5; with_reducible refine (hsl _).mono ?_; rintro e w1 ⟨rfl, hb⟩; replace hX := hX.below hb; obtain ⟨⟨q0, q1, q2, q3, q4, q5, q6, q7, q8, q9⟩, x0, x1, _, _⟩ := id hX)
         | (go_at_call 6; with_reducible refine (hbr _).mono ?_; rintro e w1 ⟨rfl, hb⟩; replace hX := hX.below hb; obtain ⟨⟨q0, q1, q2, q3, q4, q5, q6, q7, q8, q9⟩, x0, x1, _, _⟩ := id hX)
         | (go_at_call 7; refine (known_ok _ (hk.below hX.old)).mono ?_; rintro e w1 ⟨rfl, hb⟩; replace hX := hX.below hb))
       go_ret
       exact ⟨rfl, hX.old⟩)
set_option maxRecDepth 100000 in
set_option maxHeartbeats 8000000 in
theorem runs_slim (m : Mach) (a1 : Option Addr) (n1 c1 : Nat) (a2 : Option Addr) (n2 c2 : Nat) (F G : Nat → Int) (n : Int) (w : World) (hk : KG w) (hs : m.sn ≤ 6) (hr : m.rn ≤ 6) (h1 : n1 ≤ 15) (h2 : n2 ≤ 15) (hc1 : n1 ≤ c1) (hc2 : n2 ≤ c2) (h : MIn w m) (hF : IntsSl w (.slice a1 n1 c1) n1 F) (hG : IntsSl w (.slice a2 n2 c2) n2 G) :
    Calls Tryz.prog 3 #[m.val, .agg #[.slice a1 n1 c1, .slice a2 n2 c2], .int .i64 n] w fun e w' => e = .returned (.bool true) ∧ Below w.heap.size w w' := by
  obtain ⟨W0, hW⟩ : ∃ W0, (w.alloc (.cells #[.slice m.sa m.sn m.sc, .int .i64 m.c0, .int .i64 m.c1, .int .i64 m.d0, .int .i64 m.d1, .int .i64 m.w0, .int .i64 m.w1, .int .i64 m.v0, .int .i64 m.v1, .slice m.ra m.rn m.rc] 27)).alloc (.cells #[.slice a1 n1 c1, .slice a2 n2 c2] 30) = W0 := ⟨_, rfl⟩
  have hX : MX w W0 m a1 n1 c1 a2 n2 c2 := by rw [← hW]; exact MX.new w m a1 n1 c1 a2 n2 c2
  have hsl := fun (W : World) => slim_any m W (by omega) (by omega)
  have hbr := fun (W : World) => brief_any a1 n1 c1 a2 n2 c2 W (by omega) (by omega)
  rw [decide_eq_true hs, decide_eq_true hr, Bool.and_true] at hsl
  rw [decide_eq_true h1, decide_eq_true h2, Bool.and_true] at hbr
  obtain ⟨er, hA, hmc⟩ := Machine_any m w (by omega) (by omega) h
  have hab := fun (W : World) (hB : Below w.heap.size w W) => able_any m er hA W (by omega) (by omega) (h.below hB)
  clear hA
  obtain ⟨⟨q0, q1, q2, q3, q4, q5, q6, q7, q8, q9⟩, y0, y1, _, _⟩ := id hX
  go_enter Tryz.func3, Tryz.ntmps3
  go_wp2_with (first
    | (go_at_call 5; with_reducible refine (hsl _).mono ?_; rintro e w1 ⟨rfl, hb⟩; replace hX := hX.below hb; obtain ⟨⟨q0, q1, q2, q3, q4, q5, q6, q7, q8, q9⟩, y0, y1, _, _⟩ := id hX)
    | (go_at_call 6; with_reducible refine (hbr _).mono ?_; rintro e w1 ⟨rfl, hb⟩; replace hX := hX.below hb))
  clear q0 q1 q2 q3 q4 q5 q6 q7 q8 q9 y0 y1 hsl hbr hW
  refine wp_region_late [] (fun w9 => MX w w9 m a1 n1 c1 a2 n2 c2) (fun w9 => True) (by kernel_rfl) ?_ (fun hHeld => ?_)
  · (exact ⟨hX.below (Below.refl _ _).drew, trivial⟩)
  refine wpAnyP_take0 (i := 0) (v := ?_) rfl (by kernel_rfl) (by kernel_rfl) (by kernel_rfl) (by kernel_rfl) (by rfl) (fun _ _ _ h => h) (Or.inl ⟨by rfl, ?_⟩) hHeld ?_
  rotate_left 1
  · ((intro w9 hSw; have q0 := hSw.mach.k0; have q1 := hSw.mach.k1; have q2 := hSw.mach.k2; have q3 := hSw.mach.k3; have q4 := hSw.mach.k4; have q5 := hSw.mach.k5; have q6 := hSw.mach.k6; have q7 := hSw.mach.k7; have q8 := hSw.mach.k8; have q9 := hSw.mach.k9; clear hSw; go_simp) <;> with_reducible rfl)
  (try simp only [Act.put, List.setIfInBounds_toArray, List.set_cons_zero, List.set_cons_succ])
  refine wpAnyP_take0 (i := 2) (v := ?_) rfl (by kernel_rfl) (by kernel_rfl) (by kernel_rfl) (by kernel_rfl) (by rfl) (fun _ _ _ h => h) (Or.inl ⟨by rfl, ?_⟩) hHeld ?_
  rotate_left 1
  · ((intro w9 hSw; have q0 := hSw.mach.k0; have q1 := hSw.mach.k1; have q2 := hSw.mach.k2; have q3 := hSw.mach.k3; have q4 := hSw.mach.k4; have q5 := hSw.mach.k5; have q6 := hSw.mach.k6; have q7 := hSw.mach.k7; have q8 := hSw.mach.k8; have q9 := hSw.mach.k9; clear hSw; go_simp) <;> with_reducible rfl)
  (try simp only [Act.put, List.setIfInBounds_toArray, List.set_cons_zero, List.set_cons_succ])
  refine wpAnyP_ready (rs := [1]) (by kernel_rfl) (by simp) ?_
  refine AllReadyP.cons (o := _) rfl (fun K hK => ?_) AllReadyP.nil
  · go_simp
    (go_at_call 8; with_reducible refine (hmc _ hHeld.1.old).mono ?_; rintro e w5 ⟨rfl, hb5⟩)
    refine hK.out _ _ ?_ (fun hHeld => ?_)
    · (exact ⟨hHeld.1.below hb5, trivial⟩)
    clear hK K
    (try simp only [Act.put, List.setIfInBounds_toArray, List.set_cons_zero, List.set_cons_succ])
    refine wpAnyP_ready (rs := [3]) (by kernel_rfl) (by simp) ?_
    refine AllReadyP.cons (o := _) rfl (fun K hK => ?_) AllReadyP.nil
    · go_simp
      (go_at_call 9; with_reducible refine (hab _ hHeld.1.old).mono ?_; rintro e w6 ⟨rfl, hb6⟩)
      refine hK.out _ _ ?_ (fun hHeld => ?_)
      · (exact ⟨hHeld.1.below hb6, trivial⟩)
      clear hK K
      (try simp only [Act.put, List.setIfInBounds_toArray, List.set_cons_zero, List.set_cons_succ])
      refine wpAnyP_take0 (i := 4) (v := ?_) rfl (by kernel_rfl) (by kernel_rfl) (by kernel_rfl) (by kernel_rfl) (by rfl) (fun _ _ _ h => h) (Or.inl ⟨by rfl, ?_⟩) hHeld ?_
      rotate_left 1
      · ((intro w9 hSw; have q0 := hSw.mach.k0; have q1 := hSw.mach.k1; have q2 := hSw.mach.k2; have q3 := hSw.mach.k3; have q4 := hSw.mach.k4; have q5 := hSw.mach.k5; have q6 := hSw.mach.k6; have q7 := hSw.mach.k7; have q8 := hSw.mach.k8; have q9 := hSw.mach.k9; clear hSw; go_simp) <;> with_reducible rfl)
      (try simp only [Act.put, List.setIfInBounds_toArray, List.set_cons_zero, List.set_cons_succ])
      refine wpAnyP_done (by kernel_rfl) ?_ _
      (try simp only [Act.put, List.getElem_toArray, List.getElem_cons_zero, List.getElem_cons_succ, List.setIfInBounds_toArray, List.set_cons_zero, List.set_cons_succ])
      replace hX := hHeld.1
      clear hHeld hb5 hb6 hmc hab
      obtain ⟨⟨q0, q1, q2, q3, q4, q5, q6, q7, q8, q9⟩, y0, y1, _, _⟩ := id hX
      have hma := fun (W : World) (hB : Below w.heap.size w W) => rmachine_any m W (by omega) (by omega) (h.below hB)
      have htr := fun (W : World) (hB : Below w.heap.size w W) => rtruth_any a1 n1 c1 a2 n2 c2 F G W (by omega) (by omega) (isl_below hF hB) (isl_below hG hB)
      cases hg : (m.ok && (offB n1 F && offB n2 G)) with
      | false =>
        have hfi := fun (W : World) (hB : Below w.heap.size w W) => Fits_no m a1 n1 c1 a2 n2 c2 F G W (by omega) (by omega) (h.below hB) (by omega) (by omega) (isl_below hF hB) (isl_below hG hB) hg
        have hho := fun (W : World) (hB : Below w.heap.size w W) => Holes_no m a1 n1 c1 a2 n2 c2 F G n W (by omega) (by omega) (h.below hB) (by omega) (by omega) (isl_below hF hB) (isl_below hG hB) hc1 hc2 (by rw [hg]; rfl)
        generalize m.ok = x1 at *
        generalize (offB n1 F && offB n2 G) = x2 at *
        cases x1 <;> cases x2
        all_goals first
          | exact absurd hg (by decide)
          | (go_wp2_with (first
               | (go_at_call 10; with_reducible refine (hfi _ hX.old).mono ?_; rintro e w1 ⟨rfl, hb⟩; replace hX := hX.below hb; obtain ⟨⟨q0, q1, q2, q3, q4, q5, q6, q7, q8, q9⟩, y0, y1, _, _⟩ := id hX)
               | (go_at_call 11; with_reducible refine (hho _ hX.old).mono ?_; rintro e w1 ⟨rfl, hb⟩; replace hX := hX.below hb; obtain ⟨⟨q0, q1, q2, q3, q4, q5, q6, q7, q8, q9⟩, y0, y1, _, _⟩ := id hX)
               | (go_at_call 12; with_reducible refine (hma _ hX.old).mono ?_; rintro e w1 ⟨rfl, hb⟩; replace hX := hX.below hb; obtain ⟨⟨q0, q1, q2, q3, q4, q5, q6, q7, q8, q9⟩, y0, y1, _, _⟩ := id hX)
               | (go_at_call 13; with_reducible refine (htr _ hX.old).mono ?_; rintro e w1 ⟨rfl, hb⟩; replace hX := hX.below hb; obtain ⟨⟨q0, q1, q2, q3, q4, q5, q6, q7, q8, q9⟩, y0, y1, _, _⟩ := id hX)
               | (go_at_call 7; refine (known_ok _ (hk.below hX.old)).mono ?_; rintro e w1 ⟨rfl, hb⟩; replace hX := hX.below hb))
             go_ret
             exact ⟨rfl, hX.old⟩)
      | true =>
        simp only [Bool.and_eq_true] at hg
        obtain ⟨hok, ho1, ho2⟩ := hg
        rw [hok] at hma
        rw [ho1, ho2, Bool.and_true] at htr
        have hfi := fun (W : World) (hB : Below w.heap.size w W) => Fits_yes m a1 n1 c1 a2 n2 c2 F G W (by omega) (by omega) (h.below hB) (by omega) (by omega) (isl_below hF hB) (isl_below hG hB) hok ho1 ho2 hc1 hc2
        have hbl := fun (W : World) => rblank_any n 0 W
        obtain ⟨e1, r1⟩ := offB_iff.1 ho1
        obtain ⟨e2, r2⟩ := offB_iff.1 ho2
        subst e1
        subst e2
        have hrf : ∀ W, Below w.heap.size w W → Calls Tryz.prog 14 #[m.val, .agg #[.slice a1 13 c1, .slice a2 13 c2]] W fun e w' => e = .returned (.bool (m.axX.holdB F && m.axY.holdB G)) ∧ Below W.heap.size W w' := fun W hB => by
          have hF' := isl_below hF hB
          have hG' := isl_below hG hB
          obtain ⟨b1, o1, rfl, hb1, p1⟩ := ints_at hF' (by omega)
          obtain ⟨b2, o2, rfl, hb2, p2⟩ := ints_at hG' (by omega)
          exact rfits_any m b1 o1 c1 b2 o2 c2 F G W hok (h.below hB) hb1 hb2 p1 p2 r1 r2
        cases hf : ((m.axX.holdB F && m.axY.holdB G) && inB n 0 12) with
        | false =>
          have hho := fun (W : World) (hB : Below w.heap.size w W) => Holes_no m a1 13 c1 a2 13 c2 F G n W (by omega) (by omega) (h.below hB) (by omega) (by omega) (isl_below hF hB) (isl_below hG hB) hc1 hc2 (by rw [hf, Bool.and_false])
          clear ho1 ho2 r1 r2
          generalize (m.axX.holdB F && m.axY.holdB G) = x1 at *
          generalize inB n 0 12 = x2 at *
          cases x1 <;> cases x2
          all_goals first
            | exact absurd hf (by decide)
            | (go_wp2_with (first
                 | (go_at_call 10; with_reducible refine (hfi _ hX.old).mono ?_; rintro e w1 ⟨rfl, hb⟩; replace hX := hX.below hb; obtain ⟨⟨q0, q1, q2, q3, q4, q5, q6, q7, q8, q9⟩, y0, y1, _, _⟩ := id hX)
                 | (go_at_call 11; with_reducible refine (hho _ hX.old).mono ?_; rintro e w1 ⟨rfl, hb⟩; replace hX := hX.below hb; obtain ⟨⟨q0, q1, q2, q3, q4, q5, q6, q7, q8, q9⟩, y0, y1, _, _⟩ := id hX)
                 | (go_at_call 12; with_reducible refine (hma _ hX.old).mono ?_; rintro e w1 ⟨rfl, hb⟩; replace hX := hX.below hb; obtain ⟨⟨q0, q1, q2, q3, q4, q5, q6, q7, q8, q9⟩, y0, y1, _, _⟩ := id hX)
                 | (go_at_call 13; with_reducible refine (htr _ hX.old).mono ?_; rintro e w1 ⟨rfl, hb⟩; replace hX := hX.below hb; obtain ⟨⟨q0, q1, q2, q3, q4, q5, q6, q7, q8, q9⟩, y0, y1, _, _⟩ := id hX)
                 | (go_at_call 14; with_reducible refine (hrf _ hX.old).mono ?_; rintro e w1 ⟨rfl, hb⟩; replace hX := hX.below hb; obtain ⟨⟨q0, q1, q2, q3, q4, q5, q6, q7, q8, q9⟩, y0, y1, _, _⟩ := id hX)
                 | (go_at_call 15; with_reducible refine (hbl _).mono ?_; rintro e w1 ⟨rfl, rfl⟩)
                 | (go_at_call 7; refine (known_ok _ (hk.below hX.old)).mono ?_; rintro e w1 ⟨rfl, hb⟩; replace hX := hX.below hb))
               go_ret
               exact ⟨rfl, hX.old⟩)
        | true =>
          rw [Bool.and_eq_true] at hf
          obtain ⟨hfit, hin⟩ := hf
          have o5 := inB_iff.1 hin
          obtain ⟨k, rfl⟩ : ∃ k : Nat, n = (k : Int) := ⟨n.toNat, by omega⟩
          have hk12 : k ≤ 12 := by omega
          have hk13 : k < 13 := by omega
          have hk0 : (0 : Int) ≤ (k : Int) := Int.natCast_nonneg _
          have hk1 : (k : Int) < 13 := by omega
          rw [hin] at hbl
          have hho := fun (W : World) (hB : Below w.heap.size w W) => Holes_yes m a1 13 c1 a2 13 c2 F G k hk12 W (by omega) (by omega) (h.below hB) (by omega) (by omega) (isl_below hF hB) (isl_below hG hB) hok ho1 ho2 hc1 hc2 hfit
          rw [hfit] at hfi hrf
          obtain ⟨u1, u2⟩ := r1 k hk13
          obtain ⟨u3, u4⟩ := r2 k hk13
          have hst := (Mach.ok_parts hok).1
          unfold Mach.okStops at hst
          have hsp : 2 ≤ m.sn ∧ m.sn ≤ 4 ∧ ∀ i, i < m.sn → ptB (m.SX i) (m.SY i) 20 = true := by
            unfold arB at hst
            rw [Bool.and_eq_true, allB_iff, inB_iff] at hst
            exact ⟨by omega, by omega, hst.2⟩
          have hsm : ∀ i, i < m.sn → small (m.SX i, m.SY i) := fun i hi => by
            have := hsp.2.2 i hi
            unfold ptB at this
            rw [Bool.and_eq_true, inB_iff, inB_iff] at this
            unfold small
            dsimp only
            omega
          have hmv : ∀ W, Below w.heap.size w W → Calls Tryz.prog 17 #[.slice m.sa m.sn m.sc, .int .i64 (F k), .int .i64 (G k)] W fun e w' => ∃ v', e = .returned v' ∧ w'.ownsRow W.heap.size 52 2 v' m.sn (ptsCells (fun i => (m.SX i + F k, m.SY i + G k)) m.sn) ∧ Below W.heap.size W w' := fun W hB => by
            rcases (h.below hB).stops with ⟨a, c, e1, e2⟩ | ⟨sb, so, c, e1, e2, e3⟩
            · omega
            · rw [e1]; exact rmoved_some sb so m.sn c m.SX m.SY (F k) (G k) W (by omega) e3 e2 ⟨u1, u2⟩ ⟨u3, u4⟩ hsm
          obtain ⟨b1, o1, rfl, hb1, p1⟩ := ints_at hF (by omega)
          obtain ⟨b2, o2, rfl, hb2, p2⟩ := ints_at hG (by omega)
          have g1w := p1 k hk13
          have g2w := p2 k hk13
          clear ho1 ho2 r1 r2 hst hsp hsm hfit hin o5 u1 u2 u3 u4 p1 p2 hF hG
          go_wp2_with (first
            | (go_at_call 10; with_reducible refine (hfi _ hX.old).mono ?_; rintro e w1 ⟨rfl, hb⟩; replace hX := hX.below hb; obtain ⟨⟨q0, q1, q2, q3, q4, q5, q6, q7, q8, q9⟩, y0, y1, _, _⟩ := id hX)
            | (go_at_call 11; with_reducible refine (hho _ hX.old).mono ?_; rintro e wH ⟨vl, rfl, hown, hb⟩; replace hX := hX.below hb; have hpl := PSl_of_own hown; have hHH := Below.refl wH.heap.size wH; obtain ⟨⟨q0, q1, q2, q3, q4, q5, q6, q7, q8, q9⟩, y0, y1, _, _⟩ := id hX)
            | (go_at_call 12; with_reducible refine (hma _ hX.old).mono ?_; rintro e w1 ⟨rfl, hb⟩; replace hX := hX.below hb; replace hHH := hHH.trans (hb.mono hHH.size); obtain ⟨⟨q0, q1, q2, q3, q4, q5, q6, q7, q8, q9⟩, y0, y1, _, _⟩ := id hX)
            | (go_at_call 13; with_reducible refine (htr _ hX.old).mono ?_; rintro e w1 ⟨rfl, hb⟩; replace hX := hX.below hb; replace hHH := hHH.trans (hb.mono hHH.size); obtain ⟨⟨q0, q1, q2, q3, q4, q5, q6, q7, q8, q9⟩, y0, y1, _, _⟩ := id hX)
            | (go_at_call 14; with_reducible refine (hrf _ hX.old).mono ?_; rintro e w1 ⟨rfl, hb⟩; replace hX := hX.below hb; replace hHH := hHH.trans (hb.mono hHH.size); obtain ⟨⟨q0, q1, q2, q3, q4, q5, q6, q7, q8, q9⟩, y0, y1, _, _⟩ := id hX)
            | (go_at_call 15; with_reducible refine (hbl _).mono ?_; rintro e w1 ⟨rfl, rfl⟩))
          clear q0 q1 q2 q3 q4 q5 q6 q7 q8 q9 y0 y1 hfi hrf hma htr hbl hho hown
          refine wp_region_late [] (fun w9 => MX w w9 m (some ⟨b1, o1, none⟩) 13 c1 (some ⟨b2, o2, none⟩) 13 c2 ∧ Below wH.heap.size wH w9) (fun w9 => True) (by kernel_rfl) ?_ (fun hHeld => ?_)
          · (exact ⟨⟨hX.below (Below.refl _ _).drew, hHH.drew⟩, trivial⟩)
          refine wpAnyP_take0 (i := 0) (v := ?_) rfl (by kernel_rfl) (by kernel_rfl) (by kernel_rfl) (by kernel_rfl) (by rfl) (fun _ _ _ h => h) (Or.inl ⟨by rfl, ?_⟩) hHeld ?_
          rotate_left 1
          · ((intro w9 hSw; clear hSw; go_simp) <;> with_reducible rfl)
          (try simp only [Act.put, List.setIfInBounds_toArray, List.set_cons_zero, List.set_cons_succ])
          refine wpAnyP_take0 (i := 1) (v := ?_) rfl (by kernel_rfl) (by kernel_rfl) (by kernel_rfl) (by kernel_rfl) (by rfl) (fun _ _ _ h => h) (Or.inl ⟨by rfl, ?_⟩) hHeld ?_
          rotate_left 1
          · ((intro w9 hSw; clear hSw; go_simp) <;> with_reducible rfl)
          (try simp only [Act.put, List.setIfInBounds_toArray, List.set_cons_zero, List.set_cons_succ])
          refine wpAnyP_take0 (i := 2) (v := ?_) rfl (by kernel_rfl) (by kernel_rfl) (by kernel_rfl) (by kernel_rfl) (by rfl) (fun _ _ _ h => h) (Or.inl ⟨by rfl, ?_⟩) hHeld ?_
          rotate_left 1
          · ((intro w9 hSw; clear hSw; go_simp) <;> with_reducible rfl)
          (try simp only [Act.put, List.setIfInBounds_toArray, List.set_cons_zero, List.set_cons_succ])
          refine wpAnyP_take0 (i := 3) (v := ?_) rfl (by kernel_rfl) (by kernel_rfl) (by kernel_rfl) (by kernel_rfl) (by rfl) (fun _ _ _ h => h) (Or.inl ⟨by kernel_rfl, ?_⟩) hHeld ?_
          rotate_left 1
          · ((intro w9 hSw; clear hSw; go_simp) <;> with_reducible rfl)
          (try simp only [Act.put, List.setIfInBounds_toArray, List.set_cons_zero, List.set_cons_succ])
          refine wpAnyP_take0 (i := 4) (v := ?_) rfl (by kernel_rfl) (by kernel_rfl) (by kernel_rfl) (by kernel_rfl) (by rfl) (fun _ _ _ h => h) (Or.inl ⟨by kernel_rfl, ?_⟩) hHeld ?_
          rotate_left 1
          · ((intro w9 hSw; clear hSw; go_simp) <;> with_reducible rfl)
          (try simp only [Act.put, List.setIfInBounds_toArray, List.set_cons_zero, List.set_cons_succ])
          refine wpAnyP_take0 (i := 5) (v := ?_) rfl (by kernel_rfl) (by kernel_rfl) (by kernel_rfl) (by kernel_rfl) (by rfl) (fun _ _ _ h => h) (Or.inl ⟨by kernel_rfl, ?_⟩) hHeld ?_
          rotate_left 1
          · ((intro w9 hSw; have q0 := hSw.1.mach.k0; clear hSw; go_simp) <;> with_reducible rfl)
          (try simp only [Act.put, List.setIfInBounds_toArray, List.set_cons_zero, List.set_cons_succ])
          refine wpAnyP_take0 (i := 6) (v := ?_) rfl (by kernel_rfl) (by kernel_rfl) (by kernel_rfl) (by kernel_rfl) (by rfl) (fun _ _ _ h => h) (Or.inl ⟨by kernel_rfl, ?_⟩) hHeld ?_
          rotate_left 1
          · ((intro w9 hSw; clear hSw; go_simp) <;> with_reducible rfl)
          (try simp only [Act.put, List.setIfInBounds_toArray, List.set_cons_zero, List.set_cons_succ])
          refine wpAnyP_take0 (i := 7) (v := ?_) rfl (by kernel_rfl) (by kernel_rfl) (by kernel_rfl) (by kernel_rfl) (by rfl) (fun _ _ _ h => h) (Or.inl ⟨by kernel_rfl, ?_⟩) hHeld ?_
          rotate_left 1
          · ((intro w9 hSw; have q0 := hSw.1.x0; clear hSw; go_simp) <;> with_reducible rfl)
          (try simp only [Act.put, List.setIfInBounds_toArray, List.set_cons_zero, List.set_cons_succ])
          refine wpAnyP_take0 (i := 8) (v := ?_) rfl (by kernel_rfl) (by kernel_rfl) (by kernel_rfl) (by kernel_rfl) (by rfl) (fun _ _ _ h => h) (Or.inl ⟨by kernel_rfl, ?_⟩) hHeld ?_
          rotate_left 1
          · ((intro w9 hSw; clear hSw; go_simp) <;> with_reducible rfl)
          (try simp only [Act.put, List.setIfInBounds_toArray, List.set_cons_zero, List.set_cons_succ])
          refine wpAnyP_take0 (i := 9) (v := ?_) rfl (by kernel_rfl) (by kernel_rfl) (by kernel_rfl) (by kernel_rfl) (by rfl) (fun _ _ _ h => h) (Or.inl ⟨by kernel_rfl, ?_⟩) hHeld ?_
          rotate_left 1
          · ((intro w9 hSw; clear hSw; go_simp) <;> with_reducible rfl)
          (try simp only [Act.put, List.setIfInBounds_toArray, List.set_cons_zero, List.set_cons_succ])
          refine wpAnyP_take0 (i := 10) (v := ?_) rfl (by kernel_rfl) (by kernel_rfl) (by kernel_rfl) (by kernel_rfl) (by rfl) (fun _ _ _ h => h) (Or.inl ⟨by kernel_rfl, ?_⟩) hHeld ?_
          rotate_left 1
          · ((intro w9 hSw; have q0 := (hSw.1.old.cell (p := ⟨b1, o1 + k, none⟩) hb1).trans g1w; clear hSw; go_simp) <;> with_reducible rfl)
          (try simp only [Act.put, List.setIfInBounds_toArray, List.set_cons_zero, List.set_cons_succ])
          refine wpAnyP_take0 (i := 11) (v := ?_) rfl (by kernel_rfl) (by kernel_rfl) (by kernel_rfl) (by kernel_rfl) (by rfl) (fun _ _ _ h => h) (Or.inl ⟨by kernel_rfl, ?_⟩) hHeld ?_
          rotate_left 1
          · ((intro w9 hSw; clear hSw; go_simp) <;> with_reducible rfl)
          (try simp only [Act.put, List.setIfInBounds_toArray, List.set_cons_zero, List.set_cons_succ])
          refine wpAnyP_take0 (i := 12) (v := ?_) rfl (by kernel_rfl) (by kernel_rfl) (by kernel_rfl) (by kernel_rfl) (by rfl) (fun _ _ _ h => h) (Or.inl ⟨by kernel_rfl, ?_⟩) hHeld ?_
          rotate_left 1
          · ((intro w9 hSw; have q0 := hSw.1.x1; clear hSw; go_simp) <;> with_reducible rfl)
          (try simp only [Act.put, List.setIfInBounds_toArray, List.set_cons_zero, List.set_cons_succ])
          refine wpAnyP_take0 (i := 13) (v := ?_) rfl (by kernel_rfl) (by kernel_rfl) (by kernel_rfl) (by kernel_rfl) (by rfl) (fun _ _ _ h => h) (Or.inl ⟨by kernel_rfl, ?_⟩) hHeld ?_
          rotate_left 1
          · ((intro w9 hSw; clear hSw; go_simp) <;> with_reducible rfl)
          (try simp only [Act.put, List.setIfInBounds_toArray, List.set_cons_zero, List.set_cons_succ])
          refine wpAnyP_take0 (i := 14) (v := ?_) rfl (by kernel_rfl) (by kernel_rfl) (by kernel_rfl) (by kernel_rfl) (by rfl) (fun _ _ _ h => h) (Or.inl ⟨by kernel_rfl, ?_⟩) hHeld ?_
          rotate_left 1
          · ((intro w9 hSw; clear hSw; go_simp) <;> with_reducible rfl)
          (try simp only [Act.put, List.setIfInBounds_toArray, List.set_cons_zero, List.set_cons_succ])
          refine wpAnyP_take0 (i := 15) (v := ?_) rfl (by kernel_rfl) (by kernel_rfl) (by kernel_rfl) (by kernel_rfl) (by rfl) (fun _ _ _ h => h) (Or.inl ⟨by kernel_rfl, ?_⟩) hHeld ?_
          rotate_left 1
          · ((intro w9 hSw; have q0 := (hSw.1.old.cell (p := ⟨b2, o2 + k, none⟩) hb2).trans g2w; clear hSw; go_simp) <;> with_reducible rfl)
          (try simp only [Act.put, List.setIfInBounds_toArray, List.set_cons_zero, List.set_cons_succ])
          refine wpAnyP_ready (rs := [16]) (by kernel_rfl) (by simp) ?_
          refine AllReadyP.cons (o := _) rfl (fun K hK => ?_) AllReadyP.nil
          · go_simp
            (go_at_call 17; with_reducible refine (hmv _ hHeld.1.1.old).mono ?_; rintro e w5 ⟨v5, rfl, hown5, hb5⟩)
            refine hK.out _ _ ?_ (fun hHeld => ?_)
            · (exact ⟨⟨hHeld.1.1.below hb5, hHeld.1.2.trans (hb5.mono hHeld.1.2.size)⟩, trivial⟩)
            clear hK K
            (try simp only [Act.put, List.setIfInBounds_toArray, List.set_cons_zero, List.set_cons_succ])
            refine wpAnyP_ready (rs := [17]) (by kernel_rfl) (by simp) ?_
            refine AllReadyP.cons (o := _) rfl (fun K hK => ?_) AllReadyP.nil
            · go_simp
              (go_at_call 16; refine (samePts_any _ _ m.sn _ _ _ (by omega) (hpl.below hHeld.1.2) (PSl_of_own hown5)).mono ?_; rintro e w6 ⟨rfl, hb6⟩)
              refine hK.out _ _ ?_ (fun hHeld => ?_)
              · (exact ⟨⟨hHeld.1.1.below hb6, hHeld.1.2.trans (hb6.mono hHeld.1.2.size)⟩, trivial⟩)
              clear hK K
              (try simp only [Act.put, List.setIfInBounds_toArray, List.set_cons_zero, List.set_cons_succ])
              refine wpAnyP_take0 (i := 18) (v := ?_) rfl (by kernel_rfl) (by kernel_rfl) (by kernel_rfl) (by kernel_rfl) (by rfl) (fun _ _ _ h => h) (Or.inl ⟨by rfl, ?_⟩) hHeld ?_
              rotate_left 1
              · ((intro w9 hSw; clear hSw; go_simp) <;> with_reducible rfl)
              (try simp only [Act.put, List.setIfInBounds_toArray, List.set_cons_zero, List.set_cons_succ])
              refine wpAnyP_take0 (i := 19) (v := ?_) rfl (by kernel_rfl) (by kernel_rfl) (by kernel_rfl) (by kernel_rfl) (by rfl) (fun _ _ _ h => h) (Or.inl ⟨by rfl, ?_⟩) hHeld ?_
              rotate_left 1
              · ((intro w9 hSw; clear hSw; go_simp) <;> with_reducible rfl)
              (try simp only [Act.put, List.setIfInBounds_toArray, List.set_cons_zero, List.set_cons_succ])
              refine wpAnyP_ready (rs := [20]) (by kernel_rfl) (by simp) ?_
              refine AllReadyP.cons (o := _) rfl (fun K hK => ?_) AllReadyP.nil
              · go_simp
                (go_at_call 7; refine (known_ok _ (hk.below hHeld.1.1.old)).mono ?_; rintro e w7 ⟨rfl, hb7⟩)
                refine hK.out _ _ ?_ (fun hHeld => ?_)
                · (exact ⟨⟨hHeld.1.1.below hb7, hHeld.1.2.trans (hb7.mono hHeld.1.2.size)⟩, trivial⟩)
                clear hK K
                (try simp only [Act.put, List.setIfInBounds_toArray, List.set_cons_zero, List.set_cons_succ])
                refine wpAnyP_take0 (i := 21) (v := ?_) rfl (by kernel_rfl) (by kernel_rfl) (by kernel_rfl) (by kernel_rfl) (by rfl) (fun _ _ _ h => h) (Or.inl ⟨by rfl, ?_⟩) hHeld ?_
                rotate_left 1
                · ((intro w9 hSw; clear hSw; go_simp) <;> with_reducible rfl)
                (try simp only [Act.put, List.setIfInBounds_toArray, List.set_cons_zero, List.set_cons_succ])
                refine wpAnyP_take0 (i := 22) (v := ?_) rfl (by kernel_rfl) (by kernel_rfl) (by kernel_rfl) (by kernel_rfl) (by rfl) (fun _ _ _ h => h) (Or.inl ⟨by rfl, ?_⟩) hHeld ?_
                rotate_left 1
                · ((intro w9 hSw; clear hSw; go_simp) <;> with_reducible rfl)
                (try simp only [Act.put, List.setIfInBounds_toArray, List.set_cons_zero, List.set_cons_succ])
                refine wpAnyP_done (by kernel_rfl) ?_ _
                (try simp only [Act.put, List.getElem_toArray, List.getElem_cons_zero, List.getElem_cons_succ, List.setIfInBounds_toArray, List.set_cons_zero, List.set_cons_succ])
                have hO9 := hHeld.1.1.old
                clear hHeld
                go_wp2
                go_ret
                exact ⟨rfl, hO9⟩
theorem runs_all {m : Mach} {a1 : Option Addr} {n1 c1 : Nat} {a2 : Option Addr} {n2 c2 : Nat} {F G : Nat → Int} {n : Int} {w : World} (hk : KG w) (hs : m.sn ≤ 9223372036854775807) (hr : m.rn ≤ 9223372036854775807) (h1 : n1 ≤ 9223372036854775807) (h2 : n2 ≤ 9223372036854775807) (hc1 : n1 ≤ c1) (hc2 : n2 ≤ c2) (h : MIn w m) (hF : IntsSl w (.slice a1 n1 c1) n1 F) (hG : IntsSl w (.slice a2 n2 c2) n2 G) :
    Calls Tryz.prog 3 #[m.val, .agg #[.slice a1 n1 c1, .slice a2 n2 c2], .int .i64 n] w fun e w' => e = .returned (.bool true) ∧ Below w.heap.size w w' := by
  cases hl : ((decide (m.sn ≤ 6) && decide (m.rn ≤ 6)) && (decide (n1 ≤ 15) && decide (n2 ≤ 15))) with
  | false => exact runs_long m a1 n1 c1 a2 n2 c2 n w hk hs hr h1 h2 hl
  | true =>
    simp only [Bool.and_eq_true, decide_eq_true_eq] at hl
    obtain ⟨⟨l1, l2⟩, l3, l4⟩ := hl
    exact runs_slim m a1 n1 c1 a2 n2 c2 F G n w hk l1 l2 l3 l4 hc1 hc2 h hF hG
end Go.Proofs.YtppefjmllebacaaGreatDoor
namespace Go.Proofs.YtppefjmllebacaaGreatDoor
open Go.ChangeShapes Go.WideShapes Go.ChangeAt Go.RowKit
/-! ### What the package-level variables hold -/
section
variable {H : Type} {enc : TypeId × Value → H} {P : Program} {w : World} {base : Nat} {spare : Nat → Bool} {held : Bool}
theorem arr_each {α : Type} {n fuel : Nat} {e t : TypeId} {cs : List Value} {p : List MemPlace} {l : List α} {D : α → DataW H} {V : α → Value} (ht : P.underlying t = some (.array n e)) (hc : P.cellsOf e = 1) (hct : P.cellsOf t = n)
    (hone : ∀ m v y a, DataW.trod enc P w base spare held m e [v] = some y → y.1 = D a → v = V a)
    (h : DataW.trod enc P w base spare held fuel t cs = some (.agg (l.map D), p)) : cs = l.map V := by
  obtain ⟨xs, m, _, hx, hlen, hn, hel⟩ := DataW.trod_array ht h
  simp only [Prod.mk.injEq, DataW.agg.injEq] at hx
  rw [hct] at hlen
  have hll : l.length = n := by
    have := congrArg List.length hx.1
    simp only [List.length_map] at this
    omega
  apply List.ext_getElem (by rw [List.length_map]; omega)
  intro i h1 h2
  rw [List.length_map] at h2
  have hi : i < n := by omega
  have h3 := hel i hi
  rw [hc, Nat.mul_one] at h3
  have h4 : (cs.drop i).take 1 = [cs[i]] := by
    rw [List.drop_eq_getElem_cons h1]; rfl
  rw [h4] at h3
  have h5 : xs[i]? = some (xs[i]'(by omega)) := List.getElem?_eq_getElem (by omega)
  have h6 : (xs[i]'(by omega)).1 = D (l[i]'h2) := by
    have h7 : (l.map D)[i]? = (xs.map (·.1))[i]? := by rw [hx.1]
    rw [List.getElem?_map, List.getElem?_map, h5, List.getElem?_eq_getElem h2] at h7
    simpa using h7.symm
  rw [List.getElem_map]
  exact hone m _ _ _ (h3.trans h5) h6
end
theorem block_of_var {P : Program} {w : World} {name : String} {cs : Array Value} {g : Nat} (hg : P.globalNamed name = some g) (h : w.var? P name = some cs) : ∃ e f, w.heap[g]? = some (.cells cs e f) := by
  unfold World.var? at h
  rw [hg] at h
  simp only [Option.bind_some] at h
  split at h
  · next c e f hh => cases h; exact ⟨e, f, hh⟩
  · cases h
theorem int_each {k : IntKind} {e : TypeId} {P : Program} {w : World} {base : Nat} {spare : Nat → Bool} {held : Bool} {H : Type} {enc : TypeId × Value → H} (he : P.underlying e = some (.int k)) :
    ∀ m v (y : DataW H × List MemPlace) a, DataW.trod enc P w base spare held m e [v] = some y → y.1 = .lit (.int k a) → v = .int k a := fun m v y a h h1 => by
  obtain ⟨n, e1, e2, _⟩ := DataW.trod_int he h
  rw [e2] at h1
  simp only [DataW.lit.injEq, Lit.int.injEq, true_and] at h1
  rw [List.cons.injEq] at e1
  rw [e1.1, h1]
theorem str_each {e : TypeId} {P : Program} {w : World} {base : Nat} {spare : Nat → Bool} {held : Bool} {H : Type} {enc : TypeId × Value → H} (he : P.underlying e = some .string) :
    ∀ m v (y : DataW H × List MemPlace) (a : ByteArray), DataW.trod enc P w base spare held m e [v] = some y → y.1 = .lit (.string a.data.toList) → v = .string a := fun m v y a h h1 => by
  obtain ⟨s, e1, e2, _⟩ := DataW.trod_string he h
  rw [e2] at h1
  simp only [DataW.lit.injEq, Lit.string.injEq] at h1
  rw [List.cons.injEq] at e1
  rw [e1.1]
  obtain ⟨s⟩ := s
  obtain ⟨a⟩ := a
  dsimp only at h1
  rw [Array.toList_inj.1 h1]
def list0 : List Int := [0, 1, 28, 2, 29, 14, 24, 3, 30, 22, 20, 15, 25, 17, 4, 8, 31, 27, 13, 23, 21, 19, 16, 7, 26, 12, 18, 6, 11, 5, 10, 9]
theorem gl0 : Tryz.prog.globalNamed "math/bits.deBruijn32tab" = some 3 := by kernel_rfl
theorem ty0 : (Tryz.prog.globals[3]?).map (·.type) = some 276 := by kernel_rfl
def list1 : List Int := [0, 1, 56, 2, 57, 49, 28, 3, 61, 58, 42, 50, 38, 29, 17, 4, 62, 47, 59, 36, 45, 43, 51, 22, 53, 39, 33, 30, 24, 18, 12, 5, 63, 55, 48, 27, 60, 41, 37, 16, 46, 35, 44, 21, 52, 32, 23, 11, 54, 26, 40, 15, 34, 20, 31, 10, 25, 14, 19, 9, 13, 8, 7, 6]
theorem gl1 : Tryz.prog.globalNamed "math/bits.deBruijn64tab" = some 4 := by kernel_rfl
theorem ty1 : (Tryz.prog.globals[4]?).map (·.type) = some 277 := by kernel_rfl
def list2 : List Int := [1, 10, 100, 1000, 10000, 100000, 1000000, 10000000, 100000000, 1000000000, 10000000000, 100000000000, 1000000000000, 10000000000000, 100000000000000, 1000000000000000, 10000000000000000, 100000000000000000, 1000000000000000000, 10000000000000000000]
theorem gl2 : Tryz.prog.globalNamed "internal/strconv.uint64pow10" = some 2 := by kernel_rfl
theorem ty2 : (Tryz.prog.globals[2]?).map (·.type) = some 265 := by kernel_rfl
def list3 : List ByteArray := [⟨#[109, 97, 99, 104, 105, 110, 101]⟩, ⟨#[115, 116, 111, 112]⟩, ⟨#[99, 104, 117, 99, 107]⟩, ⟨#[119, 101, 97, 114]⟩, ⟨#[114, 101, 97, 100, 105, 110, 103]⟩, ⟨#[101, 110, 100]⟩]
theorem gl3 : Tryz.prog.globalNamed "nacre/drill.words" = some 0 := by kernel_rfl
theorem ty3 : (Tryz.prog.globals[0]?).map (·.type) = some 199 := by kernel_rfl
theorem of_laid {W : World} (h : laidMetH Tryz.prog Rows.drillKnownsRow.laid W) : KG W := by
  rw [MakeChecks.laidMetH_plain _ _ _ (by kernel_rfl)] at h
  obtain ⟨ps, ⟨a0, t0, cs0, f0, p0, q0, hg0, ht0, hv0, hd0, ⟨a1, t1, cs1, f1, p1, q1, hg1, ht1, hv1, hd1, ⟨a2, t2, cs2, f2, p2, q2, hg2, ht2, hv2, hd2, ⟨a3, t3, cs3, f3, p3, q3, hg3, ht3, hv3, hd3, _, _⟩, _⟩, _⟩, _⟩, _, _⟩ := h
  obtain rfl := Option.some.inj (gl0.symm.trans hg0)
  obtain rfl := Option.some.inj (ty0.symm.trans ht0)
  obtain rfl := Option.some.inj (gl1.symm.trans hg1)
  obtain rfl := Option.some.inj (ty1.symm.trans ht1)
  obtain rfl := Option.some.inj (gl2.symm.trans hg2)
  obtain rfl := Option.some.inj (ty2.symm.trans ht2)
  obtain rfl := Option.some.inj (gl3.symm.trans hg3)
  obtain rfl := Option.some.inj (ty3.symm.trans ht3)
  have z0 := arr_each (l := list0) (V := Value.int .u8) (D := fun z => .lit (.int .u8 z)) (by kernel_rfl : Tryz.prog.underlying 276 = some (.array 32 5)) (by kernel_rfl) (by kernel_rfl) (int_each (by kernel_rfl : Tryz.prog.underlying 5 = some (.int .u8))) hd0
  have z1 := arr_each (l := list1) (V := Value.int .u8) (D := fun z => .lit (.int .u8 z)) (by kernel_rfl : Tryz.prog.underlying 277 = some (.array 64 5)) (by kernel_rfl) (by kernel_rfl) (int_each (by kernel_rfl : Tryz.prog.underlying 5 = some (.int .u8))) hd1
  have z2 := arr_each (l := list2) (V := Value.int .u64) (D := fun z => .lit (.int .u64 z)) (by kernel_rfl : Tryz.prog.underlying 265 = some (.array 20 248)) (by kernel_rfl) (by kernel_rfl) (int_each (by kernel_rfl : Tryz.prog.underlying 248 = some (.int .u64))) hd2
  have z3 := arr_each (l := list3) (V := Value.string) (D := fun z => .lit (.string z.data.toList)) (by kernel_rfl : Tryz.prog.underlying 199 = some (.array 6 9)) (by kernel_rfl) (by kernel_rfl) (str_each (by kernel_rfl : Tryz.prog.underlying 9 = some .string)) hd3
  have w0 : cs0 = cells0.toArray := Array.toList_inj.1 (by rw [z0]; rfl)
  have w1 : cs1 = cells1.toArray := Array.toList_inj.1 (by rw [z1]; rfl)
  have w2 : cs2 = cells2.toArray := Array.toList_inj.1 (by rw [z2]; rfl)
  have w3 : cs3 = cells3.toArray := Array.toList_inj.1 (by rw [z3]; rfl)
  subst w0
  subst w1
  subst w2
  subst w3
  exact ⟨block_of_var gl0 hv0, block_of_var gl1 hv1, block_of_var gl2 hv2, block_of_var gl3 hv3⟩
theorem own : ownKnob Tryz.prog.godebug = none := by kernel_rfl
theorem laidOut : laidOutB Tryz.prog = true := by kernel_rfl
end Go.Proofs.YtppefjmllebacaaGreatDoor
/-! Slices whose elements are so many integers each, whatever the struct: in memory, and out of a row's reading. No seat. -/
namespace Go.Gen
open Go Go.ChangeShapes Go.WideShapes Go.ChangeAt Go.RowKit Go.Deep
/-- n elements of k integers each. -/
def KRows (k : Nat) (w : World) (b off n : Nat) (F : Nat → Nat → Int) : Prop := ∀ i, i < n → ∀ j, j < k → w.cell? ⟨b, off + i * k + j, none⟩ = some (.int .i64 (F i j))
theorem KRows.below {k : Nat} {w w' : World} {b off n : Nat} {F : Nat → Nat → Int} (h : KRows k w b off n F) (hb : Below w.heap.size w w') (hl : b < w.heap.size) : KRows k w' b off n F :=
  fun i hi j hj => (hb.cell (p := ⟨b, off + i * k + j, none⟩) hl).trans (h i hi j hj)
/-- a slice of them; an empty one lies wherever. -/
def KSl (k : Nat) (w : World) (v : Value) (n : Nat) (F : Nat → Nat → Int) : Prop := (∃ a c, v = .slice a 0 c ∧ n = 0) ∨ ∃ b off cap, v = .slice (some ⟨b, off, none⟩) n cap ∧ b < w.heap.size ∧ KRows k w b off n F
theorem KSl.below {k : Nat} {w w' : World} {v : Value} {n : Nat} {F : Nat → Nat → Int} (h : KSl k w v n F) (hb : Below w.heap.size w w') : KSl k w' v n F := by
  rcases h with h | ⟨b, off, cap, h1, h2, h3⟩
  · exact .inl h
  · exact .inr ⟨b, off, cap, h1, Nat.lt_of_lt_of_le h2 hb.size, h3.below hb h2⟩
theorem KSl.slice {k : Nat} {w : World} {v : Value} {n : Nat} {F : Nat → Nat → Int} (h : KSl k w v n F) : ∃ a c, v = .slice a n c := by
  rcases h with ⟨a, c, h1, h2⟩ | ⟨b, off, c, h1, _⟩
  · exact ⟨a, c, by rw [h1, h2]⟩
  · exact ⟨_, c, h1⟩
theorem KSl.pos {k : Nat} {w : World} {v : Value} {n : Nat} {F : Nat → Nat → Int} (h : KSl k w v n F) (hn : 1 ≤ n) : ∃ b off cap, v = .slice (some ⟨b, off, none⟩) n cap ∧ b < w.heap.size ∧ KRows k w b off n F := by
  rcases h with ⟨a, c, _, h2⟩ | h
  · omega
  · exact h
/-- one element's integer, at the place as a walk reckons it. -/
theorem KRows.first {k : Nat} {w : World} {b off n : Nat} {F : Nat → Nat → Int} (h : KRows k w b off n F) {i : Nat} (hi : i < n) (hk : 0 < k) : w.cell? ⟨b, off + i * k, none⟩ = some (.int .i64 (F i 0)) := h i hi 0 hk
theorem KRows.one {w : World} {b off n : Nat} {F : Nat → Nat → Int} (h : KRows 1 w b off n F) {i : Nat} (hi : i < n) : w.cell? ⟨b, off + i, none⟩ = some (.int .i64 (F i 0)) := by
  have := h i hi 0 (by omega)
  rw [Nat.mul_one] at this
  exact this
/-- the cells of a new block. -/
theorem cells_new (w : World) (l : Array Value) (e : TypeId) {j : Nat} {u : Value} (h : l[j]? = some u) : (w.alloc (Obj.cells l e)).cell? ⟨w.heap.size, j, none⟩ = some u := by
  have h1 : (w.alloc (Obj.cells l e)).heap[w.heap.size]? = some (Obj.cells l e (0, 0)) := World.alloc_heap_new w _
  unfold World.cell?
  rw [h1]
  exact h
theorem wle_one (w : World) (a : Obj) : w.heap.size ≤ (w.alloc a).heap.size := by rw [World.size_alloc]; omega
theorem wle_two (w : World) (a b : Obj) : w.heap.size ≤ ((w.alloc a).alloc b).heap.size := by rw [World.size_alloc, World.size_alloc]; omega
theorem wlt_two (w : World) (a b : Obj) : w.heap.size < ((w.alloc a).alloc b).heap.size := by rw [World.size_alloc, World.size_alloc]; omega
/-! ### Out of a reading -/
theorem add_zero' (a : Addr) : a.add 0 = a := by
  obtain ⟨b, o, s⟩ := a
  cases s <;> simp [Addr.add]
theorem spot_of {W : World} {a : Addr} {v : Value} (hx0 : W.cell? a = some v) : a.spot = none := by
  unfold World.cell? at hx0
  split at hx0
  · split at hx0
    · cases hx0
    · next hns => cases e : a.spot with
      | none => rfl
      | some s => rw [e] at hns; exact absurd rfl hns
  · cases hx0
theorem add_at (b o j : Nat) : (⟨b, o, none⟩ : Addr).add j = ⟨b, o + j, none⟩ := by unfold Addr.add; split <;> simp_all
/-- whatever reads as type e is k integers. -/
def IntsOf (P : Program) (e : TypeId) (k : Nat) : Prop :=
  P.cellsOf e = k ∧ ∀ {H : Type} {enc : TypeId × Value → H} {W : World} {base : Nat} {spare : Nat → Bool} {held : Bool} (fuel : Nat) (cs : List Value) (y : DataW H × List MemPlace), DataW.trod enc P W base spare held fuel e cs = some y → cs.length = k → ∀ j, j < k → ∃ x : Int, cs[j]? = some (.int .i64 x)
theorem IntsOf.int {P : Program} {e : TypeId} (hc : P.cellsOf e = 1) (ht : P.underlying e = some (.int .i64)) : IntsOf P e 1 := ⟨hc, fun fuel cs y h hl j hj => by
  obtain ⟨x, e1, _⟩ := DataW.trod_int ht h
  obtain rfl : j = 0 := by omega
  have e1 : cs = [Value.int .i64 x] := e1
  exact ⟨x, by rw [e1]; rfl⟩⟩
theorem IntsOf.struct {P : Program} {t : TypeId} {fs : Array Field} {k : Nat} (hc : P.cellsOf t = k) (ht : P.underlying t = some (.struct fs))
    (hcov : ∀ j, j < k → ∃ (i : Nat) (f : Field) (m : Nat), fs[i]? = some f ∧ f.offset ≤ j ∧ j < f.offset + m ∧ f.offset + m ≤ k ∧ IntsOf P f.type m) : IntsOf P t k := ⟨hc, fun {H enc W base spare held} fuel cs y h hl j hj => by
  obtain ⟨ys, n2, _, _, _, hyl, hff⟩ := DataW.trod_struct ht h
  obtain ⟨i, f, m, h1, h2, h3, h3', h4, h5⟩ := hcov j hj
  have h6 := hff i f h1
  rw [h4] at h6
  have hi : i < ys.length := by
    rw [hyl]
    have := (Array.getElem?_eq_some_iff.1 h1).1
    simpa using this
  have h7 := h6.trans (List.getElem?_eq_getElem hi)
  have hlen : ((cs.drop f.offset).take m).length = m := by
    rw [List.length_take, List.length_drop, hl]; omega
  obtain ⟨x, hx⟩ := h5 (H := H) (enc := enc) (W := W) (base := base) (spare := spare) (held := held) n2 _ _ h7 hlen (j - f.offset) (by omega)
  refine ⟨x, ?_⟩
  rw [List.getElem?_take, if_pos (by omega), List.getElem?_drop] at hx
  rw [← hx]
  congr 1
  omega⟩
theorem ksl_trod {P : Program} {H : Type} {enc : TypeId × Value → H} {W : World} {k : Nat} {t e : TypeId} {fuel : Nat} {cs : List Value} {y : DataW H × List MemPlace} (ht : P.underlying t = some (.slice e)) (he : IntsOf P e k) (hk : 0 < k)
    (hf : DataW.trod enc P W 0 (fun _ => true) true fuel t cs = some y) :
    ∃ (a : Option Addr) (n c : Nat) (F : Nat → Nat → Int), cs = [.slice a n c] ∧ n ≤ 9223372036854775807 ∧ n ≤ c ∧ KSl k W (.slice a n c) n F := by
  rcases open_slice ht hf with ⟨h1, _⟩ | ⟨a, len, cap, m, n', D, Pl, hcs, _, hl, hm, hmm, _, hi⟩
  · exact ⟨none, 0, 0, fun _ _ => 0, h1, by omega, Nat.le_refl _, .inl ⟨none, 0, rfl, rfl⟩⟩
  · have hmax : len ≤ 9223372036854775807 := by unfold maxLen at hm; omega
    have hmc : m = cap := hmm
    subst hmc
    have each : ∀ i, i < m → ∀ j, j < k → ∃ x : Int, W.cell? ((a.add (i * k)).add j) = some (.int .i64 x) := fun i hi' j hj => by
      obtain ⟨cs', hc, ht'⟩ := hi i hi'
      rw [he.1] at hc
      obtain ⟨_, hcl, hat⟩ := World.cells?_some hc
      obtain ⟨x, hx⟩ := he.2 _ _ _ ht' hcl j hj
      refine ⟨x, ?_⟩
      rw [hat j (by omega)]
      have : cs'[j]? = some (Value.int .i64 x) := hx
      rw [this]
    refine ⟨some a, len, m, fun i j => intOf ((W.cell? ⟨a.block, a.off + i * k + j, none⟩).getD undef), hcs, hmax, hl, ?_⟩
    rcases Nat.eq_zero_or_pos m with hz | hpos
    · have : len = 0 := by omega
      subst this
      exact .inl ⟨some a, m, rfl, rfl⟩
    · obtain ⟨x0, hx0⟩ := each 0 hpos 0 hk
      have hlt := World.block_lt_of_cell? W _ hx0
      rw [Nat.zero_mul, add_zero', add_zero'] at hx0
      have hsp := spot_of hx0
      obtain ⟨b, off, sp⟩ := a
      dsimp only at hsp
      subst hsp
      have hlt' : b < W.heap.size := World.block_lt_of_cell? W _ hx0
      refine .inr ⟨b, off, m, rfl, hlt', fun i hi2 j hj => ?_⟩
      obtain ⟨x, hx⟩ := each i (by omega) j hj
      have e1 : ((⟨b, off, none⟩ : Addr).add (i * k)).add j = ⟨b, off + i * k + j, none⟩ := by rw [add_at, add_at]
      rw [e1] at hx
      show W.cell? ⟨b, off + i * k + j, none⟩ = some (.int .i64 (intOf ((W.cell? ⟨b, off + i * k + j, none⟩).getD undef)))
      rw [hx]; rfl
theorem cells_slice {v : Value} {a : Option Addr} {n c : Nat} (hs : ∃ a n c, v = .slice a n c) (h : v.cells.toList = [.slice a n c]) : v = .slice a n c := by
  obtain ⟨a', n', c', rfl⟩ := hs
  simpa [Value.cells] using h
end Go.Gen
namespace Go.Proofs.YtppefjmllebacaaGreatDoor
open Go.ChangeShapes Go.WideShapes Go.ChangeAt Go.RowKit Go.Deep Go.Gen
theorem ints_int : IntsOf Tryz.prog 3 1 := IntsOf.int (by kernel_rfl) Tryz.underlying3
theorem ints_span : IntsOf Tryz.prog 24 2 := IntsOf.struct (by kernel_rfl) Tryz.underlying24 fun j hj => by
  match j, hj with
  | 0, _ => exact ⟨0, _, 1, rfl, by decide, by decide, by decide, ints_int⟩
  | 1, _ => exact ⟨1, _, 1, rfl, by decide, by decide, by decide, ints_int⟩
theorem ints_DrillPoint : IntsOf Tryz.prog 52 2 := IntsOf.struct (by kernel_rfl) Tryz.underlying52 fun j hj => by
  match j, hj with
  | 0, _ => exact ⟨0, _, 1, rfl, by decide, by decide, by decide, ints_int⟩
  | 1, _ => exact ⟨1, _, 1, rfl, by decide, by decide, by decide, ints_int⟩
theorem ints_DrillReading : IntsOf Tryz.prog 90 4 := IntsOf.struct (by kernel_rfl) Tryz.underlying90 fun j hj => by
  match j, hj with
  | 0, _ => exact ⟨0, _, 1, rfl, by decide, by decide, by decide, ints_int⟩
  | 1, _ => exact ⟨1, _, 1, rfl, by decide, by decide, by decide, ints_int⟩
  | 2, _ => exact ⟨2, _, 1, rfl, by decide, by decide, by decide, ints_int⟩
  | 3, _ => exact ⟨3, _, 1, rfl, by decide, by decide, by decide, ints_int⟩
theorem cons_of {α : Type} : ∀ {l : List α} {k : Nat}, l.length = k + 1 → ∃ u l', l = u :: l' ∧ l'.length = k
  | u :: l, k, h => ⟨u, l, rfl, by simpa using h⟩
theorem some_at {α : Type} {l : List α} {n i : Nat} (h : l.length = n) (hi : i < n) : ∃ y, l[i]? = some y := ⟨l[i]'(by omega), List.getElem?_eq_getElem (by omega)⟩
set_option maxRecDepth 100000 in
theorem open_pts {H : Type} {enc : TypeId × Value → H} {W : World} {base : Nat} {v : Value} {d : DataW H} {p : List MemPlace} (hval : Value.okWide Tryz.prog W .any base 22 v) (h0 : DataW.Trod enc Tryz.prog W 0 (fun _ => true) true 22 v d p) :
    ∃ (a : Option Addr) (n c : Nat) (F : Nat → Nat → Int), v = .slice a n c ∧ n ≤ 9223372036854775807 ∧ n ≤ c ∧ KSl 2 W (.slice a n c) n F := by
  obtain ⟨fuel, hf⟩ := h0
  obtain ⟨a, n, c, F, h1, h2, h3, h4⟩ := ksl_trod Tryz.underlying22 ints_DrillPoint (by decide) hf
  exact ⟨a, n, c, F, cells_slice (okWide_slice Tryz.underlying22 hval) h1, h2, h3, h4⟩
set_option maxRecDepth 100000 in
theorem open_ints {H : Type} {enc : TypeId × Value → H} {W : World} {base : Nat} {v : Value} {d : DataW H} {p : List MemPlace} (hval : Value.okWide Tryz.prog W .any base 28 v) (h0 : DataW.Trod enc Tryz.prog W 0 (fun _ => true) true 28 v d p) :
    ∃ (a : Option Addr) (n c : Nat) (F : Nat → Nat → Int), v = .slice a n c ∧ n ≤ 9223372036854775807 ∧ n ≤ c ∧ KSl 1 W (.slice a n c) n F := by
  obtain ⟨fuel, hf⟩ := h0
  obtain ⟨a, n, c, F, h1, h2, h3, h4⟩ := ksl_trod Tryz.underlying28 ints_int (by decide) hf
  exact ⟨a, n, c, F, cells_slice (okWide_slice Tryz.underlying28 hval) h1, h2, h3, h4⟩
set_option maxRecDepth 100000 in
set_option maxHeartbeats 1000000 in
theorem open_mach {H : Type} {enc : TypeId × Value → H} {W : World} {base : Nat} {v : Value} {d : DataW H} {p : List MemPlace} (hval : Value.okWide Tryz.prog W .any base 27 v) (h0 : DataW.Trod enc Tryz.prog W 0 (fun _ => true) true 27 v d p) :
    ∃ (a0 : Option Addr) (n0 c0 : Nat) (F0 : Nat → Nat → Int) (x1 z1 : Int) (x2 z2 : Int) (x3 z3 : Int) (x4 z4 : Int) (a5 : Option Addr) (n5 c5 : Nat) (F5 : Nat → Nat → Int), v = .agg #[.slice a0 n0 c0, .int .i64 x1, .int .i64 z1, .int .i64 x2, .int .i64 z2, .int .i64 x3, .int .i64 z3, .int .i64 x4, .int .i64 z4, .slice a5 n5 c5] ∧ (n0 ≤ 9223372036854775807 ∧ n0 ≤ c0 ∧ KSl 2 W (.slice a0 n0 c0) n0 F0) ∧ (n5 ≤ 9223372036854775807 ∧ n5 ≤ c5 ∧ KSl 4 W (.slice a5 n5 c5) n5 F5) := by
  obtain ⟨cs, rfl, hsz⟩ := okWide_struct Tryz.underlying27 hval
  obtain ⟨fuel, hf⟩ := h0
  rw [show Tryz.prog.cellsOf 27 = 10 from by kernel_rfl] at hsz
  obtain ⟨ys, n2, _, _, _, hyl, hff⟩ := DataW.trod_struct Tryz.underlying27 hf
  obtain ⟨l0⟩ := cs
  have g0 : l0.length = 10 := by simpa using hsz
  obtain ⟨u0, l1', rfl, g1⟩ := cons_of g0
  obtain ⟨u1, l2', rfl, g2⟩ := cons_of g1
  obtain ⟨u2, l3', rfl, g3⟩ := cons_of g2
  obtain ⟨u3, l4', rfl, g4⟩ := cons_of g3
  obtain ⟨u4, l5', rfl, g5⟩ := cons_of g4
  obtain ⟨u5, l6', rfl, g6⟩ := cons_of g5
  obtain ⟨u6, l7', rfl, g7⟩ := cons_of g6
  obtain ⟨u7, l8', rfl, g8⟩ := cons_of g7
  obtain ⟨u8, l9', rfl, g9⟩ := cons_of g8
  obtain ⟨u9, l10', rfl, g10⟩ := cons_of g9
  obtain rfl := List.eq_nil_of_length_eq_zero g10
  have hyl : ys.length = 6 := hyl
  clear hsz hval hf
  have k0 : DataW.trod enc Tryz.prog W 0 (fun _ => true) true n2 22 (([u0, u1, u2, u3, u4, u5, u6, u7, u8, u9].drop 0).take (Tryz.prog.cellsOf 22)) = ys[0]? := hff 0 _ rfl
  rw [show Tryz.prog.cellsOf 22 = 1 from by kernel_rfl] at k0
  obtain ⟨y0, hy0⟩ := some_at (i := 0) hyl (by decide)
  have k1 : DataW.trod enc Tryz.prog W 0 (fun _ => true) true n2 24 (([u0, u1, u2, u3, u4, u5, u6, u7, u8, u9].drop 1).take (Tryz.prog.cellsOf 24)) = ys[1]? := hff 1 _ rfl
  rw [show Tryz.prog.cellsOf 24 = 2 from by kernel_rfl] at k1
  obtain ⟨y1, hy1⟩ := some_at (i := 1) hyl (by decide)
  have k2 : DataW.trod enc Tryz.prog W 0 (fun _ => true) true n2 24 (([u0, u1, u2, u3, u4, u5, u6, u7, u8, u9].drop 3).take (Tryz.prog.cellsOf 24)) = ys[2]? := hff 2 _ rfl
  rw [show Tryz.prog.cellsOf 24 = 2 from by kernel_rfl] at k2
  obtain ⟨y2, hy2⟩ := some_at (i := 2) hyl (by decide)
  have k3 : DataW.trod enc Tryz.prog W 0 (fun _ => true) true n2 24 (([u0, u1, u2, u3, u4, u5, u6, u7, u8, u9].drop 5).take (Tryz.prog.cellsOf 24)) = ys[3]? := hff 3 _ rfl
  rw [show Tryz.prog.cellsOf 24 = 2 from by kernel_rfl] at k3
  obtain ⟨y3, hy3⟩ := some_at (i := 3) hyl (by decide)
  have k4 : DataW.trod enc Tryz.prog W 0 (fun _ => true) true n2 24 (([u0, u1, u2, u3, u4, u5, u6, u7, u8, u9].drop 7).take (Tryz.prog.cellsOf 24)) = ys[4]? := hff 4 _ rfl
  rw [show Tryz.prog.cellsOf 24 = 2 from by kernel_rfl] at k4
  obtain ⟨y4, hy4⟩ := some_at (i := 4) hyl (by decide)
  have k5 : DataW.trod enc Tryz.prog W 0 (fun _ => true) true n2 25 (([u0, u1, u2, u3, u4, u5, u6, u7, u8, u9].drop 9).take (Tryz.prog.cellsOf 25)) = ys[5]? := hff 5 _ rfl
  rw [show Tryz.prog.cellsOf 25 = 1 from by kernel_rfl] at k5
  obtain ⟨y5, hy5⟩ := some_at (i := 5) hyl (by decide)
  obtain ⟨a0, n0, c0, F0, e0, m0, l0, s0⟩ := ksl_trod Tryz.underlying22 ints_DrillPoint (by decide) (k0.trans hy0)
  have e0 : [u0] = [Value.slice a0 n0 c0] := e0
  obtain rfl : u0 = Value.slice a0 n0 c0 := (List.cons.inj e0).1
  obtain ⟨x1, e1⟩ := ints_span.2 _ _ _ (k1.trans hy1) rfl 0 (by decide)
  obtain ⟨z1, g1⟩ := ints_span.2 _ _ _ (k1.trans hy1) rfl 1 (by decide)
  have e1 : some u1 = some (Value.int .i64 x1) := e1
  have g1 : some u2 = some (Value.int .i64 z1) := g1
  obtain rfl : u1 = Value.int .i64 x1 := Option.some.inj e1
  obtain rfl : u2 = Value.int .i64 z1 := Option.some.inj g1
  obtain ⟨x2, e2⟩ := ints_span.2 _ _ _ (k2.trans hy2) rfl 0 (by decide)
  obtain ⟨z2, g2⟩ := ints_span.2 _ _ _ (k2.trans hy2) rfl 1 (by decide)
  have e2 : some u3 = some (Value.int .i64 x2) := e2
  have g2 : some u4 = some (Value.int .i64 z2) := g2
  obtain rfl : u3 = Value.int .i64 x2 := Option.some.inj e2
  obtain rfl : u4 = Value.int .i64 z2 := Option.some.inj g2
  obtain ⟨x3, e3⟩ := ints_span.2 _ _ _ (k3.trans hy3) rfl 0 (by decide)
  obtain ⟨z3, g3⟩ := ints_span.2 _ _ _ (k3.trans hy3) rfl 1 (by decide)
  have e3 : some u5 = some (Value.int .i64 x3) := e3
  have g3 : some u6 = some (Value.int .i64 z3) := g3
  obtain rfl : u5 = Value.int .i64 x3 := Option.some.inj e3
  obtain rfl : u6 = Value.int .i64 z3 := Option.some.inj g3
  obtain ⟨x4, e4⟩ := ints_span.2 _ _ _ (k4.trans hy4) rfl 0 (by decide)
  obtain ⟨z4, g4⟩ := ints_span.2 _ _ _ (k4.trans hy4) rfl 1 (by decide)
  have e4 : some u7 = some (Value.int .i64 x4) := e4
  have g4 : some u8 = some (Value.int .i64 z4) := g4
  obtain rfl : u7 = Value.int .i64 x4 := Option.some.inj e4
  obtain rfl : u8 = Value.int .i64 z4 := Option.some.inj g4
  obtain ⟨a5, n5, c5, F5, e5, m5, l5, s5⟩ := ksl_trod Tryz.underlying25 ints_DrillReading (by decide) (k5.trans hy5)
  have e5 : [u9] = [Value.slice a5 n5 c5] := e5
  obtain rfl : u9 = Value.slice a5 n5 c5 := (List.cons.inj e5).1
  exact ⟨a0, n0, c0, F0, x1, z1, x2, z2, x3, z3, x4, z4, a5, n5, c5, F5, rfl, ⟨m0, l0, s0⟩, ⟨m5, l5, s5⟩⟩
set_option maxRecDepth 100000 in
set_option maxHeartbeats 1000000 in
theorem open_truth {H : Type} {enc : TypeId × Value → H} {W : World} {base : Nat} {v : Value} {d : DataW H} {p : List MemPlace} (hval : Value.okWide Tryz.prog W .any base 30 v) (h0 : DataW.Trod enc Tryz.prog W 0 (fun _ => true) true 30 v d p) :
    ∃ (a0 : Option Addr) (n0 c0 : Nat) (F0 : Nat → Nat → Int) (a1 : Option Addr) (n1 c1 : Nat) (F1 : Nat → Nat → Int), v = .agg #[.slice a0 n0 c0, .slice a1 n1 c1] ∧ (n0 ≤ 9223372036854775807 ∧ n0 ≤ c0 ∧ KSl 1 W (.slice a0 n0 c0) n0 F0) ∧ (n1 ≤ 9223372036854775807 ∧ n1 ≤ c1 ∧ KSl 1 W (.slice a1 n1 c1) n1 F1) := by
  obtain ⟨cs, rfl, hsz⟩ := okWide_struct Tryz.underlying30 hval
  obtain ⟨fuel, hf⟩ := h0
  rw [show Tryz.prog.cellsOf 30 = 2 from by kernel_rfl] at hsz
  obtain ⟨ys, n2, _, _, _, hyl, hff⟩ := DataW.trod_struct Tryz.underlying30 hf
  obtain ⟨l0⟩ := cs
  have g0 : l0.length = 2 := by simpa using hsz
  obtain ⟨u0, l1', rfl, g1⟩ := cons_of g0
  obtain ⟨u1, l2', rfl, g2⟩ := cons_of g1
  obtain rfl := List.eq_nil_of_length_eq_zero g2
  have hyl : ys.length = 2 := hyl
  clear hsz hval hf
  have k0 : DataW.trod enc Tryz.prog W 0 (fun _ => true) true n2 28 (([u0, u1].drop 0).take (Tryz.prog.cellsOf 28)) = ys[0]? := hff 0 _ rfl
  rw [show Tryz.prog.cellsOf 28 = 1 from by kernel_rfl] at k0
  obtain ⟨y0, hy0⟩ := some_at (i := 0) hyl (by decide)
  have k1 : DataW.trod enc Tryz.prog W 0 (fun _ => true) true n2 28 (([u0, u1].drop 1).take (Tryz.prog.cellsOf 28)) = ys[1]? := hff 1 _ rfl
  rw [show Tryz.prog.cellsOf 28 = 1 from by kernel_rfl] at k1
  obtain ⟨y1, hy1⟩ := some_at (i := 1) hyl (by decide)
  obtain ⟨a0, n0, c0, F0, e0, m0, l0, s0⟩ := ksl_trod Tryz.underlying28 ints_int (by decide) (k0.trans hy0)
  have e0 : [u0] = [Value.slice a0 n0 c0] := e0
  obtain rfl : u0 = Value.slice a0 n0 c0 := (List.cons.inj e0).1
  obtain ⟨a1, n1, c1, F1, e1, m1, l1, s1⟩ := ksl_trod Tryz.underlying28 ints_int (by decide) (k1.trans hy1)
  have e1 : [u1] = [Value.slice a1 n1 c1] := e1
  obtain rfl : u1 = Value.slice a1 n1 c1 := (List.cons.inj e1).1
  exact ⟨a0, n0, c0, F0, a1, n1, c1, F1, rfl, ⟨m0, l0, s0⟩, ⟨m1, l1, s1⟩⟩
set_option maxRecDepth 100000 in
set_option maxHeartbeats 1000000 in
theorem open_meas {H : Type} {enc : TypeId × Value → H} {W : World} {base : Nat} {v : Value} {d : DataW H} {p : List MemPlace} (hval : Value.okWide Tryz.prog W .any base 57 v) (h0 : DataW.Trod enc Tryz.prog W 0 (fun _ => true) true 57 v d p) :
    ∃ (a0 : Option Addr) (n0 c0 : Nat) (F0 : Nat → Nat → Int) (x1 : Int), v = .agg #[.slice a0 n0 c0, .int .i64 x1] ∧ (n0 ≤ 9223372036854775807 ∧ n0 ≤ c0 ∧ KSl 2 W (.slice a0 n0 c0) n0 F0) := by
  obtain ⟨cs, rfl, hsz⟩ := okWide_struct Tryz.underlying57 hval
  obtain ⟨fuel, hf⟩ := h0
  rw [show Tryz.prog.cellsOf 57 = 2 from by kernel_rfl] at hsz
  obtain ⟨ys, n2, _, _, _, hyl, hff⟩ := DataW.trod_struct Tryz.underlying57 hf
  obtain ⟨l0⟩ := cs
  have g0 : l0.length = 2 := by simpa using hsz
  obtain ⟨u0, l1', rfl, g1⟩ := cons_of g0
  obtain ⟨u1, l2', rfl, g2⟩ := cons_of g1
  obtain rfl := List.eq_nil_of_length_eq_zero g2
  have hyl : ys.length = 2 := hyl
  clear hsz hval hf
  have k0 : DataW.trod enc Tryz.prog W 0 (fun _ => true) true n2 22 (([u0, u1].drop 0).take (Tryz.prog.cellsOf 22)) = ys[0]? := hff 0 _ rfl
  rw [show Tryz.prog.cellsOf 22 = 1 from by kernel_rfl] at k0
  obtain ⟨y0, hy0⟩ := some_at (i := 0) hyl (by decide)
  have k1 : DataW.trod enc Tryz.prog W 0 (fun _ => true) true n2 3 (([u0, u1].drop 1).take (Tryz.prog.cellsOf 3)) = ys[1]? := hff 1 _ rfl
  rw [show Tryz.prog.cellsOf 3 = 1 from by kernel_rfl] at k1
  obtain ⟨y1, hy1⟩ := some_at (i := 1) hyl (by decide)
  obtain ⟨a0, n0, c0, F0, e0, m0, l0, s0⟩ := ksl_trod Tryz.underlying22 ints_DrillPoint (by decide) (k0.trans hy0)
  have e0 : [u0] = [Value.slice a0 n0 c0] := e0
  obtain rfl : u0 = Value.slice a0 n0 c0 := (List.cons.inj e0).1
  obtain ⟨x1, e1, _⟩ := DataW.trod_int Tryz.underlying3 (k1.trans hy1)
  have e1 : [u1] = [Value.int .i64 x1] := e1
  obtain rfl : u1 = Value.int .i64 x1 := (List.cons.inj e1).1
  exact ⟨a0, n0, c0, F0, x1, rfl, ⟨m0, l0, s0⟩⟩
end Go.Proofs.YtppefjmllebacaaGreatDoor
namespace Go.Proofs.YtppefjmllebacaaGreatDoor
open Go.RowKit Go.Gen
theorem psl_of_k {w : World} {a : Option Addr} {n c : Nat} {F : Nat → Nat → Int} (h : KSl 2 w (.slice a n c) n F) : PSl w (.slice a n c) n (fun i => F i 0) (fun i => F i 1) := by
  rcases h with ⟨a', c', h1, h2⟩ | ⟨b, off, cap, h1, h2, h3⟩
  · exact .inl ⟨a', c', h1, h2⟩
  · exact .inr ⟨b, off, cap, h1, h2, fun i hi => ⟨h3 i hi 0 (by omega), h3 i hi 1 (by omega)⟩⟩
theorem rsl_of_k {w : World} {a : Option Addr} {n c : Nat} {F : Nat → Nat → Int} (h : KSl 4 w (.slice a n c) n F) : RSl w (.slice a n c) n (fun i => F i 0) (fun i => F i 1) (fun i => F i 2) (fun i => F i 3) := by
  rcases h with ⟨a', c', h1, h2⟩ | ⟨b, off, cap, h1, h2, h3⟩
  · exact .inl ⟨a', c', h1, h2⟩
  · exact .inr ⟨b, off, cap, h1, h2, fun i hi => ⟨h3 i hi 0 (by omega), h3 i hi 1 (by omega), h3 i hi 2 (by omega), h3 i hi 3 (by omega)⟩⟩
theorem isl_of_k {w : World} {a : Option Addr} {n c : Nat} {F : Nat → Nat → Int} (h : KSl 1 w (.slice a n c) n F) : IntsSl w (.slice a n c) n (fun i => F i 0) := by
  rcases h with ⟨a', c', h1, h2⟩ | ⟨b, off, cap, h1, h2, h3⟩
  · exact .inl ⟨a', c', h1, h2⟩
  · exact .inr ⟨b, off, cap, h1, h2, fun i hi => by have := h3 i hi 0 (by omega); rw [Nat.mul_one] at this; exact this⟩
/-- a machine out of a row's reading. -/
@[reducible] def machK (sa : Option Addr) (sn sc : Nat) (S : Nat → Nat → Int) (c0 c1 d0 d1 w0 w1 v0 v1 : Int) (ra : Option Addr) (rn rc : Nat) (R : Nat → Nat → Int) : Mach :=
  ⟨sa, sn, sc, fun i => S i 0, fun i => S i 1, c0, c1, d0, d1, w0, w1, v0, v1, ra, rn, rc, fun i => R i 0, fun i => R i 1, fun i => R i 2, fun i => R i 3⟩
theorem min_of_k {w : World} {sa : Option Addr} {sn sc : Nat} {S : Nat → Nat → Int} {c0 c1 d0 d1 w0 w1 v0 v1 : Int} {ra : Option Addr} {rn rc : Nat} {R : Nat → Nat → Int} (h1 : KSl 2 w (.slice sa sn sc) sn S) (h2 : KSl 4 w (.slice ra rn rc) rn R) : MIn w (machK sa sn sc S c0 c1 d0 d1 w0 w1 v0 v1 ra rn rc R) := ⟨psl_of_k h1, rsl_of_k h2⟩
end Go.Proofs.YtppefjmllebacaaGreatDoor
