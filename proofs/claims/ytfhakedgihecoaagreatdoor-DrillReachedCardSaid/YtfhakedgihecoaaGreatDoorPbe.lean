/- A part of the proof: see the last file. -/
import Derived.Test.YtfhakedgihecoaaGreatDoorPat
import Derived.Test.YtfhakedgihecoaaGreatDoorPau
import Derived.Test.YtfhakedgihecoaaGreatDoorPav
import Derived.Test.YtfhakedgihecoaaGreatDoorPaw
import Derived.Test.YtfhakedgihecoaaGreatDoorPax
import Derived.Test.YtfhakedgihecoaaGreatDoorPay
import Derived.Test.YtfhakedgihecoaaGreatDoorPaz
import Derived.Test.YtfhakedgihecoaaGreatDoorPba
import Derived.Test.YtfhakedgihecoaaGreatDoorPbb
import Derived.Test.YtfhakedgihecoaaGreatDoorPbc
import Derived.Test.YtfhakedgihecoaaGreatDoorPbd
import Derived.Test.YtfhakedgihecoaaGreatDoorPak
import Derived.Test.YtfhakedgihecoaaGreatDoorPan
set_option linter.unusedVariables false
set_option linter.unusedSimpArgs false
set_option linter.unusedSectionVars false
namespace Go.Proofs.YtfhakedgihecoaaGreatDoor
open Go Go.Proofs Go.Can Go.RowKit
/-- the package-level variables hold what the text lays -/
structure KG (w : World) : Prop where
  g0 : ∃ e f, w.heap[3]? = some (.cells cells0.toArray e f)
  g1 : ∃ e f, w.heap[4]? = some (.cells cells1.toArray e f)
  g2 : ∃ e f, w.heap[2]? = some (.cells cells2.toArray e f)
  g3 : ∃ e f, w.heap[0]? = some (.cells cells3.toArray e f)
theorem KG.below {w w' : World} (h : KG w) (hb : Below w.heap.size w w') : KG w' := by
  have lt : ∀ {i : Nat} {o : Obj}, w.heap[i]? = some o → i < w.heap.size := fun h => (Array.getElem?_eq_some_iff.1 h).1
  obtain ⟨⟨e0, f0, h0⟩, ⟨e1, f1, h1⟩, ⟨e2, f2, h2⟩, ⟨e3, f3, h3⟩⟩ := h
  exact ⟨⟨e0, f0, by rw [hb.block _ (lt h0)]; exact h0⟩, ⟨e1, f1, by rw [hb.block _ (lt h1)]; exact h1⟩, ⟨e2, f2, by rw [hb.block _ (lt h2)]; exact h2⟩, ⟨e3, f3, by rw [hb.block _ (lt h3)]; exact h3⟩⟩
theorem KG.num {w : World} (h : KG w) : Glob.num ≤ w.heap.size := by
  obtain ⟨⟨e0, f0, h0⟩, ⟨e1, f1, h1⟩, ⟨e2, f2, h2⟩, ⟨e3, f3, h3⟩⟩ := h
  exact (Array.getElem?_eq_some_iff.1 h1).1
theorem known_ok (w : World) (h : KG w) : Calls Tryz.prog 9 #[] w fun e w' => e = .returned (.bool true) ∧ Below w.heap.size w w' := by
  have hn := h.num
  obtain ⟨⟨e0, f0, h0⟩, ⟨e1, f1, h1⟩, ⟨e2, f2, h2⟩, ⟨e3, f3, h3⟩⟩ := h
  refine runsM_true fair (ms := [memoF0, memoF1, memoF2, memoF3, memoF4, memoF5, memoF6, memoF7, memoF8, memoJ0]) (fun m hm => ?_) (known_run e0 e1 e2 e3 f0 f1 f2 f3) w ⟨hn, fun g o hg => ?_⟩
  · simp only [List.mem_cons, List.not_mem_nil, or_false] at hm
    rcases hm with rfl | rfl | rfl | rfl | rfl | rfl | rfl | rfl | rfl | rfl
    · exact memoF0_ok
    · exact memoF1_ok
    · exact memoF2_ok
    · exact memoF3_ok
    · exact memoF4_ok
    · exact memoF5_ok
    · exact memoF6_ok
    · exact memoF7_ok
    · exact memoF8_ok
    · exact memoJ0_ok
  · simp only [List.mem_cons, List.not_mem_nil, or_false, Prod.mk.injEq] at hg
    rcases hg with ⟨rfl, rfl⟩ | ⟨rfl, rfl⟩ | ⟨rfl, rfl⟩ | ⟨rfl, rfl⟩
    · exact ⟨_, h0, .plain (by kernel_rfl)⟩
    · exact ⟨_, h1, .plain (by kernel_rfl)⟩
    · exact ⟨_, h2, .plain (by kernel_rfl)⟩
    · exact ⟨_, h3, .plain (by kernel_rfl)⟩
end Go.Proofs.YtfhakedgihecoaaGreatDoor
namespace Go.Proofs.YtfhakedgihecoaaGreatDoor
open Go.RowKit
set_option maxRecDepth 100000 in
set_option maxHeartbeats 1000000 in
theorem slim_any (m : Mach) (w : World) (hs : m.sn ≤ 9223372036854775807) (hr : m.rn ≤ 9223372036854775807) :
    Calls Tryz.prog 7 #[m.val] w fun e w' => e = .returned (.bool (decide (m.sn ≤ 6) && decide (m.rn ≤ 6))) ∧ Below w.heap.size w w' := by
  obtain ⟨W0, hW⟩ : ∃ W0, w.alloc (.cells #[.slice m.sa m.sn m.sc, .int .i64 m.c0, .int .i64 m.c1, .int .i64 m.d0, .int .i64 m.d1, .int .i64 m.w0, .int .i64 m.w1, .int .i64 m.v0, .int .i64 m.v1, .slice m.ra m.rn m.rc] 27) = W0 := ⟨_, rfl⟩
  have hb0 : Below w.heap.size w W0 := by rw [← hW]; exact (Below.refl _ _).alloc (Nat.le_refl _) _
  have hMB : MAt W0 w.heap.size m := by rw [← hW]; exact MAt.new w m
  obtain ⟨q0, q1, q2, q3, q4, q5, q6, q7, q8, q9⟩ := hMB
  by_cases h1 : m.sn ≤ 6
  · have h1' : (m.sn : Int) ≤ 6 := by omega
    by_cases h2 : m.rn ≤ 6
    · have h2' : (m.rn : Int) ≤ 6 := by omega
      go_enter Tryz.func7, Tryz.ntmps7
      go_wp2
      go_ret
      exact ⟨ret_bool (by simp [h1, h2, h1', h2']), hb0⟩
    · have h2' : ¬ (m.rn : Int) ≤ 6 := by omega
      go_enter Tryz.func7, Tryz.ntmps7
      go_wp2
      go_ret
      exact ⟨ret_bool (by simp [h1, h2, h1', h2']), hb0⟩
  · have h1' : ¬ (m.sn : Int) ≤ 6 := by omega
    go_enter Tryz.func7, Tryz.ntmps7
    go_wp2
    go_ret
    exact ⟨ret_bool (by simp [h1, h1']), hb0⟩
set_option maxRecDepth 100000 in
set_option maxHeartbeats 1000000 in
theorem brief_any (a1 : Option Addr) (n1 c1 : Nat) (a2 : Option Addr) (n2 c2 : Nat) (w : World) (h1 : n1 ≤ 9223372036854775807) (h2 : n2 ≤ 9223372036854775807) :
    Calls Tryz.prog 8 #[.agg #[.slice a1 n1 c1, .slice a2 n2 c2]] w fun e w' => e = .returned (.bool (decide (n1 ≤ 15) && decide (n2 ≤ 15))) ∧ Below w.heap.size w w' := by
  obtain ⟨W0, hW⟩ : ∃ W0, w.alloc (.cells #[.slice a1 n1 c1, .slice a2 n2 c2] 30) = W0 := ⟨_, rfl⟩
  have hw0 : Below w.heap.size w W0 := by rw [← hW]; exact (Below.refl _ _).alloc (Nat.le_refl _) _
  have k0 : W0.cell? ⟨w.heap.size, 0, none⟩ = some (.slice a1 n1 c1) := by rw [← hW]; exact cells_new w _ _ rfl
  have k1 : W0.cell? ⟨w.heap.size, 1, none⟩ = some (.slice a2 n2 c2) := by rw [← hW]; exact cells_new w _ _ rfl
  by_cases h1 : n1 ≤ 15
  · have h1' : (n1 : Int) ≤ 15 := by omega
    by_cases h2 : n2 ≤ 15
    · have h2' : (n2 : Int) ≤ 15 := by omega
      go_enter Tryz.func8, Tryz.ntmps8
      go_wp2
      go_ret
      exact ⟨ret_bool (by simp [h1, h2, h1', h2']), hw0⟩
    · have h2' : ¬ (n2 : Int) ≤ 15 := by omega
      go_enter Tryz.func8, Tryz.ntmps8
      go_wp2
      go_ret
      exact ⟨ret_bool (by simp [h1, h2, h1', h2']), hw0⟩
  · have h1' : ¬ (n1 : Int) ≤ 15 := by omega
    go_enter Tryz.func8, Tryz.ntmps8
    go_wp2
    go_ret
    exact ⟨ret_bool (by simp [h1, h1']), hw0⟩
/-- a point of the law. -/
theorem lat_any (x y : Int) (w : World) : Calls Tryz.prog 22 #[.int .i64 x, .int .i64 y] w fun e w' => e = .returned (.agg #[.int .i64 x, .int .i64 y]) ∧ Below w.heap.size w w' := by
  go_enter Tryz.func22, Tryz.ntmps22
  go_wp2
  refine bodyPost_ret (v := .agg #[.int .i64 x, .int .i64 y]) (by simp [results, Tryz.results22, go_sem]) rfl ⟨rfl, ?_⟩
  exact (Below.refl _ _).alloc (Nat.le_refl _) _
/-! ### what Known and Machine answer, in one form -/
theorem Able.er_ok {m : Mach} {fine : Bool} {er : Int} (h : Able m fine er) : er = 0 ∨ er = 2 ∨ er = 7 := by
  cases hf : (m.ok && fine) with
  | false => exact .inr (.inl (h.arg hf))
  | true => exact (Classical.em m.can).elim (fun hc => .inl (h.ok hf hc)) fun hc => .inr (.inr (h.rule hf hc))
end Go.Proofs.YtfhakedgihecoaaGreatDoor
namespace Go.Proofs.YtfhakedgihecoaaGreatDoor
open Go.RowKit Go.Can
/-- the blocks of a machine and a truth. -/
structure MX (w W : World) (m : Mach) (a1 : Option Addr) (n1 c1 : Nat) (a2 : Option Addr) (n2 c2 : Nat) : Prop where
  mach : MAt W w.heap.size m
  x0 : W.cell? ⟨w.heap.size + 1, 0, none⟩ = some (.slice a1 n1 c1)
  x1 : W.cell? ⟨w.heap.size + 1, 1, none⟩ = some (.slice a2 n2 c2)
  old : Below w.heap.size w W
  big : w.heap.size + 2 ≤ W.heap.size
theorem MX.new (w : World) (m : Mach) (a1 : Option Addr) (n1 c1 : Nat) (a2 : Option Addr) (n2 c2 : Nat) : MX w ((w.alloc (.cells #[.slice m.sa m.sn m.sc, .int .i64 m.c0, .int .i64 m.c1, .int .i64 m.d0, .int .i64 m.d1, .int .i64 m.w0, .int .i64 m.w1, .int .i64 m.v0, .int .i64 m.v1, .slice m.ra m.rn m.rc] 27)).alloc (.cells #[.slice a1 n1 c1, .slice a2 n2 c2] 30)) m a1 n1 c1 a2 n2 c2 := by
  refine ⟨(MAt.new w m).below ((Below.refl _ _).alloc (Nat.le_refl _) _) (by rw [World.size_alloc]; omega), ?_, ?_, ((Below.refl _ _).alloc (Nat.le_refl _) _).alloc (by rw [World.size_alloc]; omega) _, by rw [World.size_alloc, World.size_alloc]; omega⟩
  · have h := cells_new (w.alloc (.cells #[.slice m.sa m.sn m.sc, .int .i64 m.c0, .int .i64 m.c1, .int .i64 m.d0, .int .i64 m.d1, .int .i64 m.w0, .int .i64 m.w1, .int .i64 m.v0, .int .i64 m.v1, .slice m.ra m.rn m.rc] 27)) #[.slice a1 n1 c1, .slice a2 n2 c2] 30 (j := 0) rfl
    rw [World.size_alloc] at h; exact h
  · have h := cells_new (w.alloc (.cells #[.slice m.sa m.sn m.sc, .int .i64 m.c0, .int .i64 m.c1, .int .i64 m.d0, .int .i64 m.d1, .int .i64 m.w0, .int .i64 m.w1, .int .i64 m.v0, .int .i64 m.v1, .slice m.ra m.rn m.rc] 27)) #[.slice a1 n1 c1, .slice a2 n2 c2] 30 (j := 1) rfl
    rw [World.size_alloc] at h; exact h
theorem MX.below {w W W' : World} {m : Mach} {a1 : Option Addr} {n1 c1 : Nat} {a2 : Option Addr} {n2 c2 : Nat} (h : MX w W m a1 n1 c1 a2 n2 c2) (hb : Below W.heap.size W W') : MX w W' m a1 n1 c1 a2 n2 c2 :=
  have hg := h.big
  ⟨h.mach.below hb (by omega), (hb.cell (p := ⟨w.heap.size + 1, 0, none⟩) (by show w.heap.size + 1 < _; omega)).trans h.x0, (hb.cell (p := ⟨w.heap.size + 1, 1, none⟩) (by show w.heap.size + 1 < _; omega)).trans h.x1, h.old.trans (hb.mono h.old.size), Nat.le_trans h.big hb.size⟩
set_option maxRecDepth 100000 in
set_option maxHeartbeats 4000000 in
/-- long lists. -/
theorem true_long (m : Mach) (a1 : Option Addr) (n1 c1 : Nat) (a2 : Option Addr) (n2 c2 : Nat) (n : Int) (w : World) (hk : KG w) (hs : m.sn ≤ 9223372036854775807) (hr : m.rn ≤ 9223372036854775807) (h1 : n1 ≤ 9223372036854775807) (h2 : n2 ≤ 9223372036854775807) (hno : ((decide (m.sn ≤ 6) && decide (m.rn ≤ 6)) && (decide (n1 ≤ 15) && decide (n2 ≤ 15))) = false) :
    Calls Tryz.prog 5 #[m.val, .agg #[.slice a1 n1 c1, .slice a2 n2 c2], .int .i64 n] w fun e w' => e = .returned (.bool true) ∧ Below w.heap.size w w' := by
  obtain ⟨W0, hW⟩ : ∃ W0, (w.alloc (.cells #[.slice m.sa m.sn m.sc, .int .i64 m.c0, .int .i64 m.c1, .int .i64 m.d0, .int .i64 m.d1, .int .i64 m.w0, .int .i64 m.w1, .int .i64 m.v0, .int .i64 m.v1, .slice m.ra m.rn m.rc] 27)).alloc (.cells #[.slice a1 n1 c1, .slice a2 n2 c2] 30) = W0 := ⟨_, rfl⟩
  have hX : MX w W0 m a1 n1 c1 a2 n2 c2 := by rw [← hW]; exact MX.new w m a1 n1 c1 a2 n2 c2
  have hsl := fun (W : World) => slim_any m W hs hr
  have hbr := fun (W : World) => brief_any a1 n1 c1 a2 n2 c2 W h1 h2
  generalize (decide (m.sn ≤ 6) && decide (m.rn ≤ 6)) = s at *
  generalize (decide (n1 ≤ 15) && decide (n2 ≤ 15)) = b at *
  obtain ⟨⟨q0, q1, q2, q3, q4, q5, q6, q7, q8, q9⟩, x0, x1, _, _⟩ := id hX
  cases s <;> cases b
  all_goals first
    | exact absurd hno (by decide)
    | (go_enter Tryz.func5, Tryz.ntmps5
       go_wp2_with (first
         | (go_at_call 7; with_reducible refine (hsl _).mono ?_; rintro e w1 ⟨rfl, hb⟩; replace hX := hX.below hb; obtain ⟨⟨q0, q1, q2, q3, q4, q5, q6, q7, q8, q9⟩, x0, x1, _, _⟩ := id hX)
         | (go_at_call 8; with_reducible refine (hbr _).mono ?_; rintro e w1 ⟨rfl, hb⟩; replace hX := hX.below hb; obtain ⟨⟨q0, q1, q2, q3, q4, q5, q6, q7, q8, q9⟩, x0, x1, _, _⟩ := id hX)
         | (go_at_call 9; refine (known_ok _ (hk.below hX.old)).mono ?_; rintro e w1 ⟨rfl, hb⟩; replace hX := hX.below hb))
       go_ret
       exact ⟨rfl, hX.old⟩)
set_option maxRecDepth 100000 in
set_option maxHeartbeats 4000000 in
/-- not as defined. -/
theorem true_odd (m : Mach) (a1 : Option Addr) (n1 c1 : Nat) (a2 : Option Addr) (n2 c2 : Nat) (F G : Nat → Int) (n : Int) (w : World) (hk : KG w) (hs : m.sn ≤ 6) (hr : m.rn ≤ 6) (h1 : n1 ≤ 15) (h2 : n2 ≤ 15) (h : MIn w m) (hF : IntsSl w (.slice a1 n1 c1) n1 F) (hG : IntsSl w (.slice a2 n2 c2) n2 G) (hno : (m.ok && ((offB n1 F && offB n2 G) && inB n 0 12)) = false) :
    Calls Tryz.prog 5 #[m.val, .agg #[.slice a1 n1 c1, .slice a2 n2 c2], .int .i64 n] w fun e w' => e = .returned (.bool true) ∧ Below w.heap.size w w' := by
  obtain ⟨W0, hW⟩ : ∃ W0, (w.alloc (.cells #[.slice m.sa m.sn m.sc, .int .i64 m.c0, .int .i64 m.c1, .int .i64 m.d0, .int .i64 m.d1, .int .i64 m.w0, .int .i64 m.w1, .int .i64 m.v0, .int .i64 m.v1, .slice m.ra m.rn m.rc] 27)).alloc (.cells #[.slice a1 n1 c1, .slice a2 n2 c2] 30) = W0 := ⟨_, rfl⟩
  have hX : MX w W0 m a1 n1 c1 a2 n2 c2 := by rw [← hW]; exact MX.new w m a1 n1 c1 a2 n2 c2
  have hsl := fun (W : World) => slim_any m W (by omega) (by omega)
  have hbr := fun (W : World) => brief_any a1 n1 c1 a2 n2 c2 W (by omega) (by omega)
  rw [decide_eq_true hs, decide_eq_true hr, Bool.and_true] at hsl
  rw [decide_eq_true h1, decide_eq_true h2, Bool.and_true] at hbr
  have hma := fun (W : World) (hB : Below w.heap.size w W) => rmachine_any m W (by omega) (by omega) (h.below hB)
  have htr := fun (W : World) (hB : Below w.heap.size w W) => rtruth_any a1 n1 c1 a2 n2 c2 F G W (by omega) (by omega) (isl_below hF hB) (isl_below hG hB)
  have hbl := fun (W : World) => rblank_any n 0 W
  generalize m.ok = x1 at *
  generalize (offB n1 F && offB n2 G) = x2 at *
  generalize inB n 0 12 = x3 at *
  obtain ⟨⟨q0, q1, q2, q3, q4, q5, q6, q7, q8, q9⟩, y0, y1, _, _⟩ := id hX
  cases x1 <;> cases x2 <;> cases x3
  all_goals first
    | exact absurd hno (by decide)
    | (go_enter Tryz.func5, Tryz.ntmps5
       go_wp2_with (first
         | (go_at_call 7; with_reducible refine (hsl _).mono ?_; rintro e w1 ⟨rfl, hb⟩; replace hX := hX.below hb; obtain ⟨⟨q0, q1, q2, q3, q4, q5, q6, q7, q8, q9⟩, y0, y1, _, _⟩ := id hX)
         | (go_at_call 8; with_reducible refine (hbr _).mono ?_; rintro e w1 ⟨rfl, hb⟩; replace hX := hX.below hb; obtain ⟨⟨q0, q1, q2, q3, q4, q5, q6, q7, q8, q9⟩, y0, y1, _, _⟩ := id hX)
         | (go_at_call 14; with_reducible refine (hma _ hX.old).mono ?_; rintro e w1 ⟨rfl, hb⟩; replace hX := hX.below hb; obtain ⟨⟨q0, q1, q2, q3, q4, q5, q6, q7, q8, q9⟩, y0, y1, _, _⟩ := id hX)
         | (go_at_call 15; with_reducible refine (htr _ hX.old).mono ?_; rintro e w1 ⟨rfl, hb⟩; replace hX := hX.below hb; obtain ⟨⟨q0, q1, q2, q3, q4, q5, q6, q7, q8, q9⟩, y0, y1, _, _⟩ := id hX)
         | (go_at_call 17; with_reducible refine (hbl _).mono ?_; rintro e w1 ⟨rfl, rfl⟩)
         | (go_at_call 9; refine (known_ok _ (hk.below hX.old)).mono ?_; rintro e w1 ⟨rfl, hb⟩; replace hX := hX.below hb))
       go_ret
       exact ⟨rfl, hX.old⟩)
end Go.Proofs.YtfhakedgihecoaaGreatDoor
namespace Go.Proofs.YtfhakedgihecoaaGreatDoor
open Go.RowKit Go.Can
theorem MX.two {w W : World} {m : Mach} {a1 : Option Addr} {n1 c1 : Nat} {a2 : Option Addr} {n2 c2 : Nat} (h : MX w W m a1 n1 c1 a2 n2 c2) (o1 o2 : Obj) : MX w ((W.alloc o1).alloc o2) m a1 n1 c1 a2 n2 c2 :=
  (h.below ((Below.refl _ W).alloc (Nat.le_refl _) o1)).below ((Below.refl _ _).alloc (Nat.le_refl _) o2)
theorem hold_can {m : Mach} {F G : Nat → Int} (hok : m.ok = true) (h : (m.axX.holdB F && m.axY.holdB G) = true) : m.can := by
  rw [Bool.and_eq_true] at h
  exact ⟨Axis.can_of (Mach.fineX hok) (Axis.holdB_iff.1 h.1), Axis.can_of (Mach.fineY hok) (Axis.holdB_iff.1 h.2)⟩
set_option maxRecDepth 100000 in
set_option maxHeartbeats 4000000 in
/-- no truth: not possible, or not this one. -/
theorem true_none (m : Mach) (a1 : Option Addr) (n1 c1 : Nat) (a2 : Option Addr) (n2 c2 : Nat) (F G : Nat → Int) (n : Nat) (w : World) (hk : KG w) (hs : m.sn ≤ 6) (hr : m.rn ≤ 6) (h1 : n1 ≤ 15) (h2 : n2 ≤ 15) (hc1 : n1 ≤ c1) (hc2 : n2 ≤ c2) (h : MIn w m) (hF : IntsSl w (.slice a1 n1 c1) n1 F) (hG : IntsSl w (.slice a2 n2 c2) n2 G) (hok : m.ok = true) (ho1 : offB n1 F = true) (ho2 : offB n2 G = true) (hn : n ≤ 12) (hno : (m.axX.holdB F && m.axY.holdB G) = false) :
    Calls Tryz.prog 5 #[m.val, .agg #[.slice a1 n1 c1, .slice a2 n2 c2], .int .i64 n] w fun e w' => e = .returned (.bool true) ∧ Below w.heap.size w w' := by
  obtain ⟨W0, hW⟩ : ∃ W0, (w.alloc (.cells #[.slice m.sa m.sn m.sc, .int .i64 m.c0, .int .i64 m.c1, .int .i64 m.d0, .int .i64 m.d1, .int .i64 m.w0, .int .i64 m.w1, .int .i64 m.v0, .int .i64 m.v1, .slice m.ra m.rn m.rc] 27)).alloc (.cells #[.slice a1 n1 c1, .slice a2 n2 c2] 30) = W0 := ⟨_, rfl⟩
  have hX : MX w W0 m a1 n1 c1 a2 n2 c2 := by rw [← hW]; exact MX.new w m a1 n1 c1 a2 n2 c2
  have hsl := fun (W : World) => slim_any m W (by omega) (by omega)
  have hbr := fun (W : World) => brief_any a1 n1 c1 a2 n2 c2 W (by omega) (by omega)
  rw [decide_eq_true hs, decide_eq_true hr, Bool.and_true] at hsl
  rw [decide_eq_true h1, decide_eq_true h2, Bool.and_true] at hbr
  have hma := fun (W : World) (hB : Below w.heap.size w W) => rmachine_any m W (by omega) (by omega) (h.below hB)
  rw [hok] at hma
  have htr := fun (W : World) (hB : Below w.heap.size w W) => rtruth_any a1 n1 c1 a2 n2 c2 F G W (by omega) (by omega) (isl_below hF hB) (isl_below hG hB)
  rw [ho1, ho2, Bool.and_true] at htr
  have hbl := fun (W : World) => rblank_any (n : Int) 0 W
  rw [inB_yes (n := (n : Int)) (lo := 0) (hi := 12) (by omega) (by omega)] at hbl
  have hfi := fun (W : World) (hB : Below w.heap.size w W) => Fits_yes m a1 n1 c1 a2 n2 c2 F G W (by omega) (by omega) (h.below hB) (by omega) (by omega) (isl_below hF hB) (isl_below hG hB) hok ho1 ho2 hc1 hc2
  rw [hno] at hfi
  obtain ⟨er, x0, x1, z0, z1, hE, hkn⟩ : ∃ (er x0 x1 z0 z1 : Int), (er = 0 ∨ er = 7) ∧ ∀ W, Below w.heap.size w W → (Calls Tryz.prog 20 #[m.val, .int .i64 n] W fun e w' => e = .returned (.tuple #[.agg #[.int .i64 x0, .int .i64 x1], .agg #[.int .i64 z0, .int .i64 z1], .int .i64 er]) ∧ Below W.heap.size W w') ∧ Calls Tryz.prog 10 #[m.val] W fun e w' => e = .returned (.int .i64 er) ∧ Below W.heap.size W w' := by
    obtain ⟨er, hA, hM⟩ := Machine_any m w (by omega) (by omega) h
    by_cases hc : m.can
    · obtain rfl := hA.ok (by rw [hok]; rfl) hc
      exact ⟨0, _, _, _, _, .inl rfl, fun W hB => ⟨Known_ok m n hn W (by omega) (by omega) (h.below hB) hok hc, hM W hB⟩⟩
    · obtain rfl := hA.rule (by rw [hok]; rfl) hc
      have hA' : Able m (inB (n : Int) 0 12) 7 := by rw [inB_yes (n := (n : Int)) (lo := 0) (hi := 12) (by omega) (by omega)]; exact hA
      exact ⟨7, 0, 0, 0, 0, .inr rfl, fun W hB => ⟨Known_no m n 7 W (by omega) (by omega) (h.below hB) hA' (by decide), hM W hB⟩⟩
  obtain ⟨⟨q0, q1, q2, q3, q4, q5, q6, q7, q8, q9⟩, y0, y1, _, _⟩ := id hX
  rcases hE with rfl | rfl
  all_goals
    go_enter Tryz.func5, Tryz.ntmps5
    go_wp2_with (first
      | (go_at_call 7; with_reducible refine (hsl _).mono ?_; rintro e w1 ⟨rfl, hb⟩; replace hX := hX.below hb; obtain ⟨⟨q0, q1, q2, q3, q4, q5, q6, q7, q8, q9⟩, y0, y1, _, _⟩ := id hX)
      | (go_at_call 8; with_reducible refine (hbr _).mono ?_; rintro e w1 ⟨rfl, hb⟩; replace hX := hX.below hb; obtain ⟨⟨q0, q1, q2, q3, q4, q5, q6, q7, q8, q9⟩, y0, y1, _, _⟩ := id hX)
      | (go_at_call 14; with_reducible refine (hma _ hX.old).mono ?_; rintro e w1 ⟨rfl, hb⟩; replace hX := hX.below hb; obtain ⟨⟨q0, q1, q2, q3, q4, q5, q6, q7, q8, q9⟩, y0, y1, _, _⟩ := id hX)
      | (go_at_call 15; with_reducible refine (htr _ hX.old).mono ?_; rintro e w1 ⟨rfl, hb⟩; replace hX := hX.below hb; obtain ⟨⟨q0, q1, q2, q3, q4, q5, q6, q7, q8, q9⟩, y0, y1, _, _⟩ := id hX)
      | (go_at_call 17; with_reducible refine (hbl _).mono ?_; rintro e w1 ⟨rfl, rfl⟩)
      | (go_at_call 12; with_reducible refine (hfi _ hX.old).mono ?_; rintro e w1 ⟨rfl, hb⟩; replace hX := hX.below hb; obtain ⟨⟨q0, q1, q2, q3, q4, q5, q6, q7, q8, q9⟩, y0, y1, _, _⟩ := id hX)
      | (go_at_call 20; with_reducible refine (hkn _ hX.old).1.mono ?_; rintro e w1 ⟨rfl, hb⟩; replace hX := hX.below hb; have hY := hX.two; have q0 := fun o1 o2 => (hY o1 o2).mach.k0; have q1 := fun o1 o2 => (hY o1 o2).mach.k1; have q2 := fun o1 o2 => (hY o1 o2).mach.k2; have q3 := fun o1 o2 => (hY o1 o2).mach.k3; have q4 := fun o1 o2 => (hY o1 o2).mach.k4; have q5 := fun o1 o2 => (hY o1 o2).mach.k5; have q6 := fun o1 o2 => (hY o1 o2).mach.k6; have q7 := fun o1 o2 => (hY o1 o2).mach.k7; have q8 := fun o1 o2 => (hY o1 o2).mach.k8; have q9 := fun o1 o2 => (hY o1 o2).mach.k9; have y0 := fun o1 o2 => (hY o1 o2).x0; have y1 := fun o1 o2 => (hY o1 o2).x1)
      | (go_at_call 10; with_reducible refine (hkn _ (hY _ _).old).2.mono ?_; rintro e w1 ⟨rfl, hb⟩; replace hX := (hY _ _).below hb; obtain ⟨⟨q0, q1, q2, q3, q4, q5, q6, q7, q8, q9⟩, y0, y1, _, _⟩ := id hX)
      | (go_at_call 9; refine (known_ok _ (hk.below hX.old)).mono ?_; rintro e w1 ⟨rfl, hb⟩; replace hX := hX.below hb))
    go_ret
    exact ⟨rfl, hX.old⟩
end Go.Proofs.YtfhakedgihecoaaGreatDoor
