/- A part of the proof: see the last file. -/
import Derived.Test.YtppefjmllebacaaGreatDoorPau
import Derived.Test.YtppefjmllebacaaGreatDoorPav
import Derived.Test.YtppefjmllebacaaGreatDoorPaw
import Derived.Test.YtppefjmllebacaaGreatDoorPax
import Derived.Test.YtppefjmllebacaaGreatDoorPay
import Derived.Test.YtppefjmllebacaaGreatDoorPaz
import Derived.Test.YtppefjmllebacaaGreatDoorPba
import Derived.Test.YtppefjmllebacaaGreatDoorPbb
import Derived.Test.YtppefjmllebacaaGreatDoorPbc
import Derived.Test.YtppefjmllebacaaGreatDoorPbd
import Derived.Test.YtppefjmllebacaaGreatDoorPbe
import Derived.Test.YtppefjmllebacaaGreatDoorPam
import Derived.Test.YtppefjmllebacaaGreatDoorPao
set_option linter.unusedVariables false
set_option linter.unusedSimpArgs false
set_option linter.unusedSectionVars false
namespace Go.Proofs.YtppefjmllebacaaGreatDoor
open Go Go.Proofs Go.Can Go.RowKit
/-- the package-level variables hold what the text lays -/
structure KG (w : World) : Prop where
  g0 : ∃ e f, w.heap[3]? = some (.cells cells0.toArray e f)
  g1 : ∃ e f, w.heap[4]? = some (.cells cells1.toArray e f)
  g2 : ∃ e f, w.heap[2]? = some (.cells cells2.toArray e f)
  g3 : ∃ e f, w.heap[0]? = some (.cells cells3.toArray e f)
theorem KG.below {w w' : World} (h : KG w) (hb : Below w.heap.size w w') : KG w' := by
  have lt : ∀ {i : Nat} {o : Obj}, w.heap[i]? = some o → i < w.heap.size := fun h => (Array.getElem?_eq_some_iff.1 h).1
  obtain ⟨⟨e0, f0, h0⟩, ⟨e1, f1, h1⟩, ⟨e2, f2, h2⟩, ⟨e3, f3, h3⟩⟩ := h
  exact ⟨⟨e0, f0, by rw [hb.block _ (lt h0)]; exact h0⟩, ⟨e1, f1, by rw [hb.block _ (lt h1)]; exact h1⟩, ⟨e2, f2, by rw [hb.block _ (lt h2)]; exact h2⟩, ⟨e3, f3, by rw [hb.block _ (lt h3)]; exact h3⟩⟩
theorem KG.num {w : World} (h : KG w) : Glob.num ≤ w.heap.size := by
  obtain ⟨⟨e0, f0, h0⟩, ⟨e1, f1, h1⟩, ⟨e2, f2, h2⟩, ⟨e3, f3, h3⟩⟩ := h
  exact (Array.getElem?_eq_some_iff.1 h1).1
theorem known_ok (w : World) (h : KG w) : Calls Tryz.prog 7 #[] w fun e w' => e = .returned (.bool true) ∧ Below w.heap.size w w' := by
  have hn := h.num
  obtain ⟨⟨e0, f0, h0⟩, ⟨e1, f1, h1⟩, ⟨e2, f2, h2⟩, ⟨e3, f3, h3⟩⟩ := h
  refine runsM_true fair (ms := [memoF0, memoF1, memoF2, memoF3, memoF4, memoF5, memoF6, memoF7, memoF8, memoJ0]) (fun m hm => ?_) (known_run e0 e1 e2 e3 f0 f1 f2 f3) w ⟨hn, fun g o hg => ?_⟩
  · simp only [List.mem_cons, List.not_mem_nil, or_false] at hm
    rcases hm with rfl | rfl | rfl | rfl | rfl | rfl | rfl | rfl | rfl | rfl
    · exact memoF0_ok
    · exact memoF1_ok
    · exact memoF2_ok
    · exact memoF3_ok
    · exact memoF4_ok
    · exact memoF5_ok
    · exact memoF6_ok
    · exact memoF7_ok
    · exact memoF8_ok
    · exact memoJ0_ok
  · simp only [List.mem_cons, List.not_mem_nil, or_false, Prod.mk.injEq] at hg
    rcases hg with ⟨rfl, rfl⟩ | ⟨rfl, rfl⟩ | ⟨rfl, rfl⟩ | ⟨rfl, rfl⟩
    · exact ⟨_, h0, .plain (by kernel_rfl)⟩
    · exact ⟨_, h1, .plain (by kernel_rfl)⟩
    · exact ⟨_, h2, .plain (by kernel_rfl)⟩
    · exact ⟨_, h3, .plain (by kernel_rfl)⟩
end Go.Proofs.YtppefjmllebacaaGreatDoor
namespace Go.Proofs.YtppefjmllebacaaGreatDoor
open Go.RowKit
set_option maxRecDepth 100000 in
set_option maxHeartbeats 1000000 in
theorem slim_any (m : Mach) (w : World) (hs : m.sn ≤ 9223372036854775807) (hr : m.rn ≤ 9223372036854775807) :
    Calls Tryz.prog 5 #[m.val] w fun e w' => e = .returned (.bool (decide (m.sn ≤ 6) && decide (m.rn ≤ 6))) ∧ Below w.heap.size w w' := by
  obtain ⟨W0, hW⟩ : ∃ W0, w.alloc (.cells #[.slice m.sa m.sn m.sc, .int .i64 m.c0, .int .i64 m.c1, .int .i64 m.d0, .int .i64 m.d1, .int .i64 m.w0, .int .i64 m.w1, .int .i64 m.v0, .int .i64 m.v1, .slice m.ra m.rn m.rc] 27) = W0 := ⟨_, rfl⟩
  have hb0 : Below w.heap.size w W0 := by rw [← hW]; exact (Below.refl _ _).alloc (Nat.le_refl _) _
  have hMB : MAt W0 w.heap.size m := by rw [← hW]; exact MAt.new w m
  obtain ⟨q0, q1, q2, q3, q4, q5, q6, q7, q8, q9⟩ := hMB
  by_cases h1 : m.sn ≤ 6
  · have h1' : (m.sn : Int) ≤ 6 := by omega
    by_cases h2 : m.rn ≤ 6
    · have h2' : (m.rn : Int) ≤ 6 := by omega
      go_enter Tryz.func5, Tryz.ntmps5
      go_wp2
      go_ret
      exact ⟨ret_bool (by simp [h1, h2, h1', h2']), hb0⟩
    · have h2' : ¬ (m.rn : Int) ≤ 6 := by omega
      go_enter Tryz.func5, Tryz.ntmps5
      go_wp2
      go_ret
      exact ⟨ret_bool (by simp [h1, h2, h1', h2']), hb0⟩
  · have h1' : ¬ (m.sn : Int) ≤ 6 := by omega
    go_enter Tryz.func5, Tryz.ntmps5
    go_wp2
    go_ret
    exact ⟨ret_bool (by simp [h1, h1']), hb0⟩
set_option maxRecDepth 100000 in
set_option maxHeartbeats 1000000 in
theorem brief_any (a1 : Option Addr) (n1 c1 : Nat) (a2 : Option Addr) (n2 c2 : Nat) (w : World) (h1 : n1 ≤ 9223372036854775807) (h2 : n2 ≤ 9223372036854775807) :
    Calls Tryz.prog 6 #[.agg #[.slice a1 n1 c1, .slice a2 n2 c2]] w fun e w' => e = .returned (.bool (decide (n1 ≤ 15) && decide (n2 ≤ 15))) ∧ Below w.heap.size w w' := by
  obtain ⟨W0, hW⟩ : ∃ W0, w.alloc (.cells #[.slice a1 n1 c1, .slice a2 n2 c2] 30) = W0 := ⟨_, rfl⟩
  have hw0 : Below w.heap.size w W0 := by rw [← hW]; exact (Below.refl _ _).alloc (Nat.le_refl _) _
  have k0 : W0.cell? ⟨w.heap.size, 0, none⟩ = some (.slice a1 n1 c1) := by rw [← hW]; exact cells_new w _ _ rfl
  have k1 : W0.cell? ⟨w.heap.size, 1, none⟩ = some (.slice a2 n2 c2) := by rw [← hW]; exact cells_new w _ _ rfl
  by_cases h1 : n1 ≤ 15
  · have h1' : (n1 : Int) ≤ 15 := by omega
    by_cases h2 : n2 ≤ 15
    · have h2' : (n2 : Int) ≤ 15 := by omega
      go_enter Tryz.func6, Tryz.ntmps6
      go_wp2
      go_ret
      exact ⟨ret_bool (by simp [h1, h2, h1', h2']), hw0⟩
    · have h2' : ¬ (n2 : Int) ≤ 15 := by omega
      go_enter Tryz.func6, Tryz.ntmps6
      go_wp2
      go_ret
      exact ⟨ret_bool (by simp [h1, h2, h1', h2']), hw0⟩
  · have h1' : ¬ (n1 : Int) ≤ 15 := by omega
    go_enter Tryz.func6, Tryz.ntmps6
    go_wp2
    go_ret
    exact ⟨ret_bool (by simp [h1, h1']), hw0⟩
/-- a point of the law. -/
theorem lat_any (x y : Int) (w : World) : Calls Tryz.prog 21 #[.int .i64 x, .int .i64 y] w fun e w' => e = .returned (.agg #[.int .i64 x, .int .i64 y]) ∧ Below w.heap.size w w' := by
  go_enter Tryz.func21, Tryz.ntmps21
  go_wp2
  refine bodyPost_ret (v := .agg #[.int .i64 x, .int .i64 y]) (by simp [results, Tryz.results21, go_sem]) rfl ⟨rfl, ?_⟩
  exact (Below.refl _ _).alloc (Nat.le_refl _) _
/-! ### what Known and Machine answer, in one form -/
theorem Able.er_ok {m : Mach} {fine : Bool} {er : Int} (h : Able m fine er) : er = 0 ∨ er = 2 ∨ er = 7 := by
  cases hf : (m.ok && fine) with
  | false => exact .inr (.inl (h.arg hf))
  | true => exact (Classical.em m.can).elim (fun hc => .inl (h.ok hf hc)) fun hc => .inr (.inr (h.rule hf hc))
end Go.Proofs.YtppefjmllebacaaGreatDoor
namespace Go.Proofs.YtppefjmllebacaaGreatDoor
open Go.RowKit Go.Can
/-- the blocks of a machine and a truth. -/
structure MX (w W : World) (m : Mach) (a1 : Option Addr) (n1 c1 : Nat) (a2 : Option Addr) (n2 c2 : Nat) : Prop where
  mach : MAt W w.heap.size m
  x0 : W.cell? ⟨w.heap.size + 1, 0, none⟩ = some (.slice a1 n1 c1)
  x1 : W.cell? ⟨w.heap.size + 1, 1, none⟩ = some (.slice a2 n2 c2)
  old : Below w.heap.size w W
  big : w.heap.size + 2 ≤ W.heap.size
theorem MX.new (w : World) (m : Mach) (a1 : Option Addr) (n1 c1 : Nat) (a2 : Option Addr) (n2 c2 : Nat) : MX w ((w.alloc (.cells #[.slice m.sa m.sn m.sc, .int .i64 m.c0, .int .i64 m.c1, .int .i64 m.d0, .int .i64 m.d1, .int .i64 m.w0, .int .i64 m.w1, .int .i64 m.v0, .int .i64 m.v1, .slice m.ra m.rn m.rc] 27)).alloc (.cells #[.slice a1 n1 c1, .slice a2 n2 c2] 30)) m a1 n1 c1 a2 n2 c2 := by
  refine ⟨(MAt.new w m).below ((Below.refl _ _).alloc (Nat.le_refl _) _) (by rw [World.size_alloc]; omega), ?_, ?_, ((Below.refl _ _).alloc (Nat.le_refl _) _).alloc (by rw [World.size_alloc]; omega) _, by rw [World.size_alloc, World.size_alloc]; omega⟩
  · have h := cells_new (w.alloc (.cells #[.slice m.sa m.sn m.sc, .int .i64 m.c0, .int .i64 m.c1, .int .i64 m.d0, .int .i64 m.d1, .int .i64 m.w0, .int .i64 m.w1, .int .i64 m.v0, .int .i64 m.v1, .slice m.ra m.rn m.rc] 27)) #[.slice a1 n1 c1, .slice a2 n2 c2] 30 (j := 0) rfl
    rw [World.size_alloc] at h; exact h
  · have h := cells_new (w.alloc (.cells #[.slice m.sa m.sn m.sc, .int .i64 m.c0, .int .i64 m.c1, .int .i64 m.d0, .int .i64 m.d1, .int .i64 m.w0, .int .i64 m.w1, .int .i64 m.v0, .int .i64 m.v1, .slice m.ra m.rn m.rc] 27)) #[.slice a1 n1 c1, .slice a2 n2 c2] 30 (j := 1) rfl
    rw [World.size_alloc] at h; exact h
theorem MX.below {w W W' : World} {m : Mach} {a1 : Option Addr} {n1 c1 : Nat} {a2 : Option Addr} {n2 c2 : Nat} (h : MX w W m a1 n1 c1 a2 n2 c2) (hb : Below W.heap.size W W') : MX w W' m a1 n1 c1 a2 n2 c2 :=
  have hg := h.big
  ⟨h.mach.below hb (by omega), (hb.cell (p := ⟨w.heap.size + 1, 0, none⟩) (by show w.heap.size + 1 < _; omega)).trans h.x0, (hb.cell (p := ⟨w.heap.size + 1, 1, none⟩) (by show w.heap.size + 1 < _; omega)).trans h.x1, h.old.trans (hb.mono h.old.size), Nat.le_trans h.big hb.size⟩
end Go.Proofs.YtppefjmllebacaaGreatDoor
namespace Go.Proofs.YtppefjmllebacaaGreatDoor
open Go.RowKit Go.Can
theorem MX.two {w W : World} {m : Mach} {a1 : Option Addr} {n1 c1 : Nat} {a2 : Option Addr} {n2 c2 : Nat} (h : MX w W m a1 n1 c1 a2 n2 c2) (o1 o2 : Obj) : MX w ((W.alloc o1).alloc o2) m a1 n1 c1 a2 n2 c2 :=
  (h.below ((Below.refl _ W).alloc (Nat.le_refl _) o1)).below ((Below.refl _ _).alloc (Nat.le_refl _) o2)
theorem hold_can {m : Mach} {F G : Nat → Int} (hok : m.ok = true) (h : (m.axX.holdB F && m.axY.holdB G) = true) : m.can := by
  rw [Bool.and_eq_true] at h
  exact ⟨Axis.can_of (Mach.fineX hok) (Axis.holdB_iff.1 h.1), Axis.can_of (Mach.fineY hok) (Axis.holdB_iff.1 h.2)⟩
end Go.Proofs.YtppefjmllebacaaGreatDoor
