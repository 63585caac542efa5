/- A part of the proof: see the last file. -/
import Derived.Test.YtdilcbocnndkmaaGreatDoorY5
set_option linter.unusedVariables false
set_option linter.unusedSimpArgs false
set_option linter.unusedSectionVars false
namespace Go.Proofs.YtdilcbocnndkmaaGreatDoor
open Go.RowKit Go.Can
set_option maxRecDepth 100000 in
set_option maxHeartbeats 400000 in
theorem measure_nil (a : Option Addr) (c : Nat) (X Y : Nat → Int) (r : Int) (w : World) :
    Calls Tryz.prog 10 #[.agg #[.slice a 0 c, .int .i64 r]] w fun e w' => e = .returned (.bool (measB 0 X Y r)) ∧ Below w.heap.size w w' := by
  obtain ⟨w0, hw⟩ : ∃ w0, w.alloc (.cells #[.slice a 0 c, .int .i64 r] 24) = w0 := ⟨_, rfl⟩
  have hw0 : Below w.heap.size w w0 := by rw [← hw]; exact (Below.refl _ _).alloc (Nat.le_refl _) _
  have c0 : w0.cell? ⟨w.heap.size, 0, none⟩ = some (.slice a 0 c) := by rw [← hw]; have := cells_two w (.slice a 0 c) (.int .i64 r) 24 0 _ rfl; simp [Addr.add]
  have hpn : ponB 0 2 4 X Y 20 = false := by unfold ponB; rw [show inB ((0 : Nat) : Int) 2 4 = false from inB_no1 (by decide)]; simp
  have hm : measB 0 X Y r = false := by unfold measB; rw [hpn]; simp
  rw [hm]
  go_enter Tryz.func10, Tryz.ntmps10
  go_wp2
  refine wp_loop_rounds 1 ?_
  rw [rounds_succ]
  go_wp2_with (go_at_call 12; refine (points_nil a c 2 4 X Y 20 _).mono ?_; rw [hpn]; rintro e w' ⟨rfl, rfl⟩)
  go_ret
  exact ⟨rfl, hw0⟩
theorem measure_any (v : Value) (n : Nat) (X Y : Nat → Int) (r : Int) (w : World) (hn : n ≤ 1000) (hp : PSl w v n X Y) :
    Calls Tryz.prog 10 #[.agg #[v, .int .i64 r]] w fun e w' => e = .returned (.bool (measB n X Y r)) ∧ Below w.heap.size w w' := by
  rcases hp with ⟨a, c, rfl, rfl⟩ | ⟨b, off, cap, rfl, hb, hp⟩
  · exact measure_nil a c X Y r w
  · exact measure_some b off n cap X Y r w hn hp hb
/-! ### Match, case by case -/
theorem PSl_pos {w : World} {v : Value} {n : Nat} {X Y : Nat → Int} (h : PSl w v n X Y) (hn : 1 ≤ n) : ∃ b off cap, v = .slice (some ⟨b, off, none⟩) n cap ∧ b < w.heap.size ∧ Pts w b off n X Y := by
  rcases h with ⟨a, c, _, h2⟩ | h
  · omega
  · exact h
theorem arB_smalls {n : Nat} {X Y : Nat → Int} (h : arB n 0 X Y 80 = true) : ∀ i, i < n → small (X i, Y i) := fun i hi => arB_small h i hi
/-- no measure. -/
theorem Match_no (a1 : Option Addr) (c1 n1 : Nat) (v2 : Value) (HX HY : Nat → Int) (r : Int) (w : World) (hn1 : n1 ≤ 1000) (hp1 : PSc w (.slice a1 n1 c1) n1 HX HY) (h : measB n1 HX HY r = false) :
    Calls Tryz.prog 17 #[.agg #[.slice a1 n1 c1, .int .i64 r], v2] w fun e w' => e = .returned (.tuple #[.int .i64 0, .slice none 0 0, .int .i64 2]) ∧ Below w.heap.size w w' :=
  Match_bad1 a1 c1 n1 v2 HX HY r w hn1 hp1 (by rw [chk_meas, h]; simp)
/-- no points for it. -/
theorem Match_odd (a1 : Option Addr) (c1 n1 : Nat) (a2 : Option Addr) (c2 n2 : Nat) (HX HY PX PY : Nat → Int) (r : Int) (w : World) (hp1 : PSc w (.slice a1 n1 c1) n1 HX HY) (hp2 : PSl w (.slice a2 n2 c2) n2 PX PY) (h : measB n1 HX HY r = true) (hb : ponB n2 n1 n1 PX PY 80 = false) :
    Calls Tryz.prog 17 #[.agg #[.slice a1 n1 c1, .int .i64 r], .slice a2 n2 c2] w fun e w' => e = .returned (.tuple #[.int .i64 0, .slice none 0 0, .int .i64 2]) ∧ Below w.heap.size w w' := by
  obtain ⟨⟨q1, q2⟩, _, _⟩ := meas_parts h
  have hc : chkE n1 HX HY r = 0 := by rw [chk_meas, h]; rfl
  by_cases hne : n2 = n1
  · subst hne
    refine Match_bad3 a1 c1 n2 a2 c2 HX HY PX PY r w (by omega) hp1 hp2 hc ?_
    unfold ponB at hb
    rw [show inB (n2 : Int) n2 n2 = true from inB_yes (by omega) (by omega), Bool.and_true] at hb
    unfold arB
    rw [hb]; simp
  · exact Match_bad2 a1 c1 n1 a2 c2 n2 HX HY r w (by omega) hp1 hc hne
theorem pon_parts {n2 n1 : Nat} {PX PY : Nat → Int} (h : ponB n2 n1 n1 PX PY 80 = true) (h4 : n1 ≤ 4) : n2 = n1 ∧ arB n1 0 PX PY 80 = true := by
  unfold ponB at h
  rw [Bool.and_eq_true] at h
  have := inB_iff.1 h.2
  have e : n2 = n1 := by omega
  subst e
  refine ⟨rfl, ?_⟩
  unfold arB
  rw [h.1, show inB (n2 : Int) 0 4 = true from inB_yes (by omega) (by omega)]; rfl
theorem Match_none (a1 : Option Addr) (c1 n : Nat) (a2 : Option Addr) (c2 : Nat) (HX HY PX PY : Nat → Int) (r : Int) (w : World) (hp1 : PSc w (.slice a1 n c1) n HX HY) (hp2 : PSl w (.slice a2 n c2) n PX PY) (h : measB n HX HY r = true) (ha : arB n 0 PX PY 80 = true) (hno : matchS n HX HY PX PY r = none) :
    Calls Tryz.prog 17 #[.agg #[.slice a1 n c1, .int .i64 r], .slice a2 n c2] w fun e w' => e = .returned (.tuple #[.int .i64 0, .slice none 0 0, .int .i64 5]) ∧ Below w.heap.size w w' := by
  obtain ⟨⟨q1, q2⟩, ⟨q3, q4⟩, q5⟩ := meas_parts h
  obtain ⟨hp1, _, cc, hcc, hle⟩ := hp1
  cases hcc
  obtain ⟨b1, o1, k1, e1, l1, p1⟩ := PSl_pos hp1 (by omega)
  obtain ⟨b2, o2, k2, e2, l2, p2⟩ := PSl_pos hp2 (by omega)
  cases e1; cases e2
  refine (Match_ok b1 o1 c1 b2 o2 c2 n HX HY PX PY r w (by omega) (by omega) (by omega) (by omega) hle p1 p2 l1 l2 q5 (arB_smalls ha) (by rw [chk_meas, h]; rfl) ha).mono ?_
  rintro e w' ⟨hb, ⟨_, he⟩ | ⟨t, q, v, hs, _⟩⟩
  · exact ⟨he, hb⟩
  · rw [hno] at hs; cases hs
theorem Match_some (a1 : Option Addr) (c1 n : Nat) (a2 : Option Addr) (c2 : Nat) (HX HY PX PY : Nat → Int) (r : Int) (w : World) (t : Nat) (q : List Nat) (hp1 : PSc w (.slice a1 n c1) n HX HY) (hp2 : PSl w (.slice a2 n c2) n PX PY) (h : measB n HX HY r = true) (ha : arB n 0 PX PY 80 = true) (hyes : matchS n HX HY PX PY r = some (t, q)) :
    Calls Tryz.prog 17 #[.agg #[.slice a1 n c1, .int .i64 r], .slice a2 n c2] w fun e w' => ∃ b cap, e = .returned (.tuple #[.int .i64 t, .slice (some ⟨b, 0, none⟩) n cap, .int .i64 0]) ∧ OrdAt w' b 0 n q ∧ b < w'.heap.size ∧ Below w.heap.size w w' := by
  obtain ⟨⟨q1, q2⟩, ⟨q3, q4⟩, q5⟩ := meas_parts h
  obtain ⟨hp1, _, cc, hcc, hle⟩ := hp1
  cases hcc
  obtain ⟨b1, o1, k1, e1, l1, p1⟩ := PSl_pos hp1 (by omega)
  obtain ⟨b2, o2, k2, e2, l2, p2⟩ := PSl_pos hp2 (by omega)
  cases e1; cases e2
  refine (Match_ok b1 o1 c1 b2 o2 c2 n HX HY PX PY r w (by omega) (by omega) (by omega) (by omega) hle p1 p2 l1 l2 q5 (arB_smalls ha) (by rw [chk_meas, h]; rfl) ha).mono ?_
  rintro e w' ⟨hb, ⟨hs, _⟩ | ⟨t', q', v, hs, _, he, hrow⟩⟩
  · rw [hyes] at hs; cases hs
  · rw [hyes] at hs
    cases hs
    rcases ownsRow_lt hrow with ⟨_, h0⟩ | ⟨g, cap, hv, hg, hcell⟩
    · omega
    · have hlen := hrow.1
      refine ⟨g, cap, by rw [he, hv], fun i hi => ?_, hg, hb⟩
      have hql : q.length = n := by
        obtain ⟨hx, _⟩ := hrow
        simpa [cellsN] using hx
      rw [Nat.zero_add]
      exact hcell i _ (by simp [cellsN, List.getD, hql, hi])
end Go.Proofs.YtdilcbocnndkmaaGreatDoor
