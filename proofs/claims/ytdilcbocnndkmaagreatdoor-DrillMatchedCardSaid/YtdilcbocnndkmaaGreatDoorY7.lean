/- A part of the proof: see the last file. -/
import Derived.Test.YtdilcbocnndkmaaGreatDoorY6
set_option linter.unusedVariables false
set_option linter.unusedSimpArgs false
set_option linter.unusedSectionVars false
namespace Go.Proofs.YtdilcbocnndkmaaGreatDoor
open Go.RowKit Go.Can
theorem rmatch_none (a1 : Option Addr) (c1 n : Nat) (a2 : Option Addr) (c2 : Nat) (HX HY PX PY : Nat → Int) (r : Int) (w : World) (hk : KG w) (hp1 : PSl w (.slice a1 n c1) n HX HY) (hp2 : PSl w (.slice a2 n c2) n PX PY) (h : measB n HX HY r = true) (ha : arB n 0 PX PY 80 = true) (hno : matchS n HX HY PX PY r = none) :
    Calls Tryz.prog 19 #[.agg #[.slice a1 n c1, .int .i64 r], .slice a2 n c2] w fun e w' => e = .returned (.tuple #[.int .i64 (-1), .slice none 0 0]) ∧ Below w.heap.size w w' := by
  obtain ⟨⟨q1, q2⟩, ⟨q3, q4⟩, q5⟩ := meas_parts h
  obtain ⟨b1, o1, k1, e1, l1, p1⟩ := PSl_pos hp1 (by omega)
  obtain ⟨b2, o2, k2, e2, l2, p2⟩ := PSl_pos hp2 (by omega)
  cases e1; cases e2
  refine (rmatch_any b2 o2 c2 n b1 o1 c1 HX HY PX PY r w q1 q2 (by omega) (by omega) hk p2 p1 l2 l1 (arB_smalls ha) q5).mono ?_
  rintro e w' ⟨hb, ⟨_, he⟩ | ⟨t, q, v, hs, _⟩⟩
  · exact ⟨he, hb⟩
  · rw [hno] at hs; cases hs
theorem rmatch_some (a1 : Option Addr) (c1 n : Nat) (a2 : Option Addr) (c2 : Nat) (HX HY PX PY : Nat → Int) (r : Int) (w : World) (t : Nat) (q : List Nat) (hk : KG w) (hp1 : PSl w (.slice a1 n c1) n HX HY) (hp2 : PSl w (.slice a2 n c2) n PX PY) (h : measB n HX HY r = true) (ha : arB n 0 PX PY 80 = true) (hyes : matchS n HX HY PX PY r = some (t, q)) :
    Calls Tryz.prog 19 #[.agg #[.slice a1 n c1, .int .i64 r], .slice a2 n c2] w fun e w' => ∃ b o cap, e = .returned (.tuple #[.int .i64 t, .slice (some ⟨b, o, none⟩) n cap]) ∧ OrdAt w' b o n q ∧ b < w'.heap.size ∧ Below w.heap.size w w' := by
  obtain ⟨⟨q1, q2⟩, ⟨q3, q4⟩, q5⟩ := meas_parts h
  obtain ⟨b1, o1, k1, e1, l1, p1⟩ := PSl_pos hp1 (by omega)
  obtain ⟨b2, o2, k2, e2, l2, p2⟩ := PSl_pos hp2 (by omega)
  cases e1; cases e2
  refine (rmatch_any b2 o2 c2 n b1 o1 c1 HX HY PX PY r w q1 q2 (by omega) (by omega) hk p2 p1 l2 l1 (arB_smalls ha) q5).mono ?_
  rintro e w' ⟨hb, ⟨hs, _⟩ | ⟨t', q', v, hs, _, hq, he, hv⟩⟩
  · rw [hyes] at hs; cases hs
  · rw [hyes] at hs
    cases hs
    obtain ⟨b, o, cap, e1, _, e2, e3⟩ := SlI_ord hv
    have hql := (ords_perm q1 q2 q hq).1
    rw [hql] at e1 e3
    exact ⟨b, o, cap, by rw [he, e1], e3, e2, hb⟩
set_option maxRecDepth 100000 in
set_option maxHeartbeats 2000000 in
theorem matches_long2 (v1 : Value) (r : Int) (a2 : Option Addr) (n2 c2 : Nat) (w : World) (hn : 6 < n2) (hm : n2 ≤ 9223372036854775807) (hk : KG w) :
    Calls Tryz.prog 4 #[.agg #[v1, .int .i64 r], .slice a2 n2 c2] w fun e w' => e = .returned (.bool true) ∧ Below w.heap.size w w' := by
  obtain ⟨w0, hw⟩ : ∃ w0, w.alloc (.cells #[v1, .int .i64 r] 24) = w0 := ⟨_, rfl⟩
  have hw0 : Below w.heap.size w w0 := by rw [← hw]; exact (Below.refl _ _).alloc (Nat.le_refl _) _
  have h1 : (6 : Int) < n2 := by omega
  go_enter Tryz.func4, Tryz.ntmps4
  go_wp2_with (go_at_call 13; refine (known_ok _ (hk.below hw0)).mono ?_; rintro e w' ⟨rfl, hb⟩)
  go_ret
  exact ⟨rfl, hw0.trans (hb.mono hw0.size)⟩
set_option maxRecDepth 100000 in
set_option maxHeartbeats 2000000 in
theorem matches_long1 (a1 : Option Addr) (n1 c1 : Nat) (r : Int) (a2 : Option Addr) (n2 c2 : Nat) (w : World) (hn2 : n2 ≤ 6) (hn : 6 < n1) (hm : n1 ≤ 9223372036854775807) (hk : KG w) :
    Calls Tryz.prog 4 #[.agg #[.slice a1 n1 c1, .int .i64 r], .slice a2 n2 c2] w fun e w' => e = .returned (.bool true) ∧ Below w.heap.size w w' := by
  obtain ⟨w0, hw⟩ : ∃ w0, w.alloc (.cells #[.slice a1 n1 c1, .int .i64 r] 24) = w0 := ⟨_, rfl⟩
  have hw0 : Below w.heap.size w w0 := by rw [← hw]; exact (Below.refl _ _).alloc (Nat.le_refl _) _
  have c0 : w0.cell? ⟨w.heap.size, 0, none⟩ = some (.slice a1 n1 c1) := by rw [← hw]; have := cells_two w (.slice a1 n1 c1) (.int .i64 r) 24 0 _ rfl; simp [Addr.add]
  have h1 : (6 : Int) < n1 := by omega
  have h2 : ¬ (6 : Int) < n2 := by omega
  go_enter Tryz.func4, Tryz.ntmps4
  go_wp2_with (go_at_call 13; refine (known_ok _ (hk.below hw0)).mono ?_; rintro e w' ⟨rfl, hb⟩)
  go_ret
  exact ⟨rfl, hw0.trans (hb.mono hw0.size)⟩
set_option maxRecDepth 100000 in
set_option maxHeartbeats 2000000 in
/-- no measure: both say so. -/
theorem matches_meas (a1 : Option Addr) (n1 c1 : Nat) (r : Int) (a2 : Option Addr) (n2 c2 : Nat) (HX HY : Nat → Int) (w : World) (hn2 : n2 ≤ 6) (hn1 : n1 ≤ 6) (hk : KG w) (hp1 : PSc w (.slice a1 n1 c1) n1 HX HY) (h : measB n1 HX HY r = false) :
    Calls Tryz.prog 4 #[.agg #[.slice a1 n1 c1, .int .i64 r], .slice a2 n2 c2] w fun e w' => e = .returned (.bool true) ∧ Below w.heap.size w w' := by
  obtain ⟨w0, hw⟩ : ∃ w0, w.alloc (.cells #[.slice a1 n1 c1, .int .i64 r] 24) = w0 := ⟨_, rfl⟩
  have hw0 : Below w.heap.size w w0 := by rw [← hw]; exact (Below.refl _ _).alloc (Nat.le_refl _) _
  have hsz : w0.heap.size = w.heap.size + 1 := by rw [← hw]; exact World.size_alloc _ _
  have c0 : w0.cell? ⟨w.heap.size, 0, none⟩ = some (.slice a1 n1 c1) := by rw [← hw]; have := cells_two w (.slice a1 n1 c1) (.int .i64 r) 24 0 _ rfl; simp [Addr.add]
  have c1' : w0.cell? ⟨w.heap.size, 1, none⟩ = some (.int .i64 r) := by rw [← hw]; have := cells_two w (.slice a1 n1 c1) (.int .i64 r) 24 1 _ rfl; simp [Addr.add]
  have h1 : ¬ (6 : Int) < n1 := by omega
  have h2 : ¬ (6 : Int) < n2 := by omega
  have hp0 : PSc w0 (.slice a1 n1 c1) n1 HX HY := ⟨hp1.1.below hw0, hp1.2⟩
  have hca := fun (W : World) (hb : Below w0.heap.size w0 W) => check_any (.slice a1 n1 c1) n1 HX HY r W (by omega) ⟨hp0.1.below hb, hp0.2⟩
  have hme := fun (W : World) (hb : Below w0.heap.size w0 W) => measure_any (.slice a1 n1 c1) n1 HX HY r W (by omega) (hp0.1.below hb)
  rw [chk_meas, h] at hca
  rw [h] at hme
  have hk0 := hk.below hw0
  have hB := Below.refl w0.heap.size w0
  have hma := fun (W : World) (hb : Below w0.heap.size w0 W) => Match_no a1 c1 n1 (.slice a2 n2 c2) HX HY r W (by omega) ⟨hp0.1.below hb, hp0.2⟩ h
  go_enter Tryz.func4, Tryz.ntmps4
  go_wp2_with (first
    | (go_at_call 18; refine (hca _ hB).mono ?_; rintro e wA ⟨rfl, hbA⟩; replace hB := hB.trans (hbA.mono hB.size); have d0 := (hB.cell (p := ⟨w.heap.size, 0, none⟩) (by show w.heap.size < _; omega)).trans c0; have d1 := (hB.cell (p := ⟨w.heap.size, 1, none⟩) (by show w.heap.size < _; omega)).trans c1')
    | (go_at_call 17; refine (hma _ hB).mono ?_; rintro e wA ⟨rfl, hbA⟩; replace hB := hB.trans (hbA.mono hB.size); have d0 := (hB.cell (p := ⟨w.heap.size, 0, none⟩) (by show w.heap.size < _; omega)).trans c0; have d1 := (hB.cell (p := ⟨w.heap.size, 1, none⟩) (by show w.heap.size < _; omega)).trans c1')
    | (go_at_call 10; refine (hme _ hB).mono ?_; rintro e wA ⟨rfl, hbA⟩; replace hB := hB.trans (hbA.mono hB.size); have d0 := (hB.cell (p := ⟨w.heap.size, 0, none⟩) (by show w.heap.size < _; omega)).trans c0; have d1 := (hB.cell (p := ⟨w.heap.size, 1, none⟩) (by show w.heap.size < _; omega)).trans c1')
    | (go_at_call 13; refine (known_ok _ (hk0.below hB)).mono ?_; rintro e wA ⟨rfl, hbA⟩; replace hB := hB.trans (hbA.mono hB.size); have d0 := (hB.cell (p := ⟨w.heap.size, 0, none⟩) (by show w.heap.size < _; omega)).trans c0; have d1 := (hB.cell (p := ⟨w.heap.size, 1, none⟩) (by show w.heap.size < _; omega)).trans c1'))
  go_ret
  exact ⟨rfl, hw0.trans (hB.mono hw0.size)⟩
set_option maxRecDepth 100000 in
set_option maxHeartbeats 2000000 in
/-- no points for it: both say so. -/
theorem matches_odd (a1 : Option Addr) (n1 c1 : Nat) (r : Int) (a2 : Option Addr) (n2 c2 : Nat) (HX HY PX PY : Nat → Int) (w : World) (hn2 : n2 ≤ 6) (hn1 : n1 ≤ 6) (hk : KG w) (hp1 : PSc w (.slice a1 n1 c1) n1 HX HY) (hp2 : PSl w (.slice a2 n2 c2) n2 PX PY) (h : measB n1 HX HY r = true) (hpon : ponB n2 n1 n1 PX PY 80 = false) :
    Calls Tryz.prog 4 #[.agg #[.slice a1 n1 c1, .int .i64 r], .slice a2 n2 c2] w fun e w' => e = .returned (.bool true) ∧ Below w.heap.size w w' := by
  obtain ⟨w0, hw⟩ : ∃ w0, w.alloc (.cells #[.slice a1 n1 c1, .int .i64 r] 24) = w0 := ⟨_, rfl⟩
  have hw0 : Below w.heap.size w w0 := by rw [← hw]; exact (Below.refl _ _).alloc (Nat.le_refl _) _
  have hsz : w0.heap.size = w.heap.size + 1 := by rw [← hw]; exact World.size_alloc _ _
  have c0 : w0.cell? ⟨w.heap.size, 0, none⟩ = some (.slice a1 n1 c1) := by rw [← hw]; have := cells_two w (.slice a1 n1 c1) (.int .i64 r) 24 0 _ rfl; simp [Addr.add]
  have c1' : w0.cell? ⟨w.heap.size, 1, none⟩ = some (.int .i64 r) := by rw [← hw]; have := cells_two w (.slice a1 n1 c1) (.int .i64 r) 24 1 _ rfl; simp [Addr.add]
  have h1 : ¬ (6 : Int) < n1 := by omega
  have h2 : ¬ (6 : Int) < n2 := by omega
  have hp0 : PSc w0 (.slice a1 n1 c1) n1 HX HY := ⟨hp1.1.below hw0, hp1.2⟩
  have hca := fun (W : World) (hb : Below w0.heap.size w0 W) => check_any (.slice a1 n1 c1) n1 HX HY r W (by omega) ⟨hp0.1.below hb, hp0.2⟩
  have hme := fun (W : World) (hb : Below w0.heap.size w0 W) => measure_any (.slice a1 n1 c1) n1 HX HY r W (by omega) (hp0.1.below hb)
  rw [chk_meas, h] at hca
  rw [h] at hme
  have hk0 := hk.below hw0
  have hB := Below.refl w0.heap.size w0
  have hma := fun (W : World) (hb : Below w0.heap.size w0 W) => Match_odd a1 c1 n1 a2 c2 n2 HX HY PX PY r W ⟨hp0.1.below hb, hp0.2⟩ (hp2.below (hw0.trans (hb.mono hw0.size))) h hpon
  go_enter Tryz.func4, Tryz.ntmps4
  go_wp2_with (first
    | (go_at_call 18; refine (hca _ hB).mono ?_; rintro e wA ⟨rfl, hbA⟩; replace hB := hB.trans (hbA.mono hB.size); have d0 := (hB.cell (p := ⟨w.heap.size, 0, none⟩) (by show w.heap.size < _; omega)).trans c0; have d1 := (hB.cell (p := ⟨w.heap.size, 1, none⟩) (by show w.heap.size < _; omega)).trans c1')
    | (go_at_call 17; refine (hma _ hB).mono ?_; rintro e wA ⟨rfl, hbA⟩; replace hB := hB.trans (hbA.mono hB.size); have d0 := (hB.cell (p := ⟨w.heap.size, 0, none⟩) (by show w.heap.size < _; omega)).trans c0; have d1 := (hB.cell (p := ⟨w.heap.size, 1, none⟩) (by show w.heap.size < _; omega)).trans c1')
    | (go_at_call 10; refine (hme _ hB).mono ?_; rintro e wA ⟨rfl, hbA⟩; replace hB := hB.trans (hbA.mono hB.size); have d0 := (hB.cell (p := ⟨w.heap.size, 0, none⟩) (by show w.heap.size < _; omega)).trans c0; have d1 := (hB.cell (p := ⟨w.heap.size, 1, none⟩) (by show w.heap.size < _; omega)).trans c1')
    | (go_at_call 12; refine (points_any _ n2 n1 n1 PX PY 80 (by omega) (by omega) _ (by omega) (hp2.below (hw0.trans (hB.mono hw0.size)))).mono ?_; rw [hpon]; rintro e w' ⟨rfl, rfl⟩)
    | (go_at_call 13; refine (known_ok _ (hk0.below hB)).mono ?_; rintro e wA ⟨rfl, hbA⟩; replace hB := hB.trans (hbA.mono hB.size); have d0 := (hB.cell (p := ⟨w.heap.size, 0, none⟩) (by show w.heap.size < _; omega)).trans c0; have d1 := (hB.cell (p := ⟨w.heap.size, 1, none⟩) (by show w.heap.size < _; omega)).trans c1'))
  go_ret
  exact ⟨rfl, hw0.trans (hB.mono hw0.size)⟩
set_option maxRecDepth 100000 in
set_option maxHeartbeats 2000000 in
/-- of it with no turn: both say so. -/
theorem matches_none (a1 : Option Addr) (n1 c1 : Nat) (r : Int) (a2 : Option Addr) (n2 c2 : Nat) (HX HY PX PY : Nat → Int) (w : World) (hn2 : n2 ≤ 6) (hn1 : n1 ≤ 6) (hk : KG w) (hp1 : PSc w (.slice a1 n1 c1) n1 HX HY) (hp2 : PSl w (.slice a2 n2 c2) n2 PX PY) (h : measB n1 HX HY r = true) (hpon : ponB n2 n1 n1 PX PY 80 = true) (hno : matchS n1 HX HY PX PY r = none) :
    Calls Tryz.prog 4 #[.agg #[.slice a1 n1 c1, .int .i64 r], .slice a2 n2 c2] w fun e w' => e = .returned (.bool true) ∧ Below w.heap.size w w' := by
  obtain ⟨⟨q1, q2⟩, _, _⟩ := meas_parts h
  obtain ⟨rfl, ha⟩ := pon_parts hpon q2
  obtain ⟨w0, hw⟩ : ∃ w0, w.alloc (.cells #[.slice a1 n2 c1, .int .i64 r] 24) = w0 := ⟨_, rfl⟩
  have hw0 : Below w.heap.size w w0 := by rw [← hw]; exact (Below.refl _ _).alloc (Nat.le_refl _) _
  have hsz : w0.heap.size = w.heap.size + 1 := by rw [← hw]; exact World.size_alloc _ _
  have c0 : w0.cell? ⟨w.heap.size, 0, none⟩ = some (.slice a1 n2 c1) := by rw [← hw]; have := cells_two w (.slice a1 n2 c1) (.int .i64 r) 24 0 _ rfl; simp [Addr.add]
  have c1' : w0.cell? ⟨w.heap.size, 1, none⟩ = some (.int .i64 r) := by rw [← hw]; have := cells_two w (.slice a1 n2 c1) (.int .i64 r) 24 1 _ rfl; simp [Addr.add]
  have h1 : ¬ (6 : Int) < n2 := by omega
  have h2 : ¬ (6 : Int) < n2 := by omega
  have hp0 : PSc w0 (.slice a1 n2 c1) n2 HX HY := ⟨hp1.1.below hw0, hp1.2⟩
  have hca := fun (W : World) (hb : Below w0.heap.size w0 W) => check_any (.slice a1 n2 c1) n2 HX HY r W (by omega) ⟨hp0.1.below hb, hp0.2⟩
  have hme := fun (W : World) (hb : Below w0.heap.size w0 W) => measure_any (.slice a1 n2 c1) n2 HX HY r W (by omega) (hp0.1.below hb)
  rw [chk_meas, h] at hca
  rw [h] at hme
  have hk0 := hk.below hw0
  have hB := Below.refl w0.heap.size w0
  have hma := fun (W : World) (hb : Below w0.heap.size w0 W) => Match_none a1 c1 n2 a2 c2 HX HY PX PY r W ⟨hp0.1.below hb, hp0.2⟩ (hp2.below (hw0.trans (hb.mono hw0.size))) h ha hno
  have hmr := fun (W : World) (hb : Below w0.heap.size w0 W) => rmatch_none a1 c1 n2 a2 c2 HX HY PX PY r W (hk0.below hb) (hp0.1.below hb) (hp2.below (hw0.trans (hb.mono hw0.size))) h ha hno
  go_enter Tryz.func4, Tryz.ntmps4
  go_wp2_with (first
    | (go_at_call 18; refine (hca _ hB).mono ?_; rintro e wA ⟨rfl, hbA⟩; replace hB := hB.trans (hbA.mono hB.size); have d0 := (hB.cell (p := ⟨w.heap.size, 0, none⟩) (by show w.heap.size < _; omega)).trans c0; have d1 := (hB.cell (p := ⟨w.heap.size, 1, none⟩) (by show w.heap.size < _; omega)).trans c1')
    | (go_at_call 17; refine (hma _ hB).mono ?_; rintro e wA ⟨rfl, hbA⟩; replace hB := hB.trans (hbA.mono hB.size); have d0 := (hB.cell (p := ⟨w.heap.size, 0, none⟩) (by show w.heap.size < _; omega)).trans c0; have d1 := (hB.cell (p := ⟨w.heap.size, 1, none⟩) (by show w.heap.size < _; omega)).trans c1')
    | (go_at_call 10; refine (hme _ hB).mono ?_; rintro e wA ⟨rfl, hbA⟩; replace hB := hB.trans (hbA.mono hB.size); have d0 := (hB.cell (p := ⟨w.heap.size, 0, none⟩) (by show w.heap.size < _; omega)).trans c0; have d1 := (hB.cell (p := ⟨w.heap.size, 1, none⟩) (by show w.heap.size < _; omega)).trans c1')
    | (go_at_call 12; refine (points_any _ n2 n2 n2 PX PY 80 (by omega) (by omega) _ (by omega) (hp2.below (hw0.trans (hB.mono hw0.size)))).mono ?_; rw [hpon]; rintro e w' ⟨rfl, rfl⟩)
    | (go_at_call 19; refine (hmr _ hB).mono ?_; rintro e wA ⟨rfl, hbA⟩; replace hB := hB.trans (hbA.mono hB.size); have d0 := (hB.cell (p := ⟨w.heap.size, 0, none⟩) (by show w.heap.size < _; omega)).trans c0; have d1 := (hB.cell (p := ⟨w.heap.size, 1, none⟩) (by show w.heap.size < _; omega)).trans c1')
    | (go_at_call 13; refine (known_ok _ (hk0.below hB)).mono ?_; rintro e wA ⟨rfl, hbA⟩; replace hB := hB.trans (hbA.mono hB.size); have d0 := (hB.cell (p := ⟨w.heap.size, 0, none⟩) (by show w.heap.size < _; omega)).trans c0; have d1 := (hB.cell (p := ⟨w.heap.size, 1, none⟩) (by show w.heap.size < _; omega)).trans c1'))
  go_ret
  exact ⟨rfl, hw0.trans (hB.mono hw0.size)⟩
set_option maxRecDepth 100000 in
set_option maxHeartbeats 2000000 in
/-- of it: both find the same. -/
theorem matches_some (a1 : Option Addr) (n1 c1 : Nat) (r : Int) (a2 : Option Addr) (n2 c2 : Nat) (HX HY PX PY : Nat → Int) (w : World) (hn2 : n2 ≤ 6) (hn1 : n1 ≤ 6) (hk : KG w) (hp1 : PSc w (.slice a1 n1 c1) n1 HX HY) (hp2 : PSl w (.slice a2 n2 c2) n2 PX PY) (h : measB n1 HX HY r = true) (t : Nat) (q : List Nat) (hpon : ponB n2 n1 n1 PX PY 80 = true) (hyes : matchS n1 HX HY PX PY r = some (t, q)) :
    Calls Tryz.prog 4 #[.agg #[.slice a1 n1 c1, .int .i64 r], .slice a2 n2 c2] w fun e w' => e = .returned (.bool true) ∧ Below w.heap.size w w' := by
  obtain ⟨⟨q1, q2⟩, _, _⟩ := meas_parts h
  obtain ⟨rfl, ha⟩ := pon_parts hpon q2
  obtain ⟨w0, hw⟩ : ∃ w0, w.alloc (.cells #[.slice a1 n2 c1, .int .i64 r] 24) = w0 := ⟨_, rfl⟩
  have hw0 : Below w.heap.size w w0 := by rw [← hw]; exact (Below.refl _ _).alloc (Nat.le_refl _) _
  have hsz : w0.heap.size = w.heap.size + 1 := by rw [← hw]; exact World.size_alloc _ _
  have c0 : w0.cell? ⟨w.heap.size, 0, none⟩ = some (.slice a1 n2 c1) := by rw [← hw]; have := cells_two w (.slice a1 n2 c1) (.int .i64 r) 24 0 _ rfl; simp [Addr.add]
  have c1' : w0.cell? ⟨w.heap.size, 1, none⟩ = some (.int .i64 r) := by rw [← hw]; have := cells_two w (.slice a1 n2 c1) (.int .i64 r) 24 1 _ rfl; simp [Addr.add]
  have h1 : ¬ (6 : Int) < n2 := by omega
  have h2 : ¬ (6 : Int) < n2 := by omega
  have hp0 : PSc w0 (.slice a1 n2 c1) n2 HX HY := ⟨hp1.1.below hw0, hp1.2⟩
  have hca := fun (W : World) (hb : Below w0.heap.size w0 W) => check_any (.slice a1 n2 c1) n2 HX HY r W (by omega) ⟨hp0.1.below hb, hp0.2⟩
  have hme := fun (W : World) (hb : Below w0.heap.size w0 W) => measure_any (.slice a1 n2 c1) n2 HX HY r W (by omega) (hp0.1.below hb)
  rw [chk_meas, h] at hca
  rw [h] at hme
  have hk0 := hk.below hw0
  have hB := Below.refl w0.heap.size w0
  have hma := fun (W : World) (hb : Below w0.heap.size w0 W) => Match_some a1 c1 n2 a2 c2 HX HY PX PY r W t q ⟨hp0.1.below hb, hp0.2⟩ (hp2.below (hw0.trans (hb.mono hw0.size))) h ha hyes
  have hmr := fun (W : World) (hb : Below w0.heap.size w0 W) => rmatch_some a1 c1 n2 a2 c2 HX HY PX PY r W t q (hk0.below hb) (hp0.1.below hb) (hp2.below (hw0.trans (hb.mono hw0.size))) h ha hyes
  have ht0 : ¬ ((t : Int) < 0) := by omega
  go_enter Tryz.func4, Tryz.ntmps4
  go_wp2_with (first
    | (go_at_call 18; refine (hca _ hB).mono ?_; rintro e wA ⟨rfl, hbA⟩; replace hB := hB.trans (hbA.mono hB.size); have d0 := (hB.cell (p := ⟨w.heap.size, 0, none⟩) (by show w.heap.size < _; omega)).trans c0; have d1 := (hB.cell (p := ⟨w.heap.size, 1, none⟩) (by show w.heap.size < _; omega)).trans c1')
    | (go_at_call 17; refine (hma _ hB).mono ?_; rintro e wA ⟨bq, cq, rfl, hoq, hlq, hbA⟩; replace hB := hB.trans (hbA.mono hB.size); have d0 := (hB.cell (p := ⟨w.heap.size, 0, none⟩) (by show w.heap.size < _; omega)).trans c0; have d1 := (hB.cell (p := ⟨w.heap.size, 1, none⟩) (by show w.heap.size < _; omega)).trans c1'; have hMB := Below.refl wA.heap.size wA)
    | (go_at_call 10; refine (hme _ hB).mono ?_; rintro e wA ⟨rfl, hbA⟩; try replace hMB := hMB.trans (hbA.mono hMB.size); replace hB := hB.trans (hbA.mono hB.size); have d0 := (hB.cell (p := ⟨w.heap.size, 0, none⟩) (by show w.heap.size < _; omega)).trans c0; have d1 := (hB.cell (p := ⟨w.heap.size, 1, none⟩) (by show w.heap.size < _; omega)).trans c1')
    | (go_at_call 12; refine (points_any _ n2 n2 n2 PX PY 80 (by omega) (by omega) _ (by omega) (hp2.below (hw0.trans (hB.mono hw0.size)))).mono ?_; rw [hpon]; rintro e w' ⟨rfl, rfl⟩)
    | (go_at_call 19; refine (hmr _ hB).mono ?_; rintro e wA ⟨br, orr, cr, rfl, hor, hlr, hbA⟩; replace hMB := hMB.trans (hbA.mono hMB.size); replace hB := hB.trans (hbA.mono hB.size); have d0 := (hB.cell (p := ⟨w.heap.size, 0, none⟩) (by show w.heap.size < _; omega)).trans c0; have d1 := (hB.cell (p := ⟨w.heap.size, 1, none⟩) (by show w.heap.size < _; omega)).trans c1')
    | (go_at_call 20; refine (same_some bq 0 n2 cq br orr cr (fun i => ((q.getD i 0 : Nat) : Int)) _ (by omega) (hoq.below hMB hlq) hor).mono ?_; rintro e wA ⟨rfl, hbA⟩; replace hB := hB.trans (hbA.mono hB.size); have d0 := (hB.cell (p := ⟨w.heap.size, 0, none⟩) (by show w.heap.size < _; omega)).trans c0; have d1 := (hB.cell (p := ⟨w.heap.size, 1, none⟩) (by show w.heap.size < _; omega)).trans c1')
    | (go_at_call 13; refine (known_ok _ (hk0.below hB)).mono ?_; rintro e wA ⟨rfl, hbA⟩; replace hB := hB.trans (hbA.mono hB.size); have d0 := (hB.cell (p := ⟨w.heap.size, 0, none⟩) (by show w.heap.size < _; omega)).trans c0; have d1 := (hB.cell (p := ⟨w.heap.size, 1, none⟩) (by show w.heap.size < _; omega)).trans c1'))
  go_ret
  exact ⟨rfl, hw0.trans (hB.mono hw0.size)⟩
end Go.Proofs.YtdilcbocnndkmaaGreatDoor
