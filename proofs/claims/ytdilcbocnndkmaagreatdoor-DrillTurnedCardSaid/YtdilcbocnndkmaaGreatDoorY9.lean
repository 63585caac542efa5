/- A part of the proof: see the last file. -/
import Derived.Test.YtdilcbocnndkmaaGreatDoorY8
set_option linter.unusedVariables false
set_option linter.unusedSimpArgs false
set_option linter.unusedSectionVars false
namespace Go.Proofs.YtdilcbocnndkmaaGreatDoor
open Go.RowKit Go.Can
set_option maxRecDepth 100000 in
set_option maxHeartbeats 2000000 in
theorem turned_long2 (a1 : Option Addr) (n1 c1 : Nat) (r : Int) (a2 : Option Addr) (n2 c2 : Nat) (t : Int) (w : World) (hk : KG w) (hn : 6 < n2) (hm : n2 ≤ 9223372036854775807) :
    Calls Tryz.prog 3 #[.agg #[.slice a1 n1 c1, .int .i64 r], .slice a2 n2 c2, .int .i64 t] w fun e w' => e = .returned (.bool true) ∧ Below w.heap.size w w' := by
  obtain ⟨w0, hw⟩ : ∃ w0, w.alloc (.cells #[.slice a1 n1 c1, .int .i64 r] 24) = w0 := ⟨_, rfl⟩
  have hw0 : Below w.heap.size w w0 := by rw [← hw]; exact (Below.refl _ _).alloc (Nat.le_refl _) _
  have hsz : w0.heap.size = w.heap.size + 1 := by rw [← hw]; exact World.size_alloc _ _
  have c0 : w0.cell? ⟨w.heap.size, 0, none⟩ = some (.slice a1 n1 c1) := by rw [← hw]; have := cells_two w (.slice a1 n1 c1) (.int .i64 r) 24 0 _ rfl; simp [Addr.add]
  have c1' : w0.cell? ⟨w.heap.size, 1, none⟩ = some (.int .i64 r) := by rw [← hw]; have := cells_two w (.slice a1 n1 c1) (.int .i64 r) 24 1 _ rfl; simp [Addr.add]
  have hk0 := hk.below hw0
  have hB := Below.refl w0.heap.size w0
  have h1 : (6 : Int) < n2 := by omega
  go_enter Tryz.func3, Tryz.ntmps3
  go_wp2_with (first
    | (go_at_call 13; refine (known_ok _ (hk0.below hB)).mono ?_; rintro e wA ⟨rfl, hbA⟩; replace hB := hB.trans (hbA.mono hB.size); have d0 := (hB.cell (p := ⟨w.heap.size, 0, none⟩) (by show w.heap.size < _; omega)).trans c0; have d1 := (hB.cell (p := ⟨w.heap.size, 1, none⟩) (by show w.heap.size < _; omega)).trans c1'))
  go_ret
  exact ⟨rfl, hw0.trans (hB.mono hw0.size)⟩
set_option maxRecDepth 100000 in
set_option maxHeartbeats 2000000 in
theorem turned_long1 (a1 : Option Addr) (n1 c1 : Nat) (r : Int) (a2 : Option Addr) (n2 c2 : Nat) (t : Int) (w : World) (hk : KG w) (hn2 : n2 ≤ 6) (hn : 6 < n1) (hm : n1 ≤ 9223372036854775807) :
    Calls Tryz.prog 3 #[.agg #[.slice a1 n1 c1, .int .i64 r], .slice a2 n2 c2, .int .i64 t] w fun e w' => e = .returned (.bool true) ∧ Below w.heap.size w w' := by
  obtain ⟨w0, hw⟩ : ∃ w0, w.alloc (.cells #[.slice a1 n1 c1, .int .i64 r] 24) = w0 := ⟨_, rfl⟩
  have hw0 : Below w.heap.size w w0 := by rw [← hw]; exact (Below.refl _ _).alloc (Nat.le_refl _) _
  have hsz : w0.heap.size = w.heap.size + 1 := by rw [← hw]; exact World.size_alloc _ _
  have c0 : w0.cell? ⟨w.heap.size, 0, none⟩ = some (.slice a1 n1 c1) := by rw [← hw]; have := cells_two w (.slice a1 n1 c1) (.int .i64 r) 24 0 _ rfl; simp [Addr.add]
  have c1' : w0.cell? ⟨w.heap.size, 1, none⟩ = some (.int .i64 r) := by rw [← hw]; have := cells_two w (.slice a1 n1 c1) (.int .i64 r) 24 1 _ rfl; simp [Addr.add]
  have hk0 := hk.below hw0
  have hB := Below.refl w0.heap.size w0
  have h1 : (6 : Int) < n1 := by omega
  have h2 : ¬ (6 : Int) < n2 := by omega
  go_enter Tryz.func3, Tryz.ntmps3
  go_wp2_with (first
    | (go_at_call 13; refine (known_ok _ (hk0.below hB)).mono ?_; rintro e wA ⟨rfl, hbA⟩; replace hB := hB.trans (hbA.mono hB.size); have d0 := (hB.cell (p := ⟨w.heap.size, 0, none⟩) (by show w.heap.size < _; omega)).trans c0; have d1 := (hB.cell (p := ⟨w.heap.size, 1, none⟩) (by show w.heap.size < _; omega)).trans c1'))
  go_ret
  exact ⟨rfl, hw0.trans (hB.mono hw0.size)⟩
set_option maxRecDepth 100000 in
set_option maxHeartbeats 2000000 in
theorem turned_meas (a1 : Option Addr) (n1 c1 : Nat) (r : Int) (a2 : Option Addr) (n2 c2 : Nat) (t : Int) (w : World) (hk : KG w) (HX HY PX PY : Nat → Int) (hn2 : n2 ≤ 6) (hn1 : n1 ≤ 6) (hp1 : PSc w (.slice a1 n1 c1) n1 HX HY) (hp2 : PSl w (.slice a2 n2 c2) n2 PX PY) (h : measB n1 HX HY r = false) :
    Calls Tryz.prog 3 #[.agg #[.slice a1 n1 c1, .int .i64 r], .slice a2 n2 c2, .int .i64 t] w fun e w' => e = .returned (.bool true) ∧ Below w.heap.size w w' := by
  obtain ⟨w0, hw⟩ : ∃ w0, w.alloc (.cells #[.slice a1 n1 c1, .int .i64 r] 24) = w0 := ⟨_, rfl⟩
  have hw0 : Below w.heap.size w w0 := by rw [← hw]; exact (Below.refl _ _).alloc (Nat.le_refl _) _
  have hsz : w0.heap.size = w.heap.size + 1 := by rw [← hw]; exact World.size_alloc _ _
  have c0 : w0.cell? ⟨w.heap.size, 0, none⟩ = some (.slice a1 n1 c1) := by rw [← hw]; have := cells_two w (.slice a1 n1 c1) (.int .i64 r) 24 0 _ rfl; simp [Addr.add]
  have c1' : w0.cell? ⟨w.heap.size, 1, none⟩ = some (.int .i64 r) := by rw [← hw]; have := cells_two w (.slice a1 n1 c1) (.int .i64 r) 24 1 _ rfl; simp [Addr.add]
  have hk0 := hk.below hw0
  have hB := Below.refl w0.heap.size w0
  have h1 : ¬ (6 : Int) < n1 := by omega
  have h2 : ¬ (6 : Int) < n2 := by omega
  have hp0 : PSc w0 (.slice a1 n1 c1) n1 HX HY := ⟨hp1.1.below hw0, hp1.2⟩
  have hme := fun (W : World) (hb : Below w0.heap.size w0 W) => measure_any (.slice a1 n1 c1) n1 HX HY r W (by omega) (hp0.1.below hb)
  rw [h] at hme
  go_enter Tryz.func3, Tryz.ntmps3
  go_wp2_with (first
    | (go_at_call 10; refine (hme _ hB).mono ?_; rintro e wA ⟨rfl, hbA⟩; replace hB := hB.trans (hbA.mono hB.size); have d0 := (hB.cell (p := ⟨w.heap.size, 0, none⟩) (by show w.heap.size < _; omega)).trans c0; have d1 := (hB.cell (p := ⟨w.heap.size, 1, none⟩) (by show w.heap.size < _; omega)).trans c1')
    | (go_at_call 13; refine (known_ok _ (hk0.below hB)).mono ?_; rintro e wA ⟨rfl, hbA⟩; replace hB := hB.trans (hbA.mono hB.size); have d0 := (hB.cell (p := ⟨w.heap.size, 0, none⟩) (by show w.heap.size < _; omega)).trans c0; have d1 := (hB.cell (p := ⟨w.heap.size, 1, none⟩) (by show w.heap.size < _; omega)).trans c1'))
  go_ret
  exact ⟨rfl, hw0.trans (hB.mono hw0.size)⟩
set_option maxRecDepth 100000 in
set_option maxHeartbeats 2000000 in
theorem turned_turn (a1 : Option Addr) (n1 c1 : Nat) (r : Int) (a2 : Option Addr) (n2 c2 : Nat) (t : Int) (w : World) (hk : KG w) (HX HY PX PY : Nat → Int) (hn2 : n2 ≤ 6) (hn1 : n1 ≤ 6) (hp1 : PSc w (.slice a1 n1 c1) n1 HX HY) (hp2 : PSl w (.slice a2 n2 c2) n2 PX PY) (h : measB n1 HX HY r = true) (ht : inB t 0 7 = false) :
    Calls Tryz.prog 3 #[.agg #[.slice a1 n1 c1, .int .i64 r], .slice a2 n2 c2, .int .i64 t] w fun e w' => e = .returned (.bool true) ∧ Below w.heap.size w w' := by
  obtain ⟨w0, hw⟩ : ∃ w0, w.alloc (.cells #[.slice a1 n1 c1, .int .i64 r] 24) = w0 := ⟨_, rfl⟩
  have hw0 : Below w.heap.size w w0 := by rw [← hw]; exact (Below.refl _ _).alloc (Nat.le_refl _) _
  have hsz : w0.heap.size = w.heap.size + 1 := by rw [← hw]; exact World.size_alloc _ _
  have c0 : w0.cell? ⟨w.heap.size, 0, none⟩ = some (.slice a1 n1 c1) := by rw [← hw]; have := cells_two w (.slice a1 n1 c1) (.int .i64 r) 24 0 _ rfl; simp [Addr.add]
  have c1' : w0.cell? ⟨w.heap.size, 1, none⟩ = some (.int .i64 r) := by rw [← hw]; have := cells_two w (.slice a1 n1 c1) (.int .i64 r) 24 1 _ rfl; simp [Addr.add]
  have hk0 := hk.below hw0
  have hB := Below.refl w0.heap.size w0
  have h1 : ¬ (6 : Int) < n1 := by omega
  have h2 : ¬ (6 : Int) < n2 := by omega
  have hp0 : PSc w0 (.slice a1 n1 c1) n1 HX HY := ⟨hp1.1.below hw0, hp1.2⟩
  have hme := fun (W : World) (hb : Below w0.heap.size w0 W) => measure_any (.slice a1 n1 c1) n1 HX HY r W (by omega) (hp0.1.below hb)
  rw [h] at hme
  go_enter Tryz.func3, Tryz.ntmps3
  go_wp2_with (first
    | (go_at_call 10; refine (hme _ hB).mono ?_; rintro e wA ⟨rfl, hbA⟩; replace hB := hB.trans (hbA.mono hB.size); have d0 := (hB.cell (p := ⟨w.heap.size, 0, none⟩) (by show w.heap.size < _; omega)).trans c0; have d1 := (hB.cell (p := ⟨w.heap.size, 1, none⟩) (by show w.heap.size < _; omega)).trans c1')
    | (go_at_call 11; refine (turns_any _ _).mono ?_; rw [ht]; rintro e w' ⟨rfl, rfl⟩)
    | (go_at_call 13; refine (known_ok _ (hk0.below hB)).mono ?_; rintro e wA ⟨rfl, hbA⟩; replace hB := hB.trans (hbA.mono hB.size); have d0 := (hB.cell (p := ⟨w.heap.size, 0, none⟩) (by show w.heap.size < _; omega)).trans c0; have d1 := (hB.cell (p := ⟨w.heap.size, 1, none⟩) (by show w.heap.size < _; omega)).trans c1'))
  go_ret
  exact ⟨rfl, hw0.trans (hB.mono hw0.size)⟩
set_option maxRecDepth 100000 in
set_option maxHeartbeats 2000000 in
theorem turned_odd (a1 : Option Addr) (n1 c1 : Nat) (r : Int) (a2 : Option Addr) (n2 c2 : Nat) (t : Int) (w : World) (hk : KG w) (HX HY PX PY : Nat → Int) (hn2 : n2 ≤ 6) (hn1 : n1 ≤ 6) (hp1 : PSc w (.slice a1 n1 c1) n1 HX HY) (hp2 : PSl w (.slice a2 n2 c2) n2 PX PY) (h : measB n1 HX HY r = true) (ht : inB t 0 7 = true) (hpon : ponB n2 n1 n1 PX PY 80 = false) :
    Calls Tryz.prog 3 #[.agg #[.slice a1 n1 c1, .int .i64 r], .slice a2 n2 c2, .int .i64 t] w fun e w' => e = .returned (.bool true) ∧ Below w.heap.size w w' := by
  obtain ⟨w0, hw⟩ : ∃ w0, w.alloc (.cells #[.slice a1 n1 c1, .int .i64 r] 24) = w0 := ⟨_, rfl⟩
  have hw0 : Below w.heap.size w w0 := by rw [← hw]; exact (Below.refl _ _).alloc (Nat.le_refl _) _
  have hsz : w0.heap.size = w.heap.size + 1 := by rw [← hw]; exact World.size_alloc _ _
  have c0 : w0.cell? ⟨w.heap.size, 0, none⟩ = some (.slice a1 n1 c1) := by rw [← hw]; have := cells_two w (.slice a1 n1 c1) (.int .i64 r) 24 0 _ rfl; simp [Addr.add]
  have c1' : w0.cell? ⟨w.heap.size, 1, none⟩ = some (.int .i64 r) := by rw [← hw]; have := cells_two w (.slice a1 n1 c1) (.int .i64 r) 24 1 _ rfl; simp [Addr.add]
  have hk0 := hk.below hw0
  have hB := Below.refl w0.heap.size w0
  have h1 : ¬ (6 : Int) < n1 := by omega
  have h2 : ¬ (6 : Int) < n2 := by omega
  have hp0 : PSc w0 (.slice a1 n1 c1) n1 HX HY := ⟨hp1.1.below hw0, hp1.2⟩
  have hme := fun (W : World) (hb : Below w0.heap.size w0 W) => measure_any (.slice a1 n1 c1) n1 HX HY r W (by omega) (hp0.1.below hb)
  rw [h] at hme
  go_enter Tryz.func3, Tryz.ntmps3
  go_wp2_with (first
    | (go_at_call 10; refine (hme _ hB).mono ?_; rintro e wA ⟨rfl, hbA⟩; replace hB := hB.trans (hbA.mono hB.size); have d0 := (hB.cell (p := ⟨w.heap.size, 0, none⟩) (by show w.heap.size < _; omega)).trans c0; have d1 := (hB.cell (p := ⟨w.heap.size, 1, none⟩) (by show w.heap.size < _; omega)).trans c1')
    | (go_at_call 11; refine (turns_any _ _).mono ?_; rw [ht]; rintro e w' ⟨rfl, rfl⟩)
    | (go_at_call 12; refine (points_any _ n2 n1 n1 PX PY 80 (by omega) (by omega) _ (by omega) (hp2.below (hw0.trans (hB.mono hw0.size)))).mono ?_; rw [hpon]; rintro e w' ⟨rfl, rfl⟩)
    | (go_at_call 13; refine (known_ok _ (hk0.below hB)).mono ?_; rintro e wA ⟨rfl, hbA⟩; replace hB := hB.trans (hbA.mono hB.size); have d0 := (hB.cell (p := ⟨w.heap.size, 0, none⟩) (by show w.heap.size < _; omega)).trans c0; have d1 := (hB.cell (p := ⟨w.heap.size, 1, none⟩) (by show w.heap.size < _; omega)).trans c1'))
  go_ret
  exact ⟨rfl, hw0.trans (hB.mono hw0.size)⟩
end Go.Proofs.YtdilcbocnndkmaaGreatDoor
