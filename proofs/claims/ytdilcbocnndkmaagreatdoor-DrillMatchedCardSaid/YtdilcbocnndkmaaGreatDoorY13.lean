/- A part of the proof: see the last file. -/
import Derived.Test.YtdilcbocnndkmaaGreatDoorY12
set_option linter.unusedVariables false
set_option linter.unusedSimpArgs false
set_option linter.unusedSectionVars false
namespace Go.Proofs.YtdilcbocnndkmaaGreatDoor
open Go.RowKit Go.Can
set_option maxRecDepth 100000 in
set_option maxHeartbeats 400000 in
theorem order_nil (a : Option Addr) (c : Nat) (F : Nat → Int) (m : Int) (w : World) :
    Calls Tryz.prog 21 #[.slice a 0 c, .int .i64 m] w fun e w' => e = .returned (.bool (ordB 0 F m)) ∧ Below w.heap.size w w' := by
  have he : ordB 0 F m = decide (((0 : Nat) : Int) = m) := ordB_end fun i hi => absurd hi (Nat.not_lt_zero i)
  rw [he]
  go_enter Tryz.func21, Tryz.ntmps21
  go_wp2
  refine wp_loop_rounds 1 ?_
  rw [rounds_succ]
  go_wp2
  go_ret
  exact ⟨rfl, Below.refl _ _⟩
theorem order_any (v : Value) (n : Nat) (F : Nat → Int) (m : Int) (w : World) (hn : n ≤ 1000) (hm0 : 0 ≤ m) (hm1 : m ≤ 1000) (h : IntsSl w v n F) :
    Calls Tryz.prog 21 #[v, .int .i64 m] w fun e w' => e = .returned (.bool (ordB n F m)) ∧ Below w.heap.size w w' := by
  rcases h with ⟨a, c, rfl, rfl⟩ | ⟨b, off, cap, rfl, hb, hp⟩
  · exact order_nil a c F m w
  · exact order_some b off n cap F m w hn hm0 hm1 hp hb
theorem IntsSl.below {w w' : World} {v : Value} {n : Nat} {F : Nat → Int} (h : IntsSl w v n F) (hb : Below w.heap.size w w') : IntsSl w' v n F := by
  rcases h with h | ⟨b, off, cap, h1, h2, h3⟩
  · exact .inl h
  · exact .inr ⟨b, off, cap, h1, Nat.lt_of_lt_of_le h2 hb.size, fun i hi => (hb.cell (p := ⟨b, off + i, none⟩) h2).trans (h3 i hi)⟩
set_option maxRecDepth 100000 in
set_option maxHeartbeats 2000000 in
theorem matched_long2 (a1 : Option Addr) (n1 c1 : Nat) (r : Int) (a2 : Option Addr) (n2 c2 : Nat) (t : Int) (a3 : Option Addr) (n3 c3 : Nat) (w : World) (hk : KG w) (hn : 6 < n2) (hm : n2 ≤ 9223372036854775807) :
    Calls Tryz.prog 5 #[.agg #[.slice a1 n1 c1, .int .i64 r], .slice a2 n2 c2, .int .i64 t, .slice a3 n3 c3] w fun e w' => e = .returned (.bool true) ∧ Below w.heap.size w w' := by
  obtain ⟨w0, hw⟩ : ∃ w0, w.alloc (.cells #[.slice a1 n1 c1, .int .i64 r] 24) = w0 := ⟨_, rfl⟩
  have hw0 : Below w.heap.size w w0 := by rw [← hw]; exact (Below.refl _ _).alloc (Nat.le_refl _) _
  have hsz : w0.heap.size = w.heap.size + 1 := by rw [← hw]; exact World.size_alloc _ _
  have c0 : w0.cell? ⟨w.heap.size, 0, none⟩ = some (.slice a1 n1 c1) := by rw [← hw]; have := cells_two w (.slice a1 n1 c1) (.int .i64 r) 24 0 _ rfl; simp [Addr.add]
  have c1' : w0.cell? ⟨w.heap.size, 1, none⟩ = some (.int .i64 r) := by rw [← hw]; have := cells_two w (.slice a1 n1 c1) (.int .i64 r) 24 1 _ rfl; simp [Addr.add]
  have hk0 := hk.below hw0
  have hB := Below.refl w0.heap.size w0
  have h1 : (6 : Int) < n2 := by omega
  go_enter Tryz.func5, Tryz.ntmps5
  go_wp2_with (first
    | (go_at_call 13; refine (known_ok _ (hk0.below hB)).mono ?_; rintro e wA ⟨rfl, hbA⟩; replace hB := hB.trans (hbA.mono hB.size); have d0 := (hB.cell (p := ⟨w.heap.size, 0, none⟩) (by show w.heap.size < _; omega)).trans c0; have d1 := (hB.cell (p := ⟨w.heap.size, 1, none⟩) (by show w.heap.size < _; omega)).trans c1'))
  go_ret
  exact ⟨rfl, hw0.trans (hB.mono hw0.size)⟩
set_option maxRecDepth 100000 in
set_option maxHeartbeats 2000000 in
theorem matched_long1 (a1 : Option Addr) (n1 c1 : Nat) (r : Int) (a2 : Option Addr) (n2 c2 : Nat) (t : Int) (a3 : Option Addr) (n3 c3 : Nat) (w : World) (hk : KG w) (hn2 : n2 ≤ 6) (hn : 6 < n1) (hm : n1 ≤ 9223372036854775807) :
    Calls Tryz.prog 5 #[.agg #[.slice a1 n1 c1, .int .i64 r], .slice a2 n2 c2, .int .i64 t, .slice a3 n3 c3] w fun e w' => e = .returned (.bool true) ∧ Below w.heap.size w w' := by
  obtain ⟨w0, hw⟩ : ∃ w0, w.alloc (.cells #[.slice a1 n1 c1, .int .i64 r] 24) = w0 := ⟨_, rfl⟩
  have hw0 : Below w.heap.size w w0 := by rw [← hw]; exact (Below.refl _ _).alloc (Nat.le_refl _) _
  have hsz : w0.heap.size = w.heap.size + 1 := by rw [← hw]; exact World.size_alloc _ _
  have c0 : w0.cell? ⟨w.heap.size, 0, none⟩ = some (.slice a1 n1 c1) := by rw [← hw]; have := cells_two w (.slice a1 n1 c1) (.int .i64 r) 24 0 _ rfl; simp [Addr.add]
  have c1' : w0.cell? ⟨w.heap.size, 1, none⟩ = some (.int .i64 r) := by rw [← hw]; have := cells_two w (.slice a1 n1 c1) (.int .i64 r) 24 1 _ rfl; simp [Addr.add]
  have hk0 := hk.below hw0
  have hB := Below.refl w0.heap.size w0
  have h1 : (6 : Int) < n1 := by omega
  have h2 : ¬ (6 : Int) < n2 := by omega
  go_enter Tryz.func5, Tryz.ntmps5
  go_wp2_with (first
    | (go_at_call 13; refine (known_ok _ (hk0.below hB)).mono ?_; rintro e wA ⟨rfl, hbA⟩; replace hB := hB.trans (hbA.mono hB.size); have d0 := (hB.cell (p := ⟨w.heap.size, 0, none⟩) (by show w.heap.size < _; omega)).trans c0; have d1 := (hB.cell (p := ⟨w.heap.size, 1, none⟩) (by show w.heap.size < _; omega)).trans c1'))
  go_ret
  exact ⟨rfl, hw0.trans (hB.mono hw0.size)⟩
set_option maxRecDepth 100000 in
set_option maxHeartbeats 2000000 in
theorem matched_long3 (a1 : Option Addr) (n1 c1 : Nat) (r : Int) (a2 : Option Addr) (n2 c2 : Nat) (t : Int) (a3 : Option Addr) (n3 c3 : Nat) (w : World) (hk : KG w) (hn2 : n2 ≤ 6) (hn1 : n1 ≤ 6) (hn : 6 < n3) (hm : n3 ≤ 9223372036854775807) :
    Calls Tryz.prog 5 #[.agg #[.slice a1 n1 c1, .int .i64 r], .slice a2 n2 c2, .int .i64 t, .slice a3 n3 c3] w fun e w' => e = .returned (.bool true) ∧ Below w.heap.size w w' := by
  obtain ⟨w0, hw⟩ : ∃ w0, w.alloc (.cells #[.slice a1 n1 c1, .int .i64 r] 24) = w0 := ⟨_, rfl⟩
  have hw0 : Below w.heap.size w w0 := by rw [← hw]; exact (Below.refl _ _).alloc (Nat.le_refl _) _
  have hsz : w0.heap.size = w.heap.size + 1 := by rw [← hw]; exact World.size_alloc _ _
  have c0 : w0.cell? ⟨w.heap.size, 0, none⟩ = some (.slice a1 n1 c1) := by rw [← hw]; have := cells_two w (.slice a1 n1 c1) (.int .i64 r) 24 0 _ rfl; simp [Addr.add]
  have c1' : w0.cell? ⟨w.heap.size, 1, none⟩ = some (.int .i64 r) := by rw [← hw]; have := cells_two w (.slice a1 n1 c1) (.int .i64 r) 24 1 _ rfl; simp [Addr.add]
  have hk0 := hk.below hw0
  have hB := Below.refl w0.heap.size w0
  have h1 : ¬ (6 : Int) < n1 := by omega
  have h2 : ¬ (6 : Int) < n2 := by omega
  have h3 : (6 : Int) < n3 := by omega
  go_enter Tryz.func5, Tryz.ntmps5
  go_wp2_with (first
    | (go_at_call 13; refine (known_ok _ (hk0.below hB)).mono ?_; rintro e wA ⟨rfl, hbA⟩; replace hB := hB.trans (hbA.mono hB.size); have d0 := (hB.cell (p := ⟨w.heap.size, 0, none⟩) (by show w.heap.size < _; omega)).trans c0; have d1 := (hB.cell (p := ⟨w.heap.size, 1, none⟩) (by show w.heap.size < _; omega)).trans c1'))
  go_ret
  exact ⟨rfl, hw0.trans (hB.mono hw0.size)⟩
set_option maxRecDepth 100000 in
set_option maxHeartbeats 2000000 in
theorem matched_meas (a1 : Option Addr) (n1 c1 : Nat) (r : Int) (a2 : Option Addr) (n2 c2 : Nat) (t : Int) (a3 : Option Addr) (n3 c3 : Nat) (w : World) (hk : KG w) (HX HY PX PY : Nat → Int) (hn2 : n2 ≤ 6) (hn1 : n1 ≤ 6) (hn3 : n3 ≤ 6) (hp1 : PSc w (.slice a1 n1 c1) n1 HX HY) (hp2 : PSl w (.slice a2 n2 c2) n2 PX PY) (h : measB n1 HX HY r = false) :
    Calls Tryz.prog 5 #[.agg #[.slice a1 n1 c1, .int .i64 r], .slice a2 n2 c2, .int .i64 t, .slice a3 n3 c3] w fun e w' => e = .returned (.bool true) ∧ Below w.heap.size w w' := by
  obtain ⟨w0, hw⟩ : ∃ w0, w.alloc (.cells #[.slice a1 n1 c1, .int .i64 r] 24) = w0 := ⟨_, rfl⟩
  have hw0 : Below w.heap.size w w0 := by rw [← hw]; exact (Below.refl _ _).alloc (Nat.le_refl _) _
  have hsz : w0.heap.size = w.heap.size + 1 := by rw [← hw]; exact World.size_alloc _ _
  have c0 : w0.cell? ⟨w.heap.size, 0, none⟩ = some (.slice a1 n1 c1) := by rw [← hw]; have := cells_two w (.slice a1 n1 c1) (.int .i64 r) 24 0 _ rfl; simp [Addr.add]
  have c1' : w0.cell? ⟨w.heap.size, 1, none⟩ = some (.int .i64 r) := by rw [← hw]; have := cells_two w (.slice a1 n1 c1) (.int .i64 r) 24 1 _ rfl; simp [Addr.add]
  have hk0 := hk.below hw0
  have hB := Below.refl w0.heap.size w0
  have h1 : ¬ (6 : Int) < n1 := by omega
  have h2 : ¬ (6 : Int) < n2 := by omega
  have h3 : ¬ (6 : Int) < n3 := by omega
  have hp0 : PSc w0 (.slice a1 n1 c1) n1 HX HY := ⟨hp1.1.below hw0, hp1.2⟩
  have hme := fun (W : World) (hb : Below w0.heap.size w0 W) => measure_any (.slice a1 n1 c1) n1 HX HY r W (by omega) (hp0.1.below hb)
  rw [h] at hme
  go_enter Tryz.func5, Tryz.ntmps5
  go_wp2_with (first
    | (go_at_call 10; refine (hme _ hB).mono ?_; rintro e wA ⟨rfl, hbA⟩; replace hB := hB.trans (hbA.mono hB.size); have d0 := (hB.cell (p := ⟨w.heap.size, 0, none⟩) (by show w.heap.size < _; omega)).trans c0; have d1 := (hB.cell (p := ⟨w.heap.size, 1, none⟩) (by show w.heap.size < _; omega)).trans c1')
    | (go_at_call 13; refine (known_ok _ (hk0.below hB)).mono ?_; rintro e wA ⟨rfl, hbA⟩; replace hB := hB.trans (hbA.mono hB.size); have d0 := (hB.cell (p := ⟨w.heap.size, 0, none⟩) (by show w.heap.size < _; omega)).trans c0; have d1 := (hB.cell (p := ⟨w.heap.size, 1, none⟩) (by show w.heap.size < _; omega)).trans c1'))
  go_ret
  exact ⟨rfl, hw0.trans (hB.mono hw0.size)⟩
set_option maxRecDepth 100000 in
set_option maxHeartbeats 2000000 in
theorem matched_odd (a1 : Option Addr) (n1 c1 : Nat) (r : Int) (a2 : Option Addr) (n2 c2 : Nat) (t : Int) (a3 : Option Addr) (n3 c3 : Nat) (w : World) (hk : KG w) (HX HY PX PY : Nat → Int) (hn2 : n2 ≤ 6) (hn1 : n1 ≤ 6) (hn3 : n3 ≤ 6) (hp1 : PSc w (.slice a1 n1 c1) n1 HX HY) (hp2 : PSl w (.slice a2 n2 c2) n2 PX PY) (h : measB n1 HX HY r = true) (hpon : ponB n2 n1 n1 PX PY 80 = false) :
    Calls Tryz.prog 5 #[.agg #[.slice a1 n1 c1, .int .i64 r], .slice a2 n2 c2, .int .i64 t, .slice a3 n3 c3] w fun e w' => e = .returned (.bool true) ∧ Below w.heap.size w w' := by
  obtain ⟨w0, hw⟩ : ∃ w0, w.alloc (.cells #[.slice a1 n1 c1, .int .i64 r] 24) = w0 := ⟨_, rfl⟩
  have hw0 : Below w.heap.size w w0 := by rw [← hw]; exact (Below.refl _ _).alloc (Nat.le_refl _) _
  have hsz : w0.heap.size = w.heap.size + 1 := by rw [← hw]; exact World.size_alloc _ _
  have c0 : w0.cell? ⟨w.heap.size, 0, none⟩ = some (.slice a1 n1 c1) := by rw [← hw]; have := cells_two w (.slice a1 n1 c1) (.int .i64 r) 24 0 _ rfl; simp [Addr.add]
  have c1' : w0.cell? ⟨w.heap.size, 1, none⟩ = some (.int .i64 r) := by rw [← hw]; have := cells_two w (.slice a1 n1 c1) (.int .i64 r) 24 1 _ rfl; simp [Addr.add]
  have hk0 := hk.below hw0
  have hB := Below.refl w0.heap.size w0
  have h1 : ¬ (6 : Int) < n1 := by omega
  have h2 : ¬ (6 : Int) < n2 := by omega
  have h3 : ¬ (6 : Int) < n3 := by omega
  have hp0 : PSc w0 (.slice a1 n1 c1) n1 HX HY := ⟨hp1.1.below hw0, hp1.2⟩
  have hme := fun (W : World) (hb : Below w0.heap.size w0 W) => measure_any (.slice a1 n1 c1) n1 HX HY r W (by omega) (hp0.1.below hb)
  rw [h] at hme
  go_enter Tryz.func5, Tryz.ntmps5
  go_wp2_with (first
    | (go_at_call 10; refine (hme _ hB).mono ?_; rintro e wA ⟨rfl, hbA⟩; replace hB := hB.trans (hbA.mono hB.size); have d0 := (hB.cell (p := ⟨w.heap.size, 0, none⟩) (by show w.heap.size < _; omega)).trans c0; have d1 := (hB.cell (p := ⟨w.heap.size, 1, none⟩) (by show w.heap.size < _; omega)).trans c1')
    | (go_at_call 12; refine (points_any _ n2 n1 n1 PX PY 80 (by omega) (by omega) _ (by omega) (hp2.below (hw0.trans (hB.mono hw0.size)))).mono ?_; rw [hpon]; rintro e w' ⟨rfl, rfl⟩)
    | (go_at_call 13; refine (known_ok _ (hk0.below hB)).mono ?_; rintro e wA ⟨rfl, hbA⟩; replace hB := hB.trans (hbA.mono hB.size); have d0 := (hB.cell (p := ⟨w.heap.size, 0, none⟩) (by show w.heap.size < _; omega)).trans c0; have d1 := (hB.cell (p := ⟨w.heap.size, 1, none⟩) (by show w.heap.size < _; omega)).trans c1'))
  go_ret
  exact ⟨rfl, hw0.trans (hB.mono hw0.size)⟩
set_option maxRecDepth 100000 in
set_option maxHeartbeats 2000000 in
theorem matched_turn (a1 : Option Addr) (n1 c1 : Nat) (r : Int) (a2 : Option Addr) (n2 c2 : Nat) (t : Int) (a3 : Option Addr) (n3 c3 : Nat) (w : World) (hk : KG w) (HX HY PX PY : Nat → Int) (hn2 : n2 ≤ 6) (hn1 : n1 ≤ 6) (hn3 : n3 ≤ 6) (hp1 : PSc w (.slice a1 n1 c1) n1 HX HY) (hp2 : PSl w (.slice a2 n2 c2) n2 PX PY) (h : measB n1 HX HY r = true) (hpon : ponB n2 n1 n1 PX PY 80 = true) (ht : inB t 0 7 = false) :
    Calls Tryz.prog 5 #[.agg #[.slice a1 n1 c1, .int .i64 r], .slice a2 n2 c2, .int .i64 t, .slice a3 n3 c3] w fun e w' => e = .returned (.bool true) ∧ Below w.heap.size w w' := by
  obtain ⟨w0, hw⟩ : ∃ w0, w.alloc (.cells #[.slice a1 n1 c1, .int .i64 r] 24) = w0 := ⟨_, rfl⟩
  have hw0 : Below w.heap.size w w0 := by rw [← hw]; exact (Below.refl _ _).alloc (Nat.le_refl _) _
  have hsz : w0.heap.size = w.heap.size + 1 := by rw [← hw]; exact World.size_alloc _ _
  have c0 : w0.cell? ⟨w.heap.size, 0, none⟩ = some (.slice a1 n1 c1) := by rw [← hw]; have := cells_two w (.slice a1 n1 c1) (.int .i64 r) 24 0 _ rfl; simp [Addr.add]
  have c1' : w0.cell? ⟨w.heap.size, 1, none⟩ = some (.int .i64 r) := by rw [← hw]; have := cells_two w (.slice a1 n1 c1) (.int .i64 r) 24 1 _ rfl; simp [Addr.add]
  have hk0 := hk.below hw0
  have hB := Below.refl w0.heap.size w0
  have h1 : ¬ (6 : Int) < n1 := by omega
  have h2 : ¬ (6 : Int) < n2 := by omega
  have h3 : ¬ (6 : Int) < n3 := by omega
  have hp0 : PSc w0 (.slice a1 n1 c1) n1 HX HY := ⟨hp1.1.below hw0, hp1.2⟩
  have hme := fun (W : World) (hb : Below w0.heap.size w0 W) => measure_any (.slice a1 n1 c1) n1 HX HY r W (by omega) (hp0.1.below hb)
  rw [h] at hme
  go_enter Tryz.func5, Tryz.ntmps5
  go_wp2_with (first
    | (go_at_call 10; refine (hme _ hB).mono ?_; rintro e wA ⟨rfl, hbA⟩; replace hB := hB.trans (hbA.mono hB.size); have d0 := (hB.cell (p := ⟨w.heap.size, 0, none⟩) (by show w.heap.size < _; omega)).trans c0; have d1 := (hB.cell (p := ⟨w.heap.size, 1, none⟩) (by show w.heap.size < _; omega)).trans c1')
    | (go_at_call 12; refine (points_any _ n2 n1 n1 PX PY 80 (by omega) (by omega) _ (by omega) (hp2.below (hw0.trans (hB.mono hw0.size)))).mono ?_; rw [hpon]; rintro e w' ⟨rfl, rfl⟩)
    | (go_at_call 11; refine (turns_any _ _).mono ?_; rw [ht]; rintro e w' ⟨rfl, rfl⟩)
    | (go_at_call 13; refine (known_ok _ (hk0.below hB)).mono ?_; rintro e wA ⟨rfl, hbA⟩; replace hB := hB.trans (hbA.mono hB.size); have d0 := (hB.cell (p := ⟨w.heap.size, 0, none⟩) (by show w.heap.size < _; omega)).trans c0; have d1 := (hB.cell (p := ⟨w.heap.size, 1, none⟩) (by show w.heap.size < _; omega)).trans c1'))
  go_ret
  exact ⟨rfl, hw0.trans (hB.mono hw0.size)⟩
set_option maxRecDepth 100000 in
set_option maxHeartbeats 2000000 in
theorem matched_order (a1 : Option Addr) (n1 c1 : Nat) (r : Int) (a2 : Option Addr) (n2 c2 : Nat) (t : Int) (a3 : Option Addr) (n3 c3 : Nat) (w : World) (hk : KG w) (HX HY PX PY : Nat → Int) (hn2 : n2 ≤ 6) (hn1 : n1 ≤ 6) (hn3 : n3 ≤ 6) (hp1 : PSc w (.slice a1 n1 c1) n1 HX HY) (hp2 : PSl w (.slice a2 n2 c2) n2 PX PY) (F : Nat → Int) (ho : IntsSl w (.slice a3 n3 c3) n3 F) (h : measB n1 HX HY r = true) (hpon : ponB n2 n1 n1 PX PY 80 = true) (ht : inB t 0 7 = true) (hor : ordB n3 F n2 = false) :
    Calls Tryz.prog 5 #[.agg #[.slice a1 n1 c1, .int .i64 r], .slice a2 n2 c2, .int .i64 t, .slice a3 n3 c3] w fun e w' => e = .returned (.bool true) ∧ Below w.heap.size w w' := by
  obtain ⟨w0, hw⟩ : ∃ w0, w.alloc (.cells #[.slice a1 n1 c1, .int .i64 r] 24) = w0 := ⟨_, rfl⟩
  have hw0 : Below w.heap.size w w0 := by rw [← hw]; exact (Below.refl _ _).alloc (Nat.le_refl _) _
  have hsz : w0.heap.size = w.heap.size + 1 := by rw [← hw]; exact World.size_alloc _ _
  have c0 : w0.cell? ⟨w.heap.size, 0, none⟩ = some (.slice a1 n1 c1) := by rw [← hw]; have := cells_two w (.slice a1 n1 c1) (.int .i64 r) 24 0 _ rfl; simp [Addr.add]
  have c1' : w0.cell? ⟨w.heap.size, 1, none⟩ = some (.int .i64 r) := by rw [← hw]; have := cells_two w (.slice a1 n1 c1) (.int .i64 r) 24 1 _ rfl; simp [Addr.add]
  have hk0 := hk.below hw0
  have hB := Below.refl w0.heap.size w0
  have h1 : ¬ (6 : Int) < n1 := by omega
  have h2 : ¬ (6 : Int) < n2 := by omega
  have h3 : ¬ (6 : Int) < n3 := by omega
  have hp0 : PSc w0 (.slice a1 n1 c1) n1 HX HY := ⟨hp1.1.below hw0, hp1.2⟩
  have hme := fun (W : World) (hb : Below w0.heap.size w0 W) => measure_any (.slice a1 n1 c1) n1 HX HY r W (by omega) (hp0.1.below hb)
  rw [h] at hme
  go_enter Tryz.func5, Tryz.ntmps5
  go_wp2_with (first
    | (go_at_call 10; refine (hme _ hB).mono ?_; rintro e wA ⟨rfl, hbA⟩; replace hB := hB.trans (hbA.mono hB.size); have d0 := (hB.cell (p := ⟨w.heap.size, 0, none⟩) (by show w.heap.size < _; omega)).trans c0; have d1 := (hB.cell (p := ⟨w.heap.size, 1, none⟩) (by show w.heap.size < _; omega)).trans c1')
    | (go_at_call 12; refine (points_any _ n2 n1 n1 PX PY 80 (by omega) (by omega) _ (by omega) (hp2.below (hw0.trans (hB.mono hw0.size)))).mono ?_; rw [hpon]; rintro e w' ⟨rfl, rfl⟩)
    | (go_at_call 11; refine (turns_any _ _).mono ?_; rw [ht]; rintro e w' ⟨rfl, rfl⟩)
    | (go_at_call 21; refine (order_any (.slice a3 n3 c3) n3 F n2 _ (by omega) (by omega) (by omega) (ho.below (hw0.trans (hB.mono hw0.size)))).mono ?_; rw [hor]; rintro e wA ⟨rfl, hbA⟩; replace hB := hB.trans (hbA.mono hB.size); have d0 := (hB.cell (p := ⟨w.heap.size, 0, none⟩) (by show w.heap.size < _; omega)).trans c0; have d1 := (hB.cell (p := ⟨w.heap.size, 1, none⟩) (by show w.heap.size < _; omega)).trans c1')
    | (go_at_call 13; refine (known_ok _ (hk0.below hB)).mono ?_; rintro e wA ⟨rfl, hbA⟩; replace hB := hB.trans (hbA.mono hB.size); have d0 := (hB.cell (p := ⟨w.heap.size, 0, none⟩) (by show w.heap.size < _; omega)).trans c0; have d1 := (hB.cell (p := ⟨w.heap.size, 1, none⟩) (by show w.heap.size < _; omega)).trans c1'))
  go_ret
  exact ⟨rfl, hw0.trans (hB.mono hw0.size)⟩
end Go.Proofs.YtdilcbocnndkmaaGreatDoor
