/- A part of the proof: see the last file. -/
import Derived.Test.YtdilcbocnndkmaaGreatDoorY13
set_option linter.unusedVariables false
set_option linter.unusedSimpArgs false
set_option linter.unusedSectionVars false
namespace Go.Proofs.YtdilcbocnndkmaaGreatDoor
open Go.RowKit Go.Can
set_option maxRecDepth 100000 in
set_option maxHeartbeats 2000000 in
theorem matched_none (a1 : Option Addr) (c1 : Nat) (r : Int) (a2 : Option Addr) (n c2 : Nat) (t : Nat) (b3 o3 c3 : Nat) (w : World) (hk : KG w) (HX HY PX PY : Nat → Int) (hp1 : PSc w (.slice a1 n c1) n HX HY) (hp2 : PSl w (.slice a2 n c2) n PX PY) (h : measB n HX HY r = true) (ha : arB n 0 PX PY 80 = true) (ht : t < 8) (q : List Nat) (hq : q ∈ ords n) (ho : OrdAt w b3 o3 n q) (lo : b3 < w.heap.size) (hs : matchS n HX HY PX PY r = none) :
    Calls Tryz.prog 5 #[.agg #[.slice a1 n c1, .int .i64 r], .slice a2 n c2, .int .i64 t, .slice (some ⟨b3, o3, none⟩) n c3] w fun e w' => e = .returned (.bool true) ∧ Below w.heap.size w w' := by
  obtain ⟨⟨q1, q2⟩, ⟨q3, q4⟩, q5⟩ := meas_parts h
  obtain ⟨w0, hw⟩ : ∃ w0, w.alloc (.cells #[.slice a1 n c1, .int .i64 r] 24) = w0 := ⟨_, rfl⟩
  have hw0 : Below w.heap.size w w0 := by rw [← hw]; exact (Below.refl _ _).alloc (Nat.le_refl _) _
  have hsz : w0.heap.size = w.heap.size + 1 := by rw [← hw]; exact World.size_alloc _ _
  have c0 : w0.cell? ⟨w.heap.size, 0, none⟩ = some (.slice a1 n c1) := by rw [← hw]; have := cells_two w (.slice a1 n c1) (.int .i64 r) 24 0 _ rfl; simp [Addr.add]
  have c1' : w0.cell? ⟨w.heap.size, 1, none⟩ = some (.int .i64 r) := by rw [← hw]; have := cells_two w (.slice a1 n c1) (.int .i64 r) 24 1 _ rfl; simp [Addr.add]
  have hk0 := hk.below hw0
  have hB := Below.refl w0.heap.size w0
  have h1 : ¬ (6 : Int) < n := by omega
  have hp0 : PSc w0 (.slice a1 n c1) n HX HY := ⟨hp1.1.below hw0, hp1.2⟩
  have hme := fun (W : World) (hb : Below w0.heap.size w0 W) => measure_any (.slice a1 n c1) n HX HY r W (by omega) (hp0.1.below hb)
  rw [h] at hme
  have hl0 : PSl w0 (.slice a2 n c2) n PX PY := hp2.below hw0
  have ho0 : OrdAt w0 b3 o3 n q := ho.below hw0 lo
  have lo0 : b3 < w0.heap.size := Nat.lt_of_lt_of_le lo hw0.size
  have hpon : ponB n n n PX PY 80 = true := by
    unfold arB at ha
    rw [Bool.and_eq_true] at ha
    unfold ponB
    rw [ha.2, show inB (n : Int) n n = true from inB_yes (by omega) (by omega)]; rfl
  have ht7 : inB (t : Int) 0 7 = true := inB_yes (by omega) (by omega)
  obtain ⟨bh, oh, kh, eh, lh, ph⟩ := PSl_pos hp0.1 (by omega)
  obtain ⟨bl, ol, kl, el, ll, pl⟩ := PSl_pos hl0 (by omega)
  cases eh; cases el
  have hor : ordB n (fun i => ((q.getD i 0 : Nat) : Int)) n = true := ords_ordB q1 q2 q hq
  have hoq : ∀ (W : World), Below w0.heap.size w0 W → Calls Tryz.prog 21 #[.slice (some ⟨b3, o3, none⟩) n c3, .int .i64 n] W fun e w' => e = .returned (.bool true) ∧ Below W.heap.size W w' := fun W hb => by
    have := order_some b3 o3 n c3 (fun i => ((q.getD i 0 : Nat) : Int)) n W (by omega) (by omega) (by omega) (ho0.below hb lo0) (Nat.lt_of_lt_of_le lo0 hb.size)
    rw [hor] at this
    exact this
  have hpe := ords_perm q1 q2
  have hag := fun (W : World) (hb : Below w0.heap.size w0 W) => agrees_any bl ol c2 n t b3 o3 c3 bh oh c1 q HX HY PX PY r W ht q1 q2 q3 (by omega) (pl.below hb ll) (ph.below hb lh) (ho0.below hb lo0) (Nat.lt_of_lt_of_le ll hb.size) (Nat.lt_of_lt_of_le lh hb.size) (Nat.lt_of_lt_of_le lo0 hb.size) (hpe q hq).2 ha q5
  have hma := fun (W : World) (hb : Below w0.heap.size w0 W) => Match_none (some ⟨bh, oh, none⟩) c1 n (some ⟨bl, ol, none⟩) c2 HX HY PX PY r W ⟨hp0.1.below hb, hp0.2⟩ (hl0.below hb) h ha hs
  rw [matchS_none.1 hs t ht q hq] at hag
  go_enter Tryz.func5, Tryz.ntmps5
  go_wp2_with (first
    | (go_at_call 10; refine (hme _ hB).mono ?_; rintro e wA ⟨rfl, hbA⟩; replace hB := hB.trans (hbA.mono hB.size); have d0 := (hB.cell (p := ⟨w.heap.size, 0, none⟩) (by show w.heap.size < _; omega)).trans c0; have d1 := (hB.cell (p := ⟨w.heap.size, 1, none⟩) (by show w.heap.size < _; omega)).trans c1')
    | (go_at_call 11; refine (turns_any _ _).mono ?_; rw [ht7]; rintro e w' ⟨rfl, rfl⟩)
    | (go_at_call 12; refine (points_any _ n n n PX PY 80 (by omega) (by omega) _ (by omega) (hl0.below hB)).mono ?_; rw [hpon]; rintro e w' ⟨rfl, rfl⟩)
    | (go_at_call 21; with_reducible refine (hoq _ hB).mono ?_; rintro e wA ⟨rfl, hbA⟩; replace hB := hB.trans (hbA.mono hB.size); have d0 := (hB.cell (p := ⟨w.heap.size, 0, none⟩) (by show w.heap.size < _; omega)).trans c0; have d1 := (hB.cell (p := ⟨w.heap.size, 1, none⟩) (by show w.heap.size < _; omega)).trans c1')
    | (go_at_call 22; with_reducible refine (hag _ hB).mono ?_; rintro e wA ⟨rfl, hbA⟩; replace hB := hB.trans (hbA.mono hB.size); have d0 := (hB.cell (p := ⟨w.heap.size, 0, none⟩) (by show w.heap.size < _; omega)).trans c0; have d1 := (hB.cell (p := ⟨w.heap.size, 1, none⟩) (by show w.heap.size < _; omega)).trans c1')
    | (go_at_call 17; refine (hma _ hB).mono ?_; rintro e wA ⟨rfl, hbA⟩; replace hB := hB.trans (hbA.mono hB.size); have d0 := (hB.cell (p := ⟨w.heap.size, 0, none⟩) (by show w.heap.size < _; omega)).trans c0; have d1 := (hB.cell (p := ⟨w.heap.size, 1, none⟩) (by show w.heap.size < _; omega)).trans c1')
    | (go_at_call 13; refine (known_ok _ (hk0.below hB)).mono ?_; rintro e wA ⟨rfl, hbA⟩; replace hB := hB.trans (hbA.mono hB.size); have d0 := (hB.cell (p := ⟨w.heap.size, 0, none⟩) (by show w.heap.size < _; omega)).trans c0; have d1 := (hB.cell (p := ⟨w.heap.size, 1, none⟩) (by show w.heap.size < _; omega)).trans c1'))
  go_ret
  exact ⟨rfl, hw0.trans (hB.mono hw0.size)⟩
set_option maxRecDepth 100000 in
set_option maxHeartbeats 2000000 in
theorem matched_not (a1 : Option Addr) (c1 : Nat) (r : Int) (a2 : Option Addr) (n c2 : Nat) (t : Nat) (b3 o3 c3 : Nat) (w : World) (hk : KG w) (HX HY PX PY : Nat → Int) (hp1 : PSc w (.slice a1 n c1) n HX HY) (hp2 : PSl w (.slice a2 n c2) n PX PY) (h : measB n HX HY r = true) (ha : arB n 0 PX PY 80 = true) (ht : t < 8) (q : List Nat) (hq : q ∈ ords n) (ho : OrdAt w b3 o3 n q) (lo : b3 < w.heap.size) (t1 : Nat) (p : List Nat) (hs : matchS n HX HY PX PY r = some (t1, p)) (hno : agQ (fitB HX HY PX PY r t) n q = false) :
    Calls Tryz.prog 5 #[.agg #[.slice a1 n c1, .int .i64 r], .slice a2 n c2, .int .i64 t, .slice (some ⟨b3, o3, none⟩) n c3] w fun e w' => e = .returned (.bool true) ∧ Below w.heap.size w w' := by
  obtain ⟨⟨q1, q2⟩, ⟨q3, q4⟩, q5⟩ := meas_parts h
  obtain ⟨w0, hw⟩ : ∃ w0, w.alloc (.cells #[.slice a1 n c1, .int .i64 r] 24) = w0 := ⟨_, rfl⟩
  have hw0 : Below w.heap.size w w0 := by rw [← hw]; exact (Below.refl _ _).alloc (Nat.le_refl _) _
  have hsz : w0.heap.size = w.heap.size + 1 := by rw [← hw]; exact World.size_alloc _ _
  have c0 : w0.cell? ⟨w.heap.size, 0, none⟩ = some (.slice a1 n c1) := by rw [← hw]; have := cells_two w (.slice a1 n c1) (.int .i64 r) 24 0 _ rfl; simp [Addr.add]
  have c1' : w0.cell? ⟨w.heap.size, 1, none⟩ = some (.int .i64 r) := by rw [← hw]; have := cells_two w (.slice a1 n c1) (.int .i64 r) 24 1 _ rfl; simp [Addr.add]
  have hk0 := hk.below hw0
  have hB := Below.refl w0.heap.size w0
  have h1 : ¬ (6 : Int) < n := by omega
  have hp0 : PSc w0 (.slice a1 n c1) n HX HY := ⟨hp1.1.below hw0, hp1.2⟩
  have hme := fun (W : World) (hb : Below w0.heap.size w0 W) => measure_any (.slice a1 n c1) n HX HY r W (by omega) (hp0.1.below hb)
  rw [h] at hme
  have hl0 : PSl w0 (.slice a2 n c2) n PX PY := hp2.below hw0
  have ho0 : OrdAt w0 b3 o3 n q := ho.below hw0 lo
  have lo0 : b3 < w0.heap.size := Nat.lt_of_lt_of_le lo hw0.size
  have hpon : ponB n n n PX PY 80 = true := by
    unfold arB at ha
    rw [Bool.and_eq_true] at ha
    unfold ponB
    rw [ha.2, show inB (n : Int) n n = true from inB_yes (by omega) (by omega)]; rfl
  have ht7 : inB (t : Int) 0 7 = true := inB_yes (by omega) (by omega)
  obtain ⟨bh, oh, kh, eh, lh, ph⟩ := PSl_pos hp0.1 (by omega)
  obtain ⟨bl, ol, kl, el, ll, pl⟩ := PSl_pos hl0 (by omega)
  cases eh; cases el
  have hor : ordB n (fun i => ((q.getD i 0 : Nat) : Int)) n = true := ords_ordB q1 q2 q hq
  have hoq : ∀ (W : World), Below w0.heap.size w0 W → Calls Tryz.prog 21 #[.slice (some ⟨b3, o3, none⟩) n c3, .int .i64 n] W fun e w' => e = .returned (.bool true) ∧ Below W.heap.size W w' := fun W hb => by
    have := order_some b3 o3 n c3 (fun i => ((q.getD i 0 : Nat) : Int)) n W (by omega) (by omega) (by omega) (ho0.below hb lo0) (Nat.lt_of_lt_of_le lo0 hb.size)
    rw [hor] at this
    exact this
  have hpe := ords_perm q1 q2
  have hag := fun (W : World) (hb : Below w0.heap.size w0 W) => agrees_any bl ol c2 n t b3 o3 c3 bh oh c1 q HX HY PX PY r W ht q1 q2 q3 (by omega) (pl.below hb ll) (ph.below hb lh) (ho0.below hb lo0) (Nat.lt_of_lt_of_le ll hb.size) (Nat.lt_of_lt_of_le lh hb.size) (Nat.lt_of_lt_of_le lo0 hb.size) (hpe q hq).2 ha q5
  obtain ⟨z1, z2, z3, z4, z5⟩ := matchS_some q1 q2 hs
  have hma := fun (W : World) (hb : Below w0.heap.size w0 W) => Match_some (some ⟨bh, oh, none⟩) c1 n (some ⟨bl, ol, none⟩) c2 HX HY PX PY r W t1 p ⟨hp0.1.below hb, hp0.2⟩ (hl0.below hb) h ha hs
  have ht17 : inB (t1 : Int) 0 7 = true := inB_yes (by omega) (by omega)
  have hor1 : ordB n (fun i => ((p.getD i 0 : Nat) : Int)) n = true := ords_ordB q1 q2 p z2
  have hn6 : ¬ (6 : Int) < n := by omega
  rw [hno] at hag
  go_enter Tryz.func5, Tryz.ntmps5
  go_wp2_with (first
    | (go_at_call 10; refine (hme _ hB).mono ?_; rintro e wA ⟨rfl, hbA⟩; replace hB := hB.trans (hbA.mono hB.size); have d0 := (hB.cell (p := ⟨w.heap.size, 0, none⟩) (by show w.heap.size < _; omega)).trans c0; have d1 := (hB.cell (p := ⟨w.heap.size, 1, none⟩) (by show w.heap.size < _; omega)).trans c1')
    | (go_at_call 11; refine (turns_any _ _).mono ?_; (first | rw [ht17] | rw [ht7]); rintro e w' ⟨rfl, rfl⟩)
    | (go_at_call 12; refine (points_any _ n n n PX PY 80 (by omega) (by omega) _ (by omega) (hl0.below hB)).mono ?_; rw [hpon]; rintro e w' ⟨rfl, rfl⟩)
    | (go_at_call 21; with_reducible refine (hoq _ hB).mono ?_; rintro e wA ⟨rfl, hbA⟩; replace hB := hB.trans (hbA.mono hB.size); have d0 := (hB.cell (p := ⟨w.heap.size, 0, none⟩) (by show w.heap.size < _; omega)).trans c0; have d1 := (hB.cell (p := ⟨w.heap.size, 1, none⟩) (by show w.heap.size < _; omega)).trans c1')
    | (go_at_call 22; with_reducible refine (hag _ hB).mono ?_; rintro e wA ⟨rfl, hbA⟩; replace hQ := hQ.trans (hbA.mono hQ.size); replace hB := hB.trans (hbA.mono hB.size); have d0 := (hB.cell (p := ⟨w.heap.size, 0, none⟩) (by show w.heap.size < _; omega)).trans c0; have d1 := (hB.cell (p := ⟨w.heap.size, 1, none⟩) (by show w.heap.size < _; omega)).trans c1')
    | (go_at_call 17; refine (hma _ hB).mono ?_; rintro e wA ⟨bq, cq, rfl, hpq, lq, hbA⟩; replace hB := hB.trans (hbA.mono hB.size); have d0 := (hB.cell (p := ⟨w.heap.size, 0, none⟩) (by show w.heap.size < _; omega)).trans c0; have d1 := (hB.cell (p := ⟨w.heap.size, 1, none⟩) (by show w.heap.size < _; omega)).trans c1'; have hQ := Below.refl wA.heap.size wA)
    | (go_at_call 21; refine (order_some bq 0 n cq (fun i => ((p.getD i 0 : Nat) : Int)) n _ (by omega) (by omega) (by omega) (hpq.below hQ lq) (Nat.lt_of_lt_of_le lq hQ.size)).mono ?_; rw [hor1]; rintro e wA ⟨rfl, hbA⟩; replace hQ := hQ.trans (hbA.mono hQ.size); replace hB := hB.trans (hbA.mono hB.size); have d0 := (hB.cell (p := ⟨w.heap.size, 0, none⟩) (by show w.heap.size < _; omega)).trans c0; have d1 := (hB.cell (p := ⟨w.heap.size, 1, none⟩) (by show w.heap.size < _; omega)).trans c1')
    | (go_at_call 22; refine (agrees_any bl ol c2 n t1 bq 0 cq bh oh c1 p HX HY PX PY r _ z1 q1 q2 q3 (by omega) (pl.below hB ll) (ph.below hB lh) (hpq.below hQ lq) (Nat.lt_of_lt_of_le ll hB.size) (Nat.lt_of_lt_of_le lh hB.size) (Nat.lt_of_lt_of_le lq hQ.size) (hpe p z2).2 ha q5).mono ?_; rw [z3]; rintro e wA ⟨rfl, hbA⟩; replace hQ := hQ.trans (hbA.mono hQ.size); replace hB := hB.trans (hbA.mono hB.size); have d0 := (hB.cell (p := ⟨w.heap.size, 0, none⟩) (by show w.heap.size < _; omega)).trans c0; have d1 := (hB.cell (p := ⟨w.heap.size, 1, none⟩) (by show w.heap.size < _; omega)).trans c1')
    | (go_at_call 13; refine (known_ok _ (hk0.below hB)).mono ?_; rintro e wA ⟨rfl, hbA⟩; replace hB := hB.trans (hbA.mono hB.size); have d0 := (hB.cell (p := ⟨w.heap.size, 0, none⟩) (by show w.heap.size < _; omega)).trans c0; have d1 := (hB.cell (p := ⟨w.heap.size, 1, none⟩) (by show w.heap.size < _; omega)).trans c1'))
  go_ret
  exact ⟨rfl, hw0.trans (hB.mono hw0.size)⟩
set_option maxRecDepth 100000 in
set_option maxHeartbeats 2000000 in
theorem matched_later (a1 : Option Addr) (c1 : Nat) (r : Int) (a2 : Option Addr) (n c2 : Nat) (t : Nat) (b3 o3 c3 : Nat) (w : World) (hk : KG w) (HX HY PX PY : Nat → Int) (hp1 : PSc w (.slice a1 n c1) n HX HY) (hp2 : PSl w (.slice a2 n c2) n PX PY) (h : measB n HX HY r = true) (ha : arB n 0 PX PY 80 = true) (ht : t < 8) (q : List Nat) (hq : q ∈ ords n) (ho : OrdAt w b3 o3 n q) (lo : b3 < w.heap.size) (t1 : Nat) (p : List Nat) (hs : matchS n HX HY PX PY r = some (t1, p)) (hyes : agQ (fitB HX HY PX PY r t) n q = true) (hlt : t1 < t) :
    Calls Tryz.prog 5 #[.agg #[.slice a1 n c1, .int .i64 r], .slice a2 n c2, .int .i64 t, .slice (some ⟨b3, o3, none⟩) n c3] w fun e w' => e = .returned (.bool true) ∧ Below w.heap.size w w' := by
  obtain ⟨⟨q1, q2⟩, ⟨q3, q4⟩, q5⟩ := meas_parts h
  obtain ⟨w0, hw⟩ : ∃ w0, w.alloc (.cells #[.slice a1 n c1, .int .i64 r] 24) = w0 := ⟨_, rfl⟩
  have hw0 : Below w.heap.size w w0 := by rw [← hw]; exact (Below.refl _ _).alloc (Nat.le_refl _) _
  have hsz : w0.heap.size = w.heap.size + 1 := by rw [← hw]; exact World.size_alloc _ _
  have c0 : w0.cell? ⟨w.heap.size, 0, none⟩ = some (.slice a1 n c1) := by rw [← hw]; have := cells_two w (.slice a1 n c1) (.int .i64 r) 24 0 _ rfl; simp [Addr.add]
  have c1' : w0.cell? ⟨w.heap.size, 1, none⟩ = some (.int .i64 r) := by rw [← hw]; have := cells_two w (.slice a1 n c1) (.int .i64 r) 24 1 _ rfl; simp [Addr.add]
  have hk0 := hk.below hw0
  have hB := Below.refl w0.heap.size w0
  have h1 : ¬ (6 : Int) < n := by omega
  have hp0 : PSc w0 (.slice a1 n c1) n HX HY := ⟨hp1.1.below hw0, hp1.2⟩
  have hme := fun (W : World) (hb : Below w0.heap.size w0 W) => measure_any (.slice a1 n c1) n HX HY r W (by omega) (hp0.1.below hb)
  rw [h] at hme
  have hl0 : PSl w0 (.slice a2 n c2) n PX PY := hp2.below hw0
  have ho0 : OrdAt w0 b3 o3 n q := ho.below hw0 lo
  have lo0 : b3 < w0.heap.size := Nat.lt_of_lt_of_le lo hw0.size
  have hpon : ponB n n n PX PY 80 = true := by
    unfold arB at ha
    rw [Bool.and_eq_true] at ha
    unfold ponB
    rw [ha.2, show inB (n : Int) n n = true from inB_yes (by omega) (by omega)]; rfl
  have ht7 : inB (t : Int) 0 7 = true := inB_yes (by omega) (by omega)
  obtain ⟨bh, oh, kh, eh, lh, ph⟩ := PSl_pos hp0.1 (by omega)
  obtain ⟨bl, ol, kl, el, ll, pl⟩ := PSl_pos hl0 (by omega)
  cases eh; cases el
  have hor : ordB n (fun i => ((q.getD i 0 : Nat) : Int)) n = true := ords_ordB q1 q2 q hq
  have hoq : ∀ (W : World), Below w0.heap.size w0 W → Calls Tryz.prog 21 #[.slice (some ⟨b3, o3, none⟩) n c3, .int .i64 n] W fun e w' => e = .returned (.bool true) ∧ Below W.heap.size W w' := fun W hb => by
    have := order_some b3 o3 n c3 (fun i => ((q.getD i 0 : Nat) : Int)) n W (by omega) (by omega) (by omega) (ho0.below hb lo0) (Nat.lt_of_lt_of_le lo0 hb.size)
    rw [hor] at this
    exact this
  have hpe := ords_perm q1 q2
  have hag := fun (W : World) (hb : Below w0.heap.size w0 W) => agrees_any bl ol c2 n t b3 o3 c3 bh oh c1 q HX HY PX PY r W ht q1 q2 q3 (by omega) (pl.below hb ll) (ph.below hb lh) (ho0.below hb lo0) (Nat.lt_of_lt_of_le ll hb.size) (Nat.lt_of_lt_of_le lh hb.size) (Nat.lt_of_lt_of_le lo0 hb.size) (hpe q hq).2 ha q5
  obtain ⟨z1, z2, z3, z4, z5⟩ := matchS_some q1 q2 hs
  have hma := fun (W : World) (hb : Below w0.heap.size w0 W) => Match_some (some ⟨bh, oh, none⟩) c1 n (some ⟨bl, ol, none⟩) c2 HX HY PX PY r W t1 p ⟨hp0.1.below hb, hp0.2⟩ (hl0.below hb) h ha hs
  have ht17 : inB (t1 : Int) 0 7 = true := inB_yes (by omega) (by omega)
  have hor1 : ordB n (fun i => ((p.getD i 0 : Nat) : Int)) n = true := ords_ordB q1 q2 p z2
  have hn6 : ¬ (6 : Int) < n := by omega
  rw [hyes] at hag
  have hlt' : (t1 : Int) < t := by omega
  go_enter Tryz.func5, Tryz.ntmps5
  go_wp2_with (first
    | (go_at_call 10; refine (hme _ hB).mono ?_; rintro e wA ⟨rfl, hbA⟩; replace hB := hB.trans (hbA.mono hB.size); have d0 := (hB.cell (p := ⟨w.heap.size, 0, none⟩) (by show w.heap.size < _; omega)).trans c0; have d1 := (hB.cell (p := ⟨w.heap.size, 1, none⟩) (by show w.heap.size < _; omega)).trans c1')
    | (go_at_call 11; refine (turns_any _ _).mono ?_; (first | rw [ht17] | rw [ht7]); rintro e w' ⟨rfl, rfl⟩)
    | (go_at_call 12; refine (points_any _ n n n PX PY 80 (by omega) (by omega) _ (by omega) (hl0.below hB)).mono ?_; rw [hpon]; rintro e w' ⟨rfl, rfl⟩)
    | (go_at_call 21; with_reducible refine (hoq _ hB).mono ?_; rintro e wA ⟨rfl, hbA⟩; replace hB := hB.trans (hbA.mono hB.size); have d0 := (hB.cell (p := ⟨w.heap.size, 0, none⟩) (by show w.heap.size < _; omega)).trans c0; have d1 := (hB.cell (p := ⟨w.heap.size, 1, none⟩) (by show w.heap.size < _; omega)).trans c1')
    | (go_at_call 22; with_reducible refine (hag _ hB).mono ?_; rintro e wA ⟨rfl, hbA⟩; replace hQ := hQ.trans (hbA.mono hQ.size); replace hB := hB.trans (hbA.mono hB.size); have d0 := (hB.cell (p := ⟨w.heap.size, 0, none⟩) (by show w.heap.size < _; omega)).trans c0; have d1 := (hB.cell (p := ⟨w.heap.size, 1, none⟩) (by show w.heap.size < _; omega)).trans c1')
    | (go_at_call 17; refine (hma _ hB).mono ?_; rintro e wA ⟨bq, cq, rfl, hpq, lq, hbA⟩; replace hB := hB.trans (hbA.mono hB.size); have d0 := (hB.cell (p := ⟨w.heap.size, 0, none⟩) (by show w.heap.size < _; omega)).trans c0; have d1 := (hB.cell (p := ⟨w.heap.size, 1, none⟩) (by show w.heap.size < _; omega)).trans c1'; have hQ := Below.refl wA.heap.size wA)
    | (go_at_call 21; refine (order_some bq 0 n cq (fun i => ((p.getD i 0 : Nat) : Int)) n _ (by omega) (by omega) (by omega) (hpq.below hQ lq) (Nat.lt_of_lt_of_le lq hQ.size)).mono ?_; rw [hor1]; rintro e wA ⟨rfl, hbA⟩; replace hQ := hQ.trans (hbA.mono hQ.size); replace hB := hB.trans (hbA.mono hB.size); have d0 := (hB.cell (p := ⟨w.heap.size, 0, none⟩) (by show w.heap.size < _; omega)).trans c0; have d1 := (hB.cell (p := ⟨w.heap.size, 1, none⟩) (by show w.heap.size < _; omega)).trans c1')
    | (go_at_call 22; refine (agrees_any bl ol c2 n t1 bq 0 cq bh oh c1 p HX HY PX PY r _ z1 q1 q2 q3 (by omega) (pl.below hB ll) (ph.below hB lh) (hpq.below hQ lq) (Nat.lt_of_lt_of_le ll hB.size) (Nat.lt_of_lt_of_le lh hB.size) (Nat.lt_of_lt_of_le lq hQ.size) (hpe p z2).2 ha q5).mono ?_; rw [z3]; rintro e wA ⟨rfl, hbA⟩; replace hQ := hQ.trans (hbA.mono hQ.size); replace hB := hB.trans (hbA.mono hB.size); have d0 := (hB.cell (p := ⟨w.heap.size, 0, none⟩) (by show w.heap.size < _; omega)).trans c0; have d1 := (hB.cell (p := ⟨w.heap.size, 1, none⟩) (by show w.heap.size < _; omega)).trans c1')
    | (go_at_call 13; refine (known_ok _ (hk0.below hB)).mono ?_; rintro e wA ⟨rfl, hbA⟩; replace hB := hB.trans (hbA.mono hB.size); have d0 := (hB.cell (p := ⟨w.heap.size, 0, none⟩) (by show w.heap.size < _; omega)).trans c0; have d1 := (hB.cell (p := ⟨w.heap.size, 1, none⟩) (by show w.heap.size < _; omega)).trans c1'))
  go_ret
  exact ⟨rfl, hw0.trans (hB.mono hw0.size)⟩
set_option maxRecDepth 100000 in
set_option maxHeartbeats 2000000 in
theorem matched_same (a1 : Option Addr) (c1 : Nat) (r : Int) (a2 : Option Addr) (n c2 : Nat) (t : Nat) (b3 o3 c3 : Nat) (w : World) (hk : KG w) (HX HY PX PY : Nat → Int) (hp1 : PSc w (.slice a1 n c1) n HX HY) (hp2 : PSl w (.slice a2 n c2) n PX PY) (h : measB n HX HY r = true) (ha : arB n 0 PX PY 80 = true) (ht : t < 8) (q : List Nat) (hq : q ∈ ords n) (ho : OrdAt w b3 o3 n q) (lo : b3 < w.heap.size) (p : List Nat) (hs : matchS n HX HY PX PY r = some (t, p)) (hyes : agQ (fitB HX HY PX PY r t) n q = true) :
    Calls Tryz.prog 5 #[.agg #[.slice a1 n c1, .int .i64 r], .slice a2 n c2, .int .i64 t, .slice (some ⟨b3, o3, none⟩) n c3] w fun e w' => e = .returned (.bool true) ∧ Below w.heap.size w w' := by
  obtain ⟨⟨q1, q2⟩, ⟨q3, q4⟩, q5⟩ := meas_parts h
  obtain ⟨w0, hw⟩ : ∃ w0, w.alloc (.cells #[.slice a1 n c1, .int .i64 r] 24) = w0 := ⟨_, rfl⟩
  have hw0 : Below w.heap.size w w0 := by rw [← hw]; exact (Below.refl _ _).alloc (Nat.le_refl _) _
  have hsz : w0.heap.size = w.heap.size + 1 := by rw [← hw]; exact World.size_alloc _ _
  have c0 : w0.cell? ⟨w.heap.size, 0, none⟩ = some (.slice a1 n c1) := by rw [← hw]; have := cells_two w (.slice a1 n c1) (.int .i64 r) 24 0 _ rfl; simp [Addr.add]
  have c1' : w0.cell? ⟨w.heap.size, 1, none⟩ = some (.int .i64 r) := by rw [← hw]; have := cells_two w (.slice a1 n c1) (.int .i64 r) 24 1 _ rfl; simp [Addr.add]
  have hk0 := hk.below hw0
  have hB := Below.refl w0.heap.size w0
  have h1 : ¬ (6 : Int) < n := by omega
  have hp0 : PSc w0 (.slice a1 n c1) n HX HY := ⟨hp1.1.below hw0, hp1.2⟩
  have hme := fun (W : World) (hb : Below w0.heap.size w0 W) => measure_any (.slice a1 n c1) n HX HY r W (by omega) (hp0.1.below hb)
  rw [h] at hme
  have hl0 : PSl w0 (.slice a2 n c2) n PX PY := hp2.below hw0
  have ho0 : OrdAt w0 b3 o3 n q := ho.below hw0 lo
  have lo0 : b3 < w0.heap.size := Nat.lt_of_lt_of_le lo hw0.size
  have hpon : ponB n n n PX PY 80 = true := by
    unfold arB at ha
    rw [Bool.and_eq_true] at ha
    unfold ponB
    rw [ha.2, show inB (n : Int) n n = true from inB_yes (by omega) (by omega)]; rfl
  have ht7 : inB (t : Int) 0 7 = true := inB_yes (by omega) (by omega)
  obtain ⟨bh, oh, kh, eh, lh, ph⟩ := PSl_pos hp0.1 (by omega)
  obtain ⟨bl, ol, kl, el, ll, pl⟩ := PSl_pos hl0 (by omega)
  cases eh; cases el
  have hor : ordB n (fun i => ((q.getD i 0 : Nat) : Int)) n = true := ords_ordB q1 q2 q hq
  have hoq : ∀ (W : World), Below w0.heap.size w0 W → Calls Tryz.prog 21 #[.slice (some ⟨b3, o3, none⟩) n c3, .int .i64 n] W fun e w' => e = .returned (.bool true) ∧ Below W.heap.size W w' := fun W hb => by
    have := order_some b3 o3 n c3 (fun i => ((q.getD i 0 : Nat) : Int)) n W (by omega) (by omega) (by omega) (ho0.below hb lo0) (Nat.lt_of_lt_of_le lo0 hb.size)
    rw [hor] at this
    exact this
  have hpe := ords_perm q1 q2
  have hag := fun (W : World) (hb : Below w0.heap.size w0 W) => agrees_any bl ol c2 n t b3 o3 c3 bh oh c1 q HX HY PX PY r W ht q1 q2 q3 (by omega) (pl.below hb ll) (ph.below hb lh) (ho0.below hb lo0) (Nat.lt_of_lt_of_le ll hb.size) (Nat.lt_of_lt_of_le lh hb.size) (Nat.lt_of_lt_of_le lo0 hb.size) (hpe q hq).2 ha q5
  obtain ⟨z1, z2, z3, z4, z5⟩ := matchS_some q1 q2 hs
  have hma := fun (W : World) (hb : Below w0.heap.size w0 W) => Match_some (some ⟨bh, oh, none⟩) c1 n (some ⟨bl, ol, none⟩) c2 HX HY PX PY r W t p ⟨hp0.1.below hb, hp0.2⟩ (hl0.below hb) h ha hs
  have ht7 : inB (t : Int) 0 7 = true := inB_yes (by omega) (by omega)
  have hor1 : ordB n (fun i => ((p.getD i 0 : Nat) : Int)) n = true := ords_ordB q1 q2 p z2
  have hn6 : ¬ (6 : Int) < n := by omega
  rw [hyes] at hag
  have hbe : befF q p 0 n = false := z5 q hq hyes
  have hlt' : ¬ (t : Int) < t := by omega
  go_enter Tryz.func5, Tryz.ntmps5
  go_wp2_with (first
    | (go_at_call 10; refine (hme _ hB).mono ?_; rintro e wA ⟨rfl, hbA⟩; replace hB := hB.trans (hbA.mono hB.size); have d0 := (hB.cell (p := ⟨w.heap.size, 0, none⟩) (by show w.heap.size < _; omega)).trans c0; have d1 := (hB.cell (p := ⟨w.heap.size, 1, none⟩) (by show w.heap.size < _; omega)).trans c1')
    | (go_at_call 11; refine (turns_any _ _).mono ?_; (first | rw [ht17] | rw [ht7]); rintro e w' ⟨rfl, rfl⟩)
    | (go_at_call 12; refine (points_any _ n n n PX PY 80 (by omega) (by omega) _ (by omega) (hl0.below hB)).mono ?_; rw [hpon]; rintro e w' ⟨rfl, rfl⟩)
    | (go_at_call 21; with_reducible refine (hoq _ hB).mono ?_; rintro e wA ⟨rfl, hbA⟩; replace hB := hB.trans (hbA.mono hB.size); have d0 := (hB.cell (p := ⟨w.heap.size, 0, none⟩) (by show w.heap.size < _; omega)).trans c0; have d1 := (hB.cell (p := ⟨w.heap.size, 1, none⟩) (by show w.heap.size < _; omega)).trans c1')
    | (go_at_call 22; with_reducible refine (hag _ hB).mono ?_; rintro e wA ⟨rfl, hbA⟩; replace hQ := hQ.trans (hbA.mono hQ.size); replace hB := hB.trans (hbA.mono hB.size); have d0 := (hB.cell (p := ⟨w.heap.size, 0, none⟩) (by show w.heap.size < _; omega)).trans c0; have d1 := (hB.cell (p := ⟨w.heap.size, 1, none⟩) (by show w.heap.size < _; omega)).trans c1')
    | (go_at_call 17; refine (hma _ hB).mono ?_; rintro e wA ⟨bq, cq, rfl, hpq, lq, hbA⟩; replace hB := hB.trans (hbA.mono hB.size); have d0 := (hB.cell (p := ⟨w.heap.size, 0, none⟩) (by show w.heap.size < _; omega)).trans c0; have d1 := (hB.cell (p := ⟨w.heap.size, 1, none⟩) (by show w.heap.size < _; omega)).trans c1'; have hQ := Below.refl wA.heap.size wA)
    | (go_at_call 21; refine (order_some bq 0 n cq (fun i => ((p.getD i 0 : Nat) : Int)) n _ (by omega) (by omega) (by omega) (hpq.below hQ lq) (Nat.lt_of_lt_of_le lq hQ.size)).mono ?_; rw [hor1]; rintro e wA ⟨rfl, hbA⟩; replace hQ := hQ.trans (hbA.mono hQ.size); replace hB := hB.trans (hbA.mono hB.size); have d0 := (hB.cell (p := ⟨w.heap.size, 0, none⟩) (by show w.heap.size < _; omega)).trans c0; have d1 := (hB.cell (p := ⟨w.heap.size, 1, none⟩) (by show w.heap.size < _; omega)).trans c1')
    | (go_at_call 22; refine (agrees_any bl ol c2 n t bq 0 cq bh oh c1 p HX HY PX PY r _ z1 q1 q2 q3 (by omega) (pl.below hB ll) (ph.below hB lh) (hpq.below hQ lq) (Nat.lt_of_lt_of_le ll hB.size) (Nat.lt_of_lt_of_le lh hB.size) (Nat.lt_of_lt_of_le lq hQ.size) (hpe p z2).2 ha q5).mono ?_; rw [z3]; rintro e wA ⟨rfl, hbA⟩; replace hQ := hQ.trans (hbA.mono hQ.size); replace hB := hB.trans (hbA.mono hB.size); have d0 := (hB.cell (p := ⟨w.heap.size, 0, none⟩) (by show w.heap.size < _; omega)).trans c0; have d1 := (hB.cell (p := ⟨w.heap.size, 1, none⟩) (by show w.heap.size < _; omega)).trans c1')
    | (go_at_call 23; refine (before_any b3 o3 n c3 bq 0 cq q p _ (by omega) (ho0.below hB lo0) (hpq.below hQ lq) (Nat.lt_of_lt_of_le lo0 hB.size) (Nat.lt_of_lt_of_le lq hQ.size)).mono ?_; rw [hbe]; rintro e wA ⟨rfl, hbA⟩; replace hQ := hQ.trans (hbA.mono hQ.size); replace hB := hB.trans (hbA.mono hB.size); have d0 := (hB.cell (p := ⟨w.heap.size, 0, none⟩) (by show w.heap.size < _; omega)).trans c0; have d1 := (hB.cell (p := ⟨w.heap.size, 1, none⟩) (by show w.heap.size < _; omega)).trans c1')
    | (go_at_call 13; refine (known_ok _ (hk0.below hB)).mono ?_; rintro e wA ⟨rfl, hbA⟩; replace hB := hB.trans (hbA.mono hB.size); have d0 := (hB.cell (p := ⟨w.heap.size, 0, none⟩) (by show w.heap.size < _; omega)).trans c0; have d1 := (hB.cell (p := ⟨w.heap.size, 1, none⟩) (by show w.heap.size < _; omega)).trans c1'))
  go_ret
  exact ⟨rfl, hw0.trans (hB.mono hw0.size)⟩
end Go.Proofs.YtdilcbocnndkmaaGreatDoor
