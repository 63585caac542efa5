/- A part of the proof: see the last file. -/
import Derived.Test.YtdilcbocnndkmaaGreatDoorY9
set_option linter.unusedVariables false
set_option linter.unusedSimpArgs false
set_option linter.unusedSectionVars false
namespace Go.Proofs.YtdilcbocnndkmaaGreatDoor
open Go.RowKit Go.Can
set_option maxRecDepth 100000 in
set_option maxHeartbeats 2000000 in
theorem turned_good (a1 : Option Addr) (c1 : Nat) (r : Int) (a2 : Option Addr) (n c2 : Nat) (t : Nat) (w : World) (hk : KG w) (HX HY PX PY : Nat → Int) (hp1 : PSc w (.slice a1 n c1) n HX HY) (hp2 : PSl w (.slice a2 n c2) n PX PY) (h : measB n HX HY r = true) (ha : arB n 0 PX PY 80 = true) (ht : t < 8) :
    Calls Tryz.prog 3 #[.agg #[.slice a1 n c1, .int .i64 r], .slice a2 n c2, .int .i64 t] w fun e w' => e = .returned (.bool true) ∧ Below w.heap.size w w' := by
  obtain ⟨⟨q1, q2⟩, ⟨q3, q4⟩, q5⟩ := meas_parts h
  obtain ⟨w0, hw⟩ : ∃ w0, w.alloc (.cells #[.slice a1 n c1, .int .i64 r] 24) = w0 := ⟨_, rfl⟩
  have hw0 : Below w.heap.size w w0 := by rw [← hw]; exact (Below.refl _ _).alloc (Nat.le_refl _) _
  have hsz : w0.heap.size = w.heap.size + 1 := by rw [← hw]; exact World.size_alloc _ _
  have c0 : w0.cell? ⟨w.heap.size, 0, none⟩ = some (.slice a1 n c1) := by rw [← hw]; have := cells_two w (.slice a1 n c1) (.int .i64 r) 24 0 _ rfl; simp [Addr.add]
  have c1' : w0.cell? ⟨w.heap.size, 1, none⟩ = some (.int .i64 r) := by rw [← hw]; have := cells_two w (.slice a1 n c1) (.int .i64 r) 24 1 _ rfl; simp [Addr.add]
  have hk0 := hk.below hw0
  have hB := Below.refl w0.heap.size w0
  have h1 : ¬ (6 : Int) < n := by omega
  have hp0 : PSc w0 (.slice a1 n c1) n HX HY := ⟨hp1.1.below hw0, hp1.2⟩
  have hme := fun (W : World) (hb : Below w0.heap.size w0 W) => measure_any (.slice a1 n c1) n HX HY r W (by omega) (hp0.1.below hb)
  rw [h] at hme
  have hl0 : PSl w0 (.slice a2 n c2) n PX PY := hp2.below hw0
  have hpon : ponB n n n PX PY 80 = true := by
    unfold arB at ha
    rw [Bool.and_eq_true] at ha
    unfold ponB
    rw [ha.2, show inB (n : Int) n n = true from inB_yes (by omega) (by omega)]; rfl
  have ht7 : inB (t : Int) 0 7 = true := inB_yes (by omega) (by omega)
  have hsm := arB_smalls ha
  have hag1 : ∀ (W : World), Below w0.heap.size w0 W → Calls Tryz.prog 14 #[.slice a2 n c2, .int .i64 t, .int .i64 1] W fun e w' => ∃ v', e = .returned v' ∧ PSl w' v' n (fun i => (trn t (PX i, PY i)).1) (fun i => (trn t (PX i, PY i)).2) ∧ Below W.heap.size W w' := fun W hb => by
    exact again_any (.slice a2 n c2) n t 1 PX PY W ht (by omega) (by omega) (hl0.below hb) ha
  have hag4 : ∀ (W : World), Below w0.heap.size w0 W → Calls Tryz.prog 14 #[.slice a2 n c2, .int .i64 1, .int .i64 4] W fun e w' => ∃ v', e = .returned v' ∧ PSl w' v' n PX PY ∧ Below W.heap.size W w' := fun W hb => by
    have := again_any (.slice a2 n c2) n 1 4 PX PY W (by omega) (by omega) (by omega) (hl0.below hb) ha
    simp only [itr_one4] at this
    exact this
  have hag2 : ∀ (W : World), Below w0.heap.size w0 W → Calls Tryz.prog 14 #[.slice a2 n c2, .int .i64 4, .int .i64 2] W fun e w' => ∃ v', e = .returned v' ∧ PSl w' v' n PX PY ∧ Below W.heap.size W w' := fun W hb => by
    have := again_any (.slice a2 n c2) n 4 2 PX PY W (by omega) (by omega) (by omega) (hl0.below hb) ha
    simp only [itr_four2] at this
    exact this
  have hn0 : (0 : Int) ≤ n := by omega
  obtain ⟨b2, o2, k2, e2', ll, pl⟩ := PSl_pos hl0 (by omega)
  cases e2'
  go_enter Tryz.func3, Tryz.ntmps3
  go_wp2_with (first
    | (go_at_call 10; refine (hme _ hB).mono ?_; rintro e wA ⟨rfl, hbA⟩; replace hB := hB.trans (hbA.mono hB.size); have d0 := (hB.cell (p := ⟨w.heap.size, 0, none⟩) (by show w.heap.size < _; omega)).trans c0; have d1 := (hB.cell (p := ⟨w.heap.size, 1, none⟩) (by show w.heap.size < _; omega)).trans c1')
    | (go_at_call 11; refine (turns_any _ _).mono ?_; rw [ht7]; rintro e w' ⟨rfl, rfl⟩)
    | (go_at_call 12; refine (points_any _ n n n PX PY 80 (by omega) (by omega) _ (by omega) (hl0.below hB)).mono ?_; rw [hpon]; rintro e w' ⟨rfl, rfl⟩)
    | (go_at_call 14; with_reducible refine (hag1 _ hB).mono ?_; rintro e wA ⟨vx, rfl, hx, hbA⟩; obtain ⟨bx, ox, cx, rfl, lx, px⟩ := PSl_pos hx (by omega); replace hB := hB.trans (hbA.mono hB.size); have d0 := (hB.cell (p := ⟨w.heap.size, 0, none⟩) (by show w.heap.size < _; omega)).trans c0; have d1 := (hB.cell (p := ⟨w.heap.size, 1, none⟩) (by show w.heap.size < _; omega)).trans c1'; have hX := Below.refl wA.heap.size wA)
    | (go_at_call 14; with_reducible refine (hag4 _ hB).mono ?_; rintro e wA ⟨vy, rfl, hy, hbA⟩; replace hX := hX.trans (hbA.mono hX.size); replace hB := hB.trans (hbA.mono hB.size); have d0 := (hB.cell (p := ⟨w.heap.size, 0, none⟩) (by show w.heap.size < _; omega)).trans c0; have d1 := (hB.cell (p := ⟨w.heap.size, 1, none⟩) (by show w.heap.size < _; omega)).trans c1')
    | (go_at_call 14; with_reducible refine (hag2 _ hB).mono ?_; rintro e wA ⟨vy, rfl, hy, hbA⟩; replace hX := hX.trans (hbA.mono hX.size); replace hB := hB.trans (hbA.mono hB.size); have d0 := (hB.cell (p := ⟨w.heap.size, 0, none⟩) (by show w.heap.size < _; omega)).trans c0; have d1 := (hB.cell (p := ⟨w.heap.size, 1, none⟩) (by show w.heap.size < _; omega)).trans c1')
    | (go_at_call 15; refine (samePts_any _ _ n PX PY _ (by omega) hy (hl0.below hB)).mono ?_; rintro e wA ⟨rfl, hbA⟩; replace hX := hX.trans (hbA.mono hX.size); replace hB := hB.trans (hbA.mono hB.size); have d0 := (hB.cell (p := ⟨w.heap.size, 0, none⟩) (by show w.heap.size < _; omega)).trans c0; have d1 := (hB.cell (p := ⟨w.heap.size, 1, none⟩) (by show w.heap.size < _; omega)).trans c1'))
  have hxs : ∀ i, i < n → small ((trn t (PX i, PY i)).1, (trn t (PX i, PY i)).2) := fun i hi => trn_small (hsm i hi)
  have hX0 : Below w0.heap.size w0 wA := hB
  go_loopw [8] (fun i wr => ∃ j : Nat, j ≤ n ∧ i = .int .i64 j ∧ Below wA.heap.size wA wr) (fun i _ => n - (intOf i).toNat)
  case atStart => exact ⟨0, Nat.zero_le _, rfl, Below.refl _ _⟩
  case round =>
    obtain ⟨i, hi, rfl, hbl⟩ := hrel
    by_cases hlt : i < n
    · have hlt' : (i : Int) < n := by omega
      go_wp2
      go_loopw [9] (fun k wr => ∃ j : Nat, j ≤ i ∧ k = .int .i64 j ∧ Below wA.heap.size wA wr) (fun k _ => i - (intOf k).toNat)
      case atStart => exact ⟨0, Nat.zero_le _, rfl, hbl⟩
      case round =>
        obtain ⟨k, hk2, rfl, hbk⟩ := hrel
        by_cases hlk : k < i
        · have hB2 := hB.trans (hbk.mono hB.size)
          have hX2 := hX.trans (hbk.mono hX.size)
          have l2r : b2 < wr.heap.size := Nat.lt_of_lt_of_le ll hB2.size
          have lxr : bx < wr.heap.size := Nat.lt_of_lt_of_le lx hX2.size
          obtain ⟨e1, e2⟩ := (pl.below hB2 ll) i hlt
          obtain ⟨e3, e4⟩ := (pl.below hB2 ll) k (by omega)
          obtain ⟨e5, e6⟩ := (px.below hX2 lx) i hlt
          obtain ⟨e7, e8⟩ := (px.below hX2 lx) k (by omega)
          have hi0 : (0 : Int) ≤ (i : Int) := Int.natCast_nonneg _
          have hi1 : (i : Int) < (n : Int) := by omega
          have hk0' : (0 : Int) ≤ (k : Int) := Int.natCast_nonneg _
          have hk1 : (k : Int) < (n : Int) := by omega
          have hf1 := fun W => far_any (PX i) (PY i) (PX k) (PY k) (hsm i hlt) (hsm k (by omega)) W
          have hf2 := fun W => far_any (trn t (PX i, PY i)).1 (trn t (PX i, PY i)).2 (trn t (PX k, PY k)).1 (trn t (PX k, PY k)).2 (hxs i hlt) (hxs k (by omega)) W
          have hff : farN ((trn t (PX i, PY i)).1, (trn t (PX i, PY i)).2) ((trn t (PX k, PY k)).1, (trn t (PX k, PY k)).2) = farN (PX i, PY i) (PX k, PY k) := farN_trn (PX i, PY i) (PX k, PY k) t
          rw [hff] at hf2
          generalize farN (PX i, PY i) (PX k, PY k) = ff at hf1 hf2
          dsimp only at e5 e6 e7 e8
          generalize (trn t (PX i, PY i)).1 = x1 at *
          generalize (trn t (PX i, PY i)).2 = x2 at *
          generalize (trn t (PX k, PY k)).1 = x3 at *
          generalize (trn t (PX k, PY k)).2 = x4 at *
          go_wp2_with fail
          go_region_held3 (fun w' => w'.cell? ⟨b2, o2 + i * 2, none⟩ = some (.int .i64 (PX i)) ∧ w'.cell? ⟨b2, o2 + i * 2 + 1, none⟩ = some (.int .i64 (PY i)) ∧ w'.cell? ⟨b2, o2 + k * 2, none⟩ = some (.int .i64 (PX k)) ∧ w'.cell? ⟨b2, o2 + k * 2 + 1, none⟩ = some (.int .i64 (PY k)) ∧ w'.cell? ⟨bx, ox + i * 2, none⟩ = some (.int .i64 x1) ∧ w'.cell? ⟨bx, ox + i * 2 + 1, none⟩ = some (.int .i64 x2) ∧ w'.cell? ⟨bx, ox + k * 2, none⟩ = some (.int .i64 x3) ∧ w'.cell? ⟨bx, ox + k * 2 + 1, none⟩ = some (.int .i64 x4))
            (first
              | (go_keep; done)
              | (go_split_ands
                 refine ⟨?_, ?_, ?_, ?_, ?_, ?_, ?_, ?_⟩ <;> (rw [hbb.cell (by first | omega | (simp; omega) | simp)]; assumption)))
            (first
              | (go_at_call 16; with_reducible refine (hf1 _).mono ?_; rintro e w' ⟨rfl, hbb⟩; have hs := hbb.size; try simp only [World.size_alloc, World.size_drew] at hs)
              | (go_at_call 16; with_reducible refine (hf2 _).mono ?_; rintro e w' ⟨rfl, hbb⟩; have hs := hbb.size; try simp only [World.size_alloc, World.size_drew] at hs))
          rename_i wC hC hsC _
          have hbw : Below wr.heap.size wr w' := ((Below.refl _ _).drew).trans ((hC.mono (by simp)).trans (hbb.mono (by simpa using hsC)))
          go_wp2
          go_roundw
          case rel => exact ⟨k + 1, by omega, by go_num, hbk.trans (hbw.mono hbk.size)⟩
          case measure => simp [intOf]; omega
        · obtain rfl : i = k := by omega
          go_wp2
          go_roundw
          case rel => exact ⟨i + 1, by omega, by go_num, hbk⟩
          case measure => simp [intOf]; omega
    · obtain rfl : n = i := by omega
      have hB2 := hB.trans (hbl.mono hB.size)
      have hX2 := hX.trans (hbl.mono hX.size)
      have d0 := (hB2.cell (p := ⟨w.heap.size, 0, none⟩) (by show w.heap.size < _; omega)).trans c0
      have d1 := (hB2.cell (p := ⟨w.heap.size, 1, none⟩) (by show w.heap.size < _; omega)).trans c1'
      clear hag1 hag2 hag4 hme
      have hax : arB n 0 (fun i => (trn t (PX i, PY i)).1) (fun i => (trn t (PX i, PY i)).2) 80 = true := arB_itr t 1 ha
      have hturn := matchS_turned (many := n) (HX := HX) (HY := HY) (PX := PX) (PY := PY) (r := r) ht
      cases hs : matchS n HX HY PX PY r with
      | none =>
        have hsx := hturn.2 hs
        have hml := fun (W : World) (hb : Below w0.heap.size w0 W) => Match_none a1 c1 n (some ⟨b2, o2, none⟩) c2 HX HY PX PY r W ⟨hp0.1.below hb, hp0.2⟩ (hl0.below hb) h ha hs
        have hmx := fun (W : World) (hb : Below w0.heap.size w0 W) (hx' : PSl W (.slice (some ⟨bx, ox, none⟩) n cx) n (fun i => (trn t (PX i, PY i)).1) (fun i => (trn t (PX i, PY i)).2)) => Match_none a1 c1 n (some ⟨bx, ox, none⟩) cx HX HY _ _ r W ⟨hp0.1.below hb, hp0.2⟩ hx' h hax hsx
        go_wp2_with (first
          | (go_at_call 17; with_reducible refine (hml _ hB2).mono ?_; rintro e w3 ⟨rfl, hb3⟩; have hB3 := hB2.trans (hb3.mono hB2.size); have hX3 := hX2.trans (hb3.mono hX2.size); have d0 := (hB3.cell (p := ⟨w.heap.size, 0, none⟩) (by show w.heap.size < _; omega)).trans c0; have d1 := (hB3.cell (p := ⟨w.heap.size, 1, none⟩) (by show w.heap.size < _; omega)).trans c1')
          | (go_at_call 17; with_reducible refine (hmx _ hB3 (hx.below hX3)).mono ?_; rintro e w4 ⟨rfl, hb4⟩; have hB4 := hB3.trans (hb4.mono hB3.size))
          | (go_at_call 13; refine (known_ok _ (hk0.below hB4)).mono ?_; rintro e w5 ⟨rfl, hb5⟩; have hB5 := hB4.trans (hb5.mono hB4.size)))
        go_ret
        exact ⟨rfl, hw0.trans (hB5.mono hw0.size)⟩
      | some y =>
        obtain ⟨t1, q1⟩ := y
        have hsx : ∃ z, matchS n HX HY (fun i => (trn t (PX i, PY i)).1) (fun i => (trn t (PX i, PY i)).2) r = some z := by
          cases hz : matchS n HX HY (fun i => (trn t (PX i, PY i)).1) (fun i => (trn t (PX i, PY i)).2) r with
          | none => have := hturn.1 hz; rw [hs] at this; cases this
          | some z => exact ⟨z, rfl⟩
        obtain ⟨⟨t2, q2'⟩, hsx⟩ := hsx
        have hml := fun (W : World) (hb : Below w0.heap.size w0 W) => Match_some a1 c1 n (some ⟨b2, o2, none⟩) c2 HX HY PX PY r W t1 q1 ⟨hp0.1.below hb, hp0.2⟩ (hl0.below hb) h ha hs
        have hmx := fun (W : World) (hb : Below w0.heap.size w0 W) (hx' : PSl W (.slice (some ⟨bx, ox, none⟩) n cx) n (fun i => (trn t (PX i, PY i)).1) (fun i => (trn t (PX i, PY i)).2)) => Match_some a1 c1 n (some ⟨bx, ox, none⟩) cx HX HY _ _ r W t2 q2' ⟨hp0.1.below hb, hp0.2⟩ hx' h hax hsx
        go_wp2_with (first
          | (go_at_call 17; with_reducible refine (hml _ hB2).mono ?_; rintro e w3 ⟨bq, cq, rfl, _, _, hb3⟩; have hB3 := hB2.trans (hb3.mono hB2.size); have hX3 := hX2.trans (hb3.mono hX2.size); have d0 := (hB3.cell (p := ⟨w.heap.size, 0, none⟩) (by show w.heap.size < _; omega)).trans c0; have d1 := (hB3.cell (p := ⟨w.heap.size, 1, none⟩) (by show w.heap.size < _; omega)).trans c1')
          | (go_at_call 17; with_reducible refine (hmx _ hB3 (hx.below hX3)).mono ?_; rintro e w4 ⟨br, cr, rfl, _, _, hb4⟩; have hB4 := hB3.trans (hb4.mono hB3.size))
          | (go_at_call 13; refine (known_ok _ (hk0.below hB4)).mono ?_; rintro e w5 ⟨rfl, hb5⟩; have hB5 := hB4.trans (hb5.mono hB4.size)))
        go_ret
        exact ⟨rfl, hw0.trans (hB5.mono hw0.size)⟩
end Go.Proofs.YtdilcbocnndkmaaGreatDoor
