/- A part of the proof: see the last file. -/
import Derived.Test.YtfhakedgihecoaaGreatDoorPbe
set_option linter.unusedVariables false
set_option linter.unusedSimpArgs false
set_option linter.unusedSectionVars false
namespace Go.Proofs.YtfhakedgihecoaaGreatDoor
open Go.RowKit Go.Can
theorem psl_pos {w : World} {v : Value} {n : Nat} {X Y : Nat → Int} (h : PSl w v n X Y) (hn : 1 ≤ n) : ∃ b off cap, v = .slice (some ⟨b, off, none⟩) n cap ∧ b < w.heap.size ∧ Pts w b off n X Y := by
  rcases h with ⟨a, c, _, h2⟩ | h
  · omega
  · exact h
/-- two spans in blocks of their own. -/
structure AB (W : World) (s : Nat) (x0 x1 z0 z1 : Int) : Prop where
  a0 : W.cell? ⟨s, 0, none⟩ = some (.int .i64 x0)
  a1 : W.cell? ⟨s, 1, none⟩ = some (.int .i64 x1)
  b0 : W.cell? ⟨s + 1, 0, none⟩ = some (.int .i64 z0)
  b1 : W.cell? ⟨s + 1, 1, none⟩ = some (.int .i64 z1)
  big : s + 2 ≤ W.heap.size
theorem AB.new (w : World) (x0 x1 z0 z1 : Int) (t : TypeId) : AB ((w.alloc (Obj.cells #[.int .i64 x0, .int .i64 x1] t)).alloc (Obj.cells #[.int .i64 z0, .int .i64 z1] t)) w.heap.size x0 x1 z0 z1 := by
  have hb : Below (w.alloc (Obj.cells #[.int .i64 x0, .int .i64 x1] t)).heap.size (w.alloc (Obj.cells #[.int .i64 x0, .int .i64 x1] t)) ((w.alloc (Obj.cells #[.int .i64 x0, .int .i64 x1] t)).alloc (Obj.cells #[.int .i64 z0, .int .i64 z1] t)) := (Below.refl _ _).alloc (Nat.le_refl _) _
  have hs := World.size_alloc w (Obj.cells #[.int .i64 x0, .int .i64 x1] t)
  refine ⟨?_, ?_, ?_, ?_, by rw [World.size_alloc, World.size_alloc]; omega⟩
  · exact (hb.cell (p := ⟨w.heap.size, 0, none⟩) (by show w.heap.size < _; omega)).trans (cells_new w _ _ rfl)
  · exact (hb.cell (p := ⟨w.heap.size, 1, none⟩) (by show w.heap.size < _; omega)).trans (cells_new w _ _ rfl)
  · have := cells_new (w.alloc (Obj.cells #[.int .i64 x0, .int .i64 x1] t)) #[.int .i64 z0, .int .i64 z1] t (j := 0) rfl
    rw [hs] at this; exact this
  · have := cells_new (w.alloc (Obj.cells #[.int .i64 x0, .int .i64 x1] t)) #[.int .i64 z0, .int .i64 z1] t (j := 1) rfl
    rw [hs] at this; exact this
theorem AB.below {W W' : World} {s : Nat} {x0 x1 z0 z1 : Int} (h : AB W s x0 x1 z0 z1) (hb : Below W.heap.size W W') : AB W' s x0 x1 z0 z1 :=
  have hg := h.big
  ⟨(hb.cell (p := ⟨s, 0, none⟩) (by show s < _; omega)).trans h.a0, (hb.cell (p := ⟨s, 1, none⟩) (by show s < _; omega)).trans h.a1, (hb.cell (p := ⟨s + 1, 0, none⟩) (by show s + 1 < _; omega)).trans h.b0, (hb.cell (p := ⟨s + 1, 1, none⟩) (by show s + 1 < _; omega)).trans h.b1, Nat.le_trans h.big hb.size⟩
set_option maxRecDepth 100000 in
set_option maxHeartbeats 8000000 in
/-- a truth. -/
theorem true_yes (m : Mach) (a1 : Option Addr) (n1 c1 : Nat) (a2 : Option Addr) (n2 c2 : Nat) (F G : Nat → Int) (n : Nat) (w : World) (hk : KG w) (hs : m.sn ≤ 6) (hr : m.rn ≤ 6) (h1 : n1 ≤ 15) (h2 : n2 ≤ 15) (hc1 : n1 ≤ c1) (hc2 : n2 ≤ c2) (h : MIn w m) (hF : IntsSl w (.slice a1 n1 c1) n1 F) (hG : IntsSl w (.slice a2 n2 c2) n2 G) (hok : m.ok = true) (ho1 : offB n1 F = true) (ho2 : offB n2 G = true) (hn : n ≤ 12) (hyes : (m.axX.holdB F && m.axY.holdB G) = true) :
    Calls Tryz.prog 5 #[m.val, .agg #[.slice a1 n1 c1, .slice a2 n2 c2], .int .i64 n] w fun e w' => e = .returned (.bool true) ∧ Below w.heap.size w w' := by
  obtain ⟨W0, hW⟩ : ∃ W0, (w.alloc (.cells #[.slice m.sa m.sn m.sc, .int .i64 m.c0, .int .i64 m.c1, .int .i64 m.d0, .int .i64 m.d1, .int .i64 m.w0, .int .i64 m.w1, .int .i64 m.v0, .int .i64 m.v1, .slice m.ra m.rn m.rc] 27)).alloc (.cells #[.slice a1 n1 c1, .slice a2 n2 c2] 30) = W0 := ⟨_, rfl⟩
  have hX : MX w W0 m a1 n1 c1 a2 n2 c2 := by rw [← hW]; exact MX.new w m a1 n1 c1 a2 n2 c2
  have hsl := fun (W : World) => slim_any m W (by omega) (by omega)
  have hbr := fun (W : World) => brief_any a1 n1 c1 a2 n2 c2 W (by omega) (by omega)
  rw [decide_eq_true hs, decide_eq_true hr, Bool.and_true] at hsl
  rw [decide_eq_true h1, decide_eq_true h2, Bool.and_true] at hbr
  have hma := fun (W : World) (hB : Below w.heap.size w W) => rmachine_any m W (by omega) (by omega) (h.below hB)
  rw [hok] at hma
  have htr := fun (W : World) (hB : Below w.heap.size w W) => rtruth_any a1 n1 c1 a2 n2 c2 F G W (by omega) (by omega) (isl_below hF hB) (isl_below hG hB)
  rw [ho1, ho2, Bool.and_true] at htr
  have hbl := fun (W : World) => rblank_any (n : Int) 0 W
  rw [inB_yes (n := (n : Int)) (lo := 0) (hi := 12) (by omega) (by omega)] at hbl
  have hfi := fun (W : World) (hB : Below w.heap.size w W) => Fits_yes m a1 n1 c1 a2 n2 c2 F G W (by omega) (by omega) (h.below hB) (by omega) (by omega) (isl_below hF hB) (isl_below hG hB) hok ho1 ho2 hc1 hc2
  rw [hyes] at hfi
  have hho := fun (W : World) (hB : Below w.heap.size w W) => Holes_yes m a1 n1 c1 a2 n2 c2 F G n hn W (by omega) (by omega) (h.below hB) (by omega) (by omega) (isl_below hF hB) (isl_below hG hB) hok ho1 ho2 hc1 hc2 hyes
  have hcan := hold_can hok hyes
  have hyes2 := hyes
  rw [Bool.and_eq_true] at hyes2
  have hinX := Axis.ends_in (Mach.fineX hok) (Axis.holdB_iff.1 hyes2.1) n hn
  have hinY := Axis.ends_in (Mach.fineY hok) (Axis.holdB_iff.1 hyes2.2) n hn
  have hkn := fun (W : World) (hB : Below w.heap.size w W) => Known_ok m n hn W (by omega) (by omega) (h.below hB) hok hcan
  have hmc : ∀ W, Below w.heap.size w W → Calls Tryz.prog 10 #[m.val] W fun e w' => e = .returned (.int .i64 0) ∧ Below W.heap.size W w' := by
    obtain ⟨er, hA, hM⟩ := Machine_any m w (by omega) (by omega) h
    obtain rfl := hA.ok (by rw [hok]; rfl) hcan
    exact hM
  generalize (m.axX.ends n).1 = x0 at *
  generalize (m.axX.ends n).2 = x1 at *
  generalize (m.axY.ends n).1 = z0 at *
  generalize (m.axY.ends n).2 = z1 at *
  obtain ⟨e1, r1⟩ := offB_iff.1 ho1
  obtain ⟨e2, r2⟩ := offB_iff.1 ho2
  subst e1
  subst e2
  obtain ⟨b1, o1, rfl, hb1, p1⟩ := ints_at hF (by omega)
  obtain ⟨b2, o2, rfl, hb2, p2⟩ := ints_at hG (by omega)
  have hst := (Mach.ok_parts hok).1
  unfold Mach.okStops at hst
  have hsp : 2 ≤ m.sn ∧ m.sn ≤ 4 ∧ ∀ i, i < m.sn → ptB (m.SX i) (m.SY i) 20 = true := by
    unfold arB at hst
    rw [Bool.and_eq_true, allB_iff, inB_iff] at hst
    exact ⟨by omega, by omega, hst.2⟩
  have hsm : ∀ i, i < m.sn → small (m.SX i, m.SY i) := fun i hi => by
    have := hsp.2.2 i hi
    unfold ptB at this
    rw [Bool.and_eq_true, inB_iff, inB_iff] at this
    unfold small
    dsimp only
    omega
  obtain ⟨sb, so, hsa, hsb, hpts⟩ : ∃ sb so, m.sa = some ⟨sb, so, none⟩ ∧ sb < w.heap.size ∧ Pts w sb so m.sn m.SX m.SY := by
    rcases h.stops with ⟨a, c, e1, e2⟩ | ⟨sb, so, c, e1, e2, e3⟩
    · omega
    · rw [Value.slice.injEq] at e1; exact ⟨sb, so, e1.1, e2, e3⟩
  have hsl' : PLift (m.sa = some ⟨sb, so, none⟩) := ⟨hsa⟩
  clear hsa
  have g1w := p1 n (by omega)
  have g2w := p2 n (by omega)
  obtain ⟨u1, u2⟩ := hinX
  obtain ⟨u3, u4⟩ := hinY
  obtain ⟨u5, u6⟩ := r1 n (by omega)
  obtain ⟨u7, u8⟩ := r2 n (by omega)
  have v1 : ¬ F n < x0 := by omega
  have v2 : ¬ x1 < F n := by omega
  have v3 : ¬ G n < z0 := by omega
  have v4 : ¬ z1 < G n := by omega
  have hk0 : (0 : Int) ≤ (n : Int) := Int.natCast_nonneg _
  have hk1 : (n : Int) < 13 := by omega
  clear hyes hyes2 hcan ho1 ho2 hst r1 r2
  obtain ⟨⟨q0, q1, q2, q3, q4, q5, q6, q7, q8, q9⟩, y0, y1, _, _⟩ := id hX
  go_enter Tryz.func5, Tryz.ntmps5
  go_wp2_with (first
    | (go_at_call 7; with_reducible refine (hsl _).mono ?_; rintro e w1 ⟨rfl, hb⟩; replace hX := hX.below hb; obtain ⟨⟨q0, q1, q2, q3, q4, q5, q6, q7, q8, q9⟩, y0, y1, _, _⟩ := id hX)
    | (go_at_call 8; with_reducible refine (hbr _).mono ?_; rintro e w1 ⟨rfl, hb⟩; replace hX := hX.below hb; obtain ⟨⟨q0, q1, q2, q3, q4, q5, q6, q7, q8, q9⟩, y0, y1, _, _⟩ := id hX)
    | (go_at_call 14; with_reducible refine (hma _ hX.old).mono ?_; rintro e w1 ⟨rfl, hb⟩; replace hX := hX.below hb; obtain ⟨⟨q0, q1, q2, q3, q4, q5, q6, q7, q8, q9⟩, y0, y1, _, _⟩ := id hX)
    | (go_at_call 15; with_reducible refine (htr _ hX.old).mono ?_; rintro e w1 ⟨rfl, hb⟩; replace hX := hX.below hb; obtain ⟨⟨q0, q1, q2, q3, q4, q5, q6, q7, q8, q9⟩, y0, y1, _, _⟩ := id hX)
    | (go_at_call 17; with_reducible refine (hbl _).mono ?_; rintro e w1 ⟨rfl, rfl⟩)
    | (go_at_call 12; with_reducible refine (hfi _ hX.old).mono ?_; rintro e w1 ⟨rfl, hb⟩; replace hX := hX.below hb; obtain ⟨⟨q0, q1, q2, q3, q4, q5, q6, q7, q8, q9⟩, y0, y1, _, _⟩ := id hX)
    | (go_at_call 20; with_reducible refine (hkn _ hX.old).mono ?_; rintro e wK ⟨rfl, hb⟩; replace hX := hX.below hb; have hY := hX.two; have q0 := fun o1 o2 => (hY o1 o2).mach.k0; have q1 := fun o1 o2 => (hY o1 o2).mach.k1; have q2 := fun o1 o2 => (hY o1 o2).mach.k2; have q3 := fun o1 o2 => (hY o1 o2).mach.k3; have q4 := fun o1 o2 => (hY o1 o2).mach.k4; have q5 := fun o1 o2 => (hY o1 o2).mach.k5; have q6 := fun o1 o2 => (hY o1 o2).mach.k6; have q7 := fun o1 o2 => (hY o1 o2).mach.k7; have q8 := fun o1 o2 => (hY o1 o2).mach.k8; have q9 := fun o1 o2 => (hY o1 o2).mach.k9; have y0 := fun o1 o2 => (hY o1 o2).x0; have y1 := fun o1 o2 => (hY o1 o2).x1; have hAB := AB.new wK x0 x1 z0 z1 24)
    | (go_at_call 10; with_reducible refine (hmc _ (hY _ _).old).mono ?_; rintro e w1 ⟨rfl, hb⟩; replace hX := (hY _ _).below hb; replace hAB := hAB.below hb; obtain ⟨⟨q0, q1, q2, q3, q4, q5, q6, q7, q8, q9⟩, y0, y1, _, _⟩ := id hX)
    | (go_at_call 13; with_reducible refine (hho _ hX.old).mono ?_; rintro e wH ⟨vl, rfl, hown, hb⟩; replace hX := hX.below hb; replace hAB := hAB.below hb; obtain ⟨lb, lo, lc, rfl, hlb, hlp⟩ := psl_pos (PSl_of_own hown) (by omega); obtain ⟨A0, A1, B0, B1, _⟩ := id hAB; have g1 := (hX.old.cell (p := ⟨b1, o1 + n, none⟩) hb1).trans g1w; have g2 := (hX.old.cell (p := ⟨b2, o2 + n, none⟩) hb2).trans g2w; obtain ⟨⟨q0, q1, q2, q3, q4, q5, q6, q7, q8, q9⟩, y0, y1, _, _⟩ := id hX; rw [hsl'.down] at q0))
  go_quiet (fail)
  go_wp2_with fail
  clear hsl hbr hma htr hbl hfi hho hkn hmc hY v1 v2 v3 v4 u1 u2 u3 u4 g1 g2 A0 A1 B0 B1 hAB hb
  go_loopw [14] (fun i wr => ∃ k : Nat, k ≤ m.sn ∧ i = .int .i64 k ∧ Below wH.heap.size wH wr) (fun i _ => m.sn - (intOf i).toNat)
  case atStart => exact ⟨0, Nat.zero_le _, rfl, ⟨rfl, rfl, rfl, Nat.le_refl _, fun _ _ => rfl⟩⟩
  case round =>
    obtain ⟨k, hk2, rfl, hbl⟩ := hrel
    have hXr := hX.below hbl
    obtain ⟨⟨q0, q1, q2, q3, q4, q5, q6, q7, q8, q9⟩, y0, y1, _, _⟩ := id hXr
    rw [hsl'.down] at q0
    by_cases hlt : k < m.sn
    · obtain ⟨k1, k2⟩ := (hlp.below hbl hlb) k hlt
      obtain ⟨k3, k4⟩ := (hpts.below hXr.old hsb) k hlt
      have k5 := (hXr.old.cell (p := ⟨b1, o1 + n, none⟩) hb1).trans g1w
      have k6 := (hXr.old.cell (p := ⟨b2, o2 + n, none⟩) hb2).trans g2w
      have lbr : lb < wr.heap.size := Nat.lt_of_lt_of_le hlb hbl.size
      have sbr : sb < wr.heap.size := Nat.lt_of_lt_of_le hsb hXr.old.size
      have b1r : b1 < wr.heap.size := Nat.lt_of_lt_of_le hb1 hXr.old.size
      have b2r : b2 < wr.heap.size := Nat.lt_of_lt_of_le hb2 hXr.old.size
      have hbig := hXr.big
      obtain ⟨⟨t1, t2⟩, t3, t4⟩ := hsm k hlt
      dsimp only at t1 t2 t3 t4 k1 k2
      have hi0 : (0 : Int) ≤ (k : Int) := Int.natCast_nonneg _
      have hi1 : (k : Int) < (m.sn : Int) := by omega
      have hw1 : IntKind.i64.wrap (m.SX k + F n) = m.SX k + F n := IntWalk.i64_in _ (by omega)
      have hw2 : IntKind.i64.wrap (m.SY k + G n) = m.SY k + G n := IntWalk.i64_in _ (by omega)
      go_wp2_with fail
      go_region_held3 (fun w' => w'.cell? ⟨lb, lo + k * 2, none⟩ = some (.int .i64 (m.SX k + F n)) ∧ w'.cell? ⟨lb, lo + k * 2 + 1, none⟩ = some (.int .i64 (m.SY k + G n)) ∧ w'.cell? ⟨w.heap.size, 0, none⟩ = some (.slice (some ⟨sb, so, none⟩) m.sn m.sc) ∧ w'.cell? ⟨sb, so + k * 2, none⟩ = some (.int .i64 (m.SX k)) ∧ w'.cell? ⟨sb, so + k * 2 + 1, none⟩ = some (.int .i64 (m.SY k)) ∧ w'.cell? ⟨w.heap.size + 1, 0, none⟩ = some (.slice (some ⟨b1, o1, none⟩) 13 c1) ∧ w'.cell? ⟨w.heap.size + 1, 1, none⟩ = some (.slice (some ⟨b2, o2, none⟩) 13 c2) ∧ w'.cell? ⟨b1, o1 + n, none⟩ = some (.int .i64 (F n)) ∧ w'.cell? ⟨b2, o2 + n, none⟩ = some (.int .i64 (G n)))
        (first
          | (go_keep; done)
          | (go_split_ands
             refine ⟨?_, ?_, ?_, ?_, ?_, ?_, ?_, ?_, ?_⟩ <;> (rw [hbb.cell (by first | omega | (simp; omega) | simp)]; assumption)))
        ((go_at_call 22; with_reducible refine (lat_any _ _ _).mono ?_; rintro e w2 ⟨rfl, hbb⟩; have hs2 := hbb.size; try simp only [World.size_alloc, World.size_drew] at hs2))
      go_wp2
      go_roundw
      case rel => exact ⟨k + 1, by omega, by go_num, hbl.trans (((Below.refl _ _).drew.trans hbb).mono hbl.size)⟩
      case measure => simp [intOf]; omega
    · obtain rfl : k = m.sn := by omega
      go_wp2_with (go_at_call 9; refine (known_ok _ (hk.below hXr.old)).mono ?_; rintro e w2 ⟨rfl, hb⟩; replace hXr := hXr.below hb)
      go_ret
      exact ⟨rfl, hXr.old⟩
end Go.Proofs.YtfhakedgihecoaaGreatDoor
