/- A part of the proof: see the last file. -/
import Derived.Test.YtlhgkepdoinlnaaGreatDoorPbm
import Derived.Deep.QuietTactic
import Derived.BigQuiet
import Derived.WalkSmall
set_option linter.unusedVariables false
set_option linter.unusedSimpArgs false
set_option linter.unusedSectionVars false
namespace Go.Proofs.YtlhgkepdoinlnaaGreatDoor
open Go.RowKit Go.Gen Go.Drum Go.Can
set_option maxRecDepth 100000 in
set_option maxHeartbeats 8000000 in
theorem bounds_yes (d : Drm) (i : Nat) (ta : Option Addr) (tc : Nat) (F : Nat → Nat → Int) (hr : Nat) (w : World) (hk : KG w) (hd : DIn w d) (hl : d.Len) (hs : d.shortP) (hok : d.Ok) (hi : i < d.an) (hh : hr < d.dn) (hF : KSl 1 w (.slice ta d.dn tc) d.dn F) (htc : d.dn ≤ tc) (hf : d.fits i F) :
  Calls Tryz.prog 8 #[d.val, .agg #[.int .i64 i, .slice ta d.dn tc], .int .i64 hr] w fun e w' => e = .returned (.bool true) ∧ Below w.heap.size w w' := by
 obtain ⟨W0, hW⟩ : ∃ W0, w.alloc (Obj.cells #[.slice d.aa d.an d.ac, .int .i64 d.known, .int .i64 d.hours, .slice d.da d.dn d.dc, .slice d.sa d.sn d.sc, .slice d.ba d.bn d.bc] 27) = W0 := ⟨_, rfl⟩
 have hX0 : PoD w d W0 := by rw [← hW]; exact PoD.new w d
 have hz : W0.heap.size = w.heap.size + 1 := by rw [← hW, World.size_alloc]
 obtain ⟨W1, hW1⟩ : ∃ W, W0.alloc (.cells #[.int .i64 i, .slice ta d.dn tc] 29) = W := ⟨_, rfl⟩
 have hX : PoT w d ⟨i, ta, d.dn, tc, F⟩ W1 := by rw [← hW1]; exact PoT.new w d ⟨i, ta, d.dn, tc, F⟩ hX0 hz
 clear hX0
 obtain ⟨⟨⟨q0, q1, q2, q3, q4, q5⟩, _, _⟩, r0, r1, _⟩ := id hX
 (try dsimp only at r0 r1)
 have hsh := fun (W : World) => short_yes d W hs
 have h16 : ¬ (15 : Int) < (d.dn : Int) := by have := hs.2.1; omega
 have hrd := fun (W : World) (hB : Below w.heap.size w W) => rdrum_yes d W (hd.below hB) hl hok
 have hrs := fun (W : World) => rsized_yes d ⟨i, ta, d.dn, tc, F⟩ W hl (by show d.dn ≤ _; exact hl.ld) ⟨⟨Int.natCast_nonneg _, by show (i : Int) ≤ _; omega⟩, hok.adds⟩
 have hrs : ∀ W : World, Calls Tryz.prog 21 #[d.val, .agg #[.int .i64 i, .slice ta d.dn tc]] W fun e w' => e = .returned (.bool true) ∧ Below W.heap.size W w' := hrs
 have hq1 : (0 : Int) ≤ (hr : Int) := Int.natCast_nonneg _
 have hq2 : (hr : Int) < d.hours := by have := hok.adds; omega
 have hq3 : ¬ (hr : Int) < 0 := by omega
 have hq4 : ¬ d.hours ≤ (hr : Int) := by omega
 have hq5 : (hr : Int) < 12 := by have := hok.hours; omega
 have hru := fun (W : World) (hB : Below w.heap.size w W) => run_yes d i ta tc F hr W (hd.below hB) hl hok hi (hF.below hB) hf (Nat.le_of_lt hh) htc
 have hru1 : ∀ (W : World) (hB : Below w.heap.size w W), Calls Tryz.prog 35 #[d.val, .agg #[.int .i64 i, .slice ta d.dn tc], .int .i64 ((hr : Int) + 1)] W (RowOk 2 d.bn (prF (d.stF F (hr + 1))) W) := fun W hB => run_yes d i ta tc F (hr + 1) W (hd.below hB) hl hok hi (hF.below hB) hf (by omega) htc
 obtain ⟨l, hc⟩ := CouldTo.ex d d.an
 have hne : l ≠ [] := fun h => by have := (CouldTo.mem hc i).2 ⟨hi, fits_poss hok hf⟩; rw [h] at this; cases this
 have hkn := fun (W : World) (hB : Below w.heap.size w W) => knownL_yes d l hc hne hr W (hd.below hB) hl hok (Nat.le_of_lt hh)
 have hin := stF_in hok hi hc hf hr (Nat.le_of_lt hh)
 have hst := stF_step hok hi hf hr hh
 have hbn := hok.batches
 clear hf hc hne
 go_enter Tryz.func8, Tryz.ntmps8
 go_wp2_with (first
  | (go_at_call 15; (with_reducible refine (hsh _).mono ?_); rintro e w1 ⟨rfl, hb⟩; replace hX := hX.below hb; obtain ⟨⟨⟨q0, q1, q2, q3, q4, q5⟩, _, _⟩, r0, r1, _⟩ := id hX; (try dsimp only at r0 r1))
  | (go_at_call 20; (with_reducible refine (hrd _ hX.d.old).mono ?_); rintro e w1 ⟨rfl, hb⟩; replace hX := hX.below hb; obtain ⟨⟨⟨q0, q1, q2, q3, q4, q5⟩, _, _⟩, r0, r1, _⟩ := id hX; (try dsimp only at r0 r1))
  | (go_at_call 21; (with_reducible refine (hrs _).mono ?_); rintro e w1 ⟨rfl, hb⟩; replace hX := hX.below hb; obtain ⟨⟨⟨q0, q1, q2, q3, q4, q5⟩, _, _⟩, r0, r1, _⟩ := id hX; (try dsimp only at r0 r1))
  | (go_at_call 35; (with_reducible refine (hru _ hX.d.old).mono ?_); rintro e w1 ⟨la, lc, rfl, hls, hb⟩; replace hX := hX.below hb; obtain ⟨⟨⟨q0, q1, q2, q3, q4, q5⟩, _, _⟩, r0, r1, _⟩ := id hX; (try dsimp only at r0 r1))
  | (go_at_call 35; (with_reducible refine (hru1 _ hX.d.old).mono ?_); rintro e w1 ⟨ma, mc, rfl, hms, hb⟩; replace hX := hX.below hb; obtain ⟨⟨⟨q0, q1, q2, q3, q4, q5⟩, _, _⟩, r0, r1, _⟩ := id hX; (try dsimp only at r0 r1); replace hls := hls.below hb)
  | (go_at_call 36; (with_reducible refine (hkn _ hX.d.old).mono ?_); rintro e w1 ⟨ba, bc, rfl, hbs, hb⟩; replace hX := hX.below hb; obtain ⟨⟨⟨q0, q1, q2, q3, q4, q5⟩, _, _⟩, r0, r1, _⟩ := id hX; (try dsimp only at r0 r1); replace hls := hls.below hb; replace hms := hms.below hb))
 go_loopw [13] (fun i' wr => ∃ k : Nat, k ≤ d.bn ∧ i' = .int .i64 k ∧ Below w1.heap.size w1 wr) (fun i' _ => d.bn - (intOf i').toNat)
 case atStart => exact ⟨0, Nat.zero_le _, rfl, Below.refl _ _⟩
 case round =>
  obtain ⟨k, hk5, rfl, hbl⟩ := hrel
  have hk6 : (0 : Int) ≤ (k : Int) := Int.natCast_nonneg _
  by_cases hlt : k < d.bn
  ·have hk7 : (k : Int) < (d.bn : Int) := by omega
   have hk8 : (k : Int) < 5 := by omega
   obtain ⟨b1, o1, x1, e1, l1, p1⟩ := (hls.below hbl).pos (by omega)
   obtain ⟨ea1, ec1⟩ : la = some ⟨b1, o1, none⟩ ∧ lc = x1 := by injection e1 with e1 e2 e3; exact ⟨e1, e3⟩
   obtain ⟨b2, o2, x2, e2, l2, p2⟩ := (hms.below hbl).pos (by omega)
   obtain ⟨ea2, ec2⟩ : ma = some ⟨b2, o2, none⟩ ∧ mc = x2 := by injection e2 with e1 e2 e3; exact ⟨e1, e3⟩
   obtain ⟨b3, o3, x3, e3, l3, p3⟩ := (hbs.below hbl).pos (by omega)
   obtain ⟨ea3, ec3⟩ : ba = some ⟨b3, o3, none⟩ ∧ bc = x3 := by injection e3 with e1 e2 e3; exact ⟨e1, e3⟩
   clear e1 e2 e3
   obtain ⟨⟨i1, i2⟩, i3, i4⟩ := hin k hlt
   obtain ⟨s1, s2⟩ := hst k hlt
   have g0 : ∀ W, Below wr.heap.size wr W → W.cell? ⟨b1, o1 + k * 2, none⟩ = some (.int .i64 (d.stF F hr k).1) := fun W hB => (p1.below hB l1).first hlt (by decide)
   have g1 : ∀ W, Below wr.heap.size wr W → W.cell? ⟨b1, o1 + k * 2 + 1, none⟩ = some (.int .i64 (d.stF F hr k).2) := fun W hB => (p1.below hB l1) k hlt 1 (by decide)
   have g2 : ∀ W, Below wr.heap.size wr W → W.cell? ⟨b2, o2 + k * 2, none⟩ = some (.int .i64 (d.stF F (hr + 1) k).1) := fun W hB => (p2.below hB l2).first hlt (by decide)
   have g3 : ∀ W, Below wr.heap.size wr W → W.cell? ⟨b2, o2 + k * 2 + 1, none⟩ = some (.int .i64 (d.stF F (hr + 1) k).2) := fun W hB => (p2.below hB l2) k hlt 1 (by decide)
   have g4 : ∀ W, Below wr.heap.size wr W → W.cell? ⟨b3, o3 + k * 4, none⟩ = some (.int .i64 (d.knF l hr k 0)) := fun W hB => (p3.below hB l3).first hlt (by decide)
   have g5 : ∀ W, Below wr.heap.size wr W → W.cell? ⟨b3, o3 + k * 4 + 1, none⟩ = some (.int .i64 (d.knF l hr k 1)) := fun W hB => (p3.below hB l3) k hlt 1 (by decide)
   have g6 : ∀ W, Below wr.heap.size wr W → W.cell? ⟨b3, o3 + k * 4 + 2, none⟩ = some (.int .i64 (d.knF l hr k 2)) := fun W hB => (p3.below hB l3) k hlt 2 (by decide)
   have g7 : ∀ W, Below wr.heap.size wr W → W.cell? ⟨b3, o3 + k * 4 + 3, none⟩ = some (.int .i64 (d.knF l hr k 3)) := fun W hB => (p3.below hB l3) k hlt 3 (by decide)
   generalize (d.stF F hr k).1 = x at g0 i1 i2 s1
   generalize (d.stF F hr k).2 = y at g1 i3 i4 s2
   generalize (d.stF F (hr + 1) k).1 = x' at g2 s1
   generalize (d.stF F (hr + 1) k).2 = y' at g3 s2
   generalize d.knF l hr k 0 = n0 at g4 i1
   generalize d.knF l hr k 1 = n1 at g5 i2
   generalize d.knF l hr k 2 = n2 at g6 i3
   generalize d.knF l hr k 3 = n3 at g7 i4
   have hl0 : ∀ W, Below wr.heap.size wr W → W.cell? ⟨b1, o1 + k * 2, none⟩ = some (.int .i64 x) ∧ W.cell? ⟨b1, o1 + k * 2 + 1, none⟩ = some (.int .i64 y) := fun W hB => ⟨g0 W hB, g1 W hB⟩
   have hm0 : ∀ W, Below wr.heap.size wr W → W.cell? ⟨b2, o2 + k * 2, none⟩ = some (.int .i64 x') ∧ W.cell? ⟨b2, o2 + k * 2 + 1, none⟩ = some (.int .i64 y') := fun W hB => ⟨g2 W hB, g3 W hB⟩
   have hb0 : ∀ W, Below wr.heap.size wr W → (W.cell? ⟨b3, o3 + k * 4, none⟩ = some (.int .i64 n0) ∧ W.cell? ⟨b3, o3 + k * 4 + 1, none⟩ = some (.int .i64 n1)) ∧ W.cell? ⟨b3, o3 + k * 4 + 2, none⟩ = some (.int .i64 n2) ∧ W.cell? ⟨b3, o3 + k * 4 + 3, none⟩ = some (.int .i64 n3) := fun W hB => ⟨⟨g4 W hB, g5 W hB⟩, g6 W hB, g7 W hB⟩
   clear g0 g1 g2 g3 g4 g5 g6 g7 p1 p2 p3 l1 l2 l3
   have v1 : decide (x < n0) = false := decide_eq_false (by omega)
   have v2 : decide (n1 < x) = false := decide_eq_false (by omega)
   have v3 : decide (y < n2) = false := decide_eq_false (by omega)
   have v4 : decide (n3 < y) = false := decide_eq_false (by omega)
   have v5 : decide (x < x') = false := decide_eq_false (by omega)
   have v6 : decide (y < y') = false := decide_eq_false (by omega)
   go_wp2_with fail
   obtain ⟨z0, z1⟩ := hl0 wr (Below.refl _ _)
   obtain ⟨z2, z3⟩ := hm0 wr (Below.refl _ _)
   obtain ⟨⟨z4, z5⟩, z6, z7⟩ := hb0 wr (Below.refl _ _)
   clear hl0 hm0 hb0
   simp only [List.append_eq, List.cons_append, List.nil_append]
   go_quiet (fail)
   have hB5 : Below w1.heap.size w1 (wr.drewN nq) := below_drewN hbl _
   clear z0 z1 z2 z3 z4 z5 z6 z7
   go_wp2
   go_roundw
   case rel => exact ⟨k + 1, by omega, by go_num, hB5⟩
   case measure => simp [intOf] <;> omega
  ·obtain rfl : k = d.bn := by omega
   have hk9 : ¬ (d.bn : Int) < (d.bn : Int) := by omega
   have hXr := hX.below hbl
   go_wp2_with (go_at_call 16; refine (known_ok _ (hk.below hXr.d.old)).mono ?_; rintro e w5 ⟨rfl, hb5⟩)
   go_ret
   exact ⟨rfl, (hXr.below hb5).d.old⟩
theorem bounds_all {d : Drm} {t : Tru} {hours : Int} {w : World} (hk : KG w) (hd : DIn w d) (hl : d.Len) (ht : t.tn ≤ 9223372036854775807) (htc : t.tn ≤ t.tc) (hF : KSl 1 w (.slice t.ta t.tn t.tc) t.tn t.F) :
  Calls Tryz.prog 8 #[d.val, t.val, .int .i64 hours] w fun e w' => e = .returned (.bool true) ∧ Below w.heap.size w w' := by
 by_cases h : d.shortP ∧ t.tn ≤ 15 ∧ d.Ok ∧ t.sized d ∧ 0 ≤ hours ∧ hours < d.hours
 ·obtain ⟨hs, _, hok, hz, h5, h6⟩ := h
  obtain ⟨tacid, ta, tn, tc, F⟩ := t
  obtain ⟨⟨h1, h2⟩, h3⟩ := hz
  (try dsimp only at h1 h2 h3 hF htc)
  obtain ⟨i, rfl⟩ : ∃ i : Nat, tacid = (i : Int) := ⟨tacid.toNat, by omega⟩
  obtain ⟨hr, rfl⟩ : ∃ a : Nat, hours = (a : Int) := ⟨hours.toNat, by omega⟩
  obtain rfl : tn = d.dn := by have := hok.adds; omega
  have hh : hr < d.dn := by have := hok.adds; omega
  by_cases hf : d.fits i F
  ·exact bounds_yes d i ta tc F hr w hk hd hl hs hok (by omega) hh hF htc hf
  ·exact bounds_not d i ta tc F hr w hk hd hl hs hok (by omega) hh hF hf
 ·exact bounds_long d t hours w hk hd hl ht h
end Go.Proofs.YtlhgkepdoinlnaaGreatDoor
