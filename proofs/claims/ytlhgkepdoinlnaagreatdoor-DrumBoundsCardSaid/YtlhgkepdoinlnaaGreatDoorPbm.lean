/- A part of the proof: see the last file. -/
import Derived.Test.YtlhgkepdoinlnaaGreatDoorPbi
import Derived.Test.YtlhgkepdoinlnaaGreatDoorPbl
set_option linter.unusedVariables false
set_option linter.unusedSimpArgs false
set_option linter.unusedSectionVars false
namespace Go.Proofs.YtlhgkepdoinlnaaGreatDoor
open Go.RowKit Go.Gen Go.Drum Go.Can
/-- a truth's states lie within the bounds. -/
theorem stF_in {d : Drm} {i : Nat} {F : Nat → Nat → Int} (hok : d.Ok) (hi : i < d.an) {l : List Nat} (hc : CouldTo d d.an l) (hf : d.fits i F) (hr : Nat) (hh : hr ≤ d.dn) (k : Nat) (hk : k < d.bn) :
  (d.knF l hr k 0 ≤ (d.stF F hr k).1 ∧ (d.stF F hr k).1 ≤ d.knF l hr k 1) ∧ d.knF l hr k 2 ≤ (d.stF F hr k).2 ∧ (d.stF F hr k).2 ≤ d.knF l hr k 3 := by
 have hil : i ∈ l := (CouldTo.mem hc i).2 ⟨hi, fits_poss hok hf⟩
 have hb := hok.bat hk
 have he : ∀ j, j < hr → (0 ≤ (d.en i j).1 ∧ (d.en i j).1 ≤ F j 0) ∧ 0 ≤ F j 0 ∧ F j 0 ≤ (d.en i j).2 := fun j hj => by
  have h1 := Acid.ends_in (hok.small hi).fine (fits_truth hok hf) j (by omega)
  have h2 := poss_en hok hi (fits_poss hok hf).2 j (by omega)
  have h3 : d.en i j = (d.acid i).ends d.dn j := rfl
  rw [← h3] at h1
  (try dsimp only at h1)
  omega
 have hR := hullTo_in (e := d.rE (d.B k)) (h := hr) hil
 have hT := hullTo_in (e := d.tE (d.B k)) (h := hr) hil
 have a1 := left_mono (n := d.B k 0) (rate := d.B k 4) (x := fun j => (d.en i j).1) (y := fun j => F j 0) hb.h4.1 hr fun j hj => (he j hj).1
 have a2 := left_mono (n := d.B k 0) (rate := d.B k 4) (x := fun j => F j 0) (y := fun j => (d.en i j).2) hb.h4.1 hr fun j hj => (he j hj).2
 have a3 := left_mono (n := d.B k 2) (rate := d.B k 5) (x := fun j => (d.en i j).1) (y := fun j => F j 0) hb.h5.1 hr fun j hj => (he j hj).1
 have a4 := left_mono (n := d.B k 2) (rate := d.B k 5) (x := fun j => F j 0) (y := fun j => (d.en i j).2) hb.h5.1 hr fun j hj => (he j hj).2
 refine ⟨⟨?_, ?_⟩, ?_, ?_⟩
 ·exact Int.le_trans hR.1 a2
 ·exact Int.le_trans a1 hR.2
 ·exact Int.le_trans hT.1 a4
 ·exact Int.le_trans a3 hT.2
theorem stF_step {d : Drm} {i : Nat} {F : Nat → Nat → Int} (hok : d.Ok) (hi : i < d.an) (hf : d.fits i F) (hr : Nat) (hh : hr < d.dn) (k : Nat) (hk : k < d.bn) :
  (d.stF F (hr + 1) k).1 ≤ (d.stF F hr k).1 ∧ (d.stF F (hr + 1) k).2 ≤ (d.stF F hr k).2 := by
 have hb := hok.bat hk
 have h0 := (fits_small hok hi hf hr hh).1
 exact ⟨left_step hb.h4.1 hr h0, left_step hb.h5.1 hr h0⟩
theorem knownL_rule (d : Drm) (hr : Nat) (w : World) (hd : DIn w d) (hl : d.Len) (hok : d.Ok) (hc : CouldTo d d.an []) (hh : hr ≤ d.dn) : Calls Tryz.prog 36 #[d.val, .int .i64 hr] w (ExRule w 7) := by
 refine known_err d hr 7 (.inr rfl) w fun W hB => ?_
 rw [inB_yes (n := (hr : Int)) (lo := 0) (hi := d.hours) (by omega) (by have := hok.adds; omega)]
 exact examine_rule d W (hd.below hB) hl hok hc
theorem knownL_yes (d : Drm) (l : List Nat) (hc : CouldTo d d.an l) (hne : l ≠ []) (hr : Nat) (w : World) (hd : DIn w d) (hl : d.Len) (hok : d.Ok) (hh : hr ≤ d.dn) : Calls Tryz.prog 36 #[d.val, .int .i64 hr] w (RowOk 4 d.bn (d.knF l hr) w) := by
 refine known_ok' d l hc hr w hd hok hh fun W hB => ?_
 rw [inB_yes (n := (hr : Int)) (lo := 0) (hi := d.hours) (by omega) (by have := hok.adds; omega)]
 exact examine_ok d W (hd.below hB) hl hok l hc hne
set_option maxRecDepth 100000 in
set_option maxHeartbeats 8000000 in
theorem bounds_long (d : Drm) (t : Tru) (hours : Int) (w : World) (hk : KG w) (hd : DIn w d) (hl : d.Len) (ht : t.tn ≤ 9223372036854775807) (h : ¬ (d.shortP ∧ t.tn ≤ 15 ∧ d.Ok ∧ t.sized d ∧ 0 ≤ hours ∧ hours < d.hours)) :
  Calls Tryz.prog 8 #[d.val, t.val, .int .i64 hours] w fun e w' => e = .returned (.bool true) ∧ Below w.heap.size w w' := by
 obtain ⟨W0, hW⟩ : ∃ W0, w.alloc (Obj.cells #[.slice d.aa d.an d.ac, .int .i64 d.known, .int .i64 d.hours, .slice d.da d.dn d.dc, .slice d.sa d.sn d.sc, .slice d.ba d.bn d.bc] 27) = W0 := ⟨_, rfl⟩
 have hX0 : PoD w d W0 := by rw [← hW]; exact PoD.new w d
 have hz : W0.heap.size = w.heap.size + 1 := by rw [← hW, World.size_alloc]
 obtain ⟨W1, hW1⟩ : ∃ W, W0.alloc (.cells #[.int .i64 t.acid, .slice t.ta t.tn t.tc] 29) = W := ⟨_, rfl⟩
 have hX : PoT w d t W1 := by rw [← hW1]; exact PoT.new w d t hX0 hz
 clear hX0
 obtain ⟨⟨⟨q0, q1, q2, q3, q4, q5⟩, _, _⟩, r0, r1, _⟩ := id hX
 (try dsimp only at r0 r1)
 by_cases h1 : d.shortP
 ·have hsh := fun (W : World) => short_yes d W h1
  by_cases h2 : t.tn ≤ 15
  ·have h16 : ¬ (15 : Int) < (t.tn : Int) := by omega
   by_cases h3 : d.Ok
   ·have hrd := fun (W : World) (hB : Below w.heap.size w W) => rdrum_yes d W (hd.below hB) hl h3
    by_cases h4 : t.sized d
    ·have hrs := fun (W : World) => rsized_yes d t W hl (by omega) h4
     replace h : ¬ (0 ≤ hours ∧ hours < d.hours) := fun hh => h ⟨h1, h2, h3, h4, hh⟩
     by_cases g0 : hours < 0
     ·clear h
      go_enter Tryz.func8, Tryz.ntmps8
      go_wp2_with (first
       | (go_at_call 15; (with_reducible refine (hsh _).mono ?_); rintro e w1 ⟨rfl, hb⟩; replace hX := hX.below hb; obtain ⟨⟨⟨q0, q1, q2, q3, q4, q5⟩, _, _⟩, r0, r1, _⟩ := id hX; (try dsimp only at r0 r1))
       | (go_at_call 20; (with_reducible refine (hrd _ hX.d.old).mono ?_); rintro e w1 ⟨rfl, hb⟩; replace hX := hX.below hb; obtain ⟨⟨⟨q0, q1, q2, q3, q4, q5⟩, _, _⟩, r0, r1, _⟩ := id hX; (try dsimp only at r0 r1))
       | (go_at_call 21; (with_reducible refine (hrs _).mono ?_); rintro e w1 ⟨rfl, hb⟩; replace hX := hX.below hb; obtain ⟨⟨⟨q0, q1, q2, q3, q4, q5⟩, _, _⟩, r0, r1, _⟩ := id hX; (try dsimp only at r0 r1))
       | (go_at_call 16; refine (known_ok _ (hk.below hX.d.old)).mono ?_; rintro e w1 ⟨rfl, hb⟩; replace hX := hX.below hb))
      go_ret
      exact ⟨rfl, hX.d.old⟩
     ·skip
      by_cases g1 : d.hours ≤ hours
      ·clear h
       go_enter Tryz.func8, Tryz.ntmps8
       go_wp2_with (first
        | (go_at_call 15; (with_reducible refine (hsh _).mono ?_); rintro e w1 ⟨rfl, hb⟩; replace hX := hX.below hb; obtain ⟨⟨⟨q0, q1, q2, q3, q4, q5⟩, _, _⟩, r0, r1, _⟩ := id hX; (try dsimp only at r0 r1))
        | (go_at_call 20; (with_reducible refine (hrd _ hX.d.old).mono ?_); rintro e w1 ⟨rfl, hb⟩; replace hX := hX.below hb; obtain ⟨⟨⟨q0, q1, q2, q3, q4, q5⟩, _, _⟩, r0, r1, _⟩ := id hX; (try dsimp only at r0 r1))
        | (go_at_call 21; (with_reducible refine (hrs _).mono ?_); rintro e w1 ⟨rfl, hb⟩; replace hX := hX.below hb; obtain ⟨⟨⟨q0, q1, q2, q3, q4, q5⟩, _, _⟩, r0, r1, _⟩ := id hX; (try dsimp only at r0 r1))
        | (go_at_call 16; refine (known_ok _ (hk.below hX.d.old)).mono ?_; rintro e w1 ⟨rfl, hb⟩; replace hX := hX.below hb))
       go_ret
       exact ⟨rfl, hX.d.old⟩
      ·skip
       exact absurd (by omega) h
    ·have hrs := fun (W : World) => rsized_no d t W hl (by omega) h4
     clear h
     go_enter Tryz.func8, Tryz.ntmps8
     go_wp2_with (first
      | (go_at_call 15; (with_reducible refine (hsh _).mono ?_); rintro e w1 ⟨rfl, hb⟩; replace hX := hX.below hb; obtain ⟨⟨⟨q0, q1, q2, q3, q4, q5⟩, _, _⟩, r0, r1, _⟩ := id hX; (try dsimp only at r0 r1))
      | (go_at_call 20; (with_reducible refine (hrd _ hX.d.old).mono ?_); rintro e w1 ⟨rfl, hb⟩; replace hX := hX.below hb; obtain ⟨⟨⟨q0, q1, q2, q3, q4, q5⟩, _, _⟩, r0, r1, _⟩ := id hX; (try dsimp only at r0 r1))
      | (go_at_call 21; (with_reducible refine (hrs _).mono ?_); rintro e w1 ⟨rfl, hb⟩; replace hX := hX.below hb; obtain ⟨⟨⟨q0, q1, q2, q3, q4, q5⟩, _, _⟩, r0, r1, _⟩ := id hX; (try dsimp only at r0 r1))
      | (go_at_call 16; refine (known_ok _ (hk.below hX.d.old)).mono ?_; rintro e w1 ⟨rfl, hb⟩; replace hX := hX.below hb))
     go_ret
     exact ⟨rfl, hX.d.old⟩
   ·have hrd := fun (W : World) (hB : Below w.heap.size w W) => rdrum_no d W (hd.below hB) hl h3
    clear h
    go_enter Tryz.func8, Tryz.ntmps8
    go_wp2_with (first
     | (go_at_call 15; (with_reducible refine (hsh _).mono ?_); rintro e w1 ⟨rfl, hb⟩; replace hX := hX.below hb; obtain ⟨⟨⟨q0, q1, q2, q3, q4, q5⟩, _, _⟩, r0, r1, _⟩ := id hX; (try dsimp only at r0 r1))
     | (go_at_call 20; (with_reducible refine (hrd _ hX.d.old).mono ?_); rintro e w1 ⟨rfl, hb⟩; replace hX := hX.below hb; obtain ⟨⟨⟨q0, q1, q2, q3, q4, q5⟩, _, _⟩, r0, r1, _⟩ := id hX; (try dsimp only at r0 r1))
     | (go_at_call 16; refine (known_ok _ (hk.below hX.d.old)).mono ?_; rintro e w1 ⟨rfl, hb⟩; replace hX := hX.below hb))
    go_ret
    exact ⟨rfl, hX.d.old⟩
  ·have h16 : (15 : Int) < (t.tn : Int) := by omega
   clear h
   go_enter Tryz.func8, Tryz.ntmps8
   go_wp2_with (first
    | (go_at_call 15; (with_reducible refine (hsh _).mono ?_); rintro e w1 ⟨rfl, hb⟩; replace hX := hX.below hb; obtain ⟨⟨⟨q0, q1, q2, q3, q4, q5⟩, _, _⟩, r0, r1, _⟩ := id hX; (try dsimp only at r0 r1))
    | (go_at_call 16; refine (known_ok _ (hk.below hX.d.old)).mono ?_; rintro e w1 ⟨rfl, hb⟩; replace hX := hX.below hb))
   go_ret
   exact ⟨rfl, hX.d.old⟩
 ·have hsh := fun (W : World) => short_no d W h1
  clear h
  go_enter Tryz.func8, Tryz.ntmps8
  go_wp2_with (first
   | (go_at_call 15; (with_reducible refine (hsh _).mono ?_); rintro e w1 ⟨rfl, hb⟩; replace hX := hX.below hb; obtain ⟨⟨⟨q0, q1, q2, q3, q4, q5⟩, _, _⟩, r0, r1, _⟩ := id hX; (try dsimp only at r0 r1))
   | (go_at_call 16; refine (known_ok _ (hk.below hX.d.old)).mono ?_; rintro e w1 ⟨rfl, hb⟩; replace hX := hX.below hb))
  go_ret
  exact ⟨rfl, hX.d.old⟩
set_option maxRecDepth 100000 in
set_option maxHeartbeats 8000000 in
theorem bounds_not (d : Drm) (i : Nat) (ta : Option Addr) (tc : Nat) (F : Nat → Nat → Int) (hr : Nat) (w : World) (hk : KG w) (hd : DIn w d) (hl : d.Len) (hs : d.shortP) (hok : d.Ok) (hi : i < d.an) (hh : hr < d.dn) (hF : KSl 1 w (.slice ta d.dn tc) d.dn F) (hnf : ¬ d.fits i F) :
  Calls Tryz.prog 8 #[d.val, .agg #[.int .i64 i, .slice ta d.dn tc], .int .i64 hr] w fun e w' => e = .returned (.bool true) ∧ Below w.heap.size w w' := by
 obtain ⟨W0, hW⟩ : ∃ W0, w.alloc (Obj.cells #[.slice d.aa d.an d.ac, .int .i64 d.known, .int .i64 d.hours, .slice d.da d.dn d.dc, .slice d.sa d.sn d.sc, .slice d.ba d.bn d.bc] 27) = W0 := ⟨_, rfl⟩
 have hX0 : PoD w d W0 := by rw [← hW]; exact PoD.new w d
 have hz : W0.heap.size = w.heap.size + 1 := by rw [← hW, World.size_alloc]
 obtain ⟨W1, hW1⟩ : ∃ W, W0.alloc (.cells #[.int .i64 i, .slice ta d.dn tc] 29) = W := ⟨_, rfl⟩
 have hX : PoT w d ⟨i, ta, d.dn, tc, F⟩ W1 := by rw [← hW1]; exact PoT.new w d ⟨i, ta, d.dn, tc, F⟩ hX0 hz
 clear hX0
 obtain ⟨⟨⟨q0, q1, q2, q3, q4, q5⟩, _, _⟩, r0, r1, _⟩ := id hX
 (try dsimp only at r0 r1)
 have hsh := fun (W : World) => short_yes d W hs
 have h16 : ¬ (15 : Int) < (d.dn : Int) := by have := hs.2.1; omega
 have hrd := fun (W : World) (hB : Below w.heap.size w W) => rdrum_yes d W (hd.below hB) hl hok
 have hrs := fun (W : World) => rsized_yes d ⟨i, ta, d.dn, tc, F⟩ W hl (by show d.dn ≤ _; exact hl.ld) ⟨⟨Int.natCast_nonneg _, by show (i : Int) ≤ _; omega⟩, hok.adds⟩
 have hrs : ∀ W : World, Calls Tryz.prog 21 #[d.val, .agg #[.int .i64 i, .slice ta d.dn tc]] W fun e w' => e = .returned (.bool true) ∧ Below W.heap.size W w' := hrs
 have hq1 : (0 : Int) ≤ (hr : Int) := Int.natCast_nonneg _
 have hq2 : (hr : Int) < d.hours := by have := hok.adds; omega
 have hq3 : ¬ (hr : Int) < 0 := by omega
 have hq4 : ¬ d.hours ≤ (hr : Int) := by omega
 have hq5 : (hr : Int) < 12 := by have := hok.hours; omega
 have hru := fun (h : Int) (W : World) (hB : Below w.heap.size w W) => run_not d i ta tc F h W (hd.below hB) hl hok hi (hF.below hB) fun hh => hnf hh.1
 obtain ⟨l, hc⟩ := CouldTo.ex d d.an
 by_cases hne : l = []
 ·subst hne
  have hkn := fun (W : World) (hB : Below w.heap.size w W) => knownL_rule d hr W (hd.below hB) hl hok hc (Nat.le_of_lt hh)
  go_enter Tryz.func8, Tryz.ntmps8
  go_wp2_with (first
   | (go_at_call 15; (with_reducible refine (hsh _).mono ?_); rintro e w1 ⟨rfl, hb⟩; replace hX := hX.below hb; obtain ⟨⟨⟨q0, q1, q2, q3, q4, q5⟩, _, _⟩, r0, r1, _⟩ := id hX; (try dsimp only at r0 r1))
   | (go_at_call 20; (with_reducible refine (hrd _ hX.d.old).mono ?_); rintro e w1 ⟨rfl, hb⟩; replace hX := hX.below hb; obtain ⟨⟨⟨q0, q1, q2, q3, q4, q5⟩, _, _⟩, r0, r1, _⟩ := id hX; (try dsimp only at r0 r1))
   | (go_at_call 21; (with_reducible refine (hrs _).mono ?_); rintro e w1 ⟨rfl, hb⟩; replace hX := hX.below hb; obtain ⟨⟨⟨q0, q1, q2, q3, q4, q5⟩, _, _⟩, r0, r1, _⟩ := id hX; (try dsimp only at r0 r1))
   | (go_at_call 35; (with_reducible refine (hru _ _ hX.d.old).mono ?_); rintro e w1 ⟨rfl, hb⟩; replace hX := hX.below hb; obtain ⟨⟨⟨q0, q1, q2, q3, q4, q5⟩, _, _⟩, r0, r1, _⟩ := id hX; (try dsimp only at r0 r1))
   | (go_at_call 36; (with_reducible refine (hkn _ hX.d.old).mono ?_); rintro e w1 ⟨rfl, hb⟩; replace hX := hX.below hb; obtain ⟨⟨⟨q0, q1, q2, q3, q4, q5⟩, _, _⟩, r0, r1, _⟩ := id hX; (try dsimp only at r0 r1))
   | (go_at_call 16; refine (known_ok _ (hk.below hX.d.old)).mono ?_; rintro e w1 ⟨rfl, hb⟩; replace hX := hX.below hb))
  go_ret
  exact ⟨rfl, hX.d.old⟩
 ·have hkn := fun (W : World) (hB : Below w.heap.size w W) => knownL_yes d l hc hne hr W (hd.below hB) hl hok (Nat.le_of_lt hh)
  go_enter Tryz.func8, Tryz.ntmps8
  go_wp2_with (first
   | (go_at_call 15; (with_reducible refine (hsh _).mono ?_); rintro e w1 ⟨rfl, hb⟩; replace hX := hX.below hb; obtain ⟨⟨⟨q0, q1, q2, q3, q4, q5⟩, _, _⟩, r0, r1, _⟩ := id hX; (try dsimp only at r0 r1))
   | (go_at_call 20; (with_reducible refine (hrd _ hX.d.old).mono ?_); rintro e w1 ⟨rfl, hb⟩; replace hX := hX.below hb; obtain ⟨⟨⟨q0, q1, q2, q3, q4, q5⟩, _, _⟩, r0, r1, _⟩ := id hX; (try dsimp only at r0 r1))
   | (go_at_call 21; (with_reducible refine (hrs _).mono ?_); rintro e w1 ⟨rfl, hb⟩; replace hX := hX.below hb; obtain ⟨⟨⟨q0, q1, q2, q3, q4, q5⟩, _, _⟩, r0, r1, _⟩ := id hX; (try dsimp only at r0 r1))
   | (go_at_call 35; (with_reducible refine (hru _ _ hX.d.old).mono ?_); rintro e w1 ⟨rfl, hb⟩; replace hX := hX.below hb; obtain ⟨⟨⟨q0, q1, q2, q3, q4, q5⟩, _, _⟩, r0, r1, _⟩ := id hX; (try dsimp only at r0 r1))
   | (go_at_call 36; (with_reducible refine (hkn _ hX.d.old).mono ?_); rintro e w1 ⟨ka, kc, rfl, hks, hb⟩; replace hX := hX.below hb; obtain ⟨⟨⟨q0, q1, q2, q3, q4, q5⟩, _, _⟩, r0, r1, _⟩ := id hX; (try dsimp only at r0 r1))
   | (go_at_call 16; refine (known_ok _ (hk.below hX.d.old)).mono ?_; rintro e w1 ⟨rfl, hb⟩; replace hX := hX.below hb))
  go_ret
  exact ⟨rfl, hX.d.old⟩
end Go.Proofs.YtlhgkepdoinlnaaGreatDoor
