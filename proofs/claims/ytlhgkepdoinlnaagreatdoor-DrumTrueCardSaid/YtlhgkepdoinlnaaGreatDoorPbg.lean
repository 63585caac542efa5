/- A part of the proof: see the last file. -/
import Derived.Test.YtlhgkepdoinlnaaGreatDoorPbf
set_option linter.unusedVariables false
set_option linter.unusedSimpArgs false
set_option linter.unusedSectionVars false
namespace Go.Proofs.YtlhgkepdoinlnaaGreatDoor
open Go.RowKit Go.Gen Go.Drum Go.Can
theorem hd_small {d : Drm} (h : d.Ok) : 1 ≤ d.dn ∧ d.dn ≤ 12 := by have := h.hours; have := h.adds; omega
theorem fits_truth {d : Drm} {i : Nat} {F : Nat → Nat → Int} (hok : d.Ok) (h : d.fits i F) : (d.acid i).truth d.dn fun k => F k 0 := (Acid.holds_iff (hd_small hok).1).1 h.2
theorem fits_poss {d : Drm} {i : Nat} {F : Nat → Nat → Int} (hok : d.Ok) (h : d.fits i F) : d.poss i := ⟨h.1, Acid.can_of (fits_truth hok h)⟩
theorem poss_en {d : Drm} {i : Nat} (hok : d.Ok) (hi : i < d.an) (h : (d.acid i).can d.dn) : ∀ k, k < d.dn → 0 ≤ (d.en i k).1 ∧ (d.en i k).1 ≤ (d.en i k).2 ∧ (d.en i k).2 ≤ 1300 :=
 fun _ hk => Acid.ends_small1 (hok.small hi) h (hd_small hok).2 hk
theorem hull_en {d : Drm} (hok : d.Ok) {l : List Nat} (hc : CouldTo d d.an l) (hne : l ≠ []) : ∀ k, k < d.dn → 0 ≤ (hullTo d.en l k).1 ∧ (hullTo d.en l k).1 ≤ (hullTo d.en l k).2 ∧ (hullTo d.en l k).2 ≤ 1300 :=
 fun k hk => hullTo_bound hne fun j hj => by
  obtain ⟨h1, h2⟩ := (CouldTo.mem hc j).1 hj
  exact poss_en hok h1 h2.2 k hk
theorem fits_hull {d : Drm} {i : Nat} {F : Nat → Nat → Int} (hok : d.Ok) (hi : i < d.an) {l : List Nat} (hc : CouldTo d d.an l) (h : d.fits i F) : ∀ k, k < d.dn → (hullTo d.en l k).1 ≤ F k 0 ∧ F k 0 ≤ (hullTo d.en l k).2 := fun k hk => by
 have h1 := hullTo_in (e := d.en) (h := k) ((CouldTo.mem hc i).2 ⟨hi, fits_poss hok h⟩)
 have h2 := Acid.ends_in (hok.small hi).fine (fits_truth hok h) k hk
 have h3 : d.en i k = (d.acid i).ends d.dn k := rfl
 rw [h3] at h1
 omega
theorem CouldTo.single {d : Drm} {a : Nat} : ∀ {k : Nat}, (∀ j, j < k → (d.poss j ↔ j = a)) → (a < k → CouldTo d k [a]) ∧ (k ≤ a → CouldTo d k [])
 | 0, _ => ⟨fun h => absurd h (Nat.not_lt_zero _), fun _ => rfl⟩
 | k+1, H => by
  obtain ⟨h1, h2⟩ := CouldTo.single (k := k) (fun j hj => H j (by omega))
  refine ⟨fun h => ?_, fun h => ?_⟩
  ·by_cases hk : k = a
   ·exact .inl ⟨(H k (by omega)).2 hk, [], h2 (by omega), by rw [hk]; rfl⟩
   ·exact .inr ⟨fun hp => hk ((H k (by omega)).1 hp), h1 (by omega)⟩
  ·exact .inr ⟨fun hp => by have := (H k (by omega)).1 hp; omega, h2 (by omega)⟩
theorem CouldTo.nonep {d : Drm} : ∀ {k : Nat}, (∀ j, j < k → ¬ d.poss j) → CouldTo d k []
 | 0, _ => rfl
 | k+1, H => .inr ⟨H k (by omega), CouldTo.nonep fun j hj => H j (by omega)⟩
/-- the drum of which just one acid is known. -/
@[reducible] def Drm.just (d : Drm) (a : Nat) : Drm := { d with known := 2 ^ a }
theorem bit_just : ∀ a : Nat, a < 4 → ∀ j : Nat, j < 4 → bitB (2 ^ a) j = decide (j = a) := by decide +kernel
theorem pow_just : ∀ a : Nat, a < 4 → ∀ n : Nat, a < n → n ≤ 4 → 1 ≤ (2 : Int) ^ a ∧ (2 : Int) ^ a < 2 ^ n := by
 intro a ha n h1 h2
 match a, ha, n, h1, h2 with
 | 0, _, 1, _, _ => decide
 | 0, _, 2, _, _ => decide
 | 0, _, 3, _, _ => decide
 | 0, _, 4, _, _ => decide
 | 1, _, 2, _, _ => decide
 | 1, _, 3, _, _ => decide
 | 1, _, 4, _, _ => decide
 | 2, _, 3, _, _ => decide
 | 2, _, 4, _, _ => decide
 | 3, _, 4, _, _ => decide
theorem just_ok {d : Drm} {a : Nat} (hok : d.Ok) (ha : a < d.an) : (d.just a).Ok :=
 ⟨hok.acids, pow_just a (by have := hok.acids; omega) d.an ha hok.acids.2, hok.hours, hok.adds, hok.strips, hok.batches, hok.acid, hok.add, hok.strip, hok.batch⟩
theorem just_poss {d : Drm} {a : Nat} (hok : d.Ok) (ha : a < d.an) (j : Nat) (hj : j < d.an) : (d.just a).poss j ↔ j = a ∧ (d.acid a).can d.dn := by
 have h4 := hok.acids.2
 show bitB (2 ^ a) j = true ∧ (d.acid j).can d.dn ↔ _
 rw [bit_just a (by omega) j (by omega), decide_eq_true_iff]
 constructor
 ·rintro ⟨rfl, h⟩; exact ⟨rfl, h⟩
 ·rintro ⟨rfl, h⟩; exact ⟨rfl, h⟩
theorem just_could {d : Drm} {a : Nat} (hok : d.Ok) (ha : a < d.an) (h : (d.acid a).can d.dn) : CouldTo (d.just a) (d.just a).an [a] :=
 (CouldTo.single (d := d.just a) (a := a) (k := d.an) fun j hj => by rw [just_poss hok ha j hj]; exact ⟨fun x => x.1, fun x => ⟨x, h⟩⟩).1 ha
theorem just_none {d : Drm} {a : Nat} (hok : d.Ok) (ha : a < d.an) (h : ¬ (d.acid a).can d.dn) : CouldTo (d.just a) (d.just a).an [] :=
 CouldTo.nonep fun j hj => by rw [just_poss hok ha j hj]; exact fun x => h x.2
theorem lst_iff {l : List Nat} {i : Nat} : lstP l i ↔ i ∈ l := by
 constructor
 ·rintro ⟨k, hk, h⟩
  have h1 := List.getElem?_eq_getElem hk
  unfold natsF at h
  rw [h1] at h
  have h2 : l[k] = i := by
   have : ((l[k] : Nat) : Int) = (i : Int) := h
   omega
  rw [← h2]; exact List.getElem_mem hk
 ·intro h
  obtain ⟨k, hk, e⟩ := List.mem_iff_getElem.1 h
  refine ⟨k, hk, ?_⟩
  unfold natsF
  rw [List.getElem?_eq_getElem hk, e]; rfl
theorem low_fits {d : Drm} {a : Nat} (hok : d.Ok) (ha : a < d.an) (h : d.poss a) (b : Bool) : d.fits a fun k _ => selE b (d.en a k) := by
 refine ⟨h.1, (Acid.holds_iff (hd_small hok).1).2 ?_⟩
 cases b with
 | false => exact Acid.low_truth (hok.small ha).fine h.2 (hd_small hok).1
 | true => exact Acid.high_truth (hok.small ha).fine h.2 (hd_small hok).1
theorem strength_rule (d : Drm) (w : World) (hd : DIn w d) (hl : d.Len) (hok : d.Ok) (hc : CouldTo d d.an []) : Calls Tryz.prog 25 #[d.val] w (ExRule w 7) :=
 strength_err d 7 (.inr rfl) w fun W hB => examine_rule d W (hd.below hB) hl hok hc
theorem strength_yes (d : Drm) (l : List Nat) (hc : CouldTo d d.an l) (hne : l ≠ []) (w : World) (hd : DIn w d) (hl : d.Len) (hok : d.Ok) : Calls Tryz.prog 25 #[d.val] w (StOk d l w) :=
 strength_ok d l hc w hd hok fun W hB => examine_ok d W (hd.below hB) hl hok l hc hne
theorem wrap_just : ∀ a : Nat, a < 4 → wrap64 ((2 : Int) ^ a) = 2 ^ a := by decide +kernel
structure TX (w : World) (d : Drm) (g : Nat) (f : Nat → Int × Int) (W : World) : Prop where
 o : PoD w d W
 row : CAt W g d.dn f
 lt : g < W.heap.size
theorem TX.below {w : World} {d : Drm} {g : Nat} {f : Nat → Int × Int} {W W' : World} (h : TX w d g f W) (hb : Below W.heap.size W W') : TX w d g f W' :=
 ⟨h.o.below hb, h.row.below hb h.lt, Nat.lt_of_lt_of_le h.lt hb.size⟩
theorem TX.drew {w : World} {d : Drm} {g : Nat} {f : Nat → Int × Int} {W : World} (h : TX w d g f W) : TX w d g f W.drew := h.below (Below.refl _ _).drew
set_option maxRecDepth 100000 in
set_option maxHeartbeats 8000000 in
theorem true_long (d : Drm) (t : Tru) (acid : Int) (w : World) (hk : KG w) (hd : DIn w d) (hl : d.Len) (ht : t.tn ≤ 9223372036854775807) (h : ¬ (d.shortP ∧ t.tn ≤ 15 ∧ d.Ok ∧ t.sized d ∧ 0 ≤ acid ∧ acid < (d.an : Int))) :
  Calls Tryz.prog 4 #[d.val, t.val, .int .i64 acid] w fun e w' => e = .returned (.bool true) ∧ Below w.heap.size w w' := by
 obtain ⟨W0, hW⟩ : ∃ W0, w.alloc (Obj.cells #[.slice d.aa d.an d.ac, .int .i64 d.known, .int .i64 d.hours, .slice d.da d.dn d.dc, .slice d.sa d.sn d.sc, .slice d.ba d.bn d.bc] 27) = W0 := ⟨_, rfl⟩
 have hX0 : PoD w d W0 := by rw [← hW]; exact PoD.new w d
 have hz : W0.heap.size = w.heap.size + 1 := by rw [← hW, World.size_alloc]
 obtain ⟨W1, hW1⟩ : ∃ W, W0.alloc (.cells #[.int .i64 t.acid, .slice t.ta t.tn t.tc] 29) = W := ⟨_, rfl⟩
 have hX : PoT w d t W1 := by rw [← hW1]; exact PoT.new w d t hX0 hz
 clear hX0
 obtain ⟨⟨⟨q0, q1, q2, q3, q4, q5⟩, _, _⟩, r0, r1, _⟩ := id hX
 (try dsimp only at r0 r1)
 by_cases h1 : d.shortP
 ·have hsh := fun (W : World) => short_yes d W h1
  by_cases h2 : t.tn ≤ 15
  ·have h16 : ¬ (15 : Int) < (t.tn : Int) := by omega
   by_cases h3 : d.Ok
   ·have hrd := fun (W : World) (hB : Below w.heap.size w W) => rdrum_yes d W (hd.below hB) hl h3
    by_cases h4 : t.sized d
    ·have hrs := fun (W : World) => rsized_yes d t W hl (by omega) h4
     by_cases h5 : acid < 0
     ·clear h
      go_enter Tryz.func4, Tryz.ntmps4
      go_wp2_with (first
       | (go_at_call 15; (with_reducible refine (hsh _).mono ?_); rintro e w1 ⟨rfl, hb⟩; replace hX := hX.below hb; obtain ⟨⟨⟨q0, q1, q2, q3, q4, q5⟩, _, _⟩, r0, r1, _⟩ := id hX; (try dsimp only at r0 r1))
       | (go_at_call 20; (with_reducible refine (hrd _ hX.d.old).mono ?_); rintro e w1 ⟨rfl, hb⟩; replace hX := hX.below hb; obtain ⟨⟨⟨q0, q1, q2, q3, q4, q5⟩, _, _⟩, r0, r1, _⟩ := id hX; (try dsimp only at r0 r1))
       | (go_at_call 21; (with_reducible refine (hrs _).mono ?_); rintro e w1 ⟨rfl, hb⟩; replace hX := hX.below hb; obtain ⟨⟨⟨q0, q1, q2, q3, q4, q5⟩, _, _⟩, r0, r1, _⟩ := id hX; (try dsimp only at r0 r1))
       | (go_at_call 16; refine (known_ok _ (hk.below hX.d.old)).mono ?_; rintro e w1 ⟨rfl, hb⟩; replace hX := hX.below hb))
      go_ret
      exact ⟨rfl, hX.d.old⟩
     ·have h6 : (d.an : Int) ≤ acid := by
       apply Decidable.byContradiction; intro h7; exact h ⟨h1, h2, h3, h4, by omega, by omega⟩
      clear h
      go_enter Tryz.func4, Tryz.ntmps4
      go_wp2_with (first
       | (go_at_call 15; (with_reducible refine (hsh _).mono ?_); rintro e w1 ⟨rfl, hb⟩; replace hX := hX.below hb; obtain ⟨⟨⟨q0, q1, q2, q3, q4, q5⟩, _, _⟩, r0, r1, _⟩ := id hX; (try dsimp only at r0 r1))
       | (go_at_call 20; (with_reducible refine (hrd _ hX.d.old).mono ?_); rintro e w1 ⟨rfl, hb⟩; replace hX := hX.below hb; obtain ⟨⟨⟨q0, q1, q2, q3, q4, q5⟩, _, _⟩, r0, r1, _⟩ := id hX; (try dsimp only at r0 r1))
       | (go_at_call 21; (with_reducible refine (hrs _).mono ?_); rintro e w1 ⟨rfl, hb⟩; replace hX := hX.below hb; obtain ⟨⟨⟨q0, q1, q2, q3, q4, q5⟩, _, _⟩, r0, r1, _⟩ := id hX; (try dsimp only at r0 r1))
       | (go_at_call 16; refine (known_ok _ (hk.below hX.d.old)).mono ?_; rintro e w1 ⟨rfl, hb⟩; replace hX := hX.below hb))
      go_ret
      exact ⟨rfl, hX.d.old⟩
    ·have hrs := fun (W : World) => rsized_no d t W hl (by omega) h4
     clear h
     go_enter Tryz.func4, Tryz.ntmps4
     go_wp2_with (first
      | (go_at_call 15; (with_reducible refine (hsh _).mono ?_); rintro e w1 ⟨rfl, hb⟩; replace hX := hX.below hb; obtain ⟨⟨⟨q0, q1, q2, q3, q4, q5⟩, _, _⟩, r0, r1, _⟩ := id hX; (try dsimp only at r0 r1))
      | (go_at_call 20; (with_reducible refine (hrd _ hX.d.old).mono ?_); rintro e w1 ⟨rfl, hb⟩; replace hX := hX.below hb; obtain ⟨⟨⟨q0, q1, q2, q3, q4, q5⟩, _, _⟩, r0, r1, _⟩ := id hX; (try dsimp only at r0 r1))
      | (go_at_call 21; (with_reducible refine (hrs _).mono ?_); rintro e w1 ⟨rfl, hb⟩; replace hX := hX.below hb; obtain ⟨⟨⟨q0, q1, q2, q3, q4, q5⟩, _, _⟩, r0, r1, _⟩ := id hX; (try dsimp only at r0 r1))
      | (go_at_call 16; refine (known_ok _ (hk.below hX.d.old)).mono ?_; rintro e w1 ⟨rfl, hb⟩; replace hX := hX.below hb))
     go_ret
     exact ⟨rfl, hX.d.old⟩
   ·have hrd := fun (W : World) (hB : Below w.heap.size w W) => rdrum_no d W (hd.below hB) hl h3
    clear h
    go_enter Tryz.func4, Tryz.ntmps4
    go_wp2_with (first
     | (go_at_call 15; (with_reducible refine (hsh _).mono ?_); rintro e w1 ⟨rfl, hb⟩; replace hX := hX.below hb; obtain ⟨⟨⟨q0, q1, q2, q3, q4, q5⟩, _, _⟩, r0, r1, _⟩ := id hX; (try dsimp only at r0 r1))
     | (go_at_call 20; (with_reducible refine (hrd _ hX.d.old).mono ?_); rintro e w1 ⟨rfl, hb⟩; replace hX := hX.below hb; obtain ⟨⟨⟨q0, q1, q2, q3, q4, q5⟩, _, _⟩, r0, r1, _⟩ := id hX; (try dsimp only at r0 r1))
     | (go_at_call 16; refine (known_ok _ (hk.below hX.d.old)).mono ?_; rintro e w1 ⟨rfl, hb⟩; replace hX := hX.below hb))
    go_ret
    exact ⟨rfl, hX.d.old⟩
  ·have h16 : (15 : Int) < (t.tn : Int) := by omega
   clear h
   go_enter Tryz.func4, Tryz.ntmps4
   go_wp2_with (first
    | (go_at_call 15; (with_reducible refine (hsh _).mono ?_); rintro e w1 ⟨rfl, hb⟩; replace hX := hX.below hb; obtain ⟨⟨⟨q0, q1, q2, q3, q4, q5⟩, _, _⟩, r0, r1, _⟩ := id hX; (try dsimp only at r0 r1))
    | (go_at_call 16; refine (known_ok _ (hk.below hX.d.old)).mono ?_; rintro e w1 ⟨rfl, hb⟩; replace hX := hX.below hb))
   go_ret
   exact ⟨rfl, hX.d.old⟩
 ·have hsh := fun (W : World) => short_no d W h1
  clear h
  go_enter Tryz.func4, Tryz.ntmps4
  go_wp2_with (first
   | (go_at_call 15; (with_reducible refine (hsh _).mono ?_); rintro e w1 ⟨rfl, hb⟩; replace hX := hX.below hb; obtain ⟨⟨⟨q0, q1, q2, q3, q4, q5⟩, _, _⟩, r0, r1, _⟩ := id hX; (try dsimp only at r0 r1))
   | (go_at_call 16; refine (known_ok _ (hk.below hX.d.old)).mono ?_; rintro e w1 ⟨rfl, hb⟩; replace hX := hX.below hb))
  go_ret
  exact ⟨rfl, hX.d.old⟩
set_option maxRecDepth 100000 in
set_option maxHeartbeats 8000000 in
theorem true_none (d : Drm) (i : Nat) (ta : Option Addr) (tc : Nat) (F : Nat → Nat → Int) (a : Nat) (w : World) (hk : KG w) (hd : DIn w d) (hl : d.Len) (hs : d.shortP) (hok : d.Ok) (hi : i < d.an) (ha : a < d.an) (hF : KSl 1 w (.slice ta d.dn tc) d.dn F) (hc : CouldTo d d.an []) :
  Calls Tryz.prog 4 #[d.val, .agg #[.int .i64 i, .slice ta d.dn tc], .int .i64 a] w fun e w' => e = .returned (.bool true) ∧ Below w.heap.size w w' := by
 obtain ⟨W0, hW⟩ : ∃ W0, w.alloc (Obj.cells #[.slice d.aa d.an d.ac, .int .i64 d.known, .int .i64 d.hours, .slice d.da d.dn d.dc, .slice d.sa d.sn d.sc, .slice d.ba d.bn d.bc] 27) = W0 := ⟨_, rfl⟩
 have hX0 : PoD w d W0 := by rw [← hW]; exact PoD.new w d
 have hz : W0.heap.size = w.heap.size + 1 := by rw [← hW, World.size_alloc]
 obtain ⟨W1, hW1⟩ : ∃ W, W0.alloc (.cells #[.int .i64 i, .slice ta d.dn tc] 29) = W := ⟨_, rfl⟩
 have hX : PoT w d ⟨i, ta, d.dn, tc, F⟩ W1 := by rw [← hW1]; exact PoT.new w d ⟨i, ta, d.dn, tc, F⟩ hX0 hz
 clear hX0
 obtain ⟨⟨⟨q0, q1, q2, q3, q4, q5⟩, _, _⟩, r0, r1, _⟩ := id hX
 (try dsimp only at r0 r1)
 have hsh := fun (W : World) => short_yes d W hs
 have h16 : ¬ (15 : Int) < (d.dn : Int) := by have := hs.2.1; omega
 have hrd := fun (W : World) (hB : Below w.heap.size w W) => rdrum_yes d W (hd.below hB) hl hok
 have hrs := fun (W : World) => rsized_yes d ⟨i, ta, d.dn, tc, F⟩ W hl (by show d.dn ≤ _; exact hl.ld) ⟨⟨Int.natCast_nonneg _, by show (i : Int) ≤ _; omega⟩, hok.adds⟩
 have hrs : ∀ W : World, Calls Tryz.prog 21 #[d.val, .agg #[.int .i64 i, .slice ta d.dn tc]] W fun e w' => e = .returned (.bool true) ∧ Below W.heap.size W w' := hrs
 have ha0 : (0 : Int) ≤ (a : Int) := Int.natCast_nonneg _
 have ha1 : (a : Int) < (d.an : Int) := by omega
 have ha2 : ¬ (a : Int) < 0 := by omega
 have ha3 : ¬ (d.an : Int) ≤ (a : Int) := by omega
 have hnf : ¬ d.fits i F := fun h => by have := (CouldTo.mem hc i).2 ⟨hi, fits_poss hok h⟩; cases this
 have hfi := fun (W : World) (hB : Below w.heap.size w W) => fits_is d i ta tc F W (hd.below hB) hl hok hi (hF.below hB) false ⟨fun h => by (cases h), fun h => absurd h hnf⟩
 have hco := fun (W : World) (hB : Below w.heap.size w W) => could_rule d W (hd.below hB) hl hok hc
 have hst := fun (W : World) (hB : Below w.heap.size w W) => strength_rule d W (hd.below hB) hl hok hc
 clear hnf
 go_enter Tryz.func4, Tryz.ntmps4
 go_wp2_with (first
  | (go_at_call 15; (with_reducible refine (hsh _).mono ?_); rintro e w1 ⟨rfl, hb⟩; replace hX := hX.below hb; obtain ⟨⟨⟨q0, q1, q2, q3, q4, q5⟩, _, _⟩, r0, r1, _⟩ := id hX; (try dsimp only at r0 r1))
  | (go_at_call 20; (with_reducible refine (hrd _ hX.d.old).mono ?_); rintro e w1 ⟨rfl, hb⟩; replace hX := hX.below hb; obtain ⟨⟨⟨q0, q1, q2, q3, q4, q5⟩, _, _⟩, r0, r1, _⟩ := id hX; (try dsimp only at r0 r1))
  | (go_at_call 21; (with_reducible refine (hrs _).mono ?_); rintro e w1 ⟨rfl, hb⟩; replace hX := hX.below hb; obtain ⟨⟨⟨q0, q1, q2, q3, q4, q5⟩, _, _⟩, r0, r1, _⟩ := id hX; (try dsimp only at r0 r1))
  | (go_at_call 18; (with_reducible refine (hfi _ hX.d.old).mono ?_); rintro e w1 ⟨rfl, hb⟩; replace hX := hX.below hb; obtain ⟨⟨⟨q0, q1, q2, q3, q4, q5⟩, _, _⟩, r0, r1, _⟩ := id hX; (try dsimp only at r0 r1))
  | (go_at_call 19; (with_reducible refine (hco _ hX.d.old).mono ?_); rintro e w1 ⟨rfl, hb⟩; replace hX := hX.below hb; obtain ⟨⟨⟨q0, q1, q2, q3, q4, q5⟩, _, _⟩, r0, r1, _⟩ := id hX; (try dsimp only at r0 r1))
  | (go_at_call 25; (with_reducible refine (hst _ hX.d.old).mono ?_); rintro e w1 ⟨rfl, hb⟩; replace hX := hX.below hb; obtain ⟨⟨⟨q0, q1, q2, q3, q4, q5⟩, _, _⟩, r0, r1, _⟩ := id hX; (try dsimp only at r0 r1))
  | (go_at_call 16; refine (known_ok _ (hk.below hX.d.old)).mono ?_; rintro e w1 ⟨rfl, hb⟩; replace hX := hX.below hb))
 go_ret
 exact ⟨rfl, hX.d.old⟩
end Go.Proofs.YtlhgkepdoinlnaaGreatDoor
