/- A part of the proof: see the last file. -/
import Derived.Test.YtlhgkepdoinlnaaGreatDoorPbg
set_option linter.unusedVariables false
set_option linter.unusedSimpArgs false
set_option linter.unusedSectionVars false
namespace Go.Proofs.YtlhgkepdoinlnaaGreatDoor
open Go.RowKit Go.Gen Go.Drum Go.Can
set_option maxRecDepth 100000 in
set_option maxHeartbeats 8000000 in
theorem true_not (d : Drm) (i : Nat) (ta : Option Addr) (tc : Nat) (F : Nat → Nat → Int) (a : Nat) (w : World) (hk : KG w) (hd : DIn w d) (hl : d.Len) (hs : d.shortP) (hok : d.Ok) (hi : i < d.an) (ha : a < d.an) (hF : KSl 1 w (.slice ta d.dn tc) d.dn F) (l : List Nat) (hc : CouldTo d d.an l) (hne : l ≠ []) (b : Bool) (hfb : b = true ↔ d.fits i F) (hal : a ∉ l) (hcn : ¬ (d.acid a).can d.dn) :
  Calls Tryz.prog 4 #[d.val, .agg #[.int .i64 i, .slice ta d.dn tc], .int .i64 a] w fun e w' => e = .returned (.bool true) ∧ Below w.heap.size w w' := by
 obtain ⟨bt, ot, ct, et', hbt, hpt⟩ := hF.pos (hd_small hok).1
 obtain ⟨rfl, rfl⟩ : ta = some ⟨bt, ot, none⟩ ∧ tc = ct := by injection et' with e1 e2 e3; exact ⟨e1, e3⟩
 clear et'
 obtain ⟨W0, hW⟩ : ∃ W0, w.alloc (Obj.cells #[.slice d.aa d.an d.ac, .int .i64 d.known, .int .i64 d.hours, .slice d.da d.dn d.dc, .slice d.sa d.sn d.sc, .slice d.ba d.bn d.bc] 27) = W0 := ⟨_, rfl⟩
 have hX0 : PoD w d W0 := by rw [← hW]; exact PoD.new w d
 have hz : W0.heap.size = w.heap.size + 1 := by rw [← hW, World.size_alloc]
 obtain ⟨W1, hW1⟩ : ∃ W, W0.alloc (.cells #[.int .i64 i, .slice (some ⟨bt, ot, none⟩) d.dn tc] 29) = W := ⟨_, rfl⟩
 have hX : PoT w d ⟨i, some ⟨bt, ot, none⟩, d.dn, tc, F⟩ W1 := by rw [← hW1]; exact PoT.new w d ⟨i, some ⟨bt, ot, none⟩, d.dn, tc, F⟩ hX0 hz
 clear hX0
 obtain ⟨⟨⟨q0, q1, q2, q3, q4, q5⟩, _, _⟩, r0, r1, _⟩ := id hX
 (try dsimp only at r0 r1)
 have hsh := fun (W : World) => short_yes d W hs
 have h16 : ¬ (15 : Int) < (d.dn : Int) := by have := hs.2.1; omega
 have hrd := fun (W : World) (hB : Below w.heap.size w W) => rdrum_yes d W (hd.below hB) hl hok
 have hrs := fun (W : World) => rsized_yes d ⟨i, some ⟨bt, ot, none⟩, d.dn, tc, F⟩ W hl (by show d.dn ≤ _; exact hl.ld) ⟨⟨Int.natCast_nonneg _, by show (i : Int) ≤ _; omega⟩, hok.adds⟩
 have hrs : ∀ W : World, Calls Tryz.prog 21 #[d.val, .agg #[.int .i64 i, .slice (some ⟨bt, ot, none⟩) d.dn tc]] W fun e w' => e = .returned (.bool true) ∧ Below W.heap.size W w' := hrs
 have ha0 : (0 : Int) ≤ (a : Int) := Int.natCast_nonneg _
 have ha1 : (a : Int) < (d.an : Int) := by omega
 have ha2 : ¬ (a : Int) < 0 := by omega
 have ha3 : ¬ (d.an : Int) ≤ (a : Int) := by omega
 have hfi := fun (W : World) (hB : Below w.heap.size w W) => fits_is d i _ tc F W (hd.below hB) hl hok hi (hF.below hB) b hfb
 have hco := fun (W : World) (hB : Below w.heap.size w W) => could_yes d l hc hne W (hd.below hB) hl hok
 have hst := fun (W : World) (hB : Below w.heap.size w W) => strength_yes d l hc hne W (hd.below hB) hl hok
 have hl4 : l.length ≤ 4 := by have := CouldTo.length_le hc; have := hok.acids; omega
 have hl5 : l.length ≤ d.an := CouldTo.length_le hc
 have hl6 : ¬ (d.an : Int) < (l.length : Int) := by omega
 have hhull : Hdn _ := ⟨hull_en hok hc hne⟩
 have hli : b = true → ∀ (W : World) (la : Option Addr) (lc : Nat), KSl 1 W (.slice la l.length lc) l.length (natsF l) → Calls Tryz.prog 27 #[.slice la l.length lc, .int .i64 i] W fun e w' => e = .returned (.bool true) ∧ Below W.heap.size W w' := fun hbt W la lc h => (listed_says l la lc i W hl4 h).mono fun _ _ hh => SaysB.of_yes (lst_iff.2 ((CouldTo.mem hc i).2 ⟨hi, fits_poss hok (hfb.1 hbt)⟩)) hh
 have hTF : Hdn (b = true → ∀ k, k < d.dn → (hullTo d.en l k).1 ≤ F k 0 ∧ F k 0 ≤ (hullTo d.en l k).2) := ⟨fun hbt => fits_hull hok hi hc (hfb.1 hbt)⟩
 have hdn12 := (hd_small hok).2
 have hdn0 : 0 < d.dn := (hd_small hok).1
 have hdn00 : (0 : Int) < (d.dn : Int) := by omega
 clear hfb
 have ha4 : a < 4 := by have := hok.acids; omega
 have hok2 := just_ok hok ha
 have hla := fun (W : World) (la : Option Addr) (lc : Nat) (h : KSl 1 W (.slice la l.length lc) l.length (natsF l)) => (listed_says l la lc a W hl4 h).mono fun _ _ hh => SaysB.of_no (fun h2 => hal (lst_iff.1 h2)) hh
 have hst2 : ∀ W, Below w.heap.size w W → Calls Tryz.prog 25 #[.agg #[.slice d.aa d.an d.ac, .int .i64 (2 ^ a), .int .i64 d.hours, .slice d.da d.dn d.dc, .slice d.sa d.sn d.sc, .slice d.ba d.bn d.bc]] W fun e w' => e = .returned (.tuple #[.slice none 0 0, .int .i64 7]) ∧ Below W.heap.size W w' :=
  fun W hB => strength_rule (d.just a) W ⟨(hd.below hB).acids, (hd.below hB).adds, (hd.below hB).strips, (hd.below hB).batches⟩ ⟨hl.la, hl.ld, hl.ls, hl.lb⟩ hok2 (just_none hok ha hcn)
 have hha := fun W => has_any d.known a (by have := hok.known; have := two_pow_le hok.acids.2; omega) ha4 W
 generalize bitB d.known a = bk at hha
 clear hok2
 cases b with
 | false =>
  clear hli
  go_enter Tryz.func4, Tryz.ntmps4
  go_wp2_with (first
   | (go_at_call 15; (with_reducible refine (hsh _).mono ?_); rintro e w1 ⟨rfl, hb⟩; replace hX := hX.below hb; obtain ⟨⟨⟨q0, q1, q2, q3, q4, q5⟩, _, _⟩, r0, r1, _⟩ := id hX; (try dsimp only at r0 r1))
   | (go_at_call 20; (with_reducible refine (hrd _ hX.d.old).mono ?_); rintro e w1 ⟨rfl, hb⟩; replace hX := hX.below hb; obtain ⟨⟨⟨q0, q1, q2, q3, q4, q5⟩, _, _⟩, r0, r1, _⟩ := id hX; (try dsimp only at r0 r1))
   | (go_at_call 21; (with_reducible refine (hrs _).mono ?_); rintro e w1 ⟨rfl, hb⟩; replace hX := hX.below hb; obtain ⟨⟨⟨q0, q1, q2, q3, q4, q5⟩, _, _⟩, r0, r1, _⟩ := id hX; (try dsimp only at r0 r1))
   | (go_at_call 18; (with_reducible refine (hfi _ hX.d.old).mono ?_); rintro e w1 ⟨rfl, hb⟩; replace hX := hX.below hb; obtain ⟨⟨⟨q0, q1, q2, q3, q4, q5⟩, _, _⟩, r0, r1, _⟩ := id hX; (try dsimp only at r0 r1))
   | (go_at_call 19; (with_reducible refine (hco _ hX.d.old).mono ?_); rintro e w1 ⟨la, lc, rfl, hks, hb⟩; replace hX := hX.below hb; obtain ⟨⟨⟨q0, q1, q2, q3, q4, q5⟩, _, _⟩, r0, r1, _⟩ := id hX; (try dsimp only at r0 r1))
   | (go_at_call 25; (with_reducible refine (hst _ hX.d.old).mono ?_); rintro e w1 ⟨gs, cs, rfl, hg1, hRl, hR, hb⟩; replace hX := hX.below hb; obtain ⟨⟨⟨q0, q1, q2, q3, q4, q5⟩, _, _⟩, r0, r1, _⟩ := id hX; (try dsimp only at r0 r1); replace hks := hks.below hb)
   | (go_at_call 26; (with_reducible refine (plain_yes d gs cs _ _ hok hR hRl hhull.out).mono ?_); rintro e w1 ⟨rfl, hb⟩; replace hX := hX.below hb; obtain ⟨⟨⟨q0, q1, q2, q3, q4, q5⟩, _, _⟩, r0, r1, _⟩ := id hX; (try dsimp only at r0 r1); replace hks := hks.below hb; replace hR := hR.below hb hRl; replace hRl := Nat.lt_of_lt_of_le hRl hb.size))
  go_loopw [13] (fun i' wr => i' = .int .i64 0 ∧ PoT w d ⟨i, some ⟨bt, ot, none⟩, d.dn, tc, F⟩ wr ∧ KSl 1 wr (.slice la l.length lc) l.length (natsF l)) (fun _ _ => 0)
  case atStart => exact ⟨rfl, hX, hks⟩
  clear hX hks hR hRl q0 q1 q2 q3 q4 q5 r0 r1
  case round =>
   obtain ⟨rfl, hX, hks⟩ := hrel
   obtain ⟨⟨⟨q0, q1, q2, q3, q4, q5⟩, _, _⟩, r0, r1, _⟩ := id hX
   (try dsimp only at r0 r1)
   have hwp : wrap64 ((2 : Int) ^ a) = 2 ^ a := wrap_just a (by have := hok.acids; omega)
   obtain ⟨W9, hW9⟩ : ∃ W, wr.alloc (Obj.cells #[.slice d.aa d.an d.ac, .int .i64 (2 ^ a), .int .i64 d.hours, .slice d.da d.dn d.dc, .slice d.sa d.sn d.sc, .slice d.ba d.bn d.bc] 27) = W := ⟨_, rfl⟩
   have hb9 : Below wr.heap.size wr W9 := by rw [← hW9]; exact (Below.refl _ _).alloc (Nat.le_refl _) _
   have hX9 := hX.below hb9
   have hks9 := hks.below hb9
   obtain ⟨⟨⟨s0, s1, s2, s3, s4, s5⟩, _, _⟩, _, _, _⟩ := id hX9
   have hDA : DAt W9 wr.heap.size (d.just a) := by rw [← hW9]; exact DAt.new wr (d.just a)
   obtain ⟨y0, y1, y2, y3, y4, y5⟩ := hDA
   (try dsimp only at y0 y1 y2 y3 y4 y5)
   go_wp2_with (first
    | (go_at_call 25; (with_reducible refine (hst2 _ hX9.d.old).mono ?_); rintro e w1 ⟨rfl, hb⟩; replace hX9 := hX9.below hb; replace hks9 := hks9.below hb; obtain ⟨⟨⟨s0, s1, s2, s3, s4, s5⟩, _, _⟩, _, _, _⟩ := id hX9)
    | (go_at_call 27; (with_reducible refine (hla _ _ _ hks9).mono ?_); rintro e w1 ⟨rfl, hb⟩; replace hX9 := hX9.below hb; replace hks9 := hks9.below hb; obtain ⟨⟨⟨s0, s1, s2, s3, s4, s5⟩, _, _⟩, _, _, _⟩ := id hX9)
    | (go_at_call 28; (with_reducible refine (hha _).mono ?_); rintro e w1 ⟨rfl, rfl⟩)
    | (go_at_call 16; refine (known_ok _ (hk.below hX9.d.old)).mono ?_; rintro e w1 ⟨rfl, hb⟩; replace hX9 := hX9.below hb))
   go_ret
   exact ⟨rfl, hX9.d.old⟩
 | true =>
  replace hli := hli rfl
  go_enter Tryz.func4, Tryz.ntmps4
  go_wp2_with (first
   | (go_at_call 15; (with_reducible refine (hsh _).mono ?_); rintro e w1 ⟨rfl, hb⟩; replace hX := hX.below hb; obtain ⟨⟨⟨q0, q1, q2, q3, q4, q5⟩, _, _⟩, r0, r1, _⟩ := id hX; (try dsimp only at r0 r1))
   | (go_at_call 20; (with_reducible refine (hrd _ hX.d.old).mono ?_); rintro e w1 ⟨rfl, hb⟩; replace hX := hX.below hb; obtain ⟨⟨⟨q0, q1, q2, q3, q4, q5⟩, _, _⟩, r0, r1, _⟩ := id hX; (try dsimp only at r0 r1))
   | (go_at_call 21; (with_reducible refine (hrs _).mono ?_); rintro e w1 ⟨rfl, hb⟩; replace hX := hX.below hb; obtain ⟨⟨⟨q0, q1, q2, q3, q4, q5⟩, _, _⟩, r0, r1, _⟩ := id hX; (try dsimp only at r0 r1))
   | (go_at_call 18; (with_reducible refine (hfi _ hX.d.old).mono ?_); rintro e w1 ⟨rfl, hb⟩; replace hX := hX.below hb; obtain ⟨⟨⟨q0, q1, q2, q3, q4, q5⟩, _, _⟩, r0, r1, _⟩ := id hX; (try dsimp only at r0 r1))
   | (go_at_call 19; (with_reducible refine (hco _ hX.d.old).mono ?_); rintro e w1 ⟨la, lc, rfl, hks, hb⟩; replace hX := hX.below hb; obtain ⟨⟨⟨q0, q1, q2, q3, q4, q5⟩, _, _⟩, r0, r1, _⟩ := id hX; (try dsimp only at r0 r1))
   | (go_at_call 25; (with_reducible refine (hst _ hX.d.old).mono ?_); rintro e w1 ⟨gs, cs, rfl, hg1, hRl, hR, hb⟩; replace hX := hX.below hb; obtain ⟨⟨⟨q0, q1, q2, q3, q4, q5⟩, _, _⟩, r0, r1, _⟩ := id hX; (try dsimp only at r0 r1); replace hks := hks.below hb)
   | (go_at_call 26; (with_reducible refine (plain_yes d gs cs _ _ hok hR hRl hhull.out).mono ?_); rintro e w1 ⟨rfl, hb⟩; replace hX := hX.below hb; obtain ⟨⟨⟨q0, q1, q2, q3, q4, q5⟩, _, _⟩, r0, r1, _⟩ := id hX; (try dsimp only at r0 r1); replace hks := hks.below hb; replace hR := hR.below hb hRl; replace hRl := Nat.lt_of_lt_of_le hRl hb.size)
   | (go_at_call 27; (with_reducible refine (hli _ _ _ hks).mono ?_); rintro e w1 ⟨rfl, hb⟩; replace hX := hX.below hb; obtain ⟨⟨⟨q0, q1, q2, q3, q4, q5⟩, _, _⟩, r0, r1, _⟩ := id hX; (try dsimp only at r0 r1); replace hks := hks.below hb; replace hR := hR.below hb hRl; replace hRl := Nat.lt_of_lt_of_le hRl hb.size))
  go_loopw [13] (fun i' wr => ∃ k : Nat, k ≤ d.dn ∧ i' = .int .i64 k ∧ PoT w d ⟨i, some ⟨bt, ot, none⟩, d.dn, tc, F⟩ wr ∧ KSl 1 wr (.slice la l.length lc) l.length (natsF l) ∧ CAt wr gs d.dn (hullTo d.en l) ∧ gs < wr.heap.size) (fun i' _ => d.dn - (intOf i').toNat)
  case atStart => exact ⟨0, Nat.zero_le _, rfl, hX, hks, hR, hRl⟩
  clear hX hks hR hRl q0 q1 q2 q3 q4 q5 r0 r1
  case round =>
   obtain ⟨k, hk5, rfl, hX, hks, hR, hRl⟩ := hrel
   have hk6 : (0 : Int) ≤ (k : Int) := Int.natCast_nonneg _
   obtain ⟨⟨⟨q0, q1, q2, q3, q4, q5⟩, _, _⟩, r0, r1, _⟩ := id hX
   (try dsimp only at r0 r1)
   by_cases hlt : k < d.dn
   ·have hk7 : (k : Int) < (d.dn : Int) := by omega
    have hk8 : (k : Int) < 12 := by omega
    obtain ⟨hf1, hf2⟩ := hTF.out (by first | rfl | trivial) k hlt
    obtain ⟨x, hx⟩ : ∃ x, hullTo d.en l k = x := ⟨_, rfl⟩
    have htr : ∀ W, Below w.heap.size w W → W.cell? ⟨bt, ot + k, none⟩ = some (.int .i64 (F k 0)) := fun W hB => (hpt.below hB hbt).one hlt
    have hrow : ∀ W, Below wr.heap.size wr W → W.cell? ⟨gs, k * 2, none⟩ = some (.int .i64 x.1) ∧ W.cell? ⟨gs, k * 2 + 1, none⟩ = some (.int .i64 x.2) := fun W hB => by rw [← hx]; exact (hR.below hB hRl).c k hlt
    rw [hx] at hf1 hf2
    clear hx
    obtain ⟨x0, x1⟩ := x
    (try dsimp only at hf1 hf2 hrow)
    obtain ⟨y, hy⟩ : ∃ y, F k 0 = y := ⟨_, rfl⟩
    rw [hy] at hf1 hf2
    rw [hy] at htr
    clear hy
    have e1 : decide (y < x0) = false := decide_eq_false (by omega)
    have e2 : decide (x1 < y) = false := decide_eq_false (by omega)
    go_wp2_with fail
    refine wp_region_late [] (fun w9 => Below wr.heap.size wr w9) (fun _ => True) (by kernel_rfl) ?_ (fun hHeld => ?_)
    ·exact ⟨(Below.refl _ _).drew, trivial⟩
    have hH := hHeld.1
    generalize wr.drew = V5 at hH hHeld ⊢
    refine tk1 0 rfl hHeld ?_
    refine tk2 1 rfl (by intro w9 hSw; have hS := hSw; clear hSw; (have z := (hX.below hS).k1; clear hS; go_simp) <;> with_reducible rfl) hHeld ?_
    refine tk1 2 rfl hHeld ?_
    refine tk1 3 rfl hHeld ?_
    refine tk2 4 rfl (by intro w9 hSw; have hS := hSw; clear hSw; (have z := htr w9 (hX.d.old.trans (hS.mono hX.d.old.size)); clear hS; go_simp) <;> with_reducible rfl) hHeld ?_
    refine tk1 5 rfl hHeld ?_
    refine tk1 6 rfl hHeld ?_
    refine tk1 7 rfl hHeld ?_
    refine tk1 8 rfl hHeld ?_
    refine tk2 9 rfl (by intro w9 hSw; have hS := hSw; clear hSw; (have z := (hrow w9 hS).1; clear hS; go_simp) <;> with_reducible rfl) hHeld ?_
    refine tk1 10 rfl hHeld ?_
    refine tk1 11 rfl hHeld ?_
    refine tk3 12 rfl (by (intro w9 hSw; clear hSw; go_simp) <;> with_reducible rfl) hHeld ?_
    refine tk3 13 rfl (by intro w9 hSw; have hS := hSw; clear hSw; (have z := (hX.below hS).k1; clear hS; go_simp) <;> with_reducible rfl) hHeld ?_
    refine tk3 14 rfl (by (intro w9 hSw; clear hSw; go_simp) <;> with_reducible rfl) hHeld ?_
    refine tk3 15 rfl (by (intro w9 hSw; clear hSw; go_simp) <;> with_reducible rfl) hHeld ?_
    refine tk3 16 rfl (by intro w9 hSw; have hS := hSw; clear hSw; (have z := htr w9 (hX.d.old.trans (hS.mono hX.d.old.size)); clear hS; go_simp) <;> with_reducible rfl) hHeld ?_
    refine tk3 17 rfl (by (intro w9 hSw; clear hSw; go_simp) <;> with_reducible rfl) hHeld ?_
    refine tk3 18 rfl (by (intro w9 hSw; clear hSw; go_simp) <;> with_reducible rfl) hHeld ?_
    refine tk3 19 rfl (by (intro w9 hSw; clear hSw; go_simp) <;> with_reducible rfl) hHeld ?_
    refine tk3 20 rfl (by (intro w9 hSw; clear hSw; go_simp) <;> with_reducible rfl) hHeld ?_
    refine tk3 21 rfl (by intro w9 hSw; have hS := hSw; clear hSw; (have z := (hrow w9 hS).2; clear hS; go_simp) <;> with_reducible rfl) hHeld ?_
    refine tk3 22 rfl (by (intro w9 hSw; clear hSw; go_simp) <;> with_reducible rfl) hHeld ?_
    refine tk1 23 rfl hHeld ?_
    refine wpAnyP_done (by kernel_rfl) ?_ _
    (try simp only [Act.put, List.getElem_toArray, List.getElem_cons_zero, List.getElem_cons_succ, xpA, xpZ, xpS])
    have hB5 := hHeld.1
    have hX5 := hX.below hB5
    have hks5 := hks.below hB5
    have hR5 := hR.below hB5 hRl
    have hRl5 := Nat.lt_of_lt_of_le hRl hB5.size
    go_wp2
    go_roundw
    case rel => exact ⟨k + 1, by omega, by go_num, hX5, hks5, hR5, hRl5⟩
    case measure => simp [intOf] <;> omega

   ·obtain rfl : k = d.dn := by omega
    have hk9 : ¬ (d.dn : Int) < (d.dn : Int) := by omega
    clear hR hRl
    have hwp : wrap64 ((2 : Int) ^ a) = 2 ^ a := wrap_just a (by have := hok.acids; omega)
    obtain ⟨W9, hW9⟩ : ∃ W, wr.alloc (Obj.cells #[.slice d.aa d.an d.ac, .int .i64 (2 ^ a), .int .i64 d.hours, .slice d.da d.dn d.dc, .slice d.sa d.sn d.sc, .slice d.ba d.bn d.bc] 27) = W := ⟨_, rfl⟩
    have hb9 : Below wr.heap.size wr W9 := by rw [← hW9]; exact (Below.refl _ _).alloc (Nat.le_refl _) _
    have hX9 := hX.below hb9
    have hks9 := hks.below hb9
    obtain ⟨⟨⟨s0, s1, s2, s3, s4, s5⟩, _, _⟩, _, _, _⟩ := id hX9
    have hDA : DAt W9 wr.heap.size (d.just a) := by rw [← hW9]; exact DAt.new wr (d.just a)
    obtain ⟨y0, y1, y2, y3, y4, y5⟩ := hDA
    (try dsimp only at y0 y1 y2 y3 y4 y5)
    go_wp2_with (first
     | (go_at_call 25; (with_reducible refine (hst2 _ hX9.d.old).mono ?_); rintro e w1 ⟨rfl, hb⟩; replace hX9 := hX9.below hb; replace hks9 := hks9.below hb; obtain ⟨⟨⟨s0, s1, s2, s3, s4, s5⟩, _, _⟩, _, _, _⟩ := id hX9)
     | (go_at_call 27; (with_reducible refine (hla _ _ _ hks9).mono ?_); rintro e w1 ⟨rfl, hb⟩; replace hX9 := hX9.below hb; replace hks9 := hks9.below hb; obtain ⟨⟨⟨s0, s1, s2, s3, s4, s5⟩, _, _⟩, _, _, _⟩ := id hX9)
     | (go_at_call 28; (with_reducible refine (hha _).mono ?_); rintro e w1 ⟨rfl, rfl⟩)
     | (go_at_call 16; refine (known_ok _ (hk.below hX9.d.old)).mono ?_; rintro e w1 ⟨rfl, hb⟩; replace hX9 := hX9.below hb))
    go_ret
    exact ⟨rfl, hX9.d.old⟩
end Go.Proofs.YtlhgkepdoinlnaaGreatDoor
