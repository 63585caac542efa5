/- A part of the proof: see the last file. -/
import Derived.Test.YtlhgkepdoinlnaaGreatDoorPah
import Derived.Test.YtlhgkepdoinlnaaGreatDoorPac
set_option linter.unusedVariables false
set_option linter.unusedSimpArgs false
set_option linter.unusedSectionVars false
namespace Go.Proofs.YtlhgkepdoinlnaaGreatDoor
open Go.RowKit Go.Gen
set_option maxRecDepth 100000 in
set_option maxHeartbeats 4000000 in
theorem rdrum_says (d : Drm) (w : World) (hd : DIn w d) (h1 : d.an ≤ 9223372036854775807) (h2 : d.dn ≤ 9223372036854775807) (h3 : d.sn ≤ 9223372036854775807) (h4 : d.bn ≤ 9223372036854775807) :
  Calls Tryz.prog 20 #[d.val] w (SaysB d.Ok w) := by
 obtain ⟨W0, hW⟩ : ∃ W0, w.alloc (.cells #[.slice d.aa d.an d.ac, .int .i64 d.known, .int .i64 d.hours, .slice d.da d.dn d.dc, .slice d.sa d.sn d.sc, .slice d.ba d.bn d.bc] 27) = W0 := ⟨_, rfl⟩
 have hX : PoD w d W0 := by rw [← hW]; exact PoD.new w d
 have hw1 := fun W => in_any (d.an : Int) 1 4 W
 cases hq : inB (d.an : Int) 1 4 with
 | false =>
  rw [hq] at hw1
  have hno : Hdn (¬ d.Ok) := ⟨fun h => by have := h.acids; rw [inB_yes (by omega) (by omega)] at hq; cases hq⟩
  clear hq
  go_enter Tryz.func20, Tryz.ntmps20
  go_wp2_with fail
  refine wp_region_late [] (fun w9 => PoD w d w9) (fun _ => True) (by kernel_rfl) ?_ (fun hHeld => ?_)
  ·exact ⟨hX.drew, trivial⟩
  have hH := hHeld.1
  clear hW
  generalize W0.drew = W1 at hHeld ⊢
  refine tk1 0 rfl hHeld ?_
  refine tk2 1 rfl (by intro w9 hSw; have hS := hSw; clear hSw; (have z := hS.at'.k0; clear hS; go_simp) <;> with_reducible rfl) hHeld ?_
  refine tk1 2 rfl hHeld ?_
  refine rd1 3 rfl (fun K hK => ?_)
  go_simp
  (go_at_call 65; with_reducible refine (hw1 _).mono ?_; rintro e w1 ⟨rfl, rfl⟩)
  refine hK.out _ _ ?_ (fun hHeld => ?_)
  ·exact ⟨hHeld.1, trivial⟩
  clear hK K hH
  have hH := hHeld.1
  (try simp only [Act.put, xpA, xpZ, xpS])
  refine tk1 4 rfl hHeld ?_
  refine tk1 5 rfl hHeld ?_
  refine tk0 6 undef rfl (Or.inr ⟨by kernel_rfl, rfl⟩) hHeld ?_
  (try simp only [Act.put, xpA, xpZ, xpS])
  refine tk0 7 undef rfl (Or.inr ⟨by kernel_rfl, rfl⟩) hHeld ?_
  (try simp only [Act.put, xpA, xpZ, xpS])
  refine tk0 8 undef rfl (Or.inr ⟨by kernel_rfl, rfl⟩) hHeld ?_
  (try simp only [Act.put, xpA, xpZ, xpS])
  refine tk0 9 undef rfl (Or.inr ⟨by kernel_rfl, rfl⟩) hHeld ?_
  (try simp only [Act.put, xpA, xpZ, xpS])
  refine tk0 10 undef rfl (Or.inr ⟨by kernel_rfl, rfl⟩) hHeld ?_
  (try simp only [Act.put, xpA, xpZ, xpS])
  refine tk0 11 undef rfl (Or.inr ⟨by kernel_rfl, rfl⟩) hHeld ?_
  (try simp only [Act.put, xpA, xpZ, xpS])
  refine tk0 12 undef rfl (Or.inr ⟨by kernel_rfl, rfl⟩) hHeld ?_
  (try simp only [Act.put, xpA, xpZ, xpS])
  refine tk0 13 undef rfl (Or.inr ⟨by kernel_rfl, rfl⟩) hHeld ?_
  (try simp only [Act.put, xpA, xpZ, xpS])
  refine tk0 14 undef rfl (Or.inr ⟨by kernel_rfl, rfl⟩) hHeld ?_
  (try simp only [Act.put, xpA, xpZ, xpS])
  refine tk1 15 rfl hHeld ?_
  refine tk1 16 rfl hHeld ?_
  refine tk0 17 undef rfl (Or.inr ⟨by kernel_rfl, rfl⟩) hHeld ?_
  (try simp only [Act.put, xpA, xpZ, xpS])
  refine tk0 18 undef rfl (Or.inr ⟨by kernel_rfl, rfl⟩) hHeld ?_
  (try simp only [Act.put, xpA, xpZ, xpS])
  refine tk0 19 undef rfl (Or.inr ⟨by kernel_rfl, rfl⟩) hHeld ?_
  (try simp only [Act.put, xpA, xpZ, xpS])
  refine tk0 20 undef rfl (Or.inr ⟨by kernel_rfl, rfl⟩) hHeld ?_
  (try simp only [Act.put, xpA, xpZ, xpS])
  refine tk1 21 rfl hHeld ?_
  refine tk1 22 rfl hHeld ?_
  refine tk0 23 undef rfl (Or.inr ⟨by kernel_rfl, rfl⟩) hHeld ?_
  (try simp only [Act.put, xpA, xpZ, xpS])
  refine tk0 24 undef rfl (Or.inr ⟨by kernel_rfl, rfl⟩) hHeld ?_
  (try simp only [Act.put, xpA, xpZ, xpS])
  refine tk0 25 undef rfl (Or.inr ⟨by kernel_rfl, rfl⟩) hHeld ?_
  (try simp only [Act.put, xpA, xpZ, xpS])
  refine tk0 26 undef rfl (Or.inr ⟨by kernel_rfl, rfl⟩) hHeld ?_
  (try simp only [Act.put, xpA, xpZ, xpS])
  refine tk0 27 undef rfl (Or.inr ⟨by kernel_rfl, rfl⟩) hHeld ?_
  (try simp only [Act.put, xpA, xpZ, xpS])
  refine tk0 28 undef rfl (Or.inr ⟨by kernel_rfl, rfl⟩) hHeld ?_
  (try simp only [Act.put, xpA, xpZ, xpS])
  refine tk1 29 rfl hHeld ?_
  refine tk1 30 rfl hHeld ?_
  refine tk0 31 undef rfl (Or.inr ⟨by kernel_rfl, rfl⟩) hHeld ?_
  (try simp only [Act.put, xpA, xpZ, xpS])
  refine tk0 32 undef rfl (Or.inr ⟨by kernel_rfl, rfl⟩) hHeld ?_
  (try simp only [Act.put, xpA, xpZ, xpS])
  refine tk0 33 undef rfl (Or.inr ⟨by kernel_rfl, rfl⟩) hHeld ?_
  (try simp only [Act.put, xpA, xpZ, xpS])
  refine tk0 34 undef rfl (Or.inr ⟨by kernel_rfl, rfl⟩) hHeld ?_
  (try simp only [Act.put, xpA, xpZ, xpS])
  refine tk1 35 rfl hHeld ?_
  refine tk1 36 rfl hHeld ?_
  refine tk0 37 undef rfl (Or.inr ⟨by kernel_rfl, rfl⟩) hHeld ?_
  (try simp only [Act.put, xpA, xpZ, xpS])
  refine tk0 38 undef rfl (Or.inr ⟨by kernel_rfl, rfl⟩) hHeld ?_
  (try simp only [Act.put, xpA, xpZ, xpS])
  refine tk0 39 undef rfl (Or.inr ⟨by kernel_rfl, rfl⟩) hHeld ?_
  (try simp only [Act.put, xpA, xpZ, xpS])
  refine tk0 40 undef rfl (Or.inr ⟨by kernel_rfl, rfl⟩) hHeld ?_
  (try simp only [Act.put, xpA, xpZ, xpS])
  refine tk0 41 undef rfl (Or.inr ⟨by kernel_rfl, rfl⟩) hHeld ?_
  (try simp only [Act.put, xpA, xpZ, xpS])
  refine tk1 42 rfl hHeld ?_
  refine wpAnyP_done (by kernel_rfl) ?_ _
  (try simp only [Act.put, List.getElem_toArray, List.getElem_cons_zero, List.getElem_cons_succ, xpA, xpZ, xpS])
  go_wp2
  go_ret
  exact SaysB.no hno.out hHeld.1.old
 | true =>
  rw [hq] at hw1
  have han : d.an = 1 ∨ d.an = 2 ∨ d.an = 3 ∨ d.an = 4 := by have := inB_iff.1 hq; omega
  have hw2 := fun W => in_any d.known 1 (2 ^ d.an - 1) W
  cases hk : inB d.known 1 (2 ^ d.an - 1) with
  | false =>
   rw [hk] at hw2
   have hno : Hdn (¬ d.Ok) := ⟨fun h => by have := h.known; rw [inB_yes (by omega) (by omega)] at hk; cases hk⟩
   clear hk
   go_enter Tryz.func20, Tryz.ntmps20
   go_wp2_with fail
   refine wp_region_late [] (fun w9 => PoD w d w9) (fun _ => True) (by kernel_rfl) ?_ (fun hHeld => ?_)
   ·exact ⟨hX.drew, trivial⟩
   have hH := hHeld.1
   clear hW
   generalize W0.drew = W1 at hHeld ⊢
   refine tk1 0 rfl hHeld ?_
   refine tk2 1 rfl (by intro w9 hSw; have hS := hSw; clear hSw; (have z := hS.at'.k0; clear hS; go_simp) <;> with_reducible rfl) hHeld ?_
   refine tk1 2 rfl hHeld ?_
   refine rd1 3 rfl (fun K hK => ?_)
   go_simp
   (go_at_call 65; with_reducible refine (hw1 _).mono ?_; rintro e w1 ⟨rfl, rfl⟩)
   refine hK.out _ _ ?_ (fun hHeld => ?_)
   ·exact ⟨hHeld.1, trivial⟩
   clear hK K hH
   have hH := hHeld.1
   (try simp only [Act.put, xpA, xpZ, xpS])
   refine tk1 4 rfl hHeld ?_
   refine tk1 5 rfl hHeld ?_
   refine tk3 6 rfl (by (intro w9 hSw; clear hSw; go_simp) <;> with_reducible rfl) hHeld ?_
   refine tk3 7 rfl (by intro w9 hSw; have hS := hSw; clear hSw; (have z := hS.at'.k1; clear hS; go_simp) <;> with_reducible rfl) hHeld ?_
   refine tk3 8 rfl (by (intro w9 hSw; clear hSw; go_simp) <;> with_reducible rfl) hHeld ?_
   refine tk3 9 rfl (by intro w9 hSw; have hS := hSw; clear hSw; (have z := hS.at'.k0; clear hS; go_simp) <;> with_reducible rfl) hHeld ?_
   refine tk3 10 rfl (by (intro w9 hSw; clear hSw; go_simp) <;> with_reducible rfl) hHeld ?_
   refine rd1 11 rfl (fun K hK => ?_)
   go_simp
   (go_at_call 66; with_reducible refine (power_any d.an (by omega) _).mono ?_; rintro e w1 ⟨rfl, rfl⟩)
   refine hK.out _ _ ?_ (fun hHeld => ?_)
   ·exact ⟨hHeld.1, trivial⟩
   clear hK K hH
   have hH := hHeld.1
   (try simp only [Act.put, xpA, xpZ, xpS])
   refine tk3 12 (v := .int .i64 (2 ^ d.an - 1)) rfl (by intro w9 hSw; have hS := hSw; clear hSw; clear hS; go_simp; rcases han with h | h | h | h <;> rw [h] <;> rfl) hHeld ?_
   refine rd1 13 rfl (fun K hK => ?_)
   go_simp
   (go_at_call 65; with_reducible refine (hw2 _).mono ?_; rintro e w1 ⟨rfl, rfl⟩)
   refine hK.out _ _ ?_ (fun hHeld => ?_)
   ·exact ⟨hHeld.1, trivial⟩
   clear hK K hH
   have hH := hHeld.1
   (try simp only [Act.put, xpA, xpZ, xpS])
   refine tk3 14 rfl (by (intro w9 hSw; clear hSw; go_simp) <;> with_reducible rfl) hHeld ?_
   refine tk1 15 rfl hHeld ?_
   refine tk1 16 rfl hHeld ?_
   refine tk0 17 undef rfl (Or.inr ⟨by kernel_rfl, rfl⟩) hHeld ?_
   (try simp only [Act.put, xpA, xpZ, xpS])
   refine tk0 18 undef rfl (Or.inr ⟨by kernel_rfl, rfl⟩) hHeld ?_
   (try simp only [Act.put, xpA, xpZ, xpS])
   refine tk0 19 undef rfl (Or.inr ⟨by kernel_rfl, rfl⟩) hHeld ?_
   (try simp only [Act.put, xpA, xpZ, xpS])
   refine tk0 20 undef rfl (Or.inr ⟨by kernel_rfl, rfl⟩) hHeld ?_
   (try simp only [Act.put, xpA, xpZ, xpS])
   refine tk1 21 rfl hHeld ?_
   refine tk1 22 rfl hHeld ?_
   refine tk0 23 undef rfl (Or.inr ⟨by kernel_rfl, rfl⟩) hHeld ?_
   (try simp only [Act.put, xpA, xpZ, xpS])
   refine tk0 24 undef rfl (Or.inr ⟨by kernel_rfl, rfl⟩) hHeld ?_
   (try simp only [Act.put, xpA, xpZ, xpS])
   refine tk0 25 undef rfl (Or.inr ⟨by kernel_rfl, rfl⟩) hHeld ?_
   (try simp only [Act.put, xpA, xpZ, xpS])
   refine tk0 26 undef rfl (Or.inr ⟨by kernel_rfl, rfl⟩) hHeld ?_
   (try simp only [Act.put, xpA, xpZ, xpS])
   refine tk0 27 undef rfl (Or.inr ⟨by kernel_rfl, rfl⟩) hHeld ?_
   (try simp only [Act.put, xpA, xpZ, xpS])
   refine tk0 28 undef rfl (Or.inr ⟨by kernel_rfl, rfl⟩) hHeld ?_
   (try simp only [Act.put, xpA, xpZ, xpS])
   refine tk1 29 rfl hHeld ?_
   refine tk1 30 rfl hHeld ?_
   refine tk0 31 undef rfl (Or.inr ⟨by kernel_rfl, rfl⟩) hHeld ?_
   (try simp only [Act.put, xpA, xpZ, xpS])
   refine tk0 32 undef rfl (Or.inr ⟨by kernel_rfl, rfl⟩) hHeld ?_
   (try simp only [Act.put, xpA, xpZ, xpS])
   refine tk0 33 undef rfl (Or.inr ⟨by kernel_rfl, rfl⟩) hHeld ?_
   (try simp only [Act.put, xpA, xpZ, xpS])
   refine tk0 34 undef rfl (Or.inr ⟨by kernel_rfl, rfl⟩) hHeld ?_
   (try simp only [Act.put, xpA, xpZ, xpS])
   refine tk1 35 rfl hHeld ?_
   refine tk1 36 rfl hHeld ?_
   refine tk0 37 undef rfl (Or.inr ⟨by kernel_rfl, rfl⟩) hHeld ?_
   (try simp only [Act.put, xpA, xpZ, xpS])
   refine tk0 38 undef rfl (Or.inr ⟨by kernel_rfl, rfl⟩) hHeld ?_
   (try simp only [Act.put, xpA, xpZ, xpS])
   refine tk0 39 undef rfl (Or.inr ⟨by kernel_rfl, rfl⟩) hHeld ?_
   (try simp only [Act.put, xpA, xpZ, xpS])
   refine tk0 40 undef rfl (Or.inr ⟨by kernel_rfl, rfl⟩) hHeld ?_
   (try simp only [Act.put, xpA, xpZ, xpS])
   refine tk0 41 undef rfl (Or.inr ⟨by kernel_rfl, rfl⟩) hHeld ?_
   (try simp only [Act.put, xpA, xpZ, xpS])
   refine tk1 42 rfl hHeld ?_
   refine wpAnyP_done (by kernel_rfl) ?_ _
   (try simp only [Act.put, List.getElem_toArray, List.getElem_cons_zero, List.getElem_cons_succ, xpA, xpZ, xpS])
   go_wp2
   go_ret
   exact SaysB.no hno.out hHeld.1.old
  | true =>
   rw [hk] at hw2
   have hkn := inB_iff.1 hk
   clear hk hq
   have hw3 := fun W => in_any d.hours 1 12 W
   cases hh : inB d.hours 1 12 with
   | false =>
    rw [hh] at hw3
    have hno : Hdn (¬ d.Ok) := ⟨fun h => by have := h.hours; rw [inB_yes (by omega) (by omega)] at hh; cases hh⟩
    clear hh
    go_enter Tryz.func20, Tryz.ntmps20
    go_wp2_with fail
    refine wp_region_late [] (fun w9 => PoD w d w9) (fun _ => True) (by kernel_rfl) ?_ (fun hHeld => ?_)
    ·exact ⟨hX.drew, trivial⟩
    have hH := hHeld.1
    clear hW
    generalize W0.drew = W1 at hHeld ⊢
    refine tk1 0 rfl hHeld ?_
    refine tk2 1 rfl (by intro w9 hSw; have hS := hSw; clear hSw; (have z := hS.at'.k0; clear hS; go_simp) <;> with_reducible rfl) hHeld ?_
    refine tk1 2 rfl hHeld ?_
    refine rd1 3 rfl (fun K hK => ?_)
    go_simp
    (go_at_call 65; with_reducible refine (hw1 _).mono ?_; rintro e w1 ⟨rfl, rfl⟩)
    refine hK.out _ _ ?_ (fun hHeld => ?_)
    ·exact ⟨hHeld.1, trivial⟩
    clear hK K hH
    have hH := hHeld.1
    (try simp only [Act.put, xpA, xpZ, xpS])
    refine tk1 4 rfl hHeld ?_
    refine tk1 5 rfl hHeld ?_
    refine tk3 6 rfl (by (intro w9 hSw; clear hSw; go_simp) <;> with_reducible rfl) hHeld ?_
    refine tk3 7 rfl (by intro w9 hSw; have hS := hSw; clear hSw; (have z := hS.at'.k1; clear hS; go_simp) <;> with_reducible rfl) hHeld ?_
    refine tk3 8 rfl (by (intro w9 hSw; clear hSw; go_simp) <;> with_reducible rfl) hHeld ?_
    refine tk3 9 rfl (by intro w9 hSw; have hS := hSw; clear hSw; (have z := hS.at'.k0; clear hS; go_simp) <;> with_reducible rfl) hHeld ?_
    refine tk3 10 rfl (by (intro w9 hSw; clear hSw; go_simp) <;> with_reducible rfl) hHeld ?_
    refine rd1 11 rfl (fun K hK => ?_)
    go_simp
    (go_at_call 66; with_reducible refine (power_any d.an (by omega) _).mono ?_; rintro e w1 ⟨rfl, rfl⟩)
    refine hK.out _ _ ?_ (fun hHeld => ?_)
    ·exact ⟨hHeld.1, trivial⟩
    clear hK K hH
    have hH := hHeld.1
    (try simp only [Act.put, xpA, xpZ, xpS])
    refine tk3 12 (v := .int .i64 (2 ^ d.an - 1)) rfl (by intro w9 hSw; have hS := hSw; clear hSw; clear hS; go_simp; rcases han with h | h | h | h <;> rw [h] <;> rfl) hHeld ?_
    refine rd1 13 rfl (fun K hK => ?_)
    go_simp
    (go_at_call 65; with_reducible refine (hw2 _).mono ?_; rintro e w1 ⟨rfl, rfl⟩)
    refine hK.out _ _ ?_ (fun hHeld => ?_)
    ·exact ⟨hHeld.1, trivial⟩
    clear hK K hH
    have hH := hHeld.1
    (try simp only [Act.put, xpA, xpZ, xpS])
    refine tk3 14 rfl (by (intro w9 hSw; clear hSw; go_simp) <;> with_reducible rfl) hHeld ?_
    refine tk1 15 rfl hHeld ?_
    refine tk1 16 rfl hHeld ?_
    refine tk3 17 rfl (by (intro w9 hSw; clear hSw; go_simp) <;> with_reducible rfl) hHeld ?_
    refine tk3 18 rfl (by intro w9 hSw; have hS := hSw; clear hSw; (have z := hS.at'.k2; clear hS; go_simp) <;> with_reducible rfl) hHeld ?_
    refine rd1 19 rfl (fun K hK => ?_)
    go_simp
    (go_at_call 65; with_reducible refine (hw3 _).mono ?_; rintro e w1 ⟨rfl, rfl⟩)
    refine hK.out _ _ ?_ (fun hHeld => ?_)
    ·exact ⟨hHeld.1, trivial⟩
    clear hK K hH
    have hH := hHeld.1
    (try simp only [Act.put, xpA, xpZ, xpS])
    refine tk3 20 rfl (by (intro w9 hSw; clear hSw; go_simp) <;> with_reducible rfl) hHeld ?_
    refine tk1 21 rfl hHeld ?_
    refine tk1 22 rfl hHeld ?_
    refine tk0 23 undef rfl (Or.inr ⟨by kernel_rfl, rfl⟩) hHeld ?_
    (try simp only [Act.put, xpA, xpZ, xpS])
    refine tk0 24 undef rfl (Or.inr ⟨by kernel_rfl, rfl⟩) hHeld ?_
    (try simp only [Act.put, xpA, xpZ, xpS])
    refine tk0 25 undef rfl (Or.inr ⟨by kernel_rfl, rfl⟩) hHeld ?_
    (try simp only [Act.put, xpA, xpZ, xpS])
    refine tk0 26 undef rfl (Or.inr ⟨by kernel_rfl, rfl⟩) hHeld ?_
    (try simp only [Act.put, xpA, xpZ, xpS])
    refine tk0 27 undef rfl (Or.inr ⟨by kernel_rfl, rfl⟩) hHeld ?_
    (try simp only [Act.put, xpA, xpZ, xpS])
    refine tk0 28 undef rfl (Or.inr ⟨by kernel_rfl, rfl⟩) hHeld ?_
    (try simp only [Act.put, xpA, xpZ, xpS])
    refine tk1 29 rfl hHeld ?_
    refine tk1 30 rfl hHeld ?_
    refine tk0 31 undef rfl (Or.inr ⟨by kernel_rfl, rfl⟩) hHeld ?_
    (try simp only [Act.put, xpA, xpZ, xpS])
    refine tk0 32 undef rfl (Or.inr ⟨by kernel_rfl, rfl⟩) hHeld ?_
    (try simp only [Act.put, xpA, xpZ, xpS])
    refine tk0 33 undef rfl (Or.inr ⟨by kernel_rfl, rfl⟩) hHeld ?_
    (try simp only [Act.put, xpA, xpZ, xpS])
    refine tk0 34 undef rfl (Or.inr ⟨by kernel_rfl, rfl⟩) hHeld ?_
    (try simp only [Act.put, xpA, xpZ, xpS])
    refine tk1 35 rfl hHeld ?_
    refine tk1 36 rfl hHeld ?_
    refine tk0 37 undef rfl (Or.inr ⟨by kernel_rfl, rfl⟩) hHeld ?_
    (try simp only [Act.put, xpA, xpZ, xpS])
    refine tk0 38 undef rfl (Or.inr ⟨by kernel_rfl, rfl⟩) hHeld ?_
    (try simp only [Act.put, xpA, xpZ, xpS])
    refine tk0 39 undef rfl (Or.inr ⟨by kernel_rfl, rfl⟩) hHeld ?_
    (try simp only [Act.put, xpA, xpZ, xpS])
    refine tk0 40 undef rfl (Or.inr ⟨by kernel_rfl, rfl⟩) hHeld ?_
    (try simp only [Act.put, xpA, xpZ, xpS])
    refine tk0 41 undef rfl (Or.inr ⟨by kernel_rfl, rfl⟩) hHeld ?_
    (try simp only [Act.put, xpA, xpZ, xpS])
    refine tk1 42 rfl hHeld ?_
    refine wpAnyP_done (by kernel_rfl) ?_ _
    (try simp only [Act.put, List.getElem_toArray, List.getElem_cons_zero, List.getElem_cons_succ, xpA, xpZ, xpS])
    go_wp2
    go_ret
    exact SaysB.no hno.out hHeld.1.old
   | true =>
    rw [hh] at hw3
    have hhr : Hdn _ := ⟨inB_iff.1 hh⟩
    clear hh
    by_cases hdn : (d.dn : Int) = d.hours
    ·have hnq' : Hdn ((d.dn : Int) = d.hours) := ⟨hdn⟩
     clear hdn
     by_cases hs : (d.sn : Int) ≤ 6
     ·have hgt : Hdn (¬ (6 : Int) < d.sn) := ⟨by omega⟩
      have hgt' : Hdn ((d.sn : Int) ≤ 6) := ⟨hs⟩
      clear hs
      have hw4 := fun W => in_any (d.bn : Int) 1 5 W
      cases hb : inB (d.bn : Int) 1 5 with
      | false =>
       rw [hb] at hw4
       have hno : Hdn (¬ d.Ok) := ⟨fun h => by have := h.batches; rw [inB_yes (by omega) (by omega)] at hb; cases hb⟩
       clear hb
       go_enter Tryz.func20, Tryz.ntmps20
       go_wp2_with fail
       refine wp_region_late [] (fun w9 => PoD w d w9) (fun _ => True) (by kernel_rfl) ?_ (fun hHeld => ?_)
       ·exact ⟨hX.drew, trivial⟩
       have hH := hHeld.1
       clear hW
       generalize W0.drew = W1 at hHeld ⊢
       refine tk1 0 rfl hHeld ?_
       refine tk2 1 rfl (by intro w9 hSw; have hS := hSw; clear hSw; (have z := hS.at'.k0; clear hS; go_simp) <;> with_reducible rfl) hHeld ?_
       refine tk1 2 rfl hHeld ?_
       refine rd1 3 rfl (fun K hK => ?_)
       go_simp
       (go_at_call 65; with_reducible refine (hw1 _).mono ?_; rintro e w1 ⟨rfl, rfl⟩)
       refine hK.out _ _ ?_ (fun hHeld => ?_)
       ·exact ⟨hHeld.1, trivial⟩
       clear hK K hH
       have hH := hHeld.1
       (try simp only [Act.put, xpA, xpZ, xpS])
       refine tk1 4 rfl hHeld ?_
       refine tk1 5 rfl hHeld ?_
       refine tk3 6 rfl (by (intro w9 hSw; clear hSw; go_simp) <;> with_reducible rfl) hHeld ?_
       refine tk3 7 rfl (by intro w9 hSw; have hS := hSw; clear hSw; (have z := hS.at'.k1; clear hS; go_simp) <;> with_reducible rfl) hHeld ?_
       refine tk3 8 rfl (by (intro w9 hSw; clear hSw; go_simp) <;> with_reducible rfl) hHeld ?_
       refine tk3 9 rfl (by intro w9 hSw; have hS := hSw; clear hSw; (have z := hS.at'.k0; clear hS; go_simp) <;> with_reducible rfl) hHeld ?_
       refine tk3 10 rfl (by (intro w9 hSw; clear hSw; go_simp) <;> with_reducible rfl) hHeld ?_
       refine rd1 11 rfl (fun K hK => ?_)
       go_simp
       (go_at_call 66; with_reducible refine (power_any d.an (by omega) _).mono ?_; rintro e w1 ⟨rfl, rfl⟩)
       refine hK.out _ _ ?_ (fun hHeld => ?_)
       ·exact ⟨hHeld.1, trivial⟩
       clear hK K hH
       have hH := hHeld.1
       (try simp only [Act.put, xpA, xpZ, xpS])
       refine tk3 12 (v := .int .i64 (2 ^ d.an - 1)) rfl (by intro w9 hSw; have hS := hSw; clear hSw; clear hS; go_simp; rcases han with h | h | h | h <;> rw [h] <;> rfl) hHeld ?_
       refine rd1 13 rfl (fun K hK => ?_)
       go_simp
       (go_at_call 65; with_reducible refine (hw2 _).mono ?_; rintro e w1 ⟨rfl, rfl⟩)
       refine hK.out _ _ ?_ (fun hHeld => ?_)
       ·exact ⟨hHeld.1, trivial⟩
       clear hK K hH
       have hH := hHeld.1
       (try simp only [Act.put, xpA, xpZ, xpS])
       refine tk3 14 rfl (by (intro w9 hSw; clear hSw; go_simp) <;> with_reducible rfl) hHeld ?_
       refine tk1 15 rfl hHeld ?_
       refine tk1 16 rfl hHeld ?_
       refine tk3 17 rfl (by (intro w9 hSw; clear hSw; go_simp) <;> with_reducible rfl) hHeld ?_
       refine tk3 18 rfl (by intro w9 hSw; have hS := hSw; clear hSw; (have z := hS.at'.k2; clear hS; go_simp) <;> with_reducible rfl) hHeld ?_
       refine rd1 19 rfl (fun K hK => ?_)
       go_simp
       (go_at_call 65; with_reducible refine (hw3 _).mono ?_; rintro e w1 ⟨rfl, rfl⟩)
       refine hK.out _ _ ?_ (fun hHeld => ?_)
       ·exact ⟨hHeld.1, trivial⟩
       clear hK K hH
       have hH := hHeld.1
       (try simp only [Act.put, xpA, xpZ, xpS])
       refine tk3 20 rfl (by (intro w9 hSw; clear hSw; go_simp) <;> with_reducible rfl) hHeld ?_
       refine tk1 21 rfl hHeld ?_
       refine tk1 22 rfl hHeld ?_
       refine tk3 23 rfl (by (intro w9 hSw; clear hSw; go_simp) <;> with_reducible rfl) hHeld ?_
       refine tk3 24 rfl (by intro w9 hSw; have hS := hSw; clear hSw; (have z := hS.at'.k3; clear hS; go_simp) <;> with_reducible rfl) hHeld ?_
       refine tk3 25 rfl (by (intro w9 hSw; clear hSw; go_simp) <;> with_reducible rfl) hHeld ?_
       refine tk3 26 rfl (by (intro w9 hSw; clear hSw; go_simp) <;> with_reducible rfl) hHeld ?_
       refine tk3 27 rfl (by intro w9 hSw; have hS := hSw; clear hSw; (have z := hS.at'.k2; clear hS; go_simp) <;> with_reducible rfl) hHeld ?_
       refine tk3 28 (v := .bool false) rfl (by intro w9 hSw; have hS := hSw; clear hSw; have hq := hnq'.out; clear hS; (go_simp) <;> first | with_reducible rfl | exact hq) hHeld ?_
       refine tk1 29 rfl hHeld ?_
       refine tk1 30 rfl hHeld ?_
       refine tk3 31 rfl (by (intro w9 hSw; clear hSw; go_simp) <;> with_reducible rfl) hHeld ?_
       refine tk3 32 rfl (by intro w9 hSw; have hS := hSw; clear hSw; (have z := hS.at'.k4; clear hS; go_simp) <;> with_reducible rfl) hHeld ?_
       refine tk3 33 rfl (by (intro w9 hSw; clear hSw; go_simp) <;> with_reducible rfl) hHeld ?_
       refine tk3 34 (v := .bool false) rfl (by intro w9 hSw; have hS := hSw; clear hSw; have hq := hgt.out; clear hS; (go_simp) <;> first | with_reducible rfl | exact hq) hHeld ?_
       refine tk1 35 rfl hHeld ?_
       refine tk1 36 rfl hHeld ?_
       refine tk3 37 rfl (by (intro w9 hSw; clear hSw; go_simp) <;> with_reducible rfl) hHeld ?_
       refine tk3 38 rfl (by intro w9 hSw; have hS := hSw; clear hSw; (have z := hS.at'.k5; clear hS; go_simp) <;> with_reducible rfl) hHeld ?_
       refine tk3 39 rfl (by (intro w9 hSw; clear hSw; go_simp) <;> with_reducible rfl) hHeld ?_
       refine rd1 40 rfl (fun K hK => ?_)
       go_simp
       (go_at_call 65; with_reducible refine (hw4 _).mono ?_; rintro e w1 ⟨rfl, rfl⟩)
       refine hK.out _ _ ?_ (fun hHeld => ?_)
       ·exact ⟨hHeld.1, trivial⟩
       clear hK K hH
       have hH := hHeld.1
       (try simp only [Act.put, xpA, xpZ, xpS])
       refine tk3 41 rfl (by (intro w9 hSw; clear hSw; go_simp) <;> with_reducible rfl) hHeld ?_
       refine tk1 42 rfl hHeld ?_
       refine wpAnyP_done (by kernel_rfl) ?_ _
       (try simp only [Act.put, List.getElem_toArray, List.getElem_cons_zero, List.getElem_cons_succ, xpA, xpZ, xpS])
       go_wp2
       go_ret
       exact SaysB.no hno.out hHeld.1.old
      | true =>
       rw [hb] at hw4
       go_enter Tryz.func20, Tryz.ntmps20
       go_wp2_with fail
       refine wp_region_late [] (fun w9 => PoD w d w9) (fun _ => True) (by kernel_rfl) ?_ (fun hHeld => ?_)
       ·exact ⟨hX.drew, trivial⟩
       have hH := hHeld.1
       clear hW
       generalize W0.drew = W1 at hHeld ⊢
       refine tk1 0 rfl hHeld ?_
       refine tk2 1 rfl (by intro w9 hSw; have hS := hSw; clear hSw; (have z := hS.at'.k0; clear hS; go_simp) <;> with_reducible rfl) hHeld ?_
       refine tk1 2 rfl hHeld ?_
       refine rd1 3 rfl (fun K hK => ?_)
       go_simp
       (go_at_call 65; with_reducible refine (hw1 _).mono ?_; rintro e w1 ⟨rfl, rfl⟩)
       refine hK.out _ _ ?_ (fun hHeld => ?_)
       ·exact ⟨hHeld.1, trivial⟩
       clear hK K hH
       have hH := hHeld.1
       (try simp only [Act.put, xpA, xpZ, xpS])
       refine tk1 4 rfl hHeld ?_
       refine tk1 5 rfl hHeld ?_
       refine tk3 6 rfl (by (intro w9 hSw; clear hSw; go_simp) <;> with_reducible rfl) hHeld ?_
       refine tk3 7 rfl (by intro w9 hSw; have hS := hSw; clear hSw; (have z := hS.at'.k1; clear hS; go_simp) <;> with_reducible rfl) hHeld ?_
       refine tk3 8 rfl (by (intro w9 hSw; clear hSw; go_simp) <;> with_reducible rfl) hHeld ?_
       refine tk3 9 rfl (by intro w9 hSw; have hS := hSw; clear hSw; (have z := hS.at'.k0; clear hS; go_simp) <;> with_reducible rfl) hHeld ?_
       refine tk3 10 rfl (by (intro w9 hSw; clear hSw; go_simp) <;> with_reducible rfl) hHeld ?_
       refine rd1 11 rfl (fun K hK => ?_)
       go_simp
       (go_at_call 66; with_reducible refine (power_any d.an (by omega) _).mono ?_; rintro e w1 ⟨rfl, rfl⟩)
       refine hK.out _ _ ?_ (fun hHeld => ?_)
       ·exact ⟨hHeld.1, trivial⟩
       clear hK K hH
       have hH := hHeld.1
       (try simp only [Act.put, xpA, xpZ, xpS])
       refine tk3 12 (v := .int .i64 (2 ^ d.an - 1)) rfl (by intro w9 hSw; have hS := hSw; clear hSw; clear hS; go_simp; rcases han with h | h | h | h <;> rw [h] <;> rfl) hHeld ?_
       refine rd1 13 rfl (fun K hK => ?_)
       go_simp
       (go_at_call 65; with_reducible refine (hw2 _).mono ?_; rintro e w1 ⟨rfl, rfl⟩)
       refine hK.out _ _ ?_ (fun hHeld => ?_)
       ·exact ⟨hHeld.1, trivial⟩
       clear hK K hH
       have hH := hHeld.1
       (try simp only [Act.put, xpA, xpZ, xpS])
       refine tk3 14 rfl (by (intro w9 hSw; clear hSw; go_simp) <;> with_reducible rfl) hHeld ?_
       refine tk1 15 rfl hHeld ?_
       refine tk1 16 rfl hHeld ?_
       refine tk3 17 rfl (by (intro w9 hSw; clear hSw; go_simp) <;> with_reducible rfl) hHeld ?_
       refine tk3 18 rfl (by intro w9 hSw; have hS := hSw; clear hSw; (have z := hS.at'.k2; clear hS; go_simp) <;> with_reducible rfl) hHeld ?_
       refine rd1 19 rfl (fun K hK => ?_)
       go_simp
       (go_at_call 65; with_reducible refine (hw3 _).mono ?_; rintro e w1 ⟨rfl, rfl⟩)
       refine hK.out _ _ ?_ (fun hHeld => ?_)
       ·exact ⟨hHeld.1, trivial⟩
       clear hK K hH
       have hH := hHeld.1
       (try simp only [Act.put, xpA, xpZ, xpS])
       refine tk3 20 rfl (by (intro w9 hSw; clear hSw; go_simp) <;> with_reducible rfl) hHeld ?_
       refine tk1 21 rfl hHeld ?_
       refine tk1 22 rfl hHeld ?_
       refine tk3 23 rfl (by (intro w9 hSw; clear hSw; go_simp) <;> with_reducible rfl) hHeld ?_
       refine tk3 24 rfl (by intro w9 hSw; have hS := hSw; clear hSw; (have z := hS.at'.k3; clear hS; go_simp) <;> with_reducible rfl) hHeld ?_
       refine tk3 25 rfl (by (intro w9 hSw; clear hSw; go_simp) <;> with_reducible rfl) hHeld ?_
       refine tk3 26 rfl (by (intro w9 hSw; clear hSw; go_simp) <;> with_reducible rfl) hHeld ?_
       refine tk3 27 rfl (by intro w9 hSw; have hS := hSw; clear hSw; (have z := hS.at'.k2; clear hS; go_simp) <;> with_reducible rfl) hHeld ?_
       refine tk3 28 (v := .bool false) rfl (by intro w9 hSw; have hS := hSw; clear hSw; have hq := hnq'.out; clear hS; (go_simp) <;> first | with_reducible rfl | exact hq) hHeld ?_
       refine tk1 29 rfl hHeld ?_
       refine tk1 30 rfl hHeld ?_
       refine tk3 31 rfl (by (intro w9 hSw; clear hSw; go_simp) <;> with_reducible rfl) hHeld ?_
       refine tk3 32 rfl (by intro w9 hSw; have hS := hSw; clear hSw; (have z := hS.at'.k4; clear hS; go_simp) <;> with_reducible rfl) hHeld ?_
       refine tk3 33 rfl (by (intro w9 hSw; clear hSw; go_simp) <;> with_reducible rfl) hHeld ?_
       refine tk3 34 (v := .bool false) rfl (by intro w9 hSw; have hS := hSw; clear hSw; have hq := hgt.out; clear hS; (go_simp) <;> first | with_reducible rfl | exact hq) hHeld ?_
       refine tk1 35 rfl hHeld ?_
       refine tk1 36 rfl hHeld ?_
       refine tk3 37 rfl (by (intro w9 hSw; clear hSw; go_simp) <;> with_reducible rfl) hHeld ?_
       refine tk3 38 rfl (by intro w9 hSw; have hS := hSw; clear hSw; (have z := hS.at'.k5; clear hS; go_simp) <;> with_reducible rfl) hHeld ?_
       refine tk3 39 rfl (by (intro w9 hSw; clear hSw; go_simp) <;> with_reducible rfl) hHeld ?_
       refine rd1 40 rfl (fun K hK => ?_)
       go_simp
       (go_at_call 65; with_reducible refine (hw4 _).mono ?_; rintro e w1 ⟨rfl, rfl⟩)
       refine hK.out _ _ ?_ (fun hHeld => ?_)
       ·exact ⟨hHeld.1, trivial⟩
       clear hK K hH
       have hH := hHeld.1
       (try simp only [Act.put, xpA, xpZ, xpS])
       refine tk3 41 rfl (by (intro w9 hSw; clear hSw; go_simp) <;> with_reducible rfl) hHeld ?_
       refine tk1 42 rfl hHeld ?_
       refine wpAnyP_done (by kernel_rfl) ?_ _
       (try simp only [Act.put, List.getElem_toArray, List.getElem_cons_zero, List.getElem_cons_succ, xpA, xpZ, xpS])
       obtain ⟨hX1, _⟩ := hHeld
       obtain ⟨q0, q1, q2, q3, q4, q5⟩ := id hX1.at'
       clear hw1 hw2 hw3 hw4 hgt
       go_wp2_with fail
       go_loopw [3] (fun i wr => ∃ k : Nat, k ≤ d.an ∧ i = .int .i64 k ∧ PoD w d wr ∧ Hdn (∀ j, j < k → acB (d.A j) = true)) (fun i _ => d.an - (intOf i).toNat)
       case atStart => exact ⟨0, Nat.zero_le _, rfl, by assumption, ⟨fun _ h => absurd h (Nat.not_lt_zero _)⟩⟩
       case round =>
        obtain ⟨k, hkk, rfl, hXk, hallk⟩ := hrel
        have hzk : (0 : Int) ≤ (k : Int) := Int.natCast_nonneg _
        obtain ⟨q0, q1, q2, q3, q4, q5⟩ := id hXk.at'
        by_cases hltk : k < d.an
        ·have hyk : (k : Int) < (d.an : Int) := by omega
         obtain ⟨b, off, cap, e, hbl, hp⟩ := hd.acids.pos (by omega)
         obtain ⟨ea, ec⟩ : d.aa = some ⟨b, off, none⟩ ∧ d.ac = cap := by injection e with e1 e2 e3; exact ⟨e1, e3⟩
         clear e
         have hp' := hp.below hXk.old hbl
         have e0 := hp'.first hltk (by decide)
         have e1 := hp' k hltk 1 (by decide)
         have e2 := hp' k hltk 2 (by decide)
         have e3 := hp' k hltk 3 (by decide)
         clear hp' hp
         have hbk : b < wr.heap.size := Nat.lt_of_lt_of_le hbl hXk.old.size
         have hs1 := fun W => rspan_any (d.A k 0) (d.A k 1) 100 W
         have hs2 := fun W => rspan_any (d.A k 2) (d.A k 3) 20 W
         have hac : acB (d.A k) = (spB (d.A k 0) (d.A k 1) 100 && spB (d.A k 2) (d.A k 3) 20) := rfl
         generalize spB (d.A k 0) (d.A k 1) 100 = cu1 at hs1 hac
         generalize spB (d.A k 2) (d.A k 3) 20 = cu2 at hs2 hac
         cases cu1 with
         | false =>
          have hno : Hdn (¬ d.Ok) := ⟨fun h => by have := h.acid k hltk; rw [hac] at this; cases this⟩
          clear hac hs2
          go_wp2_with (go_at_call 67; (with_reducible refine (hs1 _).mono ?_); rintro e w1 ⟨rfl, hbw1⟩; replace e0 := (hbw1.cell (p := ⟨b, off + k * 4, none⟩) hbk).trans e0; replace e1 := (hbw1.cell (p := ⟨b, off + k * 4 + 1, none⟩) hbk).trans e1; replace e2 := (hbw1.cell (p := ⟨b, off + k * 4 + 2, none⟩) hbk).trans e2; replace e3 := (hbw1.cell (p := ⟨b, off + k * 4 + 3, none⟩) hbk).trans e3; replace hbk := Nat.lt_of_lt_of_le hbk hbw1.size; replace hXk := hXk.below hbw1; obtain ⟨q0, q1, q2, q3, q4, q5⟩ := id hXk.at')
          go_ret
          exact SaysB.no hno.out hXk.old
         | true =>
          cases cu2 with
          | false =>
           have hno : Hdn (¬ d.Ok) := ⟨fun h => by have := h.acid k hltk; rw [hac] at this; cases this⟩
           clear hac
           go_wp2_with (first
            | (go_at_call 67; (with_reducible refine (hs1 _).mono ?_); rintro e w1 ⟨rfl, hbw1⟩; replace e0 := (hbw1.cell (p := ⟨b, off + k * 4, none⟩) hbk).trans e0; replace e1 := (hbw1.cell (p := ⟨b, off + k * 4 + 1, none⟩) hbk).trans e1; replace e2 := (hbw1.cell (p := ⟨b, off + k * 4 + 2, none⟩) hbk).trans e2; replace e3 := (hbw1.cell (p := ⟨b, off + k * 4 + 3, none⟩) hbk).trans e3; replace hbk := Nat.lt_of_lt_of_le hbk hbw1.size; replace hXk := hXk.below hbw1; obtain ⟨q0, q1, q2, q3, q4, q5⟩ := id hXk.at')
            | (go_at_call 67; (with_reducible refine (hs2 _).mono ?_); rintro e w2 ⟨rfl, hbw2⟩; replace e0 := (hbw2.cell (p := ⟨b, off + k * 4, none⟩) hbk).trans e0; replace e1 := (hbw2.cell (p := ⟨b, off + k * 4 + 1, none⟩) hbk).trans e1; replace e2 := (hbw2.cell (p := ⟨b, off + k * 4 + 2, none⟩) hbk).trans e2; replace e3 := (hbw2.cell (p := ⟨b, off + k * 4 + 3, none⟩) hbk).trans e3; replace hbk := Nat.lt_of_lt_of_le hbk hbw2.size; replace hXk := hXk.below hbw2; obtain ⟨q0, q1, q2, q3, q4, q5⟩ := id hXk.at'))
           go_ret
           exact SaysB.no hno.out hXk.old
          | true =>
           have hyes : Hdn (acB (d.A k) = true) := ⟨by rw [hac]; rfl⟩
           clear hac
           go_wp2_with (first
            | (go_at_call 67; (with_reducible refine (hs1 _).mono ?_); rintro e w1 ⟨rfl, hbw1⟩; replace e0 := (hbw1.cell (p := ⟨b, off + k * 4, none⟩) hbk).trans e0; replace e1 := (hbw1.cell (p := ⟨b, off + k * 4 + 1, none⟩) hbk).trans e1; replace e2 := (hbw1.cell (p := ⟨b, off + k * 4 + 2, none⟩) hbk).trans e2; replace e3 := (hbw1.cell (p := ⟨b, off + k * 4 + 3, none⟩) hbk).trans e3; replace hbk := Nat.lt_of_lt_of_le hbk hbw1.size; replace hXk := hXk.below hbw1; obtain ⟨q0, q1, q2, q3, q4, q5⟩ := id hXk.at')
            | (go_at_call 67; (with_reducible refine (hs2 _).mono ?_); rintro e w2 ⟨rfl, hbw2⟩; replace e0 := (hbw2.cell (p := ⟨b, off + k * 4, none⟩) hbk).trans e0; replace e1 := (hbw2.cell (p := ⟨b, off + k * 4 + 1, none⟩) hbk).trans e1; replace e2 := (hbw2.cell (p := ⟨b, off + k * 4 + 2, none⟩) hbk).trans e2; replace e3 := (hbw2.cell (p := ⟨b, off + k * 4 + 3, none⟩) hbk).trans e3; replace hbk := Nat.lt_of_lt_of_le hbk hbw2.size; replace hXk := hXk.below hbw2; obtain ⟨q0, q1, q2, q3, q4, q5⟩ := id hXk.at'))
           refine ⟨?_, ?measure⟩
           (repeat apply Exists.intro)
           refine ⟨?rel, by rw [ea, ec]⟩
           case rel => exact ⟨k + 1, by omega, by go_num, hXk, ⟨all_succ (p := fun j => acB (d.A j) = true) hallk.out hyes.out⟩⟩
           case measure => simp [intOf]; omega
        ·have hDk : Hdn (∀ j, j < d.an → acB (d.A j) = true) := ⟨fun j hj => hallk.out j (by omega)⟩
         have hnk : ¬ (k : Int) < (d.an : Int) := by omega
         clear hallk
         go_wp2_with fail
         go_loopw [4] (fun i wr => ∃ k : Nat, k ≤ d.dn ∧ i = .int .i64 k ∧ PoD w d wr ∧ Hdn (∀ j, j < k → inB (d.D j 0) 0 100 = true)) (fun i _ => d.dn - (intOf i).toNat)
         case atStart => exact ⟨0, Nat.zero_le _, rfl, by assumption, ⟨fun _ h => absurd h (Nat.not_lt_zero _)⟩⟩
         case round =>
          obtain ⟨m, hkm, rfl, hXm, hallm⟩ := hrel
          have hzm : (0 : Int) ≤ (m : Int) := Int.natCast_nonneg _
          obtain ⟨q0, q1, q2, q3, q4, q5⟩ := id hXm.at'
          by_cases hltm : m < d.dn
          ·have hym : (m : Int) < (d.dn : Int) := by omega
           obtain ⟨b, off, cap, e, hbl, hp⟩ := hd.adds.pos (by omega)
           obtain ⟨ea, ec⟩ : d.da = some ⟨b, off, none⟩ ∧ d.dc = cap := by injection e with e1 e2 e3; exact ⟨e1, e3⟩
           clear e
           have e0 := (hp.below hXm.old hbl).one hltm
           clear hp
           have hi1 := fun W => in_any (d.D m 0) 0 100 W
           cases cu1 : inB (d.D m 0) 0 100 with
           | false =>
            rw [cu1] at hi1
            have hno : Hdn (¬ d.Ok) := ⟨fun h => by have := h.add m hltm; rw [cu1] at this; cases this⟩
            clear cu1
            go_wp2_with (go_at_call 65; (with_reducible refine (hi1 _).mono ?_); rintro e w1 ⟨rfl, rfl⟩)
            go_ret
            exact SaysB.no hno.out hXm.old
           | true =>
            rw [cu1] at hi1
            have hyes : Hdn _ := ⟨cu1⟩
            clear cu1
            go_wp2_with (go_at_call 65; (with_reducible refine (hi1 _).mono ?_); rintro e w1 ⟨rfl, rfl⟩)
            refine ⟨?_, ?measure⟩
            (repeat apply Exists.intro)
            refine ⟨?rel, by rw [ea, ec]⟩
            case rel => exact ⟨m + 1, by omega, by go_num, hXm, ⟨all_succ (p := fun j => inB (d.D j 0) 0 100 = true) hallm.out hyes.out⟩⟩
            case measure => simp [intOf]; omega
          ·have hDm : Hdn (∀ j, j < d.dn → inB (d.D j 0) 0 100 = true) := ⟨fun j hj => hallm.out j (by omega)⟩
           have hnm : ¬ (m : Int) < (d.dn : Int) := by omega
           clear hallm
           go_wp2_with fail
           go_loopw [5] (fun i wr => ∃ k : Nat, k ≤ d.sn ∧ i = .int .i64 k ∧ PoD w d wr ∧ Hdn (∀ j, j < k → stB d.hours (d.S j) = true)) (fun i _ => d.sn - (intOf i).toNat)
           case atStart => exact ⟨0, Nat.zero_le _, rfl, by assumption, ⟨fun _ h => absurd h (Nat.not_lt_zero _)⟩⟩
           case round =>
            obtain ⟨n, hkn, rfl, hXn, halln⟩ := hrel
            have hzn : (0 : Int) ≤ (n : Int) := Int.natCast_nonneg _
            obtain ⟨q0, q1, q2, q3, q4, q5⟩ := id hXn.at'
            by_cases hltn : n < d.sn
            ·have hyn : (n : Int) < (d.sn : Int) := by omega
             obtain ⟨b, off, cap, e, hbl, hp⟩ := hd.strips.pos (by omega)
             obtain ⟨ea, ec⟩ : d.sa = some ⟨b, off, none⟩ ∧ d.sc = cap := by injection e with e1 e2 e3; exact ⟨e1, e3⟩
             clear e
             have hp' := hp.below hXn.old hbl
             have e0 := hp'.first hltn (by decide)
             have e1 := hp' n hltn 1 (by decide)
             have e2 := hp' n hltn 2 (by decide)
             clear hp' hp
             obtain ⟨W2, hW2⟩ : ∃ W2, wr.alloc (Obj.cells #[.int .i64 (d.S n 0), .int .i64 (d.S n 1), .int .i64 (d.S n 2)] 60) = W2 := ⟨_, rfl⟩
             have hX2 : PoD w d W2 := by rw [← hW2]; exact hXn.alloc _
             have y0 : W2.cell? ⟨wr.heap.size, 0, none⟩ = some (.int .i64 (d.S n 0)) := by rw [← hW2]; exact cells_new wr _ _ rfl
             have y1 : W2.cell? ⟨wr.heap.size, 1, none⟩ = some (.int .i64 (d.S n 1)) := by rw [← hW2]; exact cells_new wr _ _ rfl
             have y2 : W2.cell? ⟨wr.heap.size, 2, none⟩ = some (.int .i64 (d.S n 2)) := by rw [← hW2]; exact cells_new wr _ _ rfl
             obtain ⟨q0, q1, q2, q3, q4, q5⟩ := id hX2.at'
             have hac : stB d.hours (d.S n) = (inB (d.S n 0) (0) (d.hours - 1) && (inB (d.S n 1) (0) (2000) && (inB (d.S n 2) (0) (50)))) := rfl
             have hi0 := fun W => in_any (d.S n 0) (0) (d.hours - 1) W
             have hi1 := fun W => in_any (d.S n 1) (0) (2000) W
             have hi2 := fun W => in_any (d.S n 2) (0) (50) W
             generalize inB (d.S n 0) (0) (d.hours - 1) = cu0 at hi0 hac
             generalize inB (d.S n 1) (0) (2000) = cu1 at hi1 hac
             generalize inB (d.S n 2) (0) (50) = cu2 at hi2 hac
             obtain ⟨hhr1, hhr2⟩ := hhr.out
             cases cu0 with
             | false =>
              have hno : Hdn (¬ d.Ok) := ⟨fun h => by have := h.strip n hltn; rw [hac] at this; simp at this⟩
              clear hac
              go_wp2_with (first | (go_at_call 65; (with_reducible refine (hi0 _).mono ?_); rintro e w1 ⟨rfl, rfl⟩))
              go_ret
              exact SaysB.no hno.out hX2.old
             | true =>
              cases cu1 with
              | false =>
               have hno : Hdn (¬ d.Ok) := ⟨fun h => by have := h.strip n hltn; rw [hac] at this; simp at this⟩
               clear hac
               go_wp2_with (first | (go_at_call 65; (with_reducible refine (hi0 _).mono ?_); rintro e w1 ⟨rfl, rfl⟩) | (go_at_call 65; (with_reducible refine (hi1 _).mono ?_); rintro e w1 ⟨rfl, rfl⟩))
               go_ret
               exact SaysB.no hno.out hX2.old
              | true =>
               cases cu2 with
               | false =>
                have hno : Hdn (¬ d.Ok) := ⟨fun h => by have := h.strip n hltn; rw [hac] at this; simp at this⟩
                clear hac
                go_wp2_with (first | (go_at_call 65; (with_reducible refine (hi0 _).mono ?_); rintro e w1 ⟨rfl, rfl⟩) | (go_at_call 65; (with_reducible refine (hi1 _).mono ?_); rintro e w1 ⟨rfl, rfl⟩) | (go_at_call 65; (with_reducible refine (hi2 _).mono ?_); rintro e w1 ⟨rfl, rfl⟩))
                go_ret
                exact SaysB.no hno.out hX2.old
               | true =>
                have hyes : Hdn (stB d.hours (d.S n) = true) := ⟨by rw [hac]; rfl⟩
                clear hac
                go_wp2_with (first | (go_at_call 65; (with_reducible refine (hi0 _).mono ?_); rintro e w1 ⟨rfl, rfl⟩) | (go_at_call 65; (with_reducible refine (hi1 _).mono ?_); rintro e w1 ⟨rfl, rfl⟩) | (go_at_call 65; (with_reducible refine (hi2 _).mono ?_); rintro e w1 ⟨rfl, rfl⟩))
                refine ⟨?_, ?measure⟩
                (repeat apply Exists.intro)
                refine ⟨?rel, by rw [ea, ec]⟩
                case rel => exact ⟨n + 1, by omega, by go_num, hX2, ⟨all_succ (p := fun j => stB d.hours (d.S j) = true) halln.out hyes.out⟩⟩
                case measure => simp [intOf]; omega
            ·have hDn : Hdn (∀ j, j < d.sn → stB d.hours (d.S j) = true) := ⟨fun j hj => halln.out j (by omega)⟩
             have hnn : ¬ (n : Int) < (d.sn : Int) := by omega
             clear halln
             go_wp2_with fail
             go_loopw [7] (fun i wr => ∃ k : Nat, k ≤ d.bn ∧ i = .int .i64 k ∧ PoD w d wr ∧ Hdn (∀ j, j < k → baB (d.B j) = true)) (fun i _ => d.bn - (intOf i).toNat)
             case atStart => exact ⟨0, Nat.zero_le _, rfl, by assumption, ⟨fun _ h => absurd h (Nat.not_lt_zero _)⟩⟩
             case round =>
              obtain ⟨o, hko, rfl, hXo, hallo⟩ := hrel
              have hzo : (0 : Int) ≤ (o : Int) := Int.natCast_nonneg _
              obtain ⟨q0, q1, q2, q3, q4, q5⟩ := id hXo.at'
              by_cases hlto : o < d.bn
              ·have hyo : (o : Int) < (d.bn : Int) := by omega
               obtain ⟨b, off, cap, e, hbl, hp⟩ := hd.batches.pos (by omega)
               obtain ⟨ea, ec⟩ : d.ba = some ⟨b, off, none⟩ ∧ d.bc = cap := by injection e with e1 e2 e3; exact ⟨e1, e3⟩
               clear e
               have hp' := hp.below hXo.old hbl
               have e0 := hp'.first hlto (by decide)
               have e1 := hp' o hlto 1 (by decide)
               have e2 := hp' o hlto 2 (by decide)
               have e3 := hp' o hlto 3 (by decide)
               have e4 := hp' o hlto 4 (by decide)
               have e5 := hp' o hlto 5 (by decide)
               clear hp' hp
               obtain ⟨W2, hW2⟩ : ∃ W2, wr.alloc (Obj.cells #[.int .i64 (d.B o 0), .int .i64 (d.B o 1), .int .i64 (d.B o 2), .int .i64 (d.B o 3), .int .i64 (d.B o 4), .int .i64 (d.B o 5)] 79) = W2 := ⟨_, rfl⟩
               have hX2 : PoD w d W2 := by rw [← hW2]; exact hXo.alloc _
               have y0 : W2.cell? ⟨wr.heap.size, 0, none⟩ = some (.int .i64 (d.B o 0)) := by rw [← hW2]; exact cells_new wr _ _ rfl
               have y1 : W2.cell? ⟨wr.heap.size, 1, none⟩ = some (.int .i64 (d.B o 1)) := by rw [← hW2]; exact cells_new wr _ _ rfl
               have y2 : W2.cell? ⟨wr.heap.size, 2, none⟩ = some (.int .i64 (d.B o 2)) := by rw [← hW2]; exact cells_new wr _ _ rfl
               have y3 : W2.cell? ⟨wr.heap.size, 3, none⟩ = some (.int .i64 (d.B o 3)) := by rw [← hW2]; exact cells_new wr _ _ rfl
               have y4 : W2.cell? ⟨wr.heap.size, 4, none⟩ = some (.int .i64 (d.B o 4)) := by rw [← hW2]; exact cells_new wr _ _ rfl
               have y5 : W2.cell? ⟨wr.heap.size, 5, none⟩ = some (.int .i64 (d.B o 5)) := by rw [← hW2]; exact cells_new wr _ _ rfl
               obtain ⟨q0, q1, q2, q3, q4, q5⟩ := id hX2.at'
               have hac : baB (d.B o) = (inB (d.B o 0) (0) (1000) && (inB (d.B o 1) (0) (1000) && (inB (d.B o 2) (0) (1000) && (inB (d.B o 3) (0) (1000) && (inB (d.B o 4) (0) (100) && (inB (d.B o 5) (0) (100))))))) := rfl
               have hi0 := fun W => in_any (d.B o 0) (0) (1000) W
               have hi1 := fun W => in_any (d.B o 1) (0) (1000) W
               have hi2 := fun W => in_any (d.B o 2) (0) (1000) W
               have hi3 := fun W => in_any (d.B o 3) (0) (1000) W
               have hi4 := fun W => in_any (d.B o 4) (0) (100) W
               have hi5 := fun W => in_any (d.B o 5) (0) (100) W
               generalize inB (d.B o 0) (0) (1000) = cu0 at hi0 hac
               generalize inB (d.B o 1) (0) (1000) = cu1 at hi1 hac
               generalize inB (d.B o 2) (0) (1000) = cu2 at hi2 hac
               generalize inB (d.B o 3) (0) (1000) = cu3 at hi3 hac
               generalize inB (d.B o 4) (0) (100) = cu4 at hi4 hac
               generalize inB (d.B o 5) (0) (100) = cu5 at hi5 hac
               cases cu0 with
               | false =>
                have hno : Hdn (¬ d.Ok) := ⟨fun h => by have := h.batch o hlto; rw [hac] at this; simp at this⟩
                clear hac
                go_wp2_with (first | (go_at_call 65; (with_reducible refine (hi0 _).mono ?_); rintro e w1 ⟨rfl, rfl⟩))
                go_ret
                exact SaysB.no hno.out hX2.old
               | true =>
                cases cu1 with
                | false =>
                 have hno : Hdn (¬ d.Ok) := ⟨fun h => by have := h.batch o hlto; rw [hac] at this; simp at this⟩
                 clear hac
                 go_wp2_with (first | (go_at_call 65; (with_reducible refine (hi0 _).mono ?_); rintro e w1 ⟨rfl, rfl⟩) | (go_at_call 65; (with_reducible refine (hi1 _).mono ?_); rintro e w1 ⟨rfl, rfl⟩))
                 go_ret
                 exact SaysB.no hno.out hX2.old
                | true =>
                 cases cu2 with
                 | false =>
                  have hno : Hdn (¬ d.Ok) := ⟨fun h => by have := h.batch o hlto; rw [hac] at this; simp at this⟩
                  clear hac
                  go_wp2_with (first | (go_at_call 65; (with_reducible refine (hi0 _).mono ?_); rintro e w1 ⟨rfl, rfl⟩) | (go_at_call 65; (with_reducible refine (hi1 _).mono ?_); rintro e w1 ⟨rfl, rfl⟩) | (go_at_call 65; (with_reducible refine (hi2 _).mono ?_); rintro e w1 ⟨rfl, rfl⟩))
                  go_ret
                  exact SaysB.no hno.out hX2.old
                 | true =>
                  cases cu3 with
                  | false =>
                   have hno : Hdn (¬ d.Ok) := ⟨fun h => by have := h.batch o hlto; rw [hac] at this; simp at this⟩
                   clear hac
                   go_wp2_with (first | (go_at_call 65; (with_reducible refine (hi0 _).mono ?_); rintro e w1 ⟨rfl, rfl⟩) | (go_at_call 65; (with_reducible refine (hi1 _).mono ?_); rintro e w1 ⟨rfl, rfl⟩) | (go_at_call 65; (with_reducible refine (hi2 _).mono ?_); rintro e w1 ⟨rfl, rfl⟩) | (go_at_call 65; (with_reducible refine (hi3 _).mono ?_); rintro e w1 ⟨rfl, rfl⟩))
                   go_ret
                   exact SaysB.no hno.out hX2.old
                  | true =>
                   cases cu4 with
                   | false =>
                    have hno : Hdn (¬ d.Ok) := ⟨fun h => by have := h.batch o hlto; rw [hac] at this; simp at this⟩
                    clear hac
                    go_wp2_with (first | (go_at_call 65; (with_reducible refine (hi0 _).mono ?_); rintro e w1 ⟨rfl, rfl⟩) | (go_at_call 65; (with_reducible refine (hi1 _).mono ?_); rintro e w1 ⟨rfl, rfl⟩) | (go_at_call 65; (with_reducible refine (hi2 _).mono ?_); rintro e w1 ⟨rfl, rfl⟩) | (go_at_call 65; (with_reducible refine (hi3 _).mono ?_); rintro e w1 ⟨rfl, rfl⟩) | (go_at_call 65; (with_reducible refine (hi4 _).mono ?_); rintro e w1 ⟨rfl, rfl⟩))
                    go_ret
                    exact SaysB.no hno.out hX2.old
                   | true =>
                    cases cu5 with
                    | false =>
                     have hno : Hdn (¬ d.Ok) := ⟨fun h => by have := h.batch o hlto; rw [hac] at this; simp at this⟩
                     clear hac
                     go_wp2_with (first | (go_at_call 65; (with_reducible refine (hi0 _).mono ?_); rintro e w1 ⟨rfl, rfl⟩) | (go_at_call 65; (with_reducible refine (hi1 _).mono ?_); rintro e w1 ⟨rfl, rfl⟩) | (go_at_call 65; (with_reducible refine (hi2 _).mono ?_); rintro e w1 ⟨rfl, rfl⟩) | (go_at_call 65; (with_reducible refine (hi3 _).mono ?_); rintro e w1 ⟨rfl, rfl⟩) | (go_at_call 65; (with_reducible refine (hi4 _).mono ?_); rintro e w1 ⟨rfl, rfl⟩) | (go_at_call 65; (with_reducible refine (hi5 _).mono ?_); rintro e w1 ⟨rfl, rfl⟩))
                     go_ret
                     exact SaysB.no hno.out hX2.old
                    | true =>
                     have hyes : Hdn (baB (d.B o) = true) := ⟨by rw [hac]; rfl⟩
                     clear hac
                     go_wp2_with (first | (go_at_call 65; (with_reducible refine (hi0 _).mono ?_); rintro e w1 ⟨rfl, rfl⟩) | (go_at_call 65; (with_reducible refine (hi1 _).mono ?_); rintro e w1 ⟨rfl, rfl⟩) | (go_at_call 65; (with_reducible refine (hi2 _).mono ?_); rintro e w1 ⟨rfl, rfl⟩) | (go_at_call 65; (with_reducible refine (hi3 _).mono ?_); rintro e w1 ⟨rfl, rfl⟩) | (go_at_call 65; (with_reducible refine (hi4 _).mono ?_); rintro e w1 ⟨rfl, rfl⟩) | (go_at_call 65; (with_reducible refine (hi5 _).mono ?_); rintro e w1 ⟨rfl, rfl⟩))
                     refine ⟨?_, ?measure⟩
                     (repeat apply Exists.intro)
                     refine ⟨?rel, by rw [ea, ec]⟩
                     case rel => exact ⟨o + 1, by omega, by go_num, hX2, ⟨all_succ (p := fun j => baB (d.B j) = true) hallo.out hyes.out⟩⟩
                     case measure => simp [intOf]; omega
              ·have hDo : Hdn (∀ j, j < d.bn → baB (d.B j) = true) := ⟨fun j hj => hallo.out j (by omega)⟩
               have hno : ¬ (o : Int) < (d.bn : Int) := by omega
               clear hallo
               go_wp2
               go_ret
               exact SaysB.yes ⟨by omega, by have := hkn; omega, hhr.out, hnq'.out, by have := hgt'.out; omega, by have := inB_iff.1 hb; omega, hDk.out, hDm.out, hDn.out, hDo.out⟩ hXo.old
     ·have hgt : Hdn ((6 : Int) < d.sn) := ⟨by omega⟩
      have hno : Hdn (¬ d.Ok) := ⟨fun h => by have := h.strips; omega⟩
      clear hs
      go_enter Tryz.func20, Tryz.ntmps20
      go_wp2_with fail
      refine wp_region_late [] (fun w9 => PoD w d w9) (fun _ => True) (by kernel_rfl) ?_ (fun hHeld => ?_)
      ·exact ⟨hX.drew, trivial⟩
      have hH := hHeld.1
      clear hW
      generalize W0.drew = W1 at hHeld ⊢
      refine tk1 0 rfl hHeld ?_
      refine tk2 1 rfl (by intro w9 hSw; have hS := hSw; clear hSw; (have z := hS.at'.k0; clear hS; go_simp) <;> with_reducible rfl) hHeld ?_
      refine tk1 2 rfl hHeld ?_
      refine rd1 3 rfl (fun K hK => ?_)
      go_simp
      (go_at_call 65; with_reducible refine (hw1 _).mono ?_; rintro e w1 ⟨rfl, rfl⟩)
      refine hK.out _ _ ?_ (fun hHeld => ?_)
      ·exact ⟨hHeld.1, trivial⟩
      clear hK K hH
      have hH := hHeld.1
      (try simp only [Act.put, xpA, xpZ, xpS])
      refine tk1 4 rfl hHeld ?_
      refine tk1 5 rfl hHeld ?_
      refine tk3 6 rfl (by (intro w9 hSw; clear hSw; go_simp) <;> with_reducible rfl) hHeld ?_
      refine tk3 7 rfl (by intro w9 hSw; have hS := hSw; clear hSw; (have z := hS.at'.k1; clear hS; go_simp) <;> with_reducible rfl) hHeld ?_
      refine tk3 8 rfl (by (intro w9 hSw; clear hSw; go_simp) <;> with_reducible rfl) hHeld ?_
      refine tk3 9 rfl (by intro w9 hSw; have hS := hSw; clear hSw; (have z := hS.at'.k0; clear hS; go_simp) <;> with_reducible rfl) hHeld ?_
      refine tk3 10 rfl (by (intro w9 hSw; clear hSw; go_simp) <;> with_reducible rfl) hHeld ?_
      refine rd1 11 rfl (fun K hK => ?_)
      go_simp
      (go_at_call 66; with_reducible refine (power_any d.an (by omega) _).mono ?_; rintro e w1 ⟨rfl, rfl⟩)
      refine hK.out _ _ ?_ (fun hHeld => ?_)
      ·exact ⟨hHeld.1, trivial⟩
      clear hK K hH
      have hH := hHeld.1
      (try simp only [Act.put, xpA, xpZ, xpS])
      refine tk3 12 (v := .int .i64 (2 ^ d.an - 1)) rfl (by intro w9 hSw; have hS := hSw; clear hSw; clear hS; go_simp; rcases han with h | h | h | h <;> rw [h] <;> rfl) hHeld ?_
      refine rd1 13 rfl (fun K hK => ?_)
      go_simp
      (go_at_call 65; with_reducible refine (hw2 _).mono ?_; rintro e w1 ⟨rfl, rfl⟩)
      refine hK.out _ _ ?_ (fun hHeld => ?_)
      ·exact ⟨hHeld.1, trivial⟩
      clear hK K hH
      have hH := hHeld.1
      (try simp only [Act.put, xpA, xpZ, xpS])
      refine tk3 14 rfl (by (intro w9 hSw; clear hSw; go_simp) <;> with_reducible rfl) hHeld ?_
      refine tk1 15 rfl hHeld ?_
      refine tk1 16 rfl hHeld ?_
      refine tk3 17 rfl (by (intro w9 hSw; clear hSw; go_simp) <;> with_reducible rfl) hHeld ?_
      refine tk3 18 rfl (by intro w9 hSw; have hS := hSw; clear hSw; (have z := hS.at'.k2; clear hS; go_simp) <;> with_reducible rfl) hHeld ?_
      refine rd1 19 rfl (fun K hK => ?_)
      go_simp
      (go_at_call 65; with_reducible refine (hw3 _).mono ?_; rintro e w1 ⟨rfl, rfl⟩)
      refine hK.out _ _ ?_ (fun hHeld => ?_)
      ·exact ⟨hHeld.1, trivial⟩
      clear hK K hH
      have hH := hHeld.1
      (try simp only [Act.put, xpA, xpZ, xpS])
      refine tk3 20 rfl (by (intro w9 hSw; clear hSw; go_simp) <;> with_reducible rfl) hHeld ?_
      refine tk1 21 rfl hHeld ?_
      refine tk1 22 rfl hHeld ?_
      refine tk3 23 rfl (by (intro w9 hSw; clear hSw; go_simp) <;> with_reducible rfl) hHeld ?_
      refine tk3 24 rfl (by intro w9 hSw; have hS := hSw; clear hSw; (have z := hS.at'.k3; clear hS; go_simp) <;> with_reducible rfl) hHeld ?_
      refine tk3 25 rfl (by (intro w9 hSw; clear hSw; go_simp) <;> with_reducible rfl) hHeld ?_
      refine tk3 26 rfl (by (intro w9 hSw; clear hSw; go_simp) <;> with_reducible rfl) hHeld ?_
      refine tk3 27 rfl (by intro w9 hSw; have hS := hSw; clear hSw; (have z := hS.at'.k2; clear hS; go_simp) <;> with_reducible rfl) hHeld ?_
      refine tk3 28 (v := .bool false) rfl (by intro w9 hSw; have hS := hSw; clear hSw; have hq := hnq'.out; clear hS; (go_simp) <;> first | with_reducible rfl | exact hq) hHeld ?_
      refine tk1 29 rfl hHeld ?_
      refine tk1 30 rfl hHeld ?_
      refine tk3 31 rfl (by (intro w9 hSw; clear hSw; go_simp) <;> with_reducible rfl) hHeld ?_
      refine tk3 32 rfl (by intro w9 hSw; have hS := hSw; clear hSw; (have z := hS.at'.k4; clear hS; go_simp) <;> with_reducible rfl) hHeld ?_
      refine tk3 33 rfl (by (intro w9 hSw; clear hSw; go_simp) <;> with_reducible rfl) hHeld ?_
      refine tk3 34 (v := .bool true) rfl (by intro w9 hSw; have hS := hSw; clear hSw; have hq := hgt.out; clear hS; (go_simp) <;> first | with_reducible rfl | exact hq) hHeld ?_
      refine tk1 35 rfl hHeld ?_
      refine tk1 36 rfl hHeld ?_
      refine tk0 37 undef rfl (Or.inr ⟨by kernel_rfl, rfl⟩) hHeld ?_
      (try simp only [Act.put, xpA, xpZ, xpS])
      refine tk0 38 undef rfl (Or.inr ⟨by kernel_rfl, rfl⟩) hHeld ?_
      (try simp only [Act.put, xpA, xpZ, xpS])
      refine tk0 39 undef rfl (Or.inr ⟨by kernel_rfl, rfl⟩) hHeld ?_
      (try simp only [Act.put, xpA, xpZ, xpS])
      refine tk0 40 undef rfl (Or.inr ⟨by kernel_rfl, rfl⟩) hHeld ?_
      (try simp only [Act.put, xpA, xpZ, xpS])
      refine tk0 41 undef rfl (Or.inr ⟨by kernel_rfl, rfl⟩) hHeld ?_
      (try simp only [Act.put, xpA, xpZ, xpS])
      refine tk1 42 rfl hHeld ?_
      refine wpAnyP_done (by kernel_rfl) ?_ _
      (try simp only [Act.put, List.getElem_toArray, List.getElem_cons_zero, List.getElem_cons_succ, xpA, xpZ, xpS])
      go_wp2
      go_ret
      exact SaysB.no hno.out hHeld.1.old
    ·have hnq' : Hdn (¬ (d.dn : Int) = d.hours) := ⟨hdn⟩
     have hno : Hdn (¬ d.Ok) := ⟨fun h => by exact hdn h.adds⟩
     clear hdn
     go_enter Tryz.func20, Tryz.ntmps20
     go_wp2_with fail
     refine wp_region_late [] (fun w9 => PoD w d w9) (fun _ => True) (by kernel_rfl) ?_ (fun hHeld => ?_)
     ·exact ⟨hX.drew, trivial⟩
     have hH := hHeld.1
     clear hW
     generalize W0.drew = W1 at hHeld ⊢
     refine tk1 0 rfl hHeld ?_
     refine tk2 1 rfl (by intro w9 hSw; have hS := hSw; clear hSw; (have z := hS.at'.k0; clear hS; go_simp) <;> with_reducible rfl) hHeld ?_
     refine tk1 2 rfl hHeld ?_
     refine rd1 3 rfl (fun K hK => ?_)
     go_simp
     (go_at_call 65; with_reducible refine (hw1 _).mono ?_; rintro e w1 ⟨rfl, rfl⟩)
     refine hK.out _ _ ?_ (fun hHeld => ?_)
     ·exact ⟨hHeld.1, trivial⟩
     clear hK K hH
     have hH := hHeld.1
     (try simp only [Act.put, xpA, xpZ, xpS])
     refine tk1 4 rfl hHeld ?_
     refine tk1 5 rfl hHeld ?_
     refine tk3 6 rfl (by (intro w9 hSw; clear hSw; go_simp) <;> with_reducible rfl) hHeld ?_
     refine tk3 7 rfl (by intro w9 hSw; have hS := hSw; clear hSw; (have z := hS.at'.k1; clear hS; go_simp) <;> with_reducible rfl) hHeld ?_
     refine tk3 8 rfl (by (intro w9 hSw; clear hSw; go_simp) <;> with_reducible rfl) hHeld ?_
     refine tk3 9 rfl (by intro w9 hSw; have hS := hSw; clear hSw; (have z := hS.at'.k0; clear hS; go_simp) <;> with_reducible rfl) hHeld ?_
     refine tk3 10 rfl (by (intro w9 hSw; clear hSw; go_simp) <;> with_reducible rfl) hHeld ?_
     refine rd1 11 rfl (fun K hK => ?_)
     go_simp
     (go_at_call 66; with_reducible refine (power_any d.an (by omega) _).mono ?_; rintro e w1 ⟨rfl, rfl⟩)
     refine hK.out _ _ ?_ (fun hHeld => ?_)
     ·exact ⟨hHeld.1, trivial⟩
     clear hK K hH
     have hH := hHeld.1
     (try simp only [Act.put, xpA, xpZ, xpS])
     refine tk3 12 (v := .int .i64 (2 ^ d.an - 1)) rfl (by intro w9 hSw; have hS := hSw; clear hSw; clear hS; go_simp; rcases han with h | h | h | h <;> rw [h] <;> rfl) hHeld ?_
     refine rd1 13 rfl (fun K hK => ?_)
     go_simp
     (go_at_call 65; with_reducible refine (hw2 _).mono ?_; rintro e w1 ⟨rfl, rfl⟩)
     refine hK.out _ _ ?_ (fun hHeld => ?_)
     ·exact ⟨hHeld.1, trivial⟩
     clear hK K hH
     have hH := hHeld.1
     (try simp only [Act.put, xpA, xpZ, xpS])
     refine tk3 14 rfl (by (intro w9 hSw; clear hSw; go_simp) <;> with_reducible rfl) hHeld ?_
     refine tk1 15 rfl hHeld ?_
     refine tk1 16 rfl hHeld ?_
     refine tk3 17 rfl (by (intro w9 hSw; clear hSw; go_simp) <;> with_reducible rfl) hHeld ?_
     refine tk3 18 rfl (by intro w9 hSw; have hS := hSw; clear hSw; (have z := hS.at'.k2; clear hS; go_simp) <;> with_reducible rfl) hHeld ?_
     refine rd1 19 rfl (fun K hK => ?_)
     go_simp
     (go_at_call 65; with_reducible refine (hw3 _).mono ?_; rintro e w1 ⟨rfl, rfl⟩)
     refine hK.out _ _ ?_ (fun hHeld => ?_)
     ·exact ⟨hHeld.1, trivial⟩
     clear hK K hH
     have hH := hHeld.1
     (try simp only [Act.put, xpA, xpZ, xpS])
     refine tk3 20 rfl (by (intro w9 hSw; clear hSw; go_simp) <;> with_reducible rfl) hHeld ?_
     refine tk1 21 rfl hHeld ?_
     refine tk1 22 rfl hHeld ?_
     refine tk3 23 rfl (by (intro w9 hSw; clear hSw; go_simp) <;> with_reducible rfl) hHeld ?_
     refine tk3 24 rfl (by intro w9 hSw; have hS := hSw; clear hSw; (have z := hS.at'.k3; clear hS; go_simp) <;> with_reducible rfl) hHeld ?_
     refine tk3 25 rfl (by (intro w9 hSw; clear hSw; go_simp) <;> with_reducible rfl) hHeld ?_
     refine tk3 26 rfl (by (intro w9 hSw; clear hSw; go_simp) <;> with_reducible rfl) hHeld ?_
     refine tk3 27 rfl (by intro w9 hSw; have hS := hSw; clear hSw; (have z := hS.at'.k2; clear hS; go_simp) <;> with_reducible rfl) hHeld ?_
     refine tk3 28 (v := .bool true) rfl (by intro w9 hSw; have hS := hSw; clear hSw; have hq := hnq'.out; clear hS; (go_simp) <;> first | with_reducible rfl | exact hq) hHeld ?_
     refine tk1 29 rfl hHeld ?_
     refine tk1 30 rfl hHeld ?_
     refine tk0 31 undef rfl (Or.inr ⟨by kernel_rfl, rfl⟩) hHeld ?_
     (try simp only [Act.put, xpA, xpZ, xpS])
     refine tk0 32 undef rfl (Or.inr ⟨by kernel_rfl, rfl⟩) hHeld ?_
     (try simp only [Act.put, xpA, xpZ, xpS])
     refine tk0 33 undef rfl (Or.inr ⟨by kernel_rfl, rfl⟩) hHeld ?_
     (try simp only [Act.put, xpA, xpZ, xpS])
     refine tk0 34 undef rfl (Or.inr ⟨by kernel_rfl, rfl⟩) hHeld ?_
     (try simp only [Act.put, xpA, xpZ, xpS])
     refine tk1 35 rfl hHeld ?_
     refine tk1 36 rfl hHeld ?_
     refine tk0 37 undef rfl (Or.inr ⟨by kernel_rfl, rfl⟩) hHeld ?_
     (try simp only [Act.put, xpA, xpZ, xpS])
     refine tk0 38 undef rfl (Or.inr ⟨by kernel_rfl, rfl⟩) hHeld ?_
     (try simp only [Act.put, xpA, xpZ, xpS])
     refine tk0 39 undef rfl (Or.inr ⟨by kernel_rfl, rfl⟩) hHeld ?_
     (try simp only [Act.put, xpA, xpZ, xpS])
     refine tk0 40 undef rfl (Or.inr ⟨by kernel_rfl, rfl⟩) hHeld ?_
     (try simp only [Act.put, xpA, xpZ, xpS])
     refine tk0 41 undef rfl (Or.inr ⟨by kernel_rfl, rfl⟩) hHeld ?_
     (try simp only [Act.put, xpA, xpZ, xpS])
     refine tk1 42 rfl hHeld ?_
     refine wpAnyP_done (by kernel_rfl) ?_ _
     (try simp only [Act.put, List.getElem_toArray, List.getElem_cons_zero, List.getElem_cons_succ, xpA, xpZ, xpS])
     go_wp2
     go_ret
     exact SaysB.no hno.out hHeld.1.old

end Go.Proofs.YtlhgkepdoinlnaaGreatDoor
