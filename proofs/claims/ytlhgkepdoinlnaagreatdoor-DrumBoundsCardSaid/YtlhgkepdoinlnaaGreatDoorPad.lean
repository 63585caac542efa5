/- A part of the proof: see the last file. -/
import Derived.Test.YtlhgkepdoinlnaaGreatDoorPab
import Derived.Test.YtlhgkepdoinlnaaGreatDoorPac
set_option linter.unusedVariables false
set_option linter.unusedSimpArgs false
set_option linter.unusedSectionVars false
namespace Go.Proofs.YtlhgkepdoinlnaaGreatDoor
open Go.RowKit Go.Gen
set_option maxRecDepth 100000 in
set_option maxHeartbeats 4000000 in
theorem isDrum_says (d : Drm) (w : World) (hd : DIn w d) (h1 : d.an ≤ 9223372036854775807) (h2 : d.dn ≤ 9223372036854775807) (h3 : d.sn ≤ 9223372036854775807) (h4 : d.bn ≤ 9223372036854775807) :
    Calls Tryz.prog 60 #[d.val] w (SaysB d.Ok w) := by
  obtain ⟨W0, hW⟩ : ∃ W0, w.alloc (.cells #[.slice d.aa d.an d.ac, .int .i64 d.known, .int .i64 d.hours, .slice d.da d.dn d.dc, .slice d.sa d.sn d.sc, .slice d.ba d.bn d.bc] 27) = W0 := ⟨_, rfl⟩
  have hX : PoD w d W0 := by rw [← hW]; exact PoD.new w d
  have hw1 := fun W => within_any (d.an : Int) 1 4 W
  cases hq : inB (d.an : Int) 1 4 with
  | false =>
    rw [hq] at hw1
    have hno : ¬ d.Ok := fun h => by have := h.acids; rw [inB_yes (by omega) (by omega)] at hq; cases hq
    go_enter Tryz.func60, Tryz.ntmps60
    go_wp2_with fail
    refine wp_region_late [] (fun w9 => PoD w d w9) (fun _ => True) (by kernel_rfl) ?_ (fun hHeld => ?_)
    · exact ⟨hX.drew, trivial⟩
    clear hW
    generalize W0.drew = W1 at hHeld ⊢
    refine tk1 0 rfl hHeld ?_
    refine tk2 1 rfl (by (intro w9 hSw; have z := hSw.at'.k0; clear hSw; go_simp) <;> with_reducible rfl) hHeld ?_
    refine tk1 2 rfl hHeld ?_
    refine rd1 3 rfl (fun K hK => ?_)
    go_simp
    (go_at_call 61; with_reducible refine (hw1 _).mono ?_; rintro e w1 ⟨rfl, rfl⟩)
    refine hK.out _ _ ?_ (fun hHeld => ?_)
    · exact ⟨hHeld.1, trivial⟩
    clear hK K
    (try simp only [Act.put, xpA, xpZ, xpS])
    refine tk1 4 rfl hHeld ?_
    refine tk1 5 rfl hHeld ?_
    refine tk0 6 undef rfl (Or.inr ⟨by kernel_rfl, rfl⟩) hHeld ?_
    (try simp only [Act.put, xpA, xpZ, xpS])
    refine tk0 7 undef rfl (Or.inr ⟨by kernel_rfl, rfl⟩) hHeld ?_
    (try simp only [Act.put, xpA, xpZ, xpS])
    refine tk0 8 undef rfl (Or.inr ⟨by kernel_rfl, rfl⟩) hHeld ?_
    (try simp only [Act.put, xpA, xpZ, xpS])
    refine tk0 9 undef rfl (Or.inr ⟨by kernel_rfl, rfl⟩) hHeld ?_
    (try simp only [Act.put, xpA, xpZ, xpS])
    refine tk0 10 undef rfl (Or.inr ⟨by kernel_rfl, rfl⟩) hHeld ?_
    (try simp only [Act.put, xpA, xpZ, xpS])
    refine tk0 11 undef rfl (Or.inr ⟨by kernel_rfl, rfl⟩) hHeld ?_
    (try simp only [Act.put, xpA, xpZ, xpS])
    refine tk0 12 undef rfl (Or.inr ⟨by kernel_rfl, rfl⟩) hHeld ?_
    (try simp only [Act.put, xpA, xpZ, xpS])
    refine tk0 13 undef rfl (Or.inr ⟨by kernel_rfl, rfl⟩) hHeld ?_
    (try simp only [Act.put, xpA, xpZ, xpS])
    refine tk0 14 undef rfl (Or.inr ⟨by kernel_rfl, rfl⟩) hHeld ?_
    (try simp only [Act.put, xpA, xpZ, xpS])
    refine tk1 15 rfl hHeld ?_
    refine tk1 16 rfl hHeld ?_
    refine wpAnyP_done (by kernel_rfl) ?_ _
    (try simp only [Act.put, List.getElem_toArray, List.getElem_cons_zero, List.getElem_cons_succ, xpA, xpZ, xpS])
    go_wp2
    go_ret
    exact SaysB.no hno hHeld.1.old
  | true =>
    rw [hq] at hw1
    have han : d.an = 1 ∨ d.an = 2 ∨ d.an = 3 ∨ d.an = 4 := by have := inB_iff.1 hq; omega
    have hw2 := fun W => within_any d.known 1 (2 ^ d.an - 1) W
    cases hk : inB d.known 1 (2 ^ d.an - 1) with
    | false =>
      rw [hk] at hw2
      have hno : ¬ d.Ok := fun h => by have := h.known; rw [inB_yes (by omega) (by omega)] at hk; cases hk
      go_enter Tryz.func60, Tryz.ntmps60
      go_wp2_with fail
      refine wp_region_late [] (fun w9 => PoD w d w9) (fun _ => True) (by kernel_rfl) ?_ (fun hHeld => ?_)
      · exact ⟨hX.drew, trivial⟩
      clear hW
      generalize W0.drew = W1 at hHeld ⊢
      refine tk1 0 rfl hHeld ?_
      refine tk2 1 rfl (by (intro w9 hSw; have z := hSw.at'.k0; clear hSw; go_simp) <;> with_reducible rfl) hHeld ?_
      refine tk1 2 rfl hHeld ?_
      refine rd1 3 rfl (fun K hK => ?_)
      go_simp
      (go_at_call 61; with_reducible refine (hw1 _).mono ?_; rintro e w1 ⟨rfl, rfl⟩)
      refine hK.out _ _ ?_ (fun hHeld => ?_)
      · exact ⟨hHeld.1, trivial⟩
      clear hK K
      (try simp only [Act.put, xpA, xpZ, xpS])
      refine tk1 4 rfl hHeld ?_
      refine tk1 5 rfl hHeld ?_
      refine tk3 6 rfl (by (intro w9 hSw; clear hSw; go_simp) <;> with_reducible rfl) hHeld ?_
      refine tk3 7 rfl (by (intro w9 hSw; have z := hSw.at'.k1; clear hSw; go_simp) <;> with_reducible rfl) hHeld ?_
      refine tk3 8 rfl (by (intro w9 hSw; clear hSw; go_simp) <;> with_reducible rfl) hHeld ?_
      refine tk3 9 rfl (by (intro w9 hSw; have z := hSw.at'.k0; clear hSw; go_simp) <;> with_reducible rfl) hHeld ?_
      refine tk3 10 rfl (by (intro w9 hSw; clear hSw; go_simp) <;> with_reducible rfl) hHeld ?_
      refine tk3 11 (v := .int .i64 (2 ^ d.an)) rfl (by intro w9 hSw; clear hSw; go_simp; rcases han with h | h | h | h <;> rw [h] <;> rfl) hHeld ?_
      refine tk3 12 (v := .int .i64 (2 ^ d.an - 1)) rfl (by intro w9 hSw; clear hSw; go_simp; rcases han with h | h | h | h <;> rw [h] <;> rfl) hHeld ?_
      refine rd1 13 rfl (fun K hK => ?_)
      go_simp
      (go_at_call 61; with_reducible refine (hw2 _).mono ?_; rintro e w1 ⟨rfl, rfl⟩)
      refine hK.out _ _ ?_ (fun hHeld => ?_)
      · exact ⟨hHeld.1, trivial⟩
      clear hK K
      (try simp only [Act.put, xpA, xpZ, xpS])
      refine tk3 14 rfl (by (intro w9 hSw; clear hSw; go_simp) <;> with_reducible rfl) hHeld ?_
      refine tk1 15 rfl hHeld ?_
      refine tk1 16 rfl hHeld ?_
      refine wpAnyP_done (by kernel_rfl) ?_ _
      (try simp only [Act.put, List.getElem_toArray, List.getElem_cons_zero, List.getElem_cons_succ, xpA, xpZ, xpS])
      go_wp2
      go_ret
      exact SaysB.no hno hHeld.1.old
    | true =>
      rw [hk] at hw2
      have hkn := inB_iff.1 hk
      obtain ⟨b, off, cap, e, hbl, hp⟩ := hd.acids.pos (by omega)
      obtain ⟨ea, ec⟩ : d.aa = some ⟨b, off, none⟩ ∧ d.ac = cap := by injection e with e1 e2 e3; exact ⟨e1, e3⟩
      rw [ea, ec] at hW
      clear e
      have hup := fun W (hb : Below w.heap.size w W) => areUpTo_any 100 (.slice d.da d.dn d.dc) d.dn d.D W h2 (hd.adds.below hb)
      go_enter Tryz.func60, Tryz.ntmps60
      go_wp2_with fail
      refine wp_region_late [] (fun w9 => PoD w d w9) (fun _ => True) (by kernel_rfl) ?_ (fun hHeld => ?_)
      · exact ⟨hX.drew, trivial⟩
      clear hW
      generalize W0.drew = W1 at hHeld ⊢
      refine tk1 0 rfl hHeld ?_
      refine tk2 1 rfl (by (intro w9 hSw; have z := hSw.at'.k0; clear hSw; go_simp) <;> with_reducible rfl) hHeld ?_
      refine tk1 2 rfl hHeld ?_
      refine rd1 3 rfl (fun K hK => ?_)
      go_simp
      (go_at_call 61; with_reducible refine (hw1 _).mono ?_; rintro e w1 ⟨rfl, rfl⟩)
      refine hK.out _ _ ?_ (fun hHeld => ?_)
      · exact ⟨hHeld.1, trivial⟩
      clear hK K
      (try simp only [Act.put, xpA, xpZ, xpS])
      refine tk1 4 rfl hHeld ?_
      refine tk1 5 rfl hHeld ?_
      refine tk3 6 rfl (by (intro w9 hSw; clear hSw; go_simp) <;> with_reducible rfl) hHeld ?_
      refine tk3 7 rfl (by (intro w9 hSw; have z := hSw.at'.k1; clear hSw; go_simp) <;> with_reducible rfl) hHeld ?_
      refine tk3 8 rfl (by (intro w9 hSw; clear hSw; go_simp) <;> with_reducible rfl) hHeld ?_
      refine tk3 9 rfl (by (intro w9 hSw; have z := hSw.at'.k0; clear hSw; go_simp) <;> with_reducible rfl) hHeld ?_
      refine tk3 10 rfl (by (intro w9 hSw; clear hSw; go_simp) <;> with_reducible rfl) hHeld ?_
      refine tk3 11 (v := .int .i64 (2 ^ d.an)) rfl (by intro w9 hSw; clear hSw; go_simp; rcases han with h | h | h | h <;> rw [h] <;> rfl) hHeld ?_
      refine tk3 12 (v := .int .i64 (2 ^ d.an - 1)) rfl (by intro w9 hSw; clear hSw; go_simp; rcases han with h | h | h | h <;> rw [h] <;> rfl) hHeld ?_
      refine rd1 13 rfl (fun K hK => ?_)
      go_simp
      (go_at_call 61; with_reducible refine (hw2 _).mono ?_; rintro e w1 ⟨rfl, rfl⟩)
      refine hK.out _ _ ?_ (fun hHeld => ?_)
      · exact ⟨hHeld.1, trivial⟩
      clear hK K
      (try simp only [Act.put, xpA, xpZ, xpS])
      refine tk3 14 rfl (by (intro w9 hSw; clear hSw; go_simp) <;> with_reducible rfl) hHeld ?_
      refine tk1 15 rfl hHeld ?_
      refine tk1 16 rfl hHeld ?_
      refine wpAnyP_done (by kernel_rfl) ?_ _
      (try simp only [Act.put, List.getElem_toArray, List.getElem_cons_zero, List.getElem_cons_succ, xpA, xpZ, xpS])
      obtain ⟨hX1, _⟩ := hHeld
      obtain ⟨q0, q1, q2, q3, q4, q5⟩ := id hX1.at'
      clear hw1 hw2
      cases hh : inB d.hours 1 12 with
      | false =>
        have hno : ¬ d.Ok := fun h => by have := h.hours; rw [inB_yes (by omega) (by omega)] at hh; cases hh
        clear hup
        go_wp2_with (first
              | (go_at_call 61; refine (within_any _ _ _ _).mono ?_; (first | rw [hh] | rw [hb] | skip); rintro e w' ⟨rfl, rfl⟩)
              | (go_at_call 109; with_reducible refine (hup _ hX1.old).mono ?_; rintro e wU ⟨rfl, hbU⟩; replace hX1 := hX1.below hbU; obtain ⟨q0, q1, q2, q3, q4, q5⟩ := id hX1.at'))
        go_ret
        exact SaysB.no hno hX1.old
      | true =>
        by_cases hdn : (d.dn : Int) = d.hours
        · by_cases hs : (d.sn : Int) ≤ 6
          · cases hb : inB (d.bn : Int) 1 5 with
            | false =>
              have hno : ¬ d.Ok := fun h => by have := h.batches; rw [inB_yes (by omega) (by omega)] at hb; cases hb
              clear hup
              go_wp2_with (first
                    | (go_at_call 61; refine (within_any _ _ _ _).mono ?_; (first | rw [hh] | rw [hb] | skip); rintro e w' ⟨rfl, rfl⟩)
                    | (go_at_call 109; with_reducible refine (hup _ hX1.old).mono ?_; rintro e wU ⟨rfl, hbU⟩; replace hX1 := hX1.below hbU; obtain ⟨q0, q1, q2, q3, q4, q5⟩ := id hX1.at'))
              go_ret
              exact SaysB.no hno hX1.old
            | true =>
              have hAD := @anyB_no (fun i => !inB (d.D i 0) 0 100) d.dn
              cases ha : anyB (fun i => !inB (d.D i 0) 0 100) d.dn with
              | true =>
                rw [ha] at hup
                have hno : ¬ d.Ok := fun h => by
                  have : anyB (fun i => !inB (d.D i 0) 0 100) d.dn = false := hAD.2 fun i hi => by (try dsimp only); rw [h.add i hi]; rfl
                  rw [this] at ha; cases ha
                clear hAD ha
                go_wp2_with (first
                      | (go_at_call 61; refine (within_any _ _ _ _).mono ?_; (first | rw [hh] | rw [hb] | skip); rintro e w' ⟨rfl, rfl⟩)
                      | (go_at_call 109; with_reducible refine (hup _ hX1.old).mono ?_; rintro e wU ⟨rfl, hbU⟩; replace hX1 := hX1.below hbU; obtain ⟨q0, q1, q2, q3, q4, q5⟩ := id hX1.at'))
                go_ret
                exact SaysB.no hno hX1.old
              | false =>
                rw [ha] at hup
                have hadd : Hdn _ := ⟨hAD.1 ha⟩
                clear hAD ha
                go_wp2_with (first
            | (go_at_call 61; refine (within_any _ _ _ _).mono ?_; (first | rw [hh] | rw [hb] | skip); rintro e w' ⟨rfl, rfl⟩)
            | (go_at_call 109; with_reducible refine (hup _ hX1.old).mono ?_; rintro e wU ⟨rfl, hbU⟩; replace hX1 := hX1.below hbU; obtain ⟨q0, q1, q2, q3, q4, q5⟩ := id hX1.at'))
                go_loopw [58] (fun i wr => ∃ k : Nat, k ≤ d.an ∧ i = .int .i64 k ∧ PoD w d wr ∧ Hdn (∀ j, j < k → acB (d.A j) = true)) (fun i _ => d.an - (intOf i).toNat)
                case atStart => exact ⟨0, Nat.zero_le _, rfl, by assumption, ⟨fun _ h => absurd h (Nat.not_lt_zero _)⟩⟩
                case round =>
                  obtain ⟨k, hk', rfl, hX2, hall⟩ := hrel
                  have hk0 : (0 : Int) ≤ (k : Int) := Int.natCast_nonneg _
                  obtain ⟨q0, q1, q2, q3, q4, q5⟩ := id hX2.at'
                  by_cases hlt : k < d.an
                  · have hk1 : (k : Int) < (d.an : Int) := by omega
                    have hp' := hp.below hX2.old hbl
                    have e0 := hp'.first hlt (by decide)
                    have e1 := hp' k hlt 1 (by decide)
                    have e2 := hp' k hlt 2 (by decide)
                    have e3 := hp' k hlt 3 (by decide)
                    clear hp'
                    obtain ⟨W2, hW2⟩ : ∃ W2, wr.alloc (Obj.cells #[.int .i64 (d.A k 0), .int .i64 (d.A k 1), .int .i64 (d.A k 2), .int .i64 (d.A k 3)] 106) = W2 := ⟨_, rfl⟩
                    have hX3 : PoD w d W2 := by rw [← hW2]; exact hX2.alloc _
                    have hz2 : wr.heap.size < W2.heap.size := by rw [← hW2, World.size_alloc]; omega
                    have y0 : W2.cell? ⟨wr.heap.size, 0, none⟩ = some (.int .i64 (d.A k 0)) := by rw [← hW2]; exact cells_new wr _ _ rfl
                    have y1 : W2.cell? ⟨wr.heap.size, 1, none⟩ = some (.int .i64 (d.A k 1)) := by rw [← hW2]; exact cells_new wr _ _ rfl
                    have y2 : W2.cell? ⟨wr.heap.size, 2, none⟩ = some (.int .i64 (d.A k 2)) := by rw [← hW2]; exact cells_new wr _ _ rfl
                    have y3 : W2.cell? ⟨wr.heap.size, 3, none⟩ = some (.int .i64 (d.A k 3)) := by rw [← hW2]; exact cells_new wr _ _ rfl
                    have hs1 := fun W => isSpan_any (d.A k 0) (d.A k 1) 100 W
                    have hs2 := fun W => isSpan_any (d.A k 2) (d.A k 3) 20 W
                    have hac : acB (d.A k) = (spB (d.A k 0) (d.A k 1) 100 && spB (d.A k 2) (d.A k 3) 20) := rfl
                    cases p1 : spB (d.A k 0) (d.A k 1) 100 with
                    | false =>
                      rw [p1] at hs1
                      have hno : ¬ d.Ok := fun h => by have := h.acid k hlt; rw [hac, p1] at this; cases this
                      clear hs2 hac
                      go_wp2_with (go_at_call 110; with_reducible refine (hs1 _).mono ?_; rintro e w1 ⟨rfl, hb1⟩)
                      go_ret
                      exact SaysB.no hno (hX3.below hb1).old
                    | true =>
                      rw [p1] at hs1
                      cases p2 : spB (d.A k 2) (d.A k 3) 20 with
                      | false =>
                        rw [p2] at hs2
                        have hno : ¬ d.Ok := fun h => by have := h.acid k hlt; rw [hac, p1, p2] at this; cases this
                        clear hac
                        go_wp2_with (first
                          | (go_at_call 110; (with_reducible refine (hs1 _).mono ?_); rintro e w1 ⟨rfl, hb1⟩; have y2' := (hb1.cell (p := ⟨wr.heap.size, 2, none⟩) hz2).trans y2; have y3' := (hb1.cell (p := ⟨wr.heap.size, 3, none⟩) hz2).trans y3)
                          | (go_at_call 110; (with_reducible refine (hs2 _).mono ?_); rintro e w2 ⟨rfl, hb2⟩))
                        go_ret
                        exact SaysB.no hno ((hX3.below hb1).below hb2).old
                      | true =>
                        rw [p2] at hs2
                        have hyes : acB (d.A k) = true := by rw [hac, p1, p2]; rfl
                        clear hac
                        have hyes : Hdn _ := ⟨hyes⟩
                        go_wp2_with (first
                          | (go_at_call 110; (with_reducible refine (hs1 _).mono ?_); rintro e w1 ⟨rfl, hb1⟩; have y2' := (hb1.cell (p := ⟨wr.heap.size, 2, none⟩) hz2).trans y2; have y3' := (hb1.cell (p := ⟨wr.heap.size, 3, none⟩) hz2).trans y3)
                          | (go_at_call 110; (with_reducible refine (hs2 _).mono ?_); rintro e w2 ⟨rfl, hb2⟩))
                        go_roundw
                        case rel => exact ⟨k + 1, by omega, by go_num, (hX3.below hb1).below hb2, ⟨all_succ (p := fun j => acB (d.A j) = true) hall.out hyes.out⟩⟩
                        case measure => simp [intOf]; omega
                  · have hacid : Hdn (∀ j, j < d.an → acB (d.A j) = true) := ⟨fun j hj => hall.out j (by omega)⟩
                    have hk2 : ¬ (k : Int) < (d.an : Int) := by omega
                    clear hall
                    have hba := fun W (hB : Below w.heap.size w W) => has_batch (.slice d.ba d.bn d.bc) d.bn d.B W h4 (hd.batches.below hB)
                    have hBA := @anyB_no (fun i => !baB (d.B i)) d.bn
                    cases pb : anyB (fun i => !baB (d.B i)) d.bn with
                    | true =>
                      rw [pb] at hba
                      have hno : Hdn (¬ d.Ok) := ⟨fun h => by
                        have : anyB (fun i => !baB (d.B i)) d.bn = false := hBA.2 fun i hi => by (try dsimp only); rw [h.batch i hi]; rfl
                        rw [this] at pb; cases pb⟩
                      clear hBA pb
                      by_cases hs0 : d.sn = 0
                      · go_wp2_with fail
                        refine wp_loop_rounds 1 ?_
                        rw [rounds_succ]
                        go_wp2_with (go_at_call 111; (with_reducible refine (hba _ hX2.old).mono ?_); rintro e wB ⟨rfl, hbB⟩)
                        go_ret
                        exact SaysB.no hno.out (hX2.below hbB).old
                      · obtain ⟨b', off', cap', e', hbl', hp'⟩ := hd.strips.pos (by omega)
                        obtain ⟨es, et⟩ : d.sa = some ⟨b', off', none⟩ ∧ d.sc = cap' := by injection e' with e1 e2 e3; exact ⟨e1, e3⟩
                        clear e'
                        go_wp2_with fail
                        go_loopw [76] (fun i wr => ∃ k : Nat, k ≤ d.sn ∧ i = .int .i64 k ∧ PoD w d wr ∧ Hdn (∀ j, j < k → stB d.hours (d.S j) = true)) (fun i _ => d.sn - (intOf i).toNat)
                        case atStart => exact ⟨0, Nat.zero_le _, rfl, by assumption, ⟨fun _ h => absurd h (Nat.not_lt_zero _)⟩⟩
                        case round =>
                          obtain ⟨k', hk5, rfl, hX4, hst⟩ := hrel
                          have hk6 : (0 : Int) ≤ (k' : Int) := Int.natCast_nonneg _
                          obtain ⟨q0, q1, q2, q3, q4, q5⟩ := id hX4.at'
                          by_cases hlt' : k' < d.sn
                          · have hk7 : (k' : Int) < (d.sn : Int) := by omega
                            have hp2 := hp'.below hX4.old hbl'
                            have e0 := hp2.first hlt' (by decide)
                            have e1 := hp2 k' hlt' 1 (by decide)
                            have e2 := hp2 k' hlt' 2 (by decide)
                            clear hp2
                            obtain ⟨W5, hW5⟩ : ∃ W5, wr.alloc (Obj.cells #[.int .i64 (d.S k' 0), .int .i64 (d.S k' 1), .int .i64 (d.S k' 2)] 60) = W5 := ⟨_, rfl⟩
                            have hX5 : PoD w d W5 := by rw [← hW5]; exact hX4.alloc _
                            have y0 : W5.cell? ⟨wr.heap.size, 0, none⟩ = some (.int .i64 (d.S k' 0)) := by rw [← hW5]; exact cells_new wr _ _ rfl
                            have y1 : W5.cell? ⟨wr.heap.size, 1, none⟩ = some (.int .i64 (d.S k' 1)) := by rw [← hW5]; exact cells_new wr _ _ rfl
                            have y2 : W5.cell? ⟨wr.heap.size, 2, none⟩ = some (.int .i64 (d.S k' 2)) := by rw [← hW5]; exact cells_new wr _ _ rfl
                            obtain ⟨q0, q1, q2, q3, q4, q5⟩ := id hX5.at'
                            have hsb : stB d.hours (d.S k') = (inB (d.S k' 0) 0 (d.hours - 1) && (inB (d.S k' 1) 0 2000 && inB (d.S k' 2) 0 50)) := rfl
                            have hhr := inB_iff.1 hh
                            obtain ⟨hhr1, hhr2⟩ := hhr
                            have hi1 := fun W => within_any (d.S k' 0) 0 (d.hours - 1) W
                            have hi2 := fun W => within_any (d.S k' 1) 0 2000 W
                            have hi3 := fun W => within_any (d.S k' 2) 0 50 W
                            generalize inB (d.S k' 0) 0 (d.hours - 1) = u1 at hi1 hsb
                            generalize inB (d.S k' 1) 0 2000 = u2' at hi2 hsb
                            generalize inB (d.S k' 2) 0 50 = u3' at hi3 hsb
                            by_cases hall3 : u1 = true ∧ u2' = true ∧ u3' = true
                            · obtain ⟨rfl, rfl, rfl⟩ := hall3
                              have hyes : Hdn (stB d.hours (d.S k') = true) := ⟨by rw [hsb]; rfl⟩
                              clear hsb
                              go_wp2_with (first
                                | (go_at_call 61; (with_reducible refine (hi1 _).mono ?_); rintro e w1 ⟨rfl, rfl⟩)
                                | (go_at_call 61; (with_reducible refine (hi2 _).mono ?_); rintro e w1 ⟨rfl, rfl⟩)
                                | (go_at_call 61; (with_reducible refine (hi3 _).mono ?_); rintro e w1 ⟨rfl, rfl⟩))
                              go_roundw
                              case rel => exact ⟨k' + 1, by omega, by go_num, hX5, ⟨all_succ (p := fun j => stB d.hours (d.S j) = true) hst.out hyes.out⟩⟩
                              case measure => simp [intOf]; omega
                            · have hno2 : Hdn (¬ d.Ok) := ⟨fun h => by
                                have := h.strip k' hlt'
                                rw [hsb, Bool.and_eq_true, Bool.and_eq_true] at this
                                exact hall3 this⟩
                              clear hsb
                              cases u1 <;> cases u2' <;> cases u3'
                              all_goals
                                first
                                | exact absurd ⟨rfl, rfl, rfl⟩ hall3
                                | (clear hall3
                                   go_wp2_with (first
                                     | (go_at_call 61; (with_reducible refine (hi1 _).mono ?_); rintro e w1 ⟨rfl, rfl⟩)
                                     | (go_at_call 61; (with_reducible refine (hi2 _).mono ?_); rintro e w1 ⟨rfl, rfl⟩)
                                     | (go_at_call 61; (with_reducible refine (hi3 _).mono ?_); rintro e w1 ⟨rfl, rfl⟩))
                                   go_ret; exact SaysB.no hno2.out hX5.old)
                          · have hstrip : Hdn (∀ j, j < d.sn → stB d.hours (d.S j) = true) := ⟨fun j hj => hst.out j (by omega)⟩
                            have hk8 : ¬ (k' : Int) < (d.sn : Int) := by omega
                            clear hst
                            go_wp2_with (go_at_call 111; (with_reducible refine (hba _ hX4.old).mono ?_); rintro e wB ⟨rfl, hbB⟩)
                            go_ret
                            exact SaysB.no hno.out (hX4.below hbB).old    | false =>
                      rw [pb] at hba
                      have hbat : Hdn _ := ⟨hBA.1 pb⟩
                      clear hBA pb
                      by_cases hs0 : d.sn = 0
                      · go_wp2_with fail
                        refine wp_loop_rounds 1 ?_
                        rw [rounds_succ]
                        go_wp2_with (go_at_call 111; (with_reducible refine (hba _ hX2.old).mono ?_); rintro e wB ⟨rfl, hbB⟩)
                        go_ret
                        exact SaysB.yes ⟨by omega, by omega, inB_iff.1 hh, hdn, by omega, by have := inB_iff.1 hb; omega, hacid.out, fun i hi => by have := hadd.out i hi; simpa using this, fun i hi => absurd hi (by omega), fun i hi => by have := hbat.out i hi; simpa using this⟩ (hX2.below hbB).old
                      · obtain ⟨b', off', cap', e', hbl', hp'⟩ := hd.strips.pos (by omega)
                        obtain ⟨es, et⟩ : d.sa = some ⟨b', off', none⟩ ∧ d.sc = cap' := by injection e' with e1 e2 e3; exact ⟨e1, e3⟩
                        clear e'
                        go_wp2_with fail
                        go_loopw [76] (fun i wr => ∃ k : Nat, k ≤ d.sn ∧ i = .int .i64 k ∧ PoD w d wr ∧ Hdn (∀ j, j < k → stB d.hours (d.S j) = true)) (fun i _ => d.sn - (intOf i).toNat)
                        case atStart => exact ⟨0, Nat.zero_le _, rfl, by assumption, ⟨fun _ h => absurd h (Nat.not_lt_zero _)⟩⟩
                        case round =>
                          obtain ⟨k', hk5, rfl, hX4, hst⟩ := hrel
                          have hk6 : (0 : Int) ≤ (k' : Int) := Int.natCast_nonneg _
                          obtain ⟨q0, q1, q2, q3, q4, q5⟩ := id hX4.at'
                          by_cases hlt' : k' < d.sn
                          · have hk7 : (k' : Int) < (d.sn : Int) := by omega
                            have hp2 := hp'.below hX4.old hbl'
                            have e0 := hp2.first hlt' (by decide)
                            have e1 := hp2 k' hlt' 1 (by decide)
                            have e2 := hp2 k' hlt' 2 (by decide)
                            clear hp2
                            obtain ⟨W5, hW5⟩ : ∃ W5, wr.alloc (Obj.cells #[.int .i64 (d.S k' 0), .int .i64 (d.S k' 1), .int .i64 (d.S k' 2)] 60) = W5 := ⟨_, rfl⟩
                            have hX5 : PoD w d W5 := by rw [← hW5]; exact hX4.alloc _
                            have y0 : W5.cell? ⟨wr.heap.size, 0, none⟩ = some (.int .i64 (d.S k' 0)) := by rw [← hW5]; exact cells_new wr _ _ rfl
                            have y1 : W5.cell? ⟨wr.heap.size, 1, none⟩ = some (.int .i64 (d.S k' 1)) := by rw [← hW5]; exact cells_new wr _ _ rfl
                            have y2 : W5.cell? ⟨wr.heap.size, 2, none⟩ = some (.int .i64 (d.S k' 2)) := by rw [← hW5]; exact cells_new wr _ _ rfl
                            obtain ⟨q0, q1, q2, q3, q4, q5⟩ := id hX5.at'
                            have hsb : stB d.hours (d.S k') = (inB (d.S k' 0) 0 (d.hours - 1) && (inB (d.S k' 1) 0 2000 && inB (d.S k' 2) 0 50)) := rfl
                            have hhr := inB_iff.1 hh
                            obtain ⟨hhr1, hhr2⟩ := hhr
                            have hi1 := fun W => within_any (d.S k' 0) 0 (d.hours - 1) W
                            have hi2 := fun W => within_any (d.S k' 1) 0 2000 W
                            have hi3 := fun W => within_any (d.S k' 2) 0 50 W
                            generalize inB (d.S k' 0) 0 (d.hours - 1) = u1 at hi1 hsb
                            generalize inB (d.S k' 1) 0 2000 = u2' at hi2 hsb
                            generalize inB (d.S k' 2) 0 50 = u3' at hi3 hsb
                            by_cases hall3 : u1 = true ∧ u2' = true ∧ u3' = true
                            · obtain ⟨rfl, rfl, rfl⟩ := hall3
                              have hyes : Hdn (stB d.hours (d.S k') = true) := ⟨by rw [hsb]; rfl⟩
                              clear hsb
                              go_wp2_with (first
                                | (go_at_call 61; (with_reducible refine (hi1 _).mono ?_); rintro e w1 ⟨rfl, rfl⟩)
                                | (go_at_call 61; (with_reducible refine (hi2 _).mono ?_); rintro e w1 ⟨rfl, rfl⟩)
                                | (go_at_call 61; (with_reducible refine (hi3 _).mono ?_); rintro e w1 ⟨rfl, rfl⟩))
                              go_roundw
                              case rel => exact ⟨k' + 1, by omega, by go_num, hX5, ⟨all_succ (p := fun j => stB d.hours (d.S j) = true) hst.out hyes.out⟩⟩
                              case measure => simp [intOf]; omega
                            · have hno2 : Hdn (¬ d.Ok) := ⟨fun h => by
                                have := h.strip k' hlt'
                                rw [hsb, Bool.and_eq_true, Bool.and_eq_true] at this
                                exact hall3 this⟩
                              clear hsb
                              cases u1 <;> cases u2' <;> cases u3'
                              all_goals
                                first
                                | exact absurd ⟨rfl, rfl, rfl⟩ hall3
                                | (clear hall3
                                   go_wp2_with (first
                                     | (go_at_call 61; (with_reducible refine (hi1 _).mono ?_); rintro e w1 ⟨rfl, rfl⟩)
                                     | (go_at_call 61; (with_reducible refine (hi2 _).mono ?_); rintro e w1 ⟨rfl, rfl⟩)
                                     | (go_at_call 61; (with_reducible refine (hi3 _).mono ?_); rintro e w1 ⟨rfl, rfl⟩))
                                   go_ret; exact SaysB.no hno2.out hX5.old)
                          · have hstrip : Hdn (∀ j, j < d.sn → stB d.hours (d.S j) = true) := ⟨fun j hj => hst.out j (by omega)⟩
                            have hk8 : ¬ (k' : Int) < (d.sn : Int) := by omega
                            clear hst
                            go_wp2_with (go_at_call 111; (with_reducible refine (hba _ hX4.old).mono ?_); rintro e wB ⟨rfl, hbB⟩)
                            go_ret
                            exact SaysB.yes ⟨by omega, by omega, inB_iff.1 hh, hdn, by omega, by have := inB_iff.1 hb; omega, hacid.out, fun i hi => by have := hadd.out i hi; simpa using this, hstrip.out, fun i hi => by have := hbat.out i hi; simpa using this⟩ (hX4.below hbB).old
          · have hno : ¬ d.Ok := fun h => by have := h.strips; omega
            clear hup
            go_wp2_with (first
                  | (go_at_call 61; refine (within_any _ _ _ _).mono ?_; (first | rw [hh] | rw [hb] | skip); rintro e w' ⟨rfl, rfl⟩)
                  | (go_at_call 109; with_reducible refine (hup _ hX1.old).mono ?_; rintro e wU ⟨rfl, hbU⟩; replace hX1 := hX1.below hbU; obtain ⟨q0, q1, q2, q3, q4, q5⟩ := id hX1.at'))
            go_ret
            exact SaysB.no hno hX1.old
        · have hno : ¬ d.Ok := fun h => hdn h.adds
          clear hup
          go_wp2_with (first
                | (go_at_call 61; refine (within_any _ _ _ _).mono ?_; (first | rw [hh] | rw [hb] | skip); rintro e w' ⟨rfl, rfl⟩)
                | (go_at_call 109; with_reducible refine (hup _ hX1.old).mono ?_; rintro e wU ⟨rfl, hbU⟩; replace hX1 := hX1.below hbU; obtain ⟨q0, q1, q2, q3, q4, q5⟩ := id hX1.at'))
          go_ret
          exact SaysB.no hno hX1.old

end Go.Proofs.YtlhgkepdoinlnaaGreatDoor
