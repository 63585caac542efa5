/- DrillFound returns true for every machine, truth, blank, turn, order and errors: a button drilled so is found by Could and Who, and Proves holds of the truth. -/
import Derived.Test.YtjhpklolpmaopaaGreatDoorPbm
import Derived.Test.YtjhpklolpmaopaaGreatDoorTie
import Derived.Test.YtjhpklolpmaopaaGreatDoorCards
import Derived.SevenTiedAt
set_option linter.unusedVariables false
set_option linter.unusedSimpArgs false
set_option linter.unusedSectionVars false
namespace Go.Proofs.YtjhpklolpmaopaaGreatDoor
open Go.ChangeShapes Go.WideShapes Go.ChangeAt Go.WideMaps Go.WideElems Go.RowKit
theorem trodAll_eight {H : Type} {enc : TypeId × Value → H} {P : Program} {w : World} {base : Nat} {spare : Nat → Bool} {held : Bool} {t0 t1 t2 t3 t4 t5 t6 t7 : TypeId} {args : Array Value} {ds : List (DataW H)} {ps : List MemPlace} (h : DataW.TrodAll enc P w base spare held [t0, t1, t2, t3, t4, t5, t6, t7] args.toList ds ps) :
  ∃ v0 v1 v2 v3 v4 v5 v6 v7 d0 d1 d2 d3 d4 d5 d6 d7 p0 p1 p2 p3 p4 p5 p6 p7, args = #[v0, v1, v2, v3, v4, v5, v6, v7] ∧ ds = [d0, d1, d2, d3, d4, d5, d6, d7] ∧ ps = p0 ++ p1 ++ p2 ++ p3 ++ p4 ++ p5 ++ p6 ++ p7 ∧ DataW.Trod enc P w base spare held t0 v0 d0 p0 ∧ DataW.Trod enc P w base spare held t1 v1 d1 p1 ∧ DataW.Trod enc P w base spare held t2 v2 d2 p2 ∧ DataW.Trod enc P w base spare held t3 v3 d3 p3 ∧ DataW.Trod enc P w base spare held t4 v4 d4 p4 ∧ DataW.Trod enc P w base spare held t5 v5 d5 p5 ∧ DataW.Trod enc P w base spare held t6 v6 d6 p6 ∧ DataW.Trod enc P w base spare held t7 v7 d7 p7 := by
 obtain ⟨v0, vs0, d0, ds0, p0, q0, hargs, rfl, rfl, h0, g0⟩ := trodAll_cons h
 obtain ⟨v1, vs1, d1, ds1, p1, q1, rfl, rfl, rfl, h1, g1⟩ := trodAll_cons g0
 obtain ⟨v2, vs2, d2, ds2, p2, q2, rfl, rfl, rfl, h2, g2⟩ := trodAll_cons g1
 obtain ⟨v3, vs3, d3, ds3, p3, q3, rfl, rfl, rfl, h3, g3⟩ := trodAll_cons g2
 obtain ⟨v4, vs4, d4, ds4, p4, q4, rfl, rfl, rfl, h4, g4⟩ := trodAll_cons g3
 obtain ⟨v5, vs5, d5, ds5, p5, q5, rfl, rfl, rfl, h5, g5⟩ := trodAll_cons g4
 obtain ⟨v6, vs6, d6, ds6, p6, q6, rfl, rfl, rfl, h6, g6⟩ := trodAll_cons g5
 obtain ⟨v7, vs7, d7, ds7, p7, q7, rfl, rfl, rfl, h7, g7⟩ := trodAll_cons g6
 obtain ⟨rfl, rfl, rfl⟩ := trodAll_nil g7
 exact ⟨v0, v1, v2, v3, v4, v5, v6, v7, d0, d1, d2, d3, d4, d5, d6, d7, p0, p1, p2, p3, p4, p5, p6, p7, by cases args; simp_all, rfl, by simp, h0, h1, h2, h3, h4, h5, h6, h7⟩
theorem door_drillFound (os : Os) (args : Array Value) : laidMetH Tryz.prog Rows.drillFoundRow.laid ((World.doorLaid Tryz.prog 400 os).forCall (fun _ _ => 0) ⟨#[], args, []⟩).memory :=
 laidMetH_of_parts3 (fuel := 8) (laidMet_of_run' 8 (by kernel_rfl) (by kernel_rfl)) (by kernel_rfl) (by kernel_rfl)
theorem post_drillFound {H : Type} {enc : TypeId × Value → H} {W W' : World} {args : Array Value} {ds : List (DataW H)} {before : List MemPlace} (hds : Rows.drillFoundSpec.fn H ds = { results := [.lit (.bool true)], args := ds })
  (hW : DataW.Whole enc Tryz.prog Tryz.f3.params.toList Rows.drillFoundSpec.vars false W args.toList ds [] before)
  (hargs : ∀ sp : Nat → Bool, (∀ p ∈ before, sp p.block = true) → DataW.TrodAll enc Tryz.prog W' 0 sp true Tryz.f3.params.toList args.toList ds before) (hb : Below W.heap.size W W') :
  Rows.drillFoundSpec.post enc Tryz.prog Tryz.f3 false true false false W args (.bool true) W' := by
 refine ⟨ds, [], before, [], before, [], hW, ?_, ?_, ?_, World.keptBut_mono (fun p hp => ⟨hp, .inr (.inl hp)⟩) (hb.frame (· ∈ before)), fun h => by cases h⟩
 ·rw [List.append_nil, hds]; exact trodAll_mk1 (shut_bool Tryz.underlying4 true)
 ·rw [List.append_nil, hds]; exact hargs _ (fun p hp => by simpa using hW.lt p hp)
 ·rw [List.append_nil, hds]; rfl
set_option maxRecDepth 100000 in
theorem lifted_drillFound (os : Os) (started : os.Started) (H : Type) (enc : TypeId × Value → H) :
  ReturnsInHanded {} Tryz.checked os 3 .any (fun w args => (Rows.drillFoundSpec.pre enc Tryz.prog Tryz.f3 [] false w args ∧ laidMetH Tryz.prog Rows.drillFoundRow.laid w) ∧ sizedMet enc Tryz.prog Tryz.f3 (OpenSpec.ofChange Rows.drillFoundSpec) false w args)
   (Rows.drillFoundSpec.post enc Tryz.prog Tryz.f3 false true false false) := by
 refine returnsInHanded_of_change_and (C := Tryz.checked) (X := fun w _ => laidMetH Tryz.prog Rows.drillFoundRow.laid w) (fun _ _ _ hh h => h.of_heap hh) own started (by kernel_rfl) Tryz.func3
  (ChangeSpec.witness_shaped (enc := enc) (C := Tryz.checked) (os := os) (X := fun w _ => laidMetH Tryz.prog Rows.drillFoundRow.laid w) false (World.doorLaid Tryz.prog 400 os) #[.agg #[.slice none 0 0, .int .i64 0, .int .i64 0, .int .i64 0, .int .i64 0, .int .i64 0, .int .i64 0, .int .i64 0, .int .i64 0, .slice none 0 0], .agg #[.slice none 0 0, .slice none 0 0], .int .i64 0, .int .i64 0, .slice none 0 0, .slice none 0 0, .int .i64 0, .int .i64 0] 8 rfl (World.shaped_of_RefB (by kernel_rfl) (by kernel_rfl)) (by kernel_rfl) (by kernel_rfl) (by kernel_rfl) (door_drillFound os _)) ?_
 intro W base args ds gs before hval0 hW _ _ hL _
 have hval : ∀ (j : Nat) t v, Tryz.f3.params[j]? = some t → args[j]? = some v → Value.okWide Tryz.prog W .any base t v := hval0
 have hW' := hW
 obtain ⟨p, q, hA0, hV, rfl, hfz, hnd⟩ := hW
 have hA : DataW.TrodAll enc Tryz.prog W 0 (fun _ => true) true Tryz.f3.params.toList args.toList ds p := hA0
 rw [Tryz.params3] at hA hval
 obtain ⟨v0, v1, v2, v3, v4, v5, v6, v7, d0, d1, d2, d3, d4, d5, d6, d7, p0, p1, p2, p3, p4, p5, p6, p7, rfl, rfl, rfl, h0, h1, h2, h3, h4, h5, h6, h7⟩ := trodAll_eight hA
 obtain ⟨rfl, rfl⟩ := trodVars_none hV
 obtain ⟨a0_0, n0_0, c0_0, F0_0, x1_0, z1_0, x2_0, z2_0, x3_0, z3_0, x4_0, z4_0, a5_0, n5_0, c5_0, F5_0, rfl, ⟨m0_0, l0_0, s0_0⟩, ⟨m5_0, l5_0, s5_0⟩⟩ := open_mach (hval 0 27 v0 rfl rfl) h0
 obtain ⟨a0_1, n0_1, c0_1, F0_1, a1_1, n1_1, c1_1, F1_1, rfl, ⟨m0_1, l0_1, s0_1⟩, ⟨m1_1, l1_1, s1_1⟩⟩ := open_truth (hval 1 30 v1 rfl rfl) h1
 obtain ⟨t2, rfl, rfl, rfl, wt2⟩ := open_int Tryz.underlying3 (hval 2 3 v2 rfl rfl) h2
 obtain ⟨t3, rfl, rfl, rfl, wt3⟩ := open_int Tryz.underlying3 (hval 3 3 v3 rfl rfl) h3
 obtain ⟨a4, n4, c4, F4, rfl, m4, l4, q4⟩ := open_ints (hval 4 28 v4 rfl rfl) h4
 obtain ⟨a5, n5, c5, F5, rfl, m5, l5, q5⟩ := open_ints (hval 5 28 v5 rfl rfl) h5
 obtain ⟨t6, rfl, rfl, rfl, wt6⟩ := open_int Tryz.underlying3 (hval 6 3 v6 rfl rfl) h6
 obtain ⟨t7, rfl, rfl, rfl, wt7⟩ := open_int Tryz.underlying3 (hval 7 3 v7 rfl rfl) h7
 simp only [List.append_nil, List.nil_append] at hW'
 have hk : KG W := of_laid hL
 refine (found_all (m := machK a0_0 n0_0 c0_0 F0_0 x1_0 z1_0 x2_0 z2_0 x3_0 z3_0 x4_0 z4_0 a5_0 n5_0 c5_0 F5_0) hk m0_0 m5_0 m0_1 m1_1 m4 m5 l0_1 l1_1 (min_of_k s0_0 s5_0) (isl_of_k s0_1) (isl_of_k s1_1) (isl_of_k q4) (isl_of_k q5)).mono fun e W' ⟨he, hb⟩ => ?_
 subst he
 refine ⟨_, rfl, post_drillFound rfl hW' (fun sp hsp => ?_) hb⟩
 have h2 := trodAll_cons_mk ((Trod_stays laidOut (by kernel_rfl) (of_decide_eq_true (by kernel_rfl)) h0 (fun x hx => hb.same (hW'.lt x (by simp [hx]))) fun x hx => hsp x (by simp [hx]))) (trodAll_cons_mk ((Trod_stays laidOut (by kernel_rfl) (of_decide_eq_true (by kernel_rfl)) h1 (fun x hx => hb.same (hW'.lt x (by simp [hx]))) fun x hx => hsp x (by simp [hx]))) (trodAll_cons_mk (shut_int (enc := enc) (w := W') (spare := sp) Tryz.underlying3 wt2) (trodAll_cons_mk (shut_int (enc := enc) (w := W') (spare := sp) Tryz.underlying3 wt3) (trodAll_cons_mk ((Trod_stays laidOut (by kernel_rfl) (of_decide_eq_true (by kernel_rfl)) h4 (fun x hx => hb.same (hW'.lt x (by simp [hx]))) fun x hx => hsp x (by simp [hx]))) (trodAll_mk3 ((Trod_stays laidOut (by kernel_rfl) (of_decide_eq_true (by kernel_rfl)) h5 (fun x hx => hb.same (hW'.lt x (by simp [hx]))) fun x hx => hsp x (by simp [hx]))) (shut_int (enc := enc) (w := W') (spare := sp) Tryz.underlying3 wt6) (shut_int (enc := enc) (w := W') (spare := sp) Tryz.underlying3 wt7))))))
 try simp only [List.append_nil, List.nil_append, ← List.append_assoc] at h2
 exact h2
theorem drillFound_holds : Rows.DrillFoundSaid :=
 OpenClaim.holds_of_wide 3 Tryz.f3 rfl rfl rfl rfl rfl rfl rfl ⟨rfl, rfl, rfl, rfl, rfl⟩ rfl rfl rfl rfl rfl (by kernel_rfl) Tryz.func3 (by kernel_rfl)
  (of_decide_eq_true (by kernel_rfl)) (by unfold Func.isWrapper; first | (rw [if_pos (by decide +kernel)]; kernel_rfl) | (rw [if_neg (by decide +kernel)]; exact ⟨rfl, rfl⟩))
  (fun os started H enc _ => lifted_drillFound os started H enc)
theorem drillFound_card : Rows.DrillFoundCardSaid :=
 Claim7.holds_tied_plain_at .later [] [.data, .data, .data, .data] true (true, "6e164690d0854b483fb1296793f3656216820e0673f0c96aa286432aea33af51") true
  drillFound_holds (fun _ h => by cases h) (by kernel_rfl) (fun _ h => by cases h) drillFound_row_tie rfl ⟨rfl, rfl⟩ (by kernel_rfl) rfl
  (fun f fn hf hfn => by
   obtain rfl : f = 3 := Option.some.inj ((show Tryz.prog.funcNamed "nacre/nacrelaw02.DrillFound" = some 3 by kernel_rfl).symm.trans hf) |>.symm
   obtain rfl : fn = Tryz.f3 := (Option.some.inj (Tryz.func3.symm.trans hfn)).symm
   exact ⟨by kernel_rfl, fun j t ht => by
    rw [Tryz.params3] at ht
    have hm : t ∈ [27, 30, 3, 3, 28, 28, 3, 3] := by simpa using Array.mem_of_getElem? ht
    have hall : ([27, 30, 3, 3, 28, 28, 3, 3].all fun u => !Tryz.prog.wantsStandIn u) = true := by kernel_rfl
    exact (show Tryz.prog.wantsStandIn t = false by simpa using List.all_eq_true.1 hall t hm)⟩)
  (by kernel_rfl)
#print axioms drillFound_card
end Go.Proofs.YtjhpklolpmaopaaGreatDoor
