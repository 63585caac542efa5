/- The statement DrillMatched of the layer drill: for every measure, every list of points, every proposed turn and order, and in whatever memory, the law returns true and leaves its arguments as they were. Conditions: the four listed package-level variables hold what the text of the program lays (the card ties them to it); otherwise none beyond the row's own. -/
import Derived.Test.YtdilcbocnndkmaaGreatDoorZ7
import Derived.Test.YtdilcbocnndkmaaGreatDoorTie
import Derived.Test.YtdilcbocnndkmaaGreatDoorCards
import Derived.SevenTiedAt
set_option linter.unusedVariables false
set_option linter.unusedSimpArgs false
set_option linter.unusedSectionVars false
namespace Go.Proofs.YtdilcbocnndkmaaGreatDoor
open Go.ChangeShapes Go.WideShapes Go.ChangeAt Go.WideMaps Go.WideElems Go.RowKit
theorem door_drillMatched (os : Os) (args : Array Value) : laidMetH Tryz.prog Rows.drillMatchedRow.laid ((World.doorLaid Tryz.prog 400 os).forCall (fun _ _ => 0) ⟨#[], args, []⟩).memory :=
  laidMetH_of_parts3 (fuel := 8) (laidMet_of_run' 8 (by kernel_rfl) (by kernel_rfl)) (by kernel_rfl) (by kernel_rfl)
theorem post_drillMatched {H : Type} {enc : TypeId × Value → H} {W W' : World} {args : Array Value} {ds : List (DataW H)} {before : List MemPlace} (hds : Rows.drillMatchedSpec.fn H ds = { results := [.lit (.bool true)], args := ds })
    (hW : DataW.Whole enc Tryz.prog Tryz.f5.params.toList Rows.drillMatchedSpec.vars false W args.toList ds [] before)
    (hargs : ∀ sp : Nat → Bool, (∀ p ∈ before, sp p.block = true) → DataW.TrodAll enc Tryz.prog W' 0 sp true Tryz.f5.params.toList args.toList ds before) (hb : Below W.heap.size W W') :
    Rows.drillMatchedSpec.post enc Tryz.prog Tryz.f5 false true false false W args (.bool true) W' := by
  refine ⟨ds, [], before, [], before, [], hW, ?_, ?_, ?_, World.keptBut_mono (fun p hp => ⟨hp, .inr (.inl hp)⟩) (hb.frame (· ∈ before)), fun h => by cases h⟩
  · rw [List.append_nil, hds]; exact trodAll_mk1 (shut_bool Tryz.underlying4 true)
  · rw [List.append_nil, hds]; exact hargs _ (fun p hp => by simpa using hW.lt p hp)
  · rw [List.append_nil, hds]; rfl
set_option maxRecDepth 100000 in
theorem lifted_drillMatched (os : Os) (started : os.Started) (H : Type) (enc : TypeId × Value → H) :
    ReturnsInHanded {} Tryz.checked os 5 .any (fun w args => (Rows.drillMatchedSpec.pre enc Tryz.prog Tryz.f5 [] false w args ∧ laidMetH Tryz.prog Rows.drillMatchedRow.laid w) ∧ sizedMet enc Tryz.prog Tryz.f5 (OpenSpec.ofChange Rows.drillMatchedSpec) false w args)
      (Rows.drillMatchedSpec.post enc Tryz.prog Tryz.f5 false true false false) := by
  refine returnsInHanded_of_change_and (C := Tryz.checked) (X := fun w _ => laidMetH Tryz.prog Rows.drillMatchedRow.laid w) (fun _ _ _ hh h => h.of_heap hh) own started (by kernel_rfl) Tryz.func5
    (ChangeSpec.witness_shaped (enc := enc) (C := Tryz.checked) (os := os) (X := fun w _ => laidMetH Tryz.prog Rows.drillMatchedRow.laid w) false (World.doorLaid Tryz.prog 400 os) #[.agg #[.slice none 0 0, .int .i64 0], .slice none 0 0, .int .i64 0, .slice none 0 0] 8 rfl (World.shaped_of_RefB (by kernel_rfl) (by kernel_rfl)) (by kernel_rfl) (by kernel_rfl) (by kernel_rfl) (door_drillMatched os _)) ?_
  intro W base args ds gs before hval0 hW _ _ hL _
  have hval : ∀ (j : Nat) t v, Tryz.f5.params[j]? = some t → args[j]? = some v → Value.okWide Tryz.prog W .any base t v := hval0
  have hW' := hW
  obtain ⟨p, q, hA0, hV, rfl, hfz, hnd⟩ := hW
  have hA : DataW.TrodAll enc Tryz.prog W 0 (fun _ => true) true Tryz.f5.params.toList args.toList ds p := hA0
  rw [Tryz.params5] at hA hval
  obtain ⟨v0, v1, v2, v3, d0, d1, d2, d3, p0, p1, p2, p3, rfl, rfl, rfl, h0, h1, h2, h3⟩ := trodAll_four hA
  obtain ⟨rfl, rfl⟩ := trodVars_none hV
  obtain ⟨a0, n0, c0, r0, X0, Y0, rfl, m0, q0⟩ := meas_of (hval 0 24 v0 rfl rfl) h0
  obtain ⟨a1, n1, c1, X1, Y1, rfl, m1, q1⟩ := psc_of (hval 1 22 v1 rfl rfl) h1
  obtain ⟨t2, rfl, rfl, rfl, wt2⟩ := open_int Tryz.underlying3 (hval 2 3 v2 rfl rfl) h2
  obtain ⟨a3, n3, c3, F3, rfl, m3, q3⟩ := intsl_of (hval 3 34 v3 rfl rfl) h3
  simp only [List.append_nil, List.nil_append] at hW'
  have hk : KG W := of_laid hL
  refine (matched_all m0 m1 m3 hk q0 q1 q3).mono fun e W' ⟨he, hb⟩ => ?_
  subst he
  refine ⟨_, rfl, post_drillMatched rfl hW' (fun sp hsp => ?_) hb⟩
  have h2 := trodAll_cons_mk ((Trod_stays laidOut (by kernel_rfl) (of_decide_eq_true (by kernel_rfl)) h0 (fun x hx => hb.same (hW'.lt x (by simp [hx]))) fun x hx => hsp x (by simp [hx]))) (trodAll_mk3 ((Trod_stays laidOut (by kernel_rfl) (of_decide_eq_true (by kernel_rfl)) h1 (fun x hx => hb.same (hW'.lt x (by simp [hx]))) fun x hx => hsp x (by simp [hx]))) (shut_int (enc := enc) (w := W') (spare := sp) Tryz.underlying3 wt2) ((Trod_stays laidOut (by kernel_rfl) (of_decide_eq_true (by kernel_rfl)) h3 (fun x hx => hb.same (hW'.lt x (by simp [hx]))) fun x hx => hsp x (by simp [hx]))))
  try simp only [List.append_nil, List.nil_append, ← List.append_assoc] at h2
  exact h2
theorem drillMatched_holds : Rows.DrillMatchedSaid :=
  OpenClaim.holds_of_wide 5 Tryz.f5 rfl rfl rfl rfl rfl rfl rfl ⟨rfl, rfl, rfl, rfl, rfl⟩ rfl rfl rfl rfl rfl (by kernel_rfl) Tryz.func5 (by kernel_rfl)
    (of_decide_eq_true (by kernel_rfl)) (by unfold Func.isWrapper; first | (rw [if_pos (by decide +kernel)]; kernel_rfl) | (rw [if_neg (by decide +kernel)]; exact ⟨rfl, rfl⟩))
    (fun os started H enc _ => lifted_drillMatched os started H enc)
theorem drillMatched_card : Rows.DrillMatchedCardSaid :=
  Claim7.holds_tied_plain_at .later [] [.data, .data, .data, .data] true (true, "813a5675d849eaafeb747d3fa5c46e7d75d56a622b35da9a847a66ef4fb2b2dd") true
    drillMatched_holds (fun _ h => by cases h) (by kernel_rfl) (fun _ h => by cases h) drillMatched_row_tie rfl ⟨rfl, rfl⟩ (by kernel_rfl) rfl
    (fun f fn hf hfn => by
      obtain rfl : f = 5 := Option.some.inj ((show Tryz.prog.funcNamed "nacre/nacrelaw02.DrillMatched" = some 5 by kernel_rfl).symm.trans hf) |>.symm
      obtain rfl : fn = Tryz.f5 := (Option.some.inj (Tryz.func5.symm.trans hfn)).symm
      exact ⟨by kernel_rfl, fun j t ht => by
        rw [Tryz.params5] at ht
        have hm : t ∈ [24, 22, 3, 34] := by simpa using Array.mem_of_getElem? ht
        have hall : ([24, 22, 3, 34].all fun u => !Tryz.prog.wantsStandIn u) = true := by kernel_rfl
        exact (show Tryz.prog.wantsStandIn t = false by simpa using List.all_eq_true.1 hall t hm)⟩)
    (by kernel_rfl)
#print axioms drillMatched_card
end Go.Proofs.YtdilcbocnndkmaaGreatDoor
