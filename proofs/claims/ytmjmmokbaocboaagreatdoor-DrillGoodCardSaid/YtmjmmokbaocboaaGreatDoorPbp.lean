/- DrillGood: for every measure, machine, truth and number of a blank, and at every start of the program, the statement returns true and changes nothing that was there. -/
import Derived.Test.YtmjmmokbaocboaaGreatDoorPbn
import Derived.Test.YtmjmmokbaocboaaGreatDoorPbo
import Derived.Test.YtmjmmokbaocboaaGreatDoorTie
import Derived.Test.YtmjmmokbaocboaaGreatDoorCards
import Derived.SevenTiedAt
set_option linter.unusedVariables false
set_option linter.unusedSimpArgs false
set_option linter.unusedSectionVars false
namespace Go.Proofs.YtmjmmokbaocboaaGreatDoor
open Go.ChangeShapes Go.WideShapes Go.ChangeAt Go.WideMaps Go.WideElems Go.RowKit
theorem door_drillGood (os : Os) (args : Array Value) : laidMetH Tryz.prog Rows.drillGoodRow.laid ((World.doorLaid Tryz.prog 400 os).forCall (fun _ _ => 0) ⟨#[], args, []⟩).memory :=
  laidMetH_of_parts3 (fuel := 8) (laidMet_of_run' 8 (by kernel_rfl) (by kernel_rfl)) (by kernel_rfl) (by kernel_rfl)
theorem post_drillGood {H : Type} {enc : TypeId × Value → H} {W W' : World} {args : Array Value} {ds : List (DataW H)} {before : List MemPlace} (hds : Rows.drillGoodSpec.fn H ds = { results := [.lit (.bool true)], args := ds })
    (hW : DataW.Whole enc Tryz.prog Tryz.f5.params.toList Rows.drillGoodSpec.vars false W args.toList ds [] before)
    (hargs : ∀ sp : Nat → Bool, (∀ p ∈ before, sp p.block = true) → DataW.TrodAll enc Tryz.prog W' 0 sp true Tryz.f5.params.toList args.toList ds before) (hb : Below W.heap.size W W') :
    Rows.drillGoodSpec.post enc Tryz.prog Tryz.f5 false true false false W args (.bool true) W' := by
  refine ⟨ds, [], before, [], before, [], hW, ?_, ?_, ?_, World.keptBut_mono (fun p hp => ⟨hp, .inr (.inl hp)⟩) (hb.frame (· ∈ before)), fun h => by cases h⟩
  · rw [List.append_nil, hds]; exact trodAll_mk1 (shut_bool Tryz.underlying4 true)
  · rw [List.append_nil, hds]; exact hargs _ (fun p hp => by simpa using hW.lt p hp)
  · rw [List.append_nil, hds]; rfl
set_option maxRecDepth 100000 in
theorem lifted_drillGood (os : Os) (started : os.Started) (H : Type) (enc : TypeId × Value → H) :
    ReturnsInHanded {} Tryz.checked os 5 .any (fun w args => (Rows.drillGoodSpec.pre enc Tryz.prog Tryz.f5 [] false w args ∧ laidMetH Tryz.prog Rows.drillGoodRow.laid w) ∧ sizedMet enc Tryz.prog Tryz.f5 (OpenSpec.ofChange Rows.drillGoodSpec) false w args)
      (Rows.drillGoodSpec.post enc Tryz.prog Tryz.f5 false true false false) := by
  refine returnsInHanded_of_change_and (C := Tryz.checked) (X := fun w _ => laidMetH Tryz.prog Rows.drillGoodRow.laid w) (fun _ _ _ hh h => h.of_heap hh) own started (by kernel_rfl) Tryz.func5
    (ChangeSpec.witness_shaped (enc := enc) (C := Tryz.checked) (os := os) (X := fun w _ => laidMetH Tryz.prog Rows.drillGoodRow.laid w) false (World.doorLaid Tryz.prog 400 os) #[.agg #[.slice none 0 0, .int .i64 0], .agg #[.slice none 0 0, .int .i64 0, .int .i64 0, .int .i64 0, .int .i64 0, .int .i64 0, .int .i64 0, .int .i64 0, .int .i64 0, .slice none 0 0], .agg #[.slice none 0 0, .slice none 0 0], .int .i64 0] 8 rfl (World.shaped_of_RefB (by kernel_rfl) (by kernel_rfl)) (by kernel_rfl) (by kernel_rfl) (by kernel_rfl) (door_drillGood os _)) ?_
  intro W base args ds gs before hval0 hW _ _ hL _
  have hval : ∀ (j : Nat) t v, Tryz.f5.params[j]? = some t → args[j]? = some v → Value.okWide Tryz.prog W .any base t v := hval0
  have hW' := hW
  obtain ⟨p, q, hA0, hV, rfl, hfz, hnd⟩ := hW
  have hA : DataW.TrodAll enc Tryz.prog W 0 (fun _ => true) true Tryz.f5.params.toList args.toList ds p := hA0
  rw [Tryz.params5] at hA hval
  obtain ⟨v0, v1, v2, v3, d0, d1, d2, d3, p0, p1, p2, p3, rfl, rfl, rfl, h0, h1, h2, h3⟩ := trodAll_four hA
  obtain ⟨rfl, rfl⟩ := trodVars_none hV
  obtain ⟨a0_0, n0_0, c0_0, F0_0, x1_0, rfl, ⟨m0_0, l0_0, s0_0⟩⟩ := open_meas (hval 0 24 v0 rfl rfl) h0
  obtain ⟨a0_1, n0_1, c0_1, F0_1, x1_1, z1_1, x2_1, z2_1, x3_1, z3_1, x4_1, z4_1, a5_1, n5_1, c5_1, F5_1, rfl, ⟨m0_1, l0_1, s0_1⟩, ⟨m5_1, l5_1, s5_1⟩⟩ := open_mach (hval 1 29 v1 rfl rfl) h1
  obtain ⟨a0_2, n0_2, c0_2, F0_2, a1_2, n1_2, c1_2, F1_2, rfl, ⟨m0_2, l0_2, s0_2⟩, ⟨m1_2, l1_2, s1_2⟩⟩ := open_truth (hval 2 45 v2 rfl rfl) h2
  obtain ⟨t3, rfl, rfl, rfl, wt3⟩ := open_int Tryz.underlying3 (hval 3 3 v3 rfl rfl) h3
  simp only [List.append_nil, List.nil_append] at hW'
  have hk : KG W := of_laid hL
  refine (good_all (m := machK a0_1 n0_1 c0_1 F0_1 x1_1 z1_1 x2_1 z2_1 x3_1 z3_1 x4_1 z4_1 a5_1 n5_1 c5_1 F5_1) hk m0_0 m0_1 m5_1 m0_2 m1_2 ⟨psl_of_k s0_0, _, _, rfl, l0_0⟩ (min_of_k s0_1 s5_1) (isl_of_k s0_2) (isl_of_k s1_2) l0_2 l1_2).mono fun e W' ⟨he, hb⟩ => ?_
  subst he
  refine ⟨_, rfl, post_drillGood rfl hW' (fun sp hsp => ?_) hb⟩
  have h2 := trodAll_cons_mk ((Trod_stays laidOut (by kernel_rfl) (of_decide_eq_true (by kernel_rfl)) h0 (fun x hx => hb.same (hW'.lt x (by simp [hx]))) fun x hx => hsp x (by simp [hx]))) (trodAll_mk3 ((Trod_stays laidOut (by kernel_rfl) (of_decide_eq_true (by kernel_rfl)) h1 (fun x hx => hb.same (hW'.lt x (by simp [hx]))) fun x hx => hsp x (by simp [hx]))) ((Trod_stays laidOut (by kernel_rfl) (of_decide_eq_true (by kernel_rfl)) h2 (fun x hx => hb.same (hW'.lt x (by simp [hx]))) fun x hx => hsp x (by simp [hx]))) (shut_int (enc := enc) (w := W') (spare := sp) Tryz.underlying3 wt3))
  try simp only [List.append_nil, List.nil_append, ← List.append_assoc] at h2
  exact h2
theorem drillGood_holds : Rows.DrillGoodSaid :=
  OpenClaim.holds_of_wide 5 Tryz.f5 rfl rfl rfl rfl rfl rfl rfl ⟨rfl, rfl, rfl, rfl, rfl⟩ rfl rfl rfl rfl rfl (by kernel_rfl) Tryz.func5 (by kernel_rfl)
    (of_decide_eq_true (by kernel_rfl)) (by unfold Func.isWrapper; first | (rw [if_pos (by decide +kernel)]; kernel_rfl) | (rw [if_neg (by decide +kernel)]; exact ⟨rfl, rfl⟩))
    (fun os started H enc _ => lifted_drillGood os started H enc)
theorem drillGood_card : Rows.DrillGoodCardSaid :=
  Claim7.holds_tied_plain_at .later [] [.data, .data, .data, .data] true (true, "fd1f5cf0d6e7c02fd29c462d3809f5f555da0fe87736a7186db13ee02685eeab") true
    drillGood_holds (fun _ h => by cases h) (by kernel_rfl) (fun _ h => by cases h) drillGood_row_tie rfl ⟨rfl, rfl⟩ (by kernel_rfl) rfl
    (fun f fn hf hfn => by
      obtain rfl : f = 5 := Option.some.inj ((show Tryz.prog.funcNamed "nacre/nacrelaw02.DrillGood" = some 5 by kernel_rfl).symm.trans hf) |>.symm
      obtain rfl : fn = Tryz.f5 := (Option.some.inj (Tryz.func5.symm.trans hfn)).symm
      exact ⟨by kernel_rfl, fun j t ht => by
        rw [Tryz.params5] at ht
        have hm : t ∈ [24, 29, 45, 3] := by simpa using Array.mem_of_getElem? ht
        have hall : ([24, 29, 45, 3].all fun u => !Tryz.prog.wantsStandIn u) = true := by kernel_rfl
        exact (show Tryz.prog.wantsStandIn t = false by simpa using List.all_eq_true.1 hall t hm)⟩)
    (by kernel_rfl)
#print axioms drillGood_card
end Go.Proofs.YtmjmmokbaocboaaGreatDoor
