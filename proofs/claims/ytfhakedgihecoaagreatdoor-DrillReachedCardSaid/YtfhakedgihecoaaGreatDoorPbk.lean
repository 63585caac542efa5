/- The statement DrillReached of the layer drill: for every machine, and in whatever memory, the law returns true and leaves its argument as it was. Conditions: the four listed package-level variables hold what the text of the program lays (the card ties them to it); otherwise none beyond the row's own. -/
import Derived.Test.YtfhakedgihecoaaGreatDoorPbj
import Derived.Test.YtfhakedgihecoaaGreatDoorTie
import Derived.Test.YtfhakedgihecoaaGreatDoorCards
import Derived.SevenTiedAt
set_option linter.unusedVariables false
set_option linter.unusedSimpArgs false
set_option linter.unusedSectionVars false
namespace Go.Proofs.YtfhakedgihecoaaGreatDoor
open Go.ChangeShapes Go.WideShapes Go.ChangeAt Go.WideMaps Go.WideElems Go.RowKit
theorem door_drillReached (os : Os) (args : Array Value) : laidMetH Tryz.prog Rows.drillReachedRow.laid ((World.doorLaid Tryz.prog 400 os).forCall (fun _ _ => 0) ⟨#[], args, []⟩).memory :=
  laidMetH_of_parts3 (fuel := 8) (laidMet_of_run' 8 (by kernel_rfl) (by kernel_rfl)) (by kernel_rfl) (by kernel_rfl)
theorem post_drillReached {H : Type} {enc : TypeId × Value → H} {W W' : World} {args : Array Value} {ds : List (DataW H)} {before : List MemPlace} (hds : Rows.drillReachedSpec.fn H ds = { results := [.lit (.bool true)], args := ds })
    (hW : DataW.Whole enc Tryz.prog Tryz.f6.params.toList Rows.drillReachedSpec.vars false W args.toList ds [] before)
    (hargs : ∀ sp : Nat → Bool, (∀ p ∈ before, sp p.block = true) → DataW.TrodAll enc Tryz.prog W' 0 sp true Tryz.f6.params.toList args.toList ds before) (hb : Below W.heap.size W W') :
    Rows.drillReachedSpec.post enc Tryz.prog Tryz.f6 false true false false W args (.bool true) W' := by
  refine ⟨ds, [], before, [], before, [], hW, ?_, ?_, ?_, World.keptBut_mono (fun p hp => ⟨hp, .inr (.inl hp)⟩) (hb.frame (· ∈ before)), fun h => by cases h⟩
  · rw [List.append_nil, hds]; exact trodAll_mk1 (shut_bool Tryz.underlying4 true)
  · rw [List.append_nil, hds]; exact hargs _ (fun p hp => by simpa using hW.lt p hp)
  · rw [List.append_nil, hds]; rfl
set_option maxRecDepth 100000 in
theorem lifted_drillReached (os : Os) (started : os.Started) (H : Type) (enc : TypeId × Value → H) :
    ReturnsInHanded {} Tryz.checked os 6 .any (fun w args => (Rows.drillReachedSpec.pre enc Tryz.prog Tryz.f6 [] false w args ∧ laidMetH Tryz.prog Rows.drillReachedRow.laid w) ∧ sizedMet enc Tryz.prog Tryz.f6 (OpenSpec.ofChange Rows.drillReachedSpec) false w args)
      (Rows.drillReachedSpec.post enc Tryz.prog Tryz.f6 false true false false) := by
  refine returnsInHanded_of_change_and (C := Tryz.checked) (X := fun w _ => laidMetH Tryz.prog Rows.drillReachedRow.laid w) (fun _ _ _ hh h => h.of_heap hh) own started (by kernel_rfl) Tryz.func6
    (ChangeSpec.witness_shaped (enc := enc) (C := Tryz.checked) (os := os) (X := fun w _ => laidMetH Tryz.prog Rows.drillReachedRow.laid w) false (World.doorLaid Tryz.prog 400 os) #[.agg #[.slice none 0 0, .int .i64 0, .int .i64 0, .int .i64 0, .int .i64 0, .int .i64 0, .int .i64 0, .int .i64 0, .int .i64 0, .slice none 0 0]] 8 rfl (World.shaped_of_RefB (by kernel_rfl) (by kernel_rfl)) (by kernel_rfl) (by kernel_rfl) (by kernel_rfl) (door_drillReached os _)) ?_
  intro W base args ds gs before hval0 hW _ _ hL _
  have hval : ∀ (j : Nat) t v, Tryz.f6.params[j]? = some t → args[j]? = some v → Value.okWide Tryz.prog W .any base t v := hval0
  have hW' := hW
  obtain ⟨p, q, hA0, hV, rfl, hfz, hnd⟩ := hW
  have hA : DataW.TrodAll enc Tryz.prog W 0 (fun _ => true) true Tryz.f6.params.toList args.toList ds p := hA0
  rw [Tryz.params6] at hA hval
  obtain ⟨v0, d0, rfl, rfl, h0⟩ := trodAll_one hA
  obtain ⟨rfl, rfl⟩ := trodVars_none hV
  obtain ⟨a0_0, n0_0, c0_0, F0_0, x1_0, z1_0, x2_0, z2_0, x3_0, z3_0, x4_0, z4_0, a5_0, n5_0, c5_0, F5_0, rfl, ⟨m0_0, l0_0, s0_0⟩, ⟨m5_0, l5_0, s5_0⟩⟩ := open_mach (hval 0 27 v0 rfl rfl) h0
  simp only [List.append_nil, List.nil_append] at hW'
  have hk : KG W := of_laid hL
  refine (reached_all (m := machK a0_0 n0_0 c0_0 F0_0 x1_0 z1_0 x2_0 z2_0 x3_0 z3_0 x4_0 z4_0 a5_0 n5_0 c5_0 F5_0) hk m0_0 m5_0 (min_of_k s0_0 s5_0)).mono fun e W' ⟨he, hb⟩ => ?_
  subst he
  refine ⟨_, rfl, post_drillReached rfl hW' (fun sp hsp => ?_) hb⟩
  have h2 := trodAll_mk1 ((Trod_stays laidOut (by kernel_rfl) (of_decide_eq_true (by kernel_rfl)) h0 (fun x hx => hb.same (hW'.lt x (by simp [hx]))) fun x hx => hsp x (by simp [hx])))
  try simp only [List.append_nil, List.nil_append, ← List.append_assoc] at h2
  exact h2
theorem drillReached_holds : Rows.DrillReachedSaid :=
  OpenClaim.holds_of_wide 6 Tryz.f6 rfl rfl rfl rfl rfl rfl rfl ⟨rfl, rfl, rfl, rfl, rfl⟩ rfl rfl rfl rfl rfl (by kernel_rfl) Tryz.func6 (by kernel_rfl)
    (of_decide_eq_true (by kernel_rfl)) (by unfold Func.isWrapper; first | (rw [if_pos (by decide +kernel)]; kernel_rfl) | (rw [if_neg (by decide +kernel)]; exact ⟨rfl, rfl⟩))
    (fun os started H enc _ => lifted_drillReached os started H enc)
theorem drillReached_card : Rows.DrillReachedCardSaid :=
  Claim7.holds_tied_plain_at .later [] [.data, .data, .data, .data] true (true, "fec1dea2a956d5cdc4d40c0a0d4fc1bd6f2e3601412957072a360c58d5db493d") true
    drillReached_holds (fun _ h => by cases h) (by kernel_rfl) (fun _ h => by cases h) drillReached_row_tie rfl ⟨rfl, rfl⟩ (by kernel_rfl) rfl
    (fun f fn hf hfn => by
      obtain rfl : f = 6 := Option.some.inj ((show Tryz.prog.funcNamed "nacre/nacrelaw02.DrillReached" = some 6 by kernel_rfl).symm.trans hf) |>.symm
      obtain rfl : fn = Tryz.f6 := (Option.some.inj (Tryz.func6.symm.trans hfn)).symm
      exact ⟨by kernel_rfl, fun j t ht => by
        rw [Tryz.params6] at ht
        have hm : t ∈ [27] := by simpa using Array.mem_of_getElem? ht
        have hall : ([27].all fun u => !Tryz.prog.wantsStandIn u) = true := by kernel_rfl
        exact (show Tryz.prog.wantsStandIn t = false by simpa using List.all_eq_true.1 hall t hm)⟩)
    (by kernel_rfl)
#print axioms drillReached_card
end Go.Proofs.YtfhakedgihecoaaGreatDoor
