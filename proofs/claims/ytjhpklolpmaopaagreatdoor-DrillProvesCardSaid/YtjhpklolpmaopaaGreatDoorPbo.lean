/- DrillProves returns true for every machine, button, blank at and blank: what Proves returns, spans or an error, is what the document's own answer is. -/
import Derived.Test.YtjhpklolpmaopaaGreatDoorPbm
import Derived.Test.YtjhpklolpmaopaaGreatDoorPbn
import Derived.Test.YtjhpklolpmaopaaGreatDoorTie
import Derived.Test.YtjhpklolpmaopaaGreatDoorCards
import Derived.SevenTiedAt
set_option linter.unusedVariables false
set_option linter.unusedSimpArgs false
set_option linter.unusedSectionVars false
namespace Go.Proofs.YtjhpklolpmaopaaGreatDoor
open Go.ChangeShapes Go.WideShapes Go.ChangeAt Go.WideMaps Go.WideElems Go.RowKit
theorem door_drillProves (os : Os) (args : Array Value) : laidMetH Tryz.prog Rows.drillProvesRow.laid ((World.doorLaid Tryz.prog 400 os).forCall (fun _ _ => 0) ⟨#[], args, []⟩).memory :=
 laidMetH_of_parts3 (fuel := 8) (laidMet_of_run' 8 (by kernel_rfl) (by kernel_rfl)) (by kernel_rfl) (by kernel_rfl)
theorem post_drillProves {H : Type} {enc : TypeId × Value → H} {W W' : World} {args : Array Value} {ds : List (DataW H)} {before : List MemPlace} (hds : Rows.drillProvesSpec.fn H ds = { results := [.lit (.bool true)], args := ds })
  (hW : DataW.Whole enc Tryz.prog Tryz.f4.params.toList Rows.drillProvesSpec.vars false W args.toList ds [] before)
  (hargs : ∀ sp : Nat → Bool, (∀ p ∈ before, sp p.block = true) → DataW.TrodAll enc Tryz.prog W' 0 sp true Tryz.f4.params.toList args.toList ds before) (hb : Below W.heap.size W W') :
  Rows.drillProvesSpec.post enc Tryz.prog Tryz.f4 false true false false W args (.bool true) W' := by
 refine ⟨ds, [], before, [], before, [], hW, ?_, ?_, ?_, World.keptBut_mono (fun p hp => ⟨hp, .inr (.inl hp)⟩) (hb.frame (· ∈ before)), fun h => by cases h⟩
 ·rw [List.append_nil, hds]; exact trodAll_mk1 (shut_bool Tryz.underlying4 true)
 ·rw [List.append_nil, hds]; exact hargs _ (fun p hp => by simpa using hW.lt p hp)
 ·rw [List.append_nil, hds]; rfl
set_option maxRecDepth 100000 in
theorem lifted_drillProves (os : Os) (started : os.Started) (H : Type) (enc : TypeId × Value → H) :
  ReturnsInHanded {} Tryz.checked os 4 .any (fun w args => (Rows.drillProvesSpec.pre enc Tryz.prog Tryz.f4 [] false w args ∧ laidMetH Tryz.prog Rows.drillProvesRow.laid w) ∧ sizedMet enc Tryz.prog Tryz.f4 (OpenSpec.ofChange Rows.drillProvesSpec) false w args)
   (Rows.drillProvesSpec.post enc Tryz.prog Tryz.f4 false true false false) := by
 refine returnsInHanded_of_change_and (C := Tryz.checked) (X := fun w _ => laidMetH Tryz.prog Rows.drillProvesRow.laid w) (fun _ _ _ hh h => h.of_heap hh) own started (by kernel_rfl) Tryz.func4
  (ChangeSpec.witness_shaped (enc := enc) (C := Tryz.checked) (os := os) (X := fun w _ => laidMetH Tryz.prog Rows.drillProvesRow.laid w) false (World.doorLaid Tryz.prog 400 os) #[.agg #[.slice none 0 0, .int .i64 0, .int .i64 0, .int .i64 0, .int .i64 0, .int .i64 0, .int .i64 0, .int .i64 0, .int .i64 0, .slice none 0 0], .agg #[.slice none 0 0, .int .i64 0], .int .i64 0, .int .i64 0] 8 rfl (World.shaped_of_RefB (by kernel_rfl) (by kernel_rfl)) (by kernel_rfl) (by kernel_rfl) (by kernel_rfl) (door_drillProves os _)) ?_
 intro W base args ds gs before hval0 hW _ _ hL _
 have hval : ∀ (j : Nat) t v, Tryz.f4.params[j]? = some t → args[j]? = some v → Value.okWide Tryz.prog W .any base t v := hval0
 have hW' := hW
 obtain ⟨p, q, hA0, hV, rfl, hfz, hnd⟩ := hW
 have hA : DataW.TrodAll enc Tryz.prog W 0 (fun _ => true) true Tryz.f4.params.toList args.toList ds p := hA0
 rw [Tryz.params4] at hA hval
 obtain ⟨v0, v1, v2, v3, d0, d1, d2, d3, p0, p1, p2, p3, rfl, rfl, rfl, h0, h1, h2, h3⟩ := trodAll_four hA
 obtain ⟨rfl, rfl⟩ := trodVars_none hV
 obtain ⟨a0_0, n0_0, c0_0, F0_0, x1_0, z1_0, x2_0, z2_0, x3_0, z3_0, x4_0, z4_0, a5_0, n5_0, c5_0, F5_0, rfl, ⟨m0_0, l0_0, s0_0⟩, ⟨m5_0, l5_0, s5_0⟩⟩ := open_mach (hval 0 27 v0 rfl rfl) h0
 obtain ⟨a0_1, n0_1, c0_1, F0_1, x1_1, rfl, ⟨m0_1, l0_1, s0_1⟩⟩ := open_but (hval 1 41 v1 rfl rfl) h1
 obtain ⟨t2, rfl, rfl, rfl, wt2⟩ := open_int Tryz.underlying3 (hval 2 3 v2 rfl rfl) h2
 obtain ⟨t3, rfl, rfl, rfl, wt3⟩ := open_int Tryz.underlying3 (hval 3 3 v3 rfl rfl) h3
 simp only [List.append_nil, List.nil_append] at hW'
 have hk : KG W := of_laid hL
 refine (proves_all (m := machK a0_0 n0_0 c0_0 F0_0 x1_0 z1_0 x2_0 z2_0 x3_0 z3_0 x4_0 z4_0 a5_0 n5_0 c5_0 F5_0) hk m0_1 m0_0 m5_0 (min_of_k s0_0 s5_0) (psl_of_k s0_1)).mono fun e W' ⟨he, hb⟩ => ?_
 subst he
 refine ⟨_, rfl, post_drillProves rfl hW' (fun sp hsp => ?_) hb⟩
 have h2 := trodAll_cons_mk ((Trod_stays laidOut (by kernel_rfl) (of_decide_eq_true (by kernel_rfl)) h0 (fun x hx => hb.same (hW'.lt x (by simp [hx]))) fun x hx => hsp x (by simp [hx]))) (trodAll_mk3 ((Trod_stays laidOut (by kernel_rfl) (of_decide_eq_true (by kernel_rfl)) h1 (fun x hx => hb.same (hW'.lt x (by simp [hx]))) fun x hx => hsp x (by simp [hx]))) (shut_int (enc := enc) (w := W') (spare := sp) Tryz.underlying3 wt2) (shut_int (enc := enc) (w := W') (spare := sp) Tryz.underlying3 wt3))
 try simp only [List.append_nil, List.nil_append, ← List.append_assoc] at h2
 exact h2
theorem drillProves_holds : Rows.DrillProvesSaid :=
 OpenClaim.holds_of_wide 4 Tryz.f4 rfl rfl rfl rfl rfl rfl rfl ⟨rfl, rfl, rfl, rfl, rfl⟩ rfl rfl rfl rfl rfl (by kernel_rfl) Tryz.func4 (by kernel_rfl)
  (of_decide_eq_true (by kernel_rfl)) (by unfold Func.isWrapper; first | (rw [if_pos (by decide +kernel)]; kernel_rfl) | (rw [if_neg (by decide +kernel)]; exact ⟨rfl, rfl⟩))
  (fun os started H enc _ => lifted_drillProves os started H enc)
theorem drillProves_card : Rows.DrillProvesCardSaid :=
 Claim7.holds_tied_plain_at .later [] [.data, .data, .data, .data] true (true, "6e164690d0854b483fb1296793f3656216820e0673f0c96aa286432aea33af51") true
  drillProves_holds (fun _ h => by cases h) (by kernel_rfl) (fun _ h => by cases h) drillProves_row_tie rfl ⟨rfl, rfl⟩ (by kernel_rfl) rfl
  (fun f fn hf hfn => by
   obtain rfl : f = 4 := Option.some.inj ((show Tryz.prog.funcNamed "nacre/nacrelaw02.DrillProves" = some 4 by kernel_rfl).symm.trans hf) |>.symm
   obtain rfl : fn = Tryz.f4 := (Option.some.inj (Tryz.func4.symm.trans hfn)).symm
   exact ⟨by kernel_rfl, fun j t ht => by
    rw [Tryz.params4] at ht
    have hm : t ∈ [27, 41, 3, 3] := by simpa using Array.mem_of_getElem? ht
    have hall : ([27, 41, 3, 3].all fun u => !Tryz.prog.wantsStandIn u) = true := by kernel_rfl
    exact (show Tryz.prog.wantsStandIn t = false by simpa using List.all_eq_true.1 hall t hm)⟩)
  (by kernel_rfl)
#print axioms drillProves_card
end Go.Proofs.YtjhpklolpmaopaaGreatDoor
