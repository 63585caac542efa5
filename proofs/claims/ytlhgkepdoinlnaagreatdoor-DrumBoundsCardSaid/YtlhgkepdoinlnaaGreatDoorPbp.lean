/- For every drum, everything proposed as a truth and every number of hours: whatever is true of a drum, the program tells each batch to be as rough and as thick as its bounds allow, and an hour more never makes it rougher or thicker; lists that are somewhat too long at most. -/
import Derived.Test.YtlhgkepdoinlnaaGreatDoorPbn
import Derived.Test.YtlhgkepdoinlnaaGreatDoorPbo
import Derived.Test.YtlhgkepdoinlnaaGreatDoorTie
import Derived.Test.YtlhgkepdoinlnaaGreatDoorCards
import Derived.SevenTiedAt
import Derived.Lay
set_option linter.unusedVariables false
set_option linter.unusedSimpArgs false
set_option linter.unusedSectionVars false
namespace Go.Proofs.YtlhgkepdoinlnaaGreatDoor
open Go.ChangeShapes Go.WideShapes Go.ChangeAt Go.WideMaps Go.WideElems Go.RowKit
theorem post_drumBounds {H : Type} {enc : TypeId × Value → H} {W W' : World} {args : Array Value} {ds : List (DataW H)} {before : List MemPlace} (hds : Rows.drumBoundsSpec.fn H ds = { results := [.lit (.bool true)], args := ds })
  (hW : DataW.Whole enc Tryz.prog Tryz.f8.params.toList Rows.drumBoundsSpec.vars false W args.toList ds [] before)
  (hargs : ∀ sp : Nat → Bool, (∀ p ∈ before, sp p.block = true) → DataW.TrodAll enc Tryz.prog W' 0 sp true Tryz.f8.params.toList args.toList ds before) (hb : Below W.heap.size W W') :
  Rows.drumBoundsSpec.post enc Tryz.prog Tryz.f8 false true false false W args (.bool true) W' := by
 refine ⟨ds, [], before, [], before, [], hW, ?_, ?_, ?_, World.keptBut_mono (fun p hp => ⟨hp, .inr (.inl hp)⟩) (hb.frame (· ∈ before)), fun h => by cases h⟩
 ·rw [List.append_nil, hds]; exact trodAll_mk1 (shut_bool Tryz.underlying4 true)
 ·rw [List.append_nil, hds]; exact hargs _ (fun p hp => by simpa using hW.lt p hp)
 ·rw [List.append_nil, hds]; rfl
set_option maxRecDepth 100000 in
theorem lifted_drumBounds (os : Os) (started : os.Started) (H : Type) (enc : TypeId × Value → H) :
  ReturnsInHanded {} Tryz.checked os 8 .any (fun w args => (Rows.drumBoundsSpec.pre enc Tryz.prog Tryz.f8 [] false w args ∧ laidMetH Tryz.prog Rows.drumBoundsRow.laid w) ∧ sizedMet enc Tryz.prog Tryz.f8 (OpenSpec.ofChange Rows.drumBoundsSpec) false w args)
   (Rows.drumBoundsSpec.post enc Tryz.prog Tryz.f8 false true false false) := by
 refine returnsInHanded_of_change_and (C := Tryz.checked) (X := fun w _ => laidMetH Tryz.prog Rows.drumBoundsRow.laid w) (fun _ _ _ hh h => h.of_heap hh) own started (by kernel_rfl) Tryz.func8
  (ChangeSpec.witness_shaped (enc := enc) (C := Tryz.checked) (os := os) (X := fun w _ => laidMetH Tryz.prog Rows.drumBoundsRow.laid w) false (World.laidAll Tryz.prog os Rows.drumBoundsRow.laid) #[.agg #[.slice none 0 0, .int .i64 0, .int .i64 0, .slice none 0 0, .slice none 0 0, .slice none 0 0], .agg #[.int .i64 0, .slice none 0 0], .int .i64 0] 8 (World.laidAll_os _ _ _) (World.shaped_of_ZipB (by kernel_rfl) (by kernel_rfl)) (by kernel_rfl) (by kernel_rfl) (by kernel_rfl) (by rw [MakeChecks.laidMetH_plain _ _ _ (by kernel_rfl)]; exact laidMet_laidAll _ (by kernel_rfl) (by kernel_rfl))) ?_
 intro W base args ds gs before hval0 hW _ _ hL _
 have hval : ∀ (j : Nat) t v, Tryz.f8.params[j]? = some t → args[j]? = some v → Value.okWide Tryz.prog W .any base t v := hval0
 have hW' := hW
 obtain ⟨p, q, hA0, hV, rfl, hfz, hnd⟩ := hW
 have hA : DataW.TrodAll enc Tryz.prog W 0 (fun _ => true) true Tryz.f8.params.toList args.toList ds p := hA0
 rw [Tryz.params8] at hA hval
 obtain ⟨v0, v1, v2, d0, d1, d2, p0, p1, p2, rfl, rfl, rfl, h0, h1, h2⟩ := trodAll_three hA
 obtain ⟨rfl, rfl⟩ := trodVars_none hV
 obtain ⟨a0_0, n0_0, c0_0, F0_0, x1_0, x2_0, a3_0, n3_0, c3_0, F3_0, a4_0, n4_0, c4_0, F4_0, a5_0, n5_0, c5_0, F5_0, rfl, ⟨m0_0, l0_0, s0_0⟩, ⟨m3_0, l3_0, s3_0⟩, ⟨m4_0, l4_0, s4_0⟩, ⟨m5_0, l5_0, s5_0⟩⟩ := open_drum (hval 0 27 v0 rfl rfl) h0
 obtain ⟨x0_1, a1_1, n1_1, c1_1, F1_1, rfl, ⟨m1_1, l1_1, s1_1⟩⟩ := open_truth (hval 1 29 v1 rfl rfl) h1
 obtain ⟨t2, rfl, rfl, rfl, wt2⟩ := open_int Tryz.underlying3 (hval 2 3 v2 rfl rfl) h2
 simp only [List.append_nil, List.nil_append] at hW'
 have hk : KG W := of_laid hL
 refine (bounds_all (d := ⟨a0_0, n0_0, c0_0, F0_0, x1_0, x2_0, a3_0, n3_0, c3_0, F3_0, a4_0, n4_0, c4_0, F4_0, a5_0, n5_0, c5_0, F5_0⟩) (t := ⟨x0_1, a1_1, n1_1, c1_1, F1_1⟩) (hours := t2) hk ⟨s0_0, s3_0, s4_0, s5_0⟩ ⟨m0_0, m3_0, m4_0, m5_0⟩ m1_1 l1_1 s1_1).mono fun e W' ⟨he, hb⟩ => ?_
 subst he
 refine ⟨_, rfl, post_drumBounds rfl hW' (fun sp hsp => ?_) hb⟩
 have h2 := trodAll_mk3 ((Trod_stays laidOut (by kernel_rfl) (of_decide_eq_true (by kernel_rfl)) h0 (fun x hx => hb.same (hW'.lt x (by simp [hx]))) fun x hx => hsp x (by simp [hx]))) ((Trod_stays laidOut (by kernel_rfl) (of_decide_eq_true (by kernel_rfl)) h1 (fun x hx => hb.same (hW'.lt x (by simp [hx]))) fun x hx => hsp x (by simp [hx]))) (shut_int (enc := enc) (w := W') (spare := sp) Tryz.underlying3 wt2)
 try simp only [List.append_nil, List.nil_append, ← List.append_assoc] at h2
 exact h2
theorem drumBounds_holds : Rows.DrumBoundsSaid :=
 OpenClaim.holds_of_wide 8 Tryz.f8 rfl rfl rfl rfl rfl rfl rfl ⟨rfl, rfl, rfl, rfl, rfl⟩ rfl rfl rfl rfl rfl (by kernel_rfl) Tryz.func8 (by kernel_rfl)
  (of_decide_eq_true (by kernel_rfl)) (by unfold Func.isWrapper; first | (rw [if_pos (by decide +kernel)]; kernel_rfl) | (rw [if_neg (by decide +kernel)]; exact ⟨rfl, rfl⟩))
  (fun os started H enc _ => lifted_drumBounds os started H enc)
theorem drumBounds_card : Rows.DrumBoundsCardSaid :=
 Claim7.holds_tied_plain_at .later [] [.data, .data, .data, .data, .data, .pinned] true (true, "4e297ead87de5c7f51e5a0579b6e95bb26c673b3e08e871f7f83af77ffd84a1e") true
  drumBounds_holds (fun _ h => by cases h) (by kernel_rfl) (fun _ h => by cases h) drumBounds_row_tie rfl ⟨rfl, rfl⟩ (by kernel_rfl) rfl
  (fun f fn hf hfn => by
   obtain rfl : f = 8 := Option.some.inj ((show Tryz.prog.funcNamed "nacre/nacrelaw03.DrumBounds" = some 8 by kernel_rfl).symm.trans hf) |>.symm
   obtain rfl : fn = Tryz.f8 := (Option.some.inj (Tryz.func8.symm.trans hfn)).symm
   exact ⟨by kernel_rfl, fun j t ht => by
    rw [Tryz.params8] at ht
    have hm : t ∈ [27, 29, 3] := by simpa using Array.mem_of_getElem? ht
    have hall : ([27, 29, 3].all fun u => !Tryz.prog.wantsStandIn u) = true := by kernel_rfl
    exact (show Tryz.prog.wantsStandIn t = false by simpa using List.all_eq_true.1 hall t hm)⟩)
  (by kernel_rfl)
#print axioms drumBounds_card
end Go.Proofs.YtlhgkepdoinlnaaGreatDoor
