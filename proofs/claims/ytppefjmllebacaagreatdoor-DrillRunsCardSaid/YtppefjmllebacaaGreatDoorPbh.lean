/- A part of the proof: see the last file. -/
import Derived.Test.YtppefjmllebacaaGreatDoorPal
import Derived.Test.YtppefjmllebacaaGreatDoorPbg
set_option linter.unusedVariables false
set_option linter.unusedSimpArgs false
set_option linter.unusedSectionVars false
namespace Go.Proofs.YtppefjmllebacaaGreatDoor
open Go.RowKit
theorem PoR.two {w W : World} {m : Mach} (h : PoR w m W) (o1 o2 : Obj) : PoR w m ((W.alloc o1).alloc o2) :=
  (h.below ((Below.refl _ W).alloc (Nat.le_refl _) o1)).below ((Below.refl _ _).alloc (Nat.le_refl _) o2)
theorem AB.two {W : World} {s : Nat} {x0 x1 z0 z1 : Int} (h : AB W s x0 x1 z0 z1) (o1 o2 : Obj) : AB ((W.alloc o1).alloc o2) s x0 x1 z0 z1 :=
  (h.below ((Below.refl _ W).alloc (Nat.le_refl _) o1)).below ((Below.refl _ _).alloc (Nat.le_refl _) o2)
theorem PoR.new (w : World) (m : Mach) : PoR w m (w.alloc (.cells #[.slice m.sa m.sn m.sc, .int .i64 m.c0, .int .i64 m.c1, .int .i64 m.d0, .int .i64 m.d1, .int .i64 m.w0, .int .i64 m.w1, .int .i64 m.v0, .int .i64 m.v1, .slice m.ra m.rn m.rc] 27)) :=
  ⟨MAt.new w m, (Below.refl _ _).alloc (Nat.le_refl _) _, by rw [World.size_alloc]; omega⟩
set_option maxRecDepth 100000 in
set_option maxHeartbeats 4000000 in
theorem able_any (m : Mach) (er : Int) (hA : Able m true er) (w : World) (hs : m.sn ≤ 1000) (hr : m.rn ≤ 1000) (h : MIn w m) :
    Calls Tryz.prog 9 #[m.val] w fun e w' => e = .returned (.int .i64 er) ∧ Below w.heap.size w w' := by
  obtain ⟨W0, hW⟩ : ∃ W0, w.alloc (.cells #[.slice m.sa m.sn m.sc, .int .i64 m.c0, .int .i64 m.c1, .int .i64 m.d0, .int .i64 m.d1, .int .i64 m.w0, .int .i64 m.w1, .int .i64 m.v0, .int .i64 m.v1, .slice m.ra m.rn m.rc] 27) = W0 := ⟨_, rfl⟩
  have hX : PoR w m W0 := by rw [← hW]; exact PoR.new w m
  have hma := fun (W : World) (hB : Below w.heap.size w W) => rmachine_any m W (by omega) (by omega) (h.below hB)
  obtain ⟨q0, q1, q2, q3, q4, q5, q6, q7, q8, q9⟩ := id hX.mat
  cases hok : m.ok with
  | false =>
    obtain rfl := hA.arg (by rw [hok]; rfl)
    rw [hok] at hma
    go_enter Tryz.func9, Tryz.ntmps9
    go_wp2_with (go_at_call 12; with_reducible refine (hma _ hX.old).mono ?_; rintro e w1 ⟨rfl, hb⟩; replace hX := hX.below hb)
    go_ret
    exact ⟨rfl, hX.old⟩
  | true =>
    rw [hok] at hma
    obtain ⟨b, hb, hp⟩ := rpossible_b m hok
    have hpo := fun (W : World) (hB : Below w.heap.size w W) => hp W (h.below hB)
    cases b with
    | false =>
      obtain rfl := hA.rule (by rw [hok]; rfl) (fun hc => by have := hb.2 hc; cases this)
      clear hp hb
      go_enter Tryz.func9, Tryz.ntmps9
      go_wp2_with (first
        | (go_at_call 12; with_reducible refine (hma _ hX.old).mono ?_; rintro e w1 ⟨rfl, hb⟩; replace hX := hX.below hb; obtain ⟨q0, q1, q2, q3, q4, q5, q6, q7, q8, q9⟩ := id hX.mat)
        | (go_at_call 38; with_reducible refine (hpo _ hX.old).mono ?_; rintro e w2 ⟨rfl, hb⟩; replace hX := hX.below hb))
      go_ret
      exact ⟨rfl, hX.old⟩
    | true =>
      obtain rfl := hA.ok (by rw [hok]; rfl) (hb.1 rfl)
      clear hp hb
      go_enter Tryz.func9, Tryz.ntmps9
      go_wp2_with (first
        | (go_at_call 12; with_reducible refine (hma _ hX.old).mono ?_; rintro e w1 ⟨rfl, hb⟩; replace hX := hX.below hb; obtain ⟨q0, q1, q2, q3, q4, q5, q6, q7, q8, q9⟩ := id hX.mat)
        | (go_at_call 38; with_reducible refine (hpo _ hX.old).mono ?_; rintro e w2 ⟨rfl, hb⟩; replace hX := hX.below hb))
      go_ret
      exact ⟨rfl, hX.old⟩
set_option maxRecDepth 100000 in
set_option maxHeartbeats 4000000 in
theorem knowns_long (m : Mach) (n : Int) (w : World) (hk : KG w) (hs : m.sn ≤ 9223372036854775807) (hr : m.rn ≤ 9223372036854775807) (hno : (decide (m.sn ≤ 6) && decide (m.rn ≤ 6)) = false) :
    Calls Tryz.prog 4 #[m.val, .int .i64 n] w fun e w' => e = .returned (.bool true) ∧ Below w.heap.size w w' := by
  obtain ⟨W0, hW⟩ : ∃ W0, w.alloc (.cells #[.slice m.sa m.sn m.sc, .int .i64 m.c0, .int .i64 m.c1, .int .i64 m.d0, .int .i64 m.d1, .int .i64 m.w0, .int .i64 m.w1, .int .i64 m.v0, .int .i64 m.v1, .slice m.ra m.rn m.rc] 27) = W0 := ⟨_, rfl⟩
  have hX : PoR w m W0 := by rw [← hW]; exact PoR.new w m
  have hsl := fun (W : World) => slim_any m W hs hr
  rw [hno] at hsl
  obtain ⟨q0, q1, q2, q3, q4, q5, q6, q7, q8, q9⟩ := id hX.mat
  go_enter Tryz.func4, Tryz.ntmps4
  go_wp2_with (first
    | (go_at_call 5; with_reducible refine (hsl _).mono ?_; rintro e w1 ⟨rfl, hb⟩; replace hX := hX.below hb)
    | (go_at_call 7; refine (known_ok _ (hk.below hX.old)).mono ?_; rintro e w1 ⟨rfl, hb⟩; replace hX := hX.below hb))
  go_ret
  exact ⟨rfl, hX.old⟩
set_option maxRecDepth 100000 in
set_option maxHeartbeats 4000000 in
/-- an error. -/
theorem knowns_err (m : Mach) (n : Int) (w : World) (hk : KG w) (hs : m.sn ≤ 6) (hr : m.rn ≤ 6) (h : MIn w m) (er0 er : Int) (hA : Able m true er0) (hE : Able m (inB n 0 12) er) (hne : ¬ er = 0) (hor : inB n 0 12 = false ∧ er = 2 ∨ inB n 0 12 = true ∧ er0 = er) :
    Calls Tryz.prog 4 #[m.val, .int .i64 n] w fun e w' => e = .returned (.bool true) ∧ Below w.heap.size w w' := by
  obtain ⟨W0, hW⟩ : ∃ W0, w.alloc (.cells #[.slice m.sa m.sn m.sc, .int .i64 m.c0, .int .i64 m.c1, .int .i64 m.d0, .int .i64 m.d1, .int .i64 m.w0, .int .i64 m.w1, .int .i64 m.v0, .int .i64 m.v1, .slice m.ra m.rn m.rc] 27) = W0 := ⟨_, rfl⟩
  have hX : PoR w m W0 := by rw [← hW]; exact PoR.new w m
  have hsl := fun (W : World) => slim_any m W (by omega) (by omega)
  rw [decide_eq_true hs, decide_eq_true hr, Bool.and_true] at hsl
  have hkn := fun (W : World) (hB : Below w.heap.size w W) => Known_no m n er W (by omega) (by omega) (h.below hB) hE hne
  have hab := fun (W : World) (hB : Below w.heap.size w W) => able_any m er0 hA W (by omega) (by omega) (h.below hB)
  have hbl := fun (W : World) => rblank_any n 0 W
  obtain ⟨q0, q1, q2, q3, q4, q5, q6, q7, q8, q9⟩ := id hX.mat
  rcases hor with ⟨hi, rfl⟩ | ⟨hi, rfl⟩
  all_goals
    rw [hi] at hbl
    clear hA hE hi
    go_enter Tryz.func4, Tryz.ntmps4
    go_wp2_with (first
      | (go_at_call 5; with_reducible refine (hsl _).mono ?_; rintro e w1 ⟨rfl, hb⟩; replace hX := hX.below hb; obtain ⟨q0, q1, q2, q3, q4, q5, q6, q7, q8, q9⟩ := id hX.mat)
      | (go_at_call 18; with_reducible refine (hkn _ hX.old).mono ?_; rintro e wK ⟨rfl, hb⟩; replace hX := hX.below hb; have hY := hX.two; have q0 := fun o1 o2 => (hY o1 o2).mat.k0; have q1 := fun o1 o2 => (hY o1 o2).mat.k1; have q2 := fun o1 o2 => (hY o1 o2).mat.k2; have q3 := fun o1 o2 => (hY o1 o2).mat.k3; have q4 := fun o1 o2 => (hY o1 o2).mat.k4; have q5 := fun o1 o2 => (hY o1 o2).mat.k5; have q6 := fun o1 o2 => (hY o1 o2).mat.k6; have q7 := fun o1 o2 => (hY o1 o2).mat.k7; have q8 := fun o1 o2 => (hY o1 o2).mat.k8; have q9 := fun o1 o2 => (hY o1 o2).mat.k9; have hAB := AB.new wK 0 0 0 0 24)
      | (go_at_call 9; with_reducible refine (hab _ (hY _ _).old).mono ?_; rintro e w2 ⟨rfl, hb⟩; replace hX := (hY _ _).below hb; replace hAB := hAB.below hb; obtain ⟨A0, A1, B0, B1, _⟩ := id hAB)
      | (go_at_call 15; with_reducible refine (hbl _).mono ?_; rintro e w1 ⟨rfl, rfl⟩)
      | (go_at_call 7; refine (known_ok _ (hk.below hX.old)).mono ?_; rintro e w1 ⟨rfl, hb⟩; replace hX := hX.below hb))
    go_ret
    exact ⟨rfl, hX.old⟩
set_option maxRecDepth 100000 in
set_option maxHeartbeats 4000000 in
/-- the bounds. -/
theorem knowns_ok (m : Mach) (k : Nat) (w : World) (hk : KG w) (hs : m.sn ≤ 6) (hr : m.rn ≤ 6) (h : MIn w m) (hk12 : k ≤ 12) (hok : m.ok = true) (hcan : m.can) :
    Calls Tryz.prog 4 #[m.val, .int .i64 k] w fun e w' => e = .returned (.bool true) ∧ Below w.heap.size w w' := by
  obtain ⟨W0, hW⟩ : ∃ W0, w.alloc (.cells #[.slice m.sa m.sn m.sc, .int .i64 m.c0, .int .i64 m.c1, .int .i64 m.d0, .int .i64 m.d1, .int .i64 m.w0, .int .i64 m.w1, .int .i64 m.v0, .int .i64 m.v1, .slice m.ra m.rn m.rc] 27) = W0 := ⟨_, rfl⟩
  have hX : PoR w m W0 := by rw [← hW]; exact PoR.new w m
  have hsl := fun (W : World) => slim_any m W (by omega) (by omega)
  rw [decide_eq_true hs, decide_eq_true hr, Bool.and_true] at hsl
  have hkn := fun (W : World) (hB : Below w.heap.size w W) => Known_ok m k hk12 W (by omega) (by omega) (h.below hB) hok hcan
  have hrk := fun (W : World) (hB : Below w.heap.size w W) => rknown_yes m k hk12 hok hcan W (h.below hB)
  have hab := fun (W : World) (hB : Below w.heap.size w W) => able_any m 0 ⟨(fun hx => by rw [hok] at hx; cases hx), fun _ hx => absurd hcan hx, fun _ _ => rfl⟩ W (by omega) (by omega) (h.below hB)
  have hbl := fun (W : World) => rblank_any (k : Int) 0 W
  rw [inB_yes (n := (k : Int)) (lo := 0) (hi := 12) (by omega) (by omega)] at hbl
  generalize (m.axX.ends k).1 = x0 at *
  generalize (m.axX.ends k).2 = x1 at *
  generalize (m.axY.ends k).1 = z0 at *
  generalize (m.axY.ends k).2 = z1 at *
  obtain ⟨q0, q1, q2, q3, q4, q5, q6, q7, q8, q9⟩ := id hX.mat
  go_enter Tryz.func4, Tryz.ntmps4
  go_wp2_with (first
    | (go_at_call 5; with_reducible refine (hsl _).mono ?_; rintro e w1 ⟨rfl, hb⟩; replace hX := hX.below hb; obtain ⟨q0, q1, q2, q3, q4, q5, q6, q7, q8, q9⟩ := id hX.mat)
    | (go_at_call 18; with_reducible refine (hkn _ hX.old).mono ?_; rintro e wK ⟨rfl, hb⟩; replace hX := hX.below hb; have hY := hX.two; have q0 := fun o1 o2 => (hY o1 o2).mat.k0; have q1 := fun o1 o2 => (hY o1 o2).mat.k1; have q2 := fun o1 o2 => (hY o1 o2).mat.k2; have q3 := fun o1 o2 => (hY o1 o2).mat.k3; have q4 := fun o1 o2 => (hY o1 o2).mat.k4; have q5 := fun o1 o2 => (hY o1 o2).mat.k5; have q6 := fun o1 o2 => (hY o1 o2).mat.k6; have q7 := fun o1 o2 => (hY o1 o2).mat.k7; have q8 := fun o1 o2 => (hY o1 o2).mat.k8; have q9 := fun o1 o2 => (hY o1 o2).mat.k9; have hAB := AB.new wK x0 x1 z0 z1 24)
    | (go_at_call 9; with_reducible refine (hab _ (hY _ _).old).mono ?_; rintro e w2 ⟨rfl, hb⟩; replace hX := (hY _ _).below hb; replace hAB := hAB.below hb; obtain ⟨q0, q1, q2, q3, q4, q5, q6, q7, q8, q9⟩ := id hX.mat)
    | (go_at_call 15; with_reducible refine (hbl _).mono ?_; rintro e w1 ⟨rfl, rfl⟩)
    | (go_at_call 19; with_reducible refine (hrk _ hX.old).mono ?_; rintro e wR ⟨rfl, hb⟩; replace hX := hX.below hb; replace hAB := hAB.below hb; have hZ := hX.two; have A0 := fun o1 o2 => (hAB.two o1 o2).a0; have A1 := fun o1 o2 => (hAB.two o1 o2).a1; have B0 := fun o1 o2 => (hAB.two o1 o2).b0; have B1 := fun o1 o2 => (hAB.two o1 o2).b1; have hAC := AB.new wR x0 x1 z0 z1 24; obtain ⟨C0, C1, D0, D1, _⟩ := id hAC)
    | (go_at_call 7; refine (known_ok _ (hk.below (hZ _ _).old)).mono ?_; rintro e w1 ⟨rfl, hb⟩; replace hX := (hZ _ _).below hb))
  go_ret
  exact ⟨rfl, hX.old⟩
theorem knowns_all {m : Mach} {n : Int} {w : World} (hk : KG w) (hs : m.sn ≤ 9223372036854775807) (hr : m.rn ≤ 9223372036854775807) (h : MIn w m) :
    Calls Tryz.prog 4 #[m.val, .int .i64 n] w fun e w' => e = .returned (.bool true) ∧ Below w.heap.size w w' := by
  cases hl : (decide (m.sn ≤ 6) && decide (m.rn ≤ 6)) with
  | false => exact knowns_long m n w hk hs hr hl
  | true =>
    simp only [Bool.and_eq_true, decide_eq_true_eq] at hl
    obtain ⟨l1, l2⟩ := hl
    obtain ⟨er0, hA, _⟩ := Machine_any m w (by omega) (by omega) h
    cases hi : inB n 0 12 with
    | false => exact knowns_err m n w hk l1 l2 h er0 2 hA ⟨fun _ => rfl, (fun hx => by rw [hi, Bool.and_false] at hx; cases hx), (fun hx => by rw [hi, Bool.and_false] at hx; cases hx)⟩ (by decide) (.inl ⟨hi, rfl⟩)
    | true =>
      by_cases he : er0 = 0
      · subst he
        have hok : m.ok = true := by
          cases hx : m.ok with
          | true => rfl
          | false => have := hA.arg (by rw [hx]; rfl); cases this
        have hcan : m.can := Classical.byContradiction fun hc => by have := hA.rule (by rw [hok]; rfl) hc; cases this
        have o5 := inB_iff.1 hi
        obtain ⟨k, rfl⟩ : ∃ k : Nat, n = (k : Int) := ⟨n.toNat, by omega⟩
        exact knowns_ok m k w hk l1 l2 h (by omega) hok hcan
      · exact knowns_err m n w hk l1 l2 h er0 er0 hA (by rw [hi]; exact hA) he (.inr ⟨hi, rfl⟩)
end Go.Proofs.YtppefjmllebacaaGreatDoor
