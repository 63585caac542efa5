/- A part of the proof: see the last file. -/
import Derived.Test.YtjhpklolpmaopaaGreatDoorPbg
import Derived.Test.YtjhpklolpmaopaaGreatDoorPbl
import Derived.Test.YtjhpklolpmaopaaGreatDoorPbj
import Derived.Test.YtjhpklolpmaopaaGreatDoorPak
import Derived.Test.YtjhpklolpmaopaaGreatDoorPbe
import Derived.Test.YtjhpklolpmaopaaGreatDoorPbk
import Derived.Test.YtjhpklolpmaopaaGreatDoorPbd
import Derived.ProofKit
import Derived.LaidMore
import Derived.OpenShut
import Derived.Stop.Joined
import Derived.Deep.Slices
import Derived.Carry
set_option linter.unusedVariables false
set_option linter.unusedSimpArgs false
set_option linter.unusedSectionVars false
namespace Go.Proofs.YtjhpklolpmaopaaGreatDoor
open Go.RowKit
end Go.Proofs.YtjhpklolpmaopaaGreatDoor
namespace Go.Proofs.YtjhpklolpmaopaaGreatDoor
open Go.RowKit
set_option maxRecDepth 100000 in
theorem few_any (a : Option Addr) (n c : Nat) (r : Int) (w : World) (hn : n ≤ 9223372036854775807) : Calls Tryz.prog 22 #[.agg #[.slice a n c, .int .i64 r]] w fun e w' => e = .returned (.bool (decide (n ≤ 6))) ∧ Below w.heap.size w w' := by
 go_enter Tryz.func22, Tryz.ntmps22
 have h : decide ((n : Int) ≤ 6) = decide (n ≤ 6) := by by_cases h : n ≤ 6 <;> simp [h] <;> omega
 go_wp2
 go_ret
 exact ⟨rfl, (Below.refl _ _).alloc (Nat.le_refl _) _⟩
set_option maxRecDepth 100000 in
theorem rbutton_any (a1 : Option Addr) (n c1 : Nat) (X Y : Nat → Int) (r : Int) (w : World) (hn : n ≤ 1000) (hp : PSl w (.slice a1 n c1) n X Y) : Calls Tryz.prog 16 #[.agg #[.slice a1 n c1, .int .i64 r]] w fun e w' => e = .returned (.bool (butB n X Y r)) ∧ Below w.heap.size w w' := by
 obtain ⟨W0, hW0⟩ : ∃ W0, w.alloc (Obj.cells #[.slice a1 n c1, .int .i64 r] 41) = W0 := ⟨_, rfl⟩
 have hb0 : Below w.heap.size w W0 := by rw [← hW0]; exact (Below.refl _ _).alloc (Nat.le_refl _) _
 have hsz : W0.heap.size = w.heap.size + 1 := by rw [← hW0, World.size_alloc]
 have c0 : W0.cell? ⟨w.heap.size, 0, none⟩ = some (.slice a1 n c1) := by rw [← hW0]; exact cells_new w _ _ rfl
 have c1' : W0.cell? ⟨w.heap.size, 1, none⟩ = some (.int .i64 r) := by rw [← hW0]; exact cells_new w _ _ rfl
 have hpo := points_any (.slice a1 n c1) n 2 4 X Y 80 (by omega) (by omega) W0 hn (hp.below hb0)
 have hwi := fun (W : World) => in_any r 0 4 W
 unfold butB
 rw [arB_pon2]
 generalize ponB n 2 4 X Y 80 = x at hpo ⊢
 generalize inB r 0 4 = y at hwi ⊢
 go_enter Tryz.func16, Tryz.ntmps16
 cases x
 ·go_wp2_with (first | (go_at_call 27; with_reducible refine hpo.mono ?_; rintro e w1 ⟨rfl, rfl⟩))
  go_ret
  exact ⟨rfl, hb0⟩
 ·go_wp2_with (first | (go_at_call 27; with_reducible refine hpo.mono ?_; rintro e w1 ⟨rfl, rfl⟩) | (go_at_call 25; with_reducible refine (hwi _).mono ?_; rintro e w8 ⟨rfl, rfl⟩))
  go_ret
  exact ⟨rfl, hb0⟩
/-- a list of blanks in memory. -/
def IRow (w : World) (v : Value) (l : List Nat) : Prop := (l = [] ∧ ∃ a c, v = .slice a 0 c) ∨ ∃ g c, v = .slice (some ⟨g, 0, none⟩) l.length c ∧ g < w.heap.size ∧ ∀ i (h : i < l.length), w.cell? ⟨g, i, none⟩ = some (.int .i64 ((l[i] : Nat) : Int))
theorem IRow.below {w w' : World} {v : Value} {l : List Nat} (h : IRow w v l) (hb : Below w.heap.size w w') : IRow w' v l := by
 rcases h with h | ⟨g, c, h1, h2, h3⟩
 ·exact .inl h
 ·exact .inr ⟨g, c, h1, Nat.lt_of_lt_of_le h2 hb.size, fun i hi => (hb.cell (p := ⟨g, i, none⟩) h2).trans (h3 i hi)⟩
end Go.Proofs.YtjhpklolpmaopaaGreatDoor
namespace Go.Proofs.YtjhpklolpmaopaaGreatDoor
open Go.RowKit
theorem able_ex (m : Mach) (fine : Bool) : ∃ er, Able m fine er := by
 by_cases h : (m.ok && fine) = true
 ·by_cases hc : m.can
  ·exact ⟨0, ⟨fun a => (by rw [h] at a; cases a), fun _ b => absurd hc b, fun _ _ => rfl⟩⟩
  ·exact ⟨7, ⟨fun a => (by rw [h] at a; cases a), fun _ _ => rfl, fun _ b => absurd b hc⟩⟩
 ·exact ⟨2, ⟨fun _ => rfl, fun a => absurd a h, fun a => absurd a h⟩⟩
theorem Able.which {m : Mach} {fine : Bool} {er : Int} (h : Able m fine er) : (er = 2 ∧ (m.ok && fine) = false) ∨ (er = 7 ∧ (m.ok && fine) = true ∧ ¬ m.can) ∨ (er = 0 ∧ (m.ok && fine) = true ∧ m.can) := by
 cases hf : (m.ok && fine) with
 | false => exact .inl ⟨h.arg hf, rfl⟩
 | true =>
  by_cases hc : m.can
  ·exact .inr (.inr ⟨h.ok hf hc, rfl, hc⟩)
  ·exact .inr (.inl ⟨h.rule hf hc, rfl, hc⟩)
theorem stops_in {m : Mach} (hok : m.ok = true) : 2 ≤ m.sn ∧ m.sn ≤ 4 ∧ ∀ i, i < m.sn → (-20 ≤ m.SX i ∧ m.SX i ≤ 20) ∧ (-20 ≤ m.SY i ∧ m.SY i ≤ 20) := by
 have hst := (Mach.ok_parts hok).1
 unfold Mach.okStops arB at hst
 rw [Bool.and_eq_true, allB_iff, inB_iff] at hst
 refine ⟨by omega, by omega, fun i hi => ?_⟩
 have := hst.2 i hi
 unfold ptB at this
 rw [Bool.and_eq_true, inB_iff, inB_iff] at this
 omega
end Go.Proofs.YtjhpklolpmaopaaGreatDoor
namespace Go.Proofs.YtjhpklolpmaopaaGreatDoor
open Go.RowKit
theorem SB.two {w W : World} {m : Mach} {v1 : Value} {r : Int} (h : SB w W m v1 r) (o1 o2 : Obj) : SB w ((W.alloc o1).alloc o2) m v1 r := (h.alloc o1).alloc o2
theorem but_in {n : Nat} {X Y : Nat → Int} {r : Int} (h : butB n X Y r = true) : (0 ≤ r ∧ r ≤ 4) ∧ ∀ i, i < n → small (X i, Y i) := by
 unfold butB arB at h
 rw [Bool.and_eq_true, Bool.and_eq_true, allB_iff, inB_iff, inB_iff] at h
 refine ⟨h.2, fun i hi => ?_⟩
 have := h.1.2 i hi
 unfold ptB at this
 rw [Bool.and_eq_true, inB_iff, inB_iff] at this
 unfold small
 dsimp only
 omega
/-- the program's Proves with an error. -/
theorem Proves_no (a1 : Option Addr) (n c1 : Nat) (r : Int) (HX HY : Nat → Int) (m : Mach) (k bl : Int) (w : World) (hn : n ≤ 1000) (hs : m.sn ≤ 1000) (hr : m.rn ≤ 9223372036854775807) (hp : PSl w (.slice a1 n c1) n HX HY) (h : MIn w m)
  (er : Int) (hA : Able m (((butB n HX HY r && decide (n = m.sn)) && inB k 1 12) && inB bl 0 12) er) (hne : er ≠ 0) :
  Calls Tryz.prog 19 #[m.val, .agg #[.slice a1 n c1, .int .i64 r], .int .i64 k, .int .i64 bl] w fun e w' => e = .returned (.tuple #[.agg #[.int .i64 0, .int .i64 0], .agg #[.int .i64 0, .int .i64 0], .int .i64 er]) ∧ Below w.heap.size w w' := by
 cases h1 : (butB n HX HY r && decide (n = m.sn)) with
 | false =>
  rw [h1, Bool.false_and, Bool.false_and] at hA
  exact Proves_noA a1 n c1 r HX HY m k bl w hn hs hr hp h h1 er hA hne
 | true =>
  cases h2 : inB k 1 12 with
  | false =>
   rw [h1, h2, Bool.true_and, Bool.false_and] at hA
   exact Proves_noB a1 n c1 r HX HY m k bl w hn hs hr hp h h1 h2 er hA hne
  | true =>
   rw [h1, h2, Bool.true_and, Bool.true_and] at hA
   exact Proves_noC a1 n c1 r HX HY m k bl w hn hs hr hp h h1 h2 er hA hne
end Go.Proofs.YtjhpklolpmaopaaGreatDoor
namespace Go.Proofs.YtjhpklolpmaopaaGreatDoor
open Go.RowKit
set_option maxRecDepth 100000 in
set_option maxHeartbeats 2000000 in
theorem proves_long (a1 : Option Addr) (n c1 : Nat) (r : Int) (m : Mach) (k bl : Int) (w : World) (hk : KG w) (hn : n ≤ 9223372036854775807) (hs : m.sn ≤ 9223372036854775807) (hr : m.rn ≤ 9223372036854775807) (hno : ((decide (m.sn ≤ 6) && decide (m.rn ≤ 6)) && decide (n ≤ 6)) = false) :
  Calls Tryz.prog 4 #[m.val, .agg #[.slice a1 n c1, .int .i64 r], .int .i64 k, .int .i64 bl] w fun e w' => e = .returned (.bool true) ∧ Below w.heap.size w w' := by
 have hsl := fun (W : World) => slim_any m W hs hr
 have hfw := fun (W : World) => few_any a1 n c1 r W hn
 obtain ⟨W0, hW0⟩ : ∃ W0, (w.alloc (.cells #[.slice m.sa m.sn m.sc, .int .i64 m.c0, .int .i64 m.c1, .int .i64 m.d0, .int .i64 m.d1, .int .i64 m.w0, .int .i64 m.w1, .int .i64 m.v0, .int .i64 m.v1, .slice m.ra m.rn m.rc] 27)).alloc (Obj.cells #[.slice a1 n c1, .int .i64 r] 41) = W0 := ⟨_, rfl⟩
 have hX : PLift (SB w W0 m (.slice a1 n c1) r) := ⟨by rw [← hW0]; exact SB.new w m _ r⟩
 have z0 := hX.down.c0
 have z1 := hX.down.c1
 obtain ⟨y0', y1', y2', y3', y4', y5', y6', y7', y8', y9'⟩ := hX.down.mach
 generalize (decide (m.sn ≤ 6) && decide (m.rn ≤ 6)) = s at *
 generalize decide (n ≤ 6) = s2 at *
 cases s
 ·go_enter Tryz.func4, Tryz.ntmps4
  go_wp2_with (first
   | (go_at_call 5; with_reducible refine (hsl _).mono ?_; rintro e w1 ⟨rfl, hb⟩; replace hX : PLift (SB w w1 m (.slice a1 n c1) r) := ⟨hX.down.below hb⟩; have z0 := hX.down.c0; have z1 := hX.down.c1; obtain ⟨y0', y1', y2', y3', y4', y5', y6', y7', y8', y9'⟩ := hX.down.mach; clear hb)
   | (go_at_call 22; with_reducible refine (hfw _).mono ?_; rintro e w1 ⟨rfl, hb⟩; replace hX : PLift (SB w w1 m (.slice a1 n c1) r) := ⟨hX.down.below hb⟩; have z0 := hX.down.c0; have z1 := hX.down.c1; obtain ⟨y0', y1', y2', y3', y4', y5', y6', y7', y8', y9'⟩ := hX.down.mach; clear hb)
   | (go_at_call 12; with_reducible refine (known_ok _ (hk.below hX.down.old)).mono ?_; rintro e w1 ⟨rfl, hb⟩; replace hX : PLift (SB w w1 m (.slice a1 n c1) r) := ⟨hX.down.below hb⟩; have z0 := hX.down.c0; have z1 := hX.down.c1; obtain ⟨y0', y1', y2', y3', y4', y5', y6', y7', y8', y9'⟩ := hX.down.mach; clear hb))
  go_ret
  exact ⟨rfl, hX.down.old⟩
 ·rw [Bool.true_and] at hno
  subst hno
  go_enter Tryz.func4, Tryz.ntmps4
  go_wp2_with (first
   | (go_at_call 5; with_reducible refine (hsl _).mono ?_; rintro e w1 ⟨rfl, hb⟩; replace hX : PLift (SB w w1 m (.slice a1 n c1) r) := ⟨hX.down.below hb⟩; have z0 := hX.down.c0; have z1 := hX.down.c1; obtain ⟨y0', y1', y2', y3', y4', y5', y6', y7', y8', y9'⟩ := hX.down.mach; clear hb)
   | (go_at_call 22; with_reducible refine (hfw _).mono ?_; rintro e w1 ⟨rfl, hb⟩; replace hX : PLift (SB w w1 m (.slice a1 n c1) r) := ⟨hX.down.below hb⟩; have z0 := hX.down.c0; have z1 := hX.down.c1; obtain ⟨y0', y1', y2', y3', y4', y5', y6', y7', y8', y9'⟩ := hX.down.mach; clear hb)
   | (go_at_call 12; with_reducible refine (known_ok _ (hk.below hX.down.old)).mono ?_; rintro e w1 ⟨rfl, hb⟩; replace hX : PLift (SB w w1 m (.slice a1 n c1) r) := ⟨hX.down.below hb⟩; have z0 := hX.down.c0; have z1 := hX.down.c1; obtain ⟨y0', y1', y2', y3', y4', y5', y6', y7', y8', y9'⟩ := hX.down.mach; clear hb))
  go_ret
  exact ⟨rfl, hX.down.old⟩
end Go.Proofs.YtjhpklolpmaopaaGreatDoor
namespace Go.Proofs.YtjhpklolpmaopaaGreatDoor
open Go.RowKit
set_option maxRecDepth 100000 in
set_option maxHeartbeats 8000000 in
theorem proves_err (a1 : Option Addr) (n c1 : Nat) (r : Int) (HX HY : Nat → Int) (m : Mach) (k bl : Int) (w : World) (hk : KG w) (hn : n ≤ 6) (hs : m.sn ≤ 6) (hr : m.rn ≤ 6) (hp : PSl w (.slice a1 n c1) n HX HY) (h : MIn w m) (er1 er : Int) (hA1 : Able m true er1) (hA : Able m (((butB n HX HY r && decide (n = m.sn)) && inB k 1 12) && inB bl 0 12) er) (hne : ¬ er = 0) :
  Calls Tryz.prog 4 #[m.val, .agg #[.slice a1 n c1, .int .i64 r], .int .i64 k, .int .i64 bl] w fun e w' => e = .returned (.bool true) ∧ Below w.heap.size w w' := by
 have hsl := fun (W : World) => slim_any m W (by omega) (by omega)
 rw [decide_eq_true hs, decide_eq_true hr, Bool.and_true] at hsl
 have hfw := fun (W : World) => few_any a1 n c1 r W (by omega)
 rw [show decide (n ≤ 6) = true from decide_eq_true (by omega)] at hfw
 have hpr := fun (W : World) (hB : Below w.heap.size w W) => Proves_no a1 n c1 r HX HY m k bl W (by omega) (by omega) (by omega) (hp.below hB) (h.below hB) er hA hne
 have hab := fun (W : World) (hB : Below w.heap.size w W) => able_any m er1 hA1 W (by omega) (by omega) (h.below hB)
 have hbt := fun (W : World) (hB : Below w.heap.size w W) => rbutton_any a1 n c1 HX HY r W (by omega) (hp.below hB)
 have hla := fun (W : World) => rblank_any k 1 W
 have hlb := fun (W : World) => rblank_any bl 0 W
 obtain ⟨W0, hW0⟩ : ∃ W0, (w.alloc (.cells #[.slice m.sa m.sn m.sc, .int .i64 m.c0, .int .i64 m.c1, .int .i64 m.d0, .int .i64 m.d1, .int .i64 m.w0, .int .i64 m.w1, .int .i64 m.v0, .int .i64 m.v1, .slice m.ra m.rn m.rc] 27)).alloc (Obj.cells #[.slice a1 n c1, .int .i64 r] 41) = W0 := ⟨_, rfl⟩
 have hX : PLift (SB w W0 m (.slice a1 n c1) r) := ⟨by rw [← hW0]; exact SB.new w m _ r⟩
 have z0 := hX.down.c0
 have z1 := hX.down.c1
 obtain ⟨y0', y1', y2', y3', y4', y5', y6', y7', y8', y9'⟩ := hX.down.mach
 have no2 : (((butB n HX HY r && decide (n = m.sn)) && inB k 1 12) && inB bl 0 12) = false → er = 2 := fun hf => hA.arg (by rw [hf, Bool.and_false])
 cases h1 : butB n HX HY r with
 | false =>
  obtain rfl := no2 (by rw [h1]; rfl)
  rw [h1] at hbt
  clear no2 hA hA1 h1
  go_enter Tryz.func4, Tryz.ntmps4
  go_wp2_with (first
   | (go_at_call 5; with_reducible refine (hsl _).mono ?_; rintro e w1 ⟨rfl, hb⟩; replace hX : PLift (SB w w1 m (.slice a1 n c1) r) := ⟨hX.down.below hb⟩; have z0 := hX.down.c0; have z1 := hX.down.c1; obtain ⟨y0', y1', y2', y3', y4', y5', y6', y7', y8', y9'⟩ := hX.down.mach; clear hb)
   | (go_at_call 22; with_reducible refine (hfw _).mono ?_; rintro e w1 ⟨rfl, hb⟩; replace hX : PLift (SB w w1 m (.slice a1 n c1) r) := ⟨hX.down.below hb⟩; have z0 := hX.down.c0; have z1 := hX.down.c1; obtain ⟨y0', y1', y2', y3', y4', y5', y6', y7', y8', y9'⟩ := hX.down.mach; clear hb)
   | (go_at_call 19; with_reducible refine (hpr _ hX.down.old).mono ?_; rintro e wK ⟨rfl, hb⟩; replace hX : PLift (SB w wK m (.slice a1 n c1) r) := ⟨hX.down.below hb⟩; have hY := fun o1 o2 => hX.down.two o1 o2; have z0 := fun o1 o2 => (hY o1 o2).c0; have z1 := fun o1 o2 => (hY o1 o2).c1; have y0' := fun o1 o2 => (hY o1 o2).mach.k0; have y1' := fun o1 o2 => (hY o1 o2).mach.k1; have y2' := fun o1 o2 => (hY o1 o2).mach.k2; have y3' := fun o1 o2 => (hY o1 o2).mach.k3; have y4' := fun o1 o2 => (hY o1 o2).mach.k4; have y5' := fun o1 o2 => (hY o1 o2).mach.k5; have y6' := fun o1 o2 => (hY o1 o2).mach.k6; have y7' := fun o1 o2 => (hY o1 o2).mach.k7; have y8' := fun o1 o2 => (hY o1 o2).mach.k8; have y9' := fun o1 o2 => (hY o1 o2).mach.k9; have hAB := AB.new wK 0 0 0 0 24; clear hb)
   | (go_at_call 23; with_reducible refine (hab _ (hY _ _).old).mono ?_; rintro e w1 ⟨rfl, hb⟩; replace hX : PLift (SB w w1 m (.slice a1 n c1) r) := ⟨(hY _ _).below hb⟩; replace hAB := hAB.below hb; have z0 := hX.down.c0; have z1 := hX.down.c1; obtain ⟨y0', y1', y2', y3', y4', y5', y6', y7', y8', y9'⟩ := hX.down.mach; clear hb; obtain ⟨A0, A1, B0, B1, _⟩ := id hAB)
   | (go_at_call 16; with_reducible refine (hbt _ hX.down.old).mono ?_; rintro e w1 ⟨rfl, hb⟩; replace hX : PLift (SB w w1 m (.slice a1 n c1) r) := ⟨hX.down.below hb⟩; replace hAB := hAB.below hb; have z0 := hX.down.c0; have z1 := hX.down.c1; obtain ⟨y0', y1', y2', y3', y4', y5', y6', y7', y8', y9'⟩ := hX.down.mach; clear hb; obtain ⟨A0, A1, B0, B1, _⟩ := id hAB)
   | (go_at_call 12; with_reducible refine (known_ok _ (hk.below hX.down.old)).mono ?_; rintro e w1 ⟨rfl, hb⟩; replace hX : PLift (SB w w1 m (.slice a1 n c1) r) := ⟨hX.down.below hb⟩; have z0 := hX.down.c0; have z1 := hX.down.c1; obtain ⟨y0', y1', y2', y3', y4', y5', y6', y7', y8', y9'⟩ := hX.down.mach; clear hb))
  go_ret
  exact ⟨rfl, hX.down.old⟩
 | true =>
  rw [h1] at hbt
  by_cases h2 : n = m.sn
  ·subst h2
   cases h3 : inB k 1 12 with
   | false =>
    obtain rfl := no2 (by rw [h3, Bool.and_false]; rfl)
    rw [h3] at hla
    clear no2 hA hA1 h1 h3
    go_enter Tryz.func4, Tryz.ntmps4
    go_wp2_with (first
     | (go_at_call 5; with_reducible refine (hsl _).mono ?_; rintro e w1 ⟨rfl, hb⟩; replace hX : PLift (SB w w1 m (.slice a1 m.sn c1) r) := ⟨hX.down.below hb⟩; have z0 := hX.down.c0; have z1 := hX.down.c1; obtain ⟨y0', y1', y2', y3', y4', y5', y6', y7', y8', y9'⟩ := hX.down.mach; clear hb)
     | (go_at_call 22; with_reducible refine (hfw _).mono ?_; rintro e w1 ⟨rfl, hb⟩; replace hX : PLift (SB w w1 m (.slice a1 m.sn c1) r) := ⟨hX.down.below hb⟩; have z0 := hX.down.c0; have z1 := hX.down.c1; obtain ⟨y0', y1', y2', y3', y4', y5', y6', y7', y8', y9'⟩ := hX.down.mach; clear hb)
     | (go_at_call 19; with_reducible refine (hpr _ hX.down.old).mono ?_; rintro e wK ⟨rfl, hb⟩; replace hX : PLift (SB w wK m (.slice a1 m.sn c1) r) := ⟨hX.down.below hb⟩; have hY := fun o1 o2 => hX.down.two o1 o2; have z0 := fun o1 o2 => (hY o1 o2).c0; have z1 := fun o1 o2 => (hY o1 o2).c1; have y0' := fun o1 o2 => (hY o1 o2).mach.k0; have y1' := fun o1 o2 => (hY o1 o2).mach.k1; have y2' := fun o1 o2 => (hY o1 o2).mach.k2; have y3' := fun o1 o2 => (hY o1 o2).mach.k3; have y4' := fun o1 o2 => (hY o1 o2).mach.k4; have y5' := fun o1 o2 => (hY o1 o2).mach.k5; have y6' := fun o1 o2 => (hY o1 o2).mach.k6; have y7' := fun o1 o2 => (hY o1 o2).mach.k7; have y8' := fun o1 o2 => (hY o1 o2).mach.k8; have y9' := fun o1 o2 => (hY o1 o2).mach.k9; have hAB := AB.new wK 0 0 0 0 24; clear hb)
     | (go_at_call 23; with_reducible refine (hab _ (hY _ _).old).mono ?_; rintro e w1 ⟨rfl, hb⟩; replace hX : PLift (SB w w1 m (.slice a1 m.sn c1) r) := ⟨(hY _ _).below hb⟩; replace hAB := hAB.below hb; have z0 := hX.down.c0; have z1 := hX.down.c1; obtain ⟨y0', y1', y2', y3', y4', y5', y6', y7', y8', y9'⟩ := hX.down.mach; clear hb; obtain ⟨A0, A1, B0, B1, _⟩ := id hAB)
     | (go_at_call 16; with_reducible refine (hbt _ hX.down.old).mono ?_; rintro e w1 ⟨rfl, hb⟩; replace hX : PLift (SB w w1 m (.slice a1 m.sn c1) r) := ⟨hX.down.below hb⟩; replace hAB := hAB.below hb; have z0 := hX.down.c0; have z1 := hX.down.c1; obtain ⟨y0', y1', y2', y3', y4', y5', y6', y7', y8', y9'⟩ := hX.down.mach; clear hb; obtain ⟨A0, A1, B0, B1, _⟩ := id hAB)
     | (go_at_call 9; with_reducible refine (hla _).mono ?_; rintro e w1 ⟨rfl, rfl⟩)
     | (go_at_call 12; with_reducible refine (known_ok _ (hk.below hX.down.old)).mono ?_; rintro e w1 ⟨rfl, hb⟩; replace hX : PLift (SB w w1 m (.slice a1 m.sn c1) r) := ⟨hX.down.below hb⟩; have z0 := hX.down.c0; have z1 := hX.down.c1; obtain ⟨y0', y1', y2', y3', y4', y5', y6', y7', y8', y9'⟩ := hX.down.mach; clear hb))
    go_ret
    exact ⟨rfl, hX.down.old⟩
   | true =>
    rw [h3] at hla
    cases h4 : inB bl 0 12 with
    | false =>
     obtain rfl := no2 (by rw [h4, Bool.and_false])
     rw [h4] at hlb
     clear no2 hA hA1 h1 h3 h4
     go_enter Tryz.func4, Tryz.ntmps4
     go_wp2_with (first
      | (go_at_call 5; with_reducible refine (hsl _).mono ?_; rintro e w1 ⟨rfl, hb⟩; replace hX : PLift (SB w w1 m (.slice a1 m.sn c1) r) := ⟨hX.down.below hb⟩; have z0 := hX.down.c0; have z1 := hX.down.c1; obtain ⟨y0', y1', y2', y3', y4', y5', y6', y7', y8', y9'⟩ := hX.down.mach; clear hb)
      | (go_at_call 22; with_reducible refine (hfw _).mono ?_; rintro e w1 ⟨rfl, hb⟩; replace hX : PLift (SB w w1 m (.slice a1 m.sn c1) r) := ⟨hX.down.below hb⟩; have z0 := hX.down.c0; have z1 := hX.down.c1; obtain ⟨y0', y1', y2', y3', y4', y5', y6', y7', y8', y9'⟩ := hX.down.mach; clear hb)
      | (go_at_call 19; with_reducible refine (hpr _ hX.down.old).mono ?_; rintro e wK ⟨rfl, hb⟩; replace hX : PLift (SB w wK m (.slice a1 m.sn c1) r) := ⟨hX.down.below hb⟩; have hY := fun o1 o2 => hX.down.two o1 o2; have z0 := fun o1 o2 => (hY o1 o2).c0; have z1 := fun o1 o2 => (hY o1 o2).c1; have y0' := fun o1 o2 => (hY o1 o2).mach.k0; have y1' := fun o1 o2 => (hY o1 o2).mach.k1; have y2' := fun o1 o2 => (hY o1 o2).mach.k2; have y3' := fun o1 o2 => (hY o1 o2).mach.k3; have y4' := fun o1 o2 => (hY o1 o2).mach.k4; have y5' := fun o1 o2 => (hY o1 o2).mach.k5; have y6' := fun o1 o2 => (hY o1 o2).mach.k6; have y7' := fun o1 o2 => (hY o1 o2).mach.k7; have y8' := fun o1 o2 => (hY o1 o2).mach.k8; have y9' := fun o1 o2 => (hY o1 o2).mach.k9; have hAB := AB.new wK 0 0 0 0 24; clear hb)
      | (go_at_call 23; with_reducible refine (hab _ (hY _ _).old).mono ?_; rintro e w1 ⟨rfl, hb⟩; replace hX : PLift (SB w w1 m (.slice a1 m.sn c1) r) := ⟨(hY _ _).below hb⟩; replace hAB := hAB.below hb; have z0 := hX.down.c0; have z1 := hX.down.c1; obtain ⟨y0', y1', y2', y3', y4', y5', y6', y7', y8', y9'⟩ := hX.down.mach; clear hb; obtain ⟨A0, A1, B0, B1, _⟩ := id hAB)
      | (go_at_call 16; with_reducible refine (hbt _ hX.down.old).mono ?_; rintro e w1 ⟨rfl, hb⟩; replace hX : PLift (SB w w1 m (.slice a1 m.sn c1) r) := ⟨hX.down.below hb⟩; replace hAB := hAB.below hb; have z0 := hX.down.c0; have z1 := hX.down.c1; obtain ⟨y0', y1', y2', y3', y4', y5', y6', y7', y8', y9'⟩ := hX.down.mach; clear hb; obtain ⟨A0, A1, B0, B1, _⟩ := id hAB)
      | (go_at_call 9; with_reducible refine (hla _).mono ?_; rintro e w1 ⟨rfl, rfl⟩)
      | (go_at_call 9; with_reducible refine (hlb _).mono ?_; rintro e w1 ⟨rfl, rfl⟩)
      | (go_at_call 12; with_reducible refine (known_ok _ (hk.below hX.down.old)).mono ?_; rintro e w1 ⟨rfl, hb⟩; replace hX : PLift (SB w w1 m (.slice a1 m.sn c1) r) := ⟨hX.down.below hb⟩; have z0 := hX.down.c0; have z1 := hX.down.c1; obtain ⟨y0', y1', y2', y3', y4', y5', y6', y7', y8', y9'⟩ := hX.down.mach; clear hb))
     go_ret
     exact ⟨rfl, hX.down.old⟩
    | true =>
     rw [h4] at hlb
     obtain rfl : er1 = er := Able.same hA1 (by rw [h1, h3, h4] at hA; simpa using hA)
     clear no2 hA hA1 h1 h3 h4
     go_enter Tryz.func4, Tryz.ntmps4
     go_wp2_with (first
      | (go_at_call 5; with_reducible refine (hsl _).mono ?_; rintro e w1 ⟨rfl, hb⟩; replace hX : PLift (SB w w1 m (.slice a1 m.sn c1) r) := ⟨hX.down.below hb⟩; have z0 := hX.down.c0; have z1 := hX.down.c1; obtain ⟨y0', y1', y2', y3', y4', y5', y6', y7', y8', y9'⟩ := hX.down.mach; clear hb)
      | (go_at_call 22; with_reducible refine (hfw _).mono ?_; rintro e w1 ⟨rfl, hb⟩; replace hX : PLift (SB w w1 m (.slice a1 m.sn c1) r) := ⟨hX.down.below hb⟩; have z0 := hX.down.c0; have z1 := hX.down.c1; obtain ⟨y0', y1', y2', y3', y4', y5', y6', y7', y8', y9'⟩ := hX.down.mach; clear hb)
      | (go_at_call 19; with_reducible refine (hpr _ hX.down.old).mono ?_; rintro e wK ⟨rfl, hb⟩; replace hX : PLift (SB w wK m (.slice a1 m.sn c1) r) := ⟨hX.down.below hb⟩; have hY := fun o1 o2 => hX.down.two o1 o2; have z0 := fun o1 o2 => (hY o1 o2).c0; have z1 := fun o1 o2 => (hY o1 o2).c1; have y0' := fun o1 o2 => (hY o1 o2).mach.k0; have y1' := fun o1 o2 => (hY o1 o2).mach.k1; have y2' := fun o1 o2 => (hY o1 o2).mach.k2; have y3' := fun o1 o2 => (hY o1 o2).mach.k3; have y4' := fun o1 o2 => (hY o1 o2).mach.k4; have y5' := fun o1 o2 => (hY o1 o2).mach.k5; have y6' := fun o1 o2 => (hY o1 o2).mach.k6; have y7' := fun o1 o2 => (hY o1 o2).mach.k7; have y8' := fun o1 o2 => (hY o1 o2).mach.k8; have y9' := fun o1 o2 => (hY o1 o2).mach.k9; have hAB := AB.new wK 0 0 0 0 24; clear hb)
      | (go_at_call 23; with_reducible refine (hab _ (hY _ _).old).mono ?_; rintro e w1 ⟨rfl, hb⟩; replace hX : PLift (SB w w1 m (.slice a1 m.sn c1) r) := ⟨(hY _ _).below hb⟩; replace hAB := hAB.below hb; have z0 := hX.down.c0; have z1 := hX.down.c1; obtain ⟨y0', y1', y2', y3', y4', y5', y6', y7', y8', y9'⟩ := hX.down.mach; clear hb; obtain ⟨A0, A1, B0, B1, _⟩ := id hAB)
      | (go_at_call 16; with_reducible refine (hbt _ hX.down.old).mono ?_; rintro e w1 ⟨rfl, hb⟩; replace hX : PLift (SB w w1 m (.slice a1 m.sn c1) r) := ⟨hX.down.below hb⟩; replace hAB := hAB.below hb; have z0 := hX.down.c0; have z1 := hX.down.c1; obtain ⟨y0', y1', y2', y3', y4', y5', y6', y7', y8', y9'⟩ := hX.down.mach; clear hb; obtain ⟨A0, A1, B0, B1, _⟩ := id hAB)
      | (go_at_call 9; with_reducible refine (hla _).mono ?_; rintro e w1 ⟨rfl, rfl⟩)
      | (go_at_call 9; with_reducible refine (hlb _).mono ?_; rintro e w1 ⟨rfl, rfl⟩)
      | (go_at_call 12; with_reducible refine (known_ok _ (hk.below hX.down.old)).mono ?_; rintro e w1 ⟨rfl, hb⟩; replace hX : PLift (SB w w1 m (.slice a1 m.sn c1) r) := ⟨hX.down.below hb⟩; have z0 := hX.down.c0; have z1 := hX.down.c1; obtain ⟨y0', y1', y2', y3', y4', y5', y6', y7', y8', y9'⟩ := hX.down.mach; clear hb))
     go_ret
     exact ⟨rfl, hX.down.old⟩
  ·obtain rfl := no2 (by rw [decide_eq_false h2, Bool.and_false]; rfl)
   have h2' : ¬ (n : Int) = (m.sn : Int) := by omega
   clear no2 hA hA1 h1
   go_enter Tryz.func4, Tryz.ntmps4
   go_wp2_with (first
    | (go_at_call 5; with_reducible refine (hsl _).mono ?_; rintro e w1 ⟨rfl, hb⟩; replace hX : PLift (SB w w1 m (.slice a1 n c1) r) := ⟨hX.down.below hb⟩; have z0 := hX.down.c0; have z1 := hX.down.c1; obtain ⟨y0', y1', y2', y3', y4', y5', y6', y7', y8', y9'⟩ := hX.down.mach; clear hb)
    | (go_at_call 22; with_reducible refine (hfw _).mono ?_; rintro e w1 ⟨rfl, hb⟩; replace hX : PLift (SB w w1 m (.slice a1 n c1) r) := ⟨hX.down.below hb⟩; have z0 := hX.down.c0; have z1 := hX.down.c1; obtain ⟨y0', y1', y2', y3', y4', y5', y6', y7', y8', y9'⟩ := hX.down.mach; clear hb)
    | (go_at_call 19; with_reducible refine (hpr _ hX.down.old).mono ?_; rintro e wK ⟨rfl, hb⟩; replace hX : PLift (SB w wK m (.slice a1 n c1) r) := ⟨hX.down.below hb⟩; have hY := fun o1 o2 => hX.down.two o1 o2; have z0 := fun o1 o2 => (hY o1 o2).c0; have z1 := fun o1 o2 => (hY o1 o2).c1; have y0' := fun o1 o2 => (hY o1 o2).mach.k0; have y1' := fun o1 o2 => (hY o1 o2).mach.k1; have y2' := fun o1 o2 => (hY o1 o2).mach.k2; have y3' := fun o1 o2 => (hY o1 o2).mach.k3; have y4' := fun o1 o2 => (hY o1 o2).mach.k4; have y5' := fun o1 o2 => (hY o1 o2).mach.k5; have y6' := fun o1 o2 => (hY o1 o2).mach.k6; have y7' := fun o1 o2 => (hY o1 o2).mach.k7; have y8' := fun o1 o2 => (hY o1 o2).mach.k8; have y9' := fun o1 o2 => (hY o1 o2).mach.k9; have hAB := AB.new wK 0 0 0 0 24; clear hb)
    | (go_at_call 23; with_reducible refine (hab _ (hY _ _).old).mono ?_; rintro e w1 ⟨rfl, hb⟩; replace hX : PLift (SB w w1 m (.slice a1 n c1) r) := ⟨(hY _ _).below hb⟩; replace hAB := hAB.below hb; have z0 := hX.down.c0; have z1 := hX.down.c1; obtain ⟨y0', y1', y2', y3', y4', y5', y6', y7', y8', y9'⟩ := hX.down.mach; clear hb; obtain ⟨A0, A1, B0, B1, _⟩ := id hAB)
    | (go_at_call 16; with_reducible refine (hbt _ hX.down.old).mono ?_; rintro e w1 ⟨rfl, hb⟩; replace hX : PLift (SB w w1 m (.slice a1 n c1) r) := ⟨hX.down.below hb⟩; replace hAB := hAB.below hb; have z0 := hX.down.c0; have z1 := hX.down.c1; obtain ⟨y0', y1', y2', y3', y4', y5', y6', y7', y8', y9'⟩ := hX.down.mach; clear hb; obtain ⟨A0, A1, B0, B1, _⟩ := id hAB)
    | (go_at_call 12; with_reducible refine (known_ok _ (hk.below hX.down.old)).mono ?_; rintro e w1 ⟨rfl, hb⟩; replace hX : PLift (SB w w1 m (.slice a1 n c1) r) := ⟨hX.down.below hb⟩; have z0 := hX.down.c0; have z1 := hX.down.c1; obtain ⟨y0', y1', y2', y3', y4', y5', y6', y7', y8', y9'⟩ := hX.down.mach; clear hb))
   go_ret
   exact ⟨rfl, hX.down.old⟩
end Go.Proofs.YtjhpklolpmaopaaGreatDoor
namespace Go.Proofs.YtjhpklolpmaopaaGreatDoor
open Go.RowKit
set_option maxRecDepth 100000 in
set_option maxHeartbeats 8000000 in
theorem proves_ok (a1 : Option Addr) (c1 : Nat) (r : Int) (HX HY : Nat → Int) (m : Mach) (k bl : Nat) (w : World) (hk : KG w) (hs : m.sn ≤ 6) (hr : m.rn ≤ 6) (hp : PSl w (.slice a1 m.sn c1) m.sn HX HY) (h : MIn w m) (hok : m.ok = true) (hc : m.can) (hbu : butB m.sn HX HY r = true) (hk1 : 1 ≤ k) (hk12 : k ≤ 12) (hbl : bl ≤ 12) :
  Calls Tryz.prog 4 #[m.val, .agg #[.slice a1 m.sn c1, .int .i64 r], .int .i64 k, .int .i64 bl] w fun e w' => e = .returned (.bool true) ∧ Below w.heap.size w w' := by
 have hsl := fun (W : World) => slim_any m W (by omega) (by omega)
 rw [decide_eq_true hs, decide_eq_true hr, Bool.and_true] at hsl
 have hfw := fun (W : World) => few_any a1 m.sn c1 r W (by omega)
 rw [show decide (m.sn ≤ 6) = true from decide_eq_true (by omega)] at hfw
 have hpr := fun (W : World) (hB : Below w.heap.size w W) => Proves_ok a1 c1 r HX HY m k bl W (by omega) (by omega) (hp.below hB) (h.below hB) hok hc hbu hk1 hk12 hbl
 have hre := fun (W : World) (hB : Below w.heap.size w W) => rproves_any m a1 c1 r HX HY k bl W (hk.below hB) (h.below hB) (hp.below hB) hok hc hbu hk1 hk12 hbl
 have hab := fun (W : World) (hB : Below w.heap.size w W) => able_any m 0 ⟨(fun hx => by rw [hok] at hx; cases hx), fun _ hx => absurd hc hx, fun _ _ => rfl⟩ W (by omega) (by omega) (h.below hB)
 have hbt := fun (W : World) (hB : Below w.heap.size w W) => rbutton_any a1 m.sn c1 HX HY r W (by omega) (hp.below hB)
 rw [hbu] at hbt
 have hla := fun (W : World) => rblank_any (k : Int) 1 W
 rw [inB_yes (n := (k : Int)) (lo := 1) (hi := 12) (by omega) (by omega)] at hla
 have hlb := fun (W : World) => rblank_any (bl : Int) 0 W
 rw [inB_yes (n := (bl : Int)) (lo := 0) (hi := 12) (by omega) (by omega)] at hlb
 obtain ⟨hs2, hs4, hS⟩ := stops_in hok
 obtain ⟨hr4, hH⟩ := but_in hbu
 obtain ⟨W0, hW0⟩ : ∃ W0, (w.alloc (.cells #[.slice m.sa m.sn m.sc, .int .i64 m.c0, .int .i64 m.c1, .int .i64 m.d0, .int .i64 m.d1, .int .i64 m.w0, .int .i64 m.w1, .int .i64 m.v0, .int .i64 m.v1, .slice m.ra m.rn m.rc] 27)).alloc (Obj.cells #[.slice a1 m.sn c1, .int .i64 r] 41) = W0 := ⟨_, rfl⟩
 have hX : PLift (SB w W0 m (.slice a1 m.sn c1) r) := ⟨by rw [← hW0]; exact SB.new w m _ r⟩
 have z0 := hX.down.c0
 have z1 := hX.down.c1
 obtain ⟨y0', y1', y2', y3', y4', y5', y6', y7', y8', y9'⟩ := hX.down.mach

 go_enter Tryz.func4, Tryz.ntmps4
 go_wp2_with (first
  | (go_at_call 5; with_reducible refine (hsl _).mono ?_; rintro e w1 ⟨rfl, hb⟩; replace hX : PLift (SB w w1 m (.slice a1 m.sn c1) r) := ⟨hX.down.below hb⟩; have z0 := hX.down.c0; have z1 := hX.down.c1; obtain ⟨y0', y1', y2', y3', y4', y5', y6', y7', y8', y9'⟩ := hX.down.mach; clear hb)
  | (go_at_call 22; with_reducible refine (hfw _).mono ?_; rintro e w1 ⟨rfl, hb⟩; replace hX : PLift (SB w w1 m (.slice a1 m.sn c1) r) := ⟨hX.down.below hb⟩; have z0 := hX.down.c0; have z1 := hX.down.c1; obtain ⟨y0', y1', y2', y3', y4', y5', y6', y7', y8', y9'⟩ := hX.down.mach; clear hb))
 go_at_call 19
 refine (hpr _ hX.down.old).mono ?_
 rintro e wK ⟨PL, hPL, ⟨hcw, rfl⟩ | ⟨hcw, rfl⟩, hb⟩
 ·replace hX : PLift (SB w wK m (.slice a1 m.sn c1) r) := ⟨hX.down.below hb⟩; have hY := fun o1 o2 => hX.down.two o1 o2; have z0 := fun o1 o2 => (hY o1 o2).c0; have z1 := fun o1 o2 => (hY o1 o2).c1; have y0' := fun o1 o2 => (hY o1 o2).mach.k0; have y1' := fun o1 o2 => (hY o1 o2).mach.k1; have y2' := fun o1 o2 => (hY o1 o2).mach.k2; have y3' := fun o1 o2 => (hY o1 o2).mach.k3; have y4' := fun o1 o2 => (hY o1 o2).mach.k4; have y5' := fun o1 o2 => (hY o1 o2).mach.k5; have y6' := fun o1 o2 => (hY o1 o2).mach.k6; have y7' := fun o1 o2 => (hY o1 o2).mach.k7; have y8' := fun o1 o2 => (hY o1 o2).mach.k8; have y9' := fun o1 o2 => (hY o1 o2).mach.k9; have hAB := AB.new wK ((wX m k (hullL PL)).ends bl).1 ((wX m k (hullL PL)).ends bl).2 ((wY m k (hullL PL)).ends bl).1 ((wY m k (hullL PL)).ends bl).2 24; clear hb
  generalize hh1 : ((wX m k (hullL PL)).ends bl).1 = p0 at *
  generalize hh2 : ((wX m k (hullL PL)).ends bl).2 = p1 at *
  generalize hh3 : ((wY m k (hullL PL)).ends bl).1 = q0 at *
  generalize hh4 : ((wY m k (hullL PL)).ends bl).2 = q1 at *
  replace hh1 := Hid.mk hh1
  replace hh2 := Hid.mk hh2
  replace hh3 := Hid.mk hh3
  replace hh4 := Hid.mk hh4
  go_wp2_with (first
   | (go_at_call 23; with_reducible refine (hab _ (hY _ _).old).mono ?_; rintro e w1 ⟨rfl, hb⟩; replace hX : PLift (SB w w1 m (.slice a1 m.sn c1) r) := ⟨(hY _ _).below hb⟩; replace hAB := hAB.below hb; have z0 := hX.down.c0; have z1 := hX.down.c1; obtain ⟨y0', y1', y2', y3', y4', y5', y6', y7', y8', y9'⟩ := hX.down.mach; clear hb; obtain ⟨A0, A1, B0, B1, _⟩ := id hAB)
   | (go_at_call 16; with_reducible refine (hbt _ hX.down.old).mono ?_; rintro e w1 ⟨rfl, hb⟩; replace hX : PLift (SB w w1 m (.slice a1 m.sn c1) r) := ⟨hX.down.below hb⟩; replace hAB := hAB.below hb; have z0 := hX.down.c0; have z1 := hX.down.c1; obtain ⟨y0', y1', y2', y3', y4', y5', y6', y7', y8', y9'⟩ := hX.down.mach; clear hb; obtain ⟨A0, A1, B0, B1, _⟩ := id hAB)
   | (go_at_call 9; with_reducible refine (hla _).mono ?_; rintro e w1 ⟨rfl, rfl⟩)
   | (go_at_call 9; with_reducible refine (hlb _).mono ?_; rintro e w1 ⟨rfl, rfl⟩))
  go_at_call 24
  refine (hre _ hX.down.old).mono ?_
  rintro e wR ⟨cnt, f, b, x0, x1, y0, y1, hbox, hlx, hly, rfl, hb⟩
  obtain ⟨hu1, hu2⟩ := hull_boxes (bl := bl) hok hc hs2 hs4 hr4 hS hH hbox hk12 hbl hPL
  have hbt' : b = true := by
   obtain ⟨i, hi, hci⟩ := hu1.1 hcw
   exact hlx.any.2 ⟨i, hi, hci⟩
  subst hbt'
  obtain ⟨e1, e2⟩ := hlx.hull (hu2 hcw).1
  obtain ⟨e3, e4⟩ := hly.hull (hu2 hcw).2
  rw [hh1.down] at e1
  rw [hh2.down] at e2
  rw [hh3.down] at e3
  rw [hh4.down] at e4
  subst e1 e2 e3 e4
  clear hu1 hu2 hlx hly hbox hPL hcw hh1 hh2 hh3 hh4 hre hpr
  replace hX : PLift (SB w wR m (.slice a1 m.sn c1) r) := ⟨hX.down.below hb⟩
  replace hAB := hAB.below hb
  clear hb
  have hZ := fun o1 o2 => hX.down.two o1 o2
  have A0 := fun o1 o2 => (hAB.two o1 o2).a0
  have A1 := fun o1 o2 => (hAB.two o1 o2).a1
  have B0 := fun o1 o2 => (hAB.two o1 o2).b0
  have B1 := fun o1 o2 => (hAB.two o1 o2).b1
  have hAC := AB.new wR x0 x1 y0 y1 24
  obtain ⟨C0, C1, D0, D1, _⟩ := id hAC
  clear y0' y1' y2' y3' y4' y5' y6' y7' y8' y9' z0 z1
  go_wp2_with (first
   | (go_at_call 12; with_reducible refine (known_ok _ (hk.below (hZ _ _).old)).mono ?_; rintro e w1 ⟨rfl, hb⟩; replace hX : PLift (SB w w1 m (.slice a1 m.sn c1) r) := ⟨(hZ _ _).below hb⟩))
  go_ret
  exact ⟨rfl, hX.down.old⟩
 ·replace hX : PLift (SB w wK m (.slice a1 m.sn c1) r) := ⟨hX.down.below hb⟩; have hY := fun o1 o2 => hX.down.two o1 o2; have z0 := fun o1 o2 => (hY o1 o2).c0; have z1 := fun o1 o2 => (hY o1 o2).c1; have y0' := fun o1 o2 => (hY o1 o2).mach.k0; have y1' := fun o1 o2 => (hY o1 o2).mach.k1; have y2' := fun o1 o2 => (hY o1 o2).mach.k2; have y3' := fun o1 o2 => (hY o1 o2).mach.k3; have y4' := fun o1 o2 => (hY o1 o2).mach.k4; have y5' := fun o1 o2 => (hY o1 o2).mach.k5; have y6' := fun o1 o2 => (hY o1 o2).mach.k6; have y7' := fun o1 o2 => (hY o1 o2).mach.k7; have y8' := fun o1 o2 => (hY o1 o2).mach.k8; have y9' := fun o1 o2 => (hY o1 o2).mach.k9; have hAB := AB.new wK 0 0 0 0 24; clear hb
  go_wp2_with (first
   | (go_at_call 23; with_reducible refine (hab _ (hY _ _).old).mono ?_; rintro e w1 ⟨rfl, hb⟩; replace hX : PLift (SB w w1 m (.slice a1 m.sn c1) r) := ⟨(hY _ _).below hb⟩; replace hAB := hAB.below hb; have z0 := hX.down.c0; have z1 := hX.down.c1; obtain ⟨y0', y1', y2', y3', y4', y5', y6', y7', y8', y9'⟩ := hX.down.mach; clear hb; obtain ⟨A0, A1, B0, B1, _⟩ := id hAB)
   | (go_at_call 16; with_reducible refine (hbt _ hX.down.old).mono ?_; rintro e w1 ⟨rfl, hb⟩; replace hX : PLift (SB w w1 m (.slice a1 m.sn c1) r) := ⟨hX.down.below hb⟩; replace hAB := hAB.below hb; have z0 := hX.down.c0; have z1 := hX.down.c1; obtain ⟨y0', y1', y2', y3', y4', y5', y6', y7', y8', y9'⟩ := hX.down.mach; clear hb; obtain ⟨A0, A1, B0, B1, _⟩ := id hAB)
   | (go_at_call 9; with_reducible refine (hla _).mono ?_; rintro e w1 ⟨rfl, rfl⟩)
   | (go_at_call 9; with_reducible refine (hlb _).mono ?_; rintro e w1 ⟨rfl, rfl⟩))
  go_at_call 24
  refine (hre _ hX.down.old).mono ?_
  rintro e wR ⟨cnt, f, b, x0, x1, y0, y1, hbox, hlx, hly, rfl, hb⟩
  obtain ⟨hu1, hu2⟩ := hull_boxes (bl := bl) hok hc hs2 hs4 hr4 hS hH hbox hk12 hbl hPL
  have hbt' : b = false := by
   cases hb' : b with
   | false => rfl
   | true =>
    obtain ⟨i, hi, hci⟩ := hlx.any.1 hb'
    exact absurd (hu1.2 ⟨i, hi, hci⟩) hcw
  subst hbt'
  obtain ⟨e1, e2⟩ := hlx.nil rfl
  obtain ⟨e3, e4⟩ := hly.nil rfl
  subst e1 e2 e3 e4
  clear hu1 hu2 hlx hly hbox hPL hcw hre hpr
  replace hX : PLift (SB w wR m (.slice a1 m.sn c1) r) := ⟨hX.down.below hb⟩
  replace hAB := hAB.below hb
  clear hb
  have hZ := fun o1 o2 => hX.down.two o1 o2
  have A0 := fun o1 o2 => (hAB.two o1 o2).a0
  have A1 := fun o1 o2 => (hAB.two o1 o2).a1
  have B0 := fun o1 o2 => (hAB.two o1 o2).b0
  have B1 := fun o1 o2 => (hAB.two o1 o2).b1
  clear y0' y1' y2' y3' y4' y5' y6' y7' y8' y9' z0 z1
  go_wp2_with (first
   | (go_at_call 12; with_reducible refine (known_ok _ (hk.below (hZ _ _).old)).mono ?_; rintro e w1 ⟨rfl, hb⟩; replace hX : PLift (SB w w1 m (.slice a1 m.sn c1) r) := ⟨(hZ _ _).below hb⟩))
  go_ret
  exact ⟨rfl, hX.down.old⟩
end Go.Proofs.YtjhpklolpmaopaaGreatDoor
namespace Go.Proofs.YtjhpklolpmaopaaGreatDoor
open Go.RowKit
theorem proves_all {a1 : Option Addr} {n c1 : Nat} {r : Int} {HX HY : Nat → Int} {m : Mach} {k bl : Int} {w : World} (hk : KG w) (hn : n ≤ 9223372036854775807) (hs : m.sn ≤ 9223372036854775807) (hr : m.rn ≤ 9223372036854775807) (h : MIn w m) (hp : PSl w (.slice a1 n c1) n HX HY) :
  Calls Tryz.prog 4 #[m.val, .agg #[.slice a1 n c1, .int .i64 r], .int .i64 k, .int .i64 bl] w fun e w' => e = .returned (.bool true) ∧ Below w.heap.size w w' := by
 cases hl : ((decide (m.sn ≤ 6) && decide (m.rn ≤ 6)) && decide (n ≤ 6)) with
 | false => exact proves_long a1 n c1 r m k bl w hk hn hs hr hl
 | true =>
  simp only [Bool.and_eq_true, decide_eq_true_eq] at hl
  obtain ⟨⟨l1, l2⟩, l3⟩ := hl
  obtain ⟨er1, hA1⟩ := able_ex m true
  obtain ⟨er, hA⟩ := able_ex m (((butB n HX HY r && decide (n = m.sn)) && inB k 1 12) && inB bl 0 12)
  by_cases he : er = 0
  ·rcases hA.which with ⟨h2, _⟩ | ⟨h7, _⟩ | ⟨_, hf, hc⟩
   ·omega
   ·omega
   ·simp only [Bool.and_eq_true, decide_eq_true_eq] at hf
    obtain ⟨hok, ⟨⟨hbu, rfl⟩, hi1⟩, hi2⟩ := hf
    have o1 := inB_iff.1 hi1
    have o2 := inB_iff.1 hi2
    obtain ⟨k', rfl⟩ : ∃ k' : Nat, k = (k' : Int) := ⟨k.toNat, by omega⟩
    obtain ⟨b', rfl⟩ : ∃ b' : Nat, bl = (b' : Int) := ⟨bl.toNat, by omega⟩
    exact proves_ok a1 c1 r HX HY m k' b' w hk l1 l2 hp h hok hc hbu (by omega) (by omega) (by omega)
  ·exact proves_err a1 n c1 r HX HY m k bl w hk l3 l1 l2 hp h er1 er hA1 hA he
end Go.Proofs.YtjhpklolpmaopaaGreatDoor
namespace Go.Proofs.YtjhpklolpmaopaaGreatDoor
open Go.ChangeShapes Go.WideShapes Go.ChangeAt Go.RowKit
/-! ### What the package-level variables hold -/
section
variable {H : Type} {enc : TypeId × Value → H} {P : Program} {w : World} {base : Nat} {spare : Nat → Bool} {held : Bool}
theorem arr_each {α : Type} {n fuel : Nat} {e t : TypeId} {cs : List Value} {p : List MemPlace} {l : List α} {D : α → DataW H} {V : α → Value} (ht : P.underlying t = some (.array n e)) (hc : P.cellsOf e = 1) (hct : P.cellsOf t = n)
  (hone : ∀ m v y a, DataW.trod enc P w base spare held m e [v] = some y → y.1 = D a → v = V a)
  (h : DataW.trod enc P w base spare held fuel t cs = some (.agg (l.map D), p)) : cs = l.map V := by
 obtain ⟨xs, m, _, hx, hlen, hn, hel⟩ := DataW.trod_array ht h
 simp only [Prod.mk.injEq, DataW.agg.injEq] at hx
 rw [hct] at hlen
 have hll : l.length = n := by
  have := congrArg List.length hx.1
  simp only [List.length_map] at this
  omega
 apply List.ext_getElem (by rw [List.length_map]; omega)
 intro i h1 h2
 rw [List.length_map] at h2
 have hi : i < n := by omega
 have h3 := hel i hi
 rw [hc, Nat.mul_one] at h3
 have h4 : (cs.drop i).take 1 = [cs[i]] := by
  rw [List.drop_eq_getElem_cons h1]; rfl
 rw [h4] at h3
 have h5 : xs[i]? = some (xs[i]'(by omega)) := List.getElem?_eq_getElem (by omega)
 have h6 : (xs[i]'(by omega)).1 = D (l[i]'h2) := by
  have h7 : (l.map D)[i]? = (xs.map (·.1))[i]? := by rw [hx.1]
  rw [List.getElem?_map, List.getElem?_map, h5, List.getElem?_eq_getElem h2] at h7
  simpa using h7.symm
 rw [List.getElem_map]
 exact hone m _ _ _ (h3.trans h5) h6
end
theorem block_of_var {P : Program} {w : World} {name : String} {cs : Array Value} {g : Nat} (hg : P.globalNamed name = some g) (h : w.var? P name = some cs) : ∃ e f, w.heap[g]? = some (.cells cs e f) := by
 unfold World.var? at h
 rw [hg] at h
 simp only [Option.bind_some] at h
 split at h
 ·next c e f hh => cases h; exact ⟨e, f, hh⟩
 ·cases h
theorem int_each {k : IntKind} {e : TypeId} {P : Program} {w : World} {base : Nat} {spare : Nat → Bool} {held : Bool} {H : Type} {enc : TypeId × Value → H} (he : P.underlying e = some (.int k)) :
  ∀ m v (y : DataW H × List MemPlace) a, DataW.trod enc P w base spare held m e [v] = some y → y.1 = .lit (.int k a) → v = .int k a := fun m v y a h h1 => by
 obtain ⟨n, e1, e2, _⟩ := DataW.trod_int he h
 rw [e2] at h1
 simp only [DataW.lit.injEq, Lit.int.injEq, true_and] at h1
 rw [List.cons.injEq] at e1
 rw [e1.1, h1]
theorem str_each {e : TypeId} {P : Program} {w : World} {base : Nat} {spare : Nat → Bool} {held : Bool} {H : Type} {enc : TypeId × Value → H} (he : P.underlying e = some .string) :
  ∀ m v (y : DataW H × List MemPlace) (a : ByteArray), DataW.trod enc P w base spare held m e [v] = some y → y.1 = .lit (.string a.data.toList) → v = .string a := fun m v y a h h1 => by
 obtain ⟨s, e1, e2, _⟩ := DataW.trod_string he h
 rw [e2] at h1
 simp only [DataW.lit.injEq, Lit.string.injEq] at h1
 rw [List.cons.injEq] at e1
 rw [e1.1]
 obtain ⟨s⟩ := s
 obtain ⟨a⟩ := a
 dsimp only at h1
 rw [Array.toList_inj.1 h1]
def list0 : List Int := [0, 1, 28, 2, 29, 14, 24, 3, 30, 22, 20, 15, 25, 17, 4, 8, 31, 27, 13, 23, 21, 19, 16, 7, 26, 12, 18, 6, 11, 5, 10, 9]
theorem gl0 : Tryz.prog.globalNamed "math/bits.deBruijn32tab" = some 3 := by kernel_rfl
theorem ty0 : (Tryz.prog.globals[3]?).map (·.type) = some 281 := by kernel_rfl
def list1 : List Int := [0, 1, 56, 2, 57, 49, 28, 3, 61, 58, 42, 50, 38, 29, 17, 4, 62, 47, 59, 36, 45, 43, 51, 22, 53, 39, 33, 30, 24, 18, 12, 5, 63, 55, 48, 27, 60, 41, 37, 16, 46, 35, 44, 21, 52, 32, 23, 11, 54, 26, 40, 15, 34, 20, 31, 10, 25, 14, 19, 9, 13, 8, 7, 6]
theorem gl1 : Tryz.prog.globalNamed "math/bits.deBruijn64tab" = some 4 := by kernel_rfl
theorem ty1 : (Tryz.prog.globals[4]?).map (·.type) = some 282 := by kernel_rfl
def list2 : List Int := [1, 10, 100, 1000, 10000, 100000, 1000000, 10000000, 100000000, 1000000000, 10000000000, 100000000000, 1000000000000, 10000000000000, 100000000000000, 1000000000000000, 10000000000000000, 100000000000000000, 1000000000000000000, 10000000000000000000]
theorem gl2 : Tryz.prog.globalNamed "internal/strconv.uint64pow10" = some 2 := by kernel_rfl
theorem ty2 : (Tryz.prog.globals[2]?).map (·.type) = some 270 := by kernel_rfl
def list3 : List ByteArray := [⟨#[109, 97, 99, 104, 105, 110, 101]⟩, ⟨#[115, 116, 111, 112]⟩, ⟨#[99, 104, 117, 99, 107]⟩, ⟨#[119, 101, 97, 114]⟩, ⟨#[114, 101, 97, 100, 105, 110, 103]⟩, ⟨#[101, 110, 100]⟩]
theorem gl3 : Tryz.prog.globalNamed "nacre/drill.words" = some 0 := by kernel_rfl
theorem ty3 : (Tryz.prog.globals[0]?).map (·.type) = some 203 := by kernel_rfl
theorem of_laid {W : World} (h : laidMetH Tryz.prog Rows.drillProvesRow.laid W) : KG W := by
 rw [MakeChecks.laidMetH_plain _ _ _ (by kernel_rfl)] at h
 obtain ⟨ps, ⟨a0, t0, cs0, f0, p0, q0, hg0, ht0, hv0, hd0, ⟨a1, t1, cs1, f1, p1, q1, hg1, ht1, hv1, hd1, ⟨a2, t2, cs2, f2, p2, q2, hg2, ht2, hv2, hd2, ⟨a3, t3, cs3, f3, p3, q3, hg3, ht3, hv3, hd3, _, _⟩, _⟩, _⟩, _⟩, _, _⟩ := h
 obtain rfl := Option.some.inj (gl0.symm.trans hg0)
 obtain rfl := Option.some.inj (ty0.symm.trans ht0)
 obtain rfl := Option.some.inj (gl1.symm.trans hg1)
 obtain rfl := Option.some.inj (ty1.symm.trans ht1)
 obtain rfl := Option.some.inj (gl2.symm.trans hg2)
 obtain rfl := Option.some.inj (ty2.symm.trans ht2)
 obtain rfl := Option.some.inj (gl3.symm.trans hg3)
 obtain rfl := Option.some.inj (ty3.symm.trans ht3)
 have z0 := arr_each (l := list0) (V := Value.int .u8) (D := fun z => .lit (.int .u8 z)) (by kernel_rfl : Tryz.prog.underlying 281 = some (.array 32 5)) (by kernel_rfl) (by kernel_rfl) (int_each (by kernel_rfl : Tryz.prog.underlying 5 = some (.int .u8))) hd0
 have z1 := arr_each (l := list1) (V := Value.int .u8) (D := fun z => .lit (.int .u8 z)) (by kernel_rfl : Tryz.prog.underlying 282 = some (.array 64 5)) (by kernel_rfl) (by kernel_rfl) (int_each (by kernel_rfl : Tryz.prog.underlying 5 = some (.int .u8))) hd1
 have z2 := arr_each (l := list2) (V := Value.int .u64) (D := fun z => .lit (.int .u64 z)) (by kernel_rfl : Tryz.prog.underlying 270 = some (.array 20 253)) (by kernel_rfl) (by kernel_rfl) (int_each (by kernel_rfl : Tryz.prog.underlying 253 = some (.int .u64))) hd2
 have z3 := arr_each (l := list3) (V := Value.string) (D := fun z => .lit (.string z.data.toList)) (by kernel_rfl : Tryz.prog.underlying 203 = some (.array 6 9)) (by kernel_rfl) (by kernel_rfl) (str_each (by kernel_rfl : Tryz.prog.underlying 9 = some .string)) hd3
 have w0 : cs0 = cells0.toArray := Array.toList_inj.1 (by rw [z0]; rfl)
 have w1 : cs1 = cells1.toArray := Array.toList_inj.1 (by rw [z1]; rfl)
 have w2 : cs2 = cells2.toArray := Array.toList_inj.1 (by rw [z2]; rfl)
 have w3 : cs3 = cells3.toArray := Array.toList_inj.1 (by rw [z3]; rfl)
 subst w0
 subst w1
 subst w2
 subst w3
 exact ⟨block_of_var gl0 hv0, block_of_var gl1 hv1, block_of_var gl2 hv2, block_of_var gl3 hv3⟩
theorem own : ownKnob Tryz.prog.godebug = none := by kernel_rfl
theorem laidOut : laidOutB Tryz.prog = true := by kernel_rfl
end Go.Proofs.YtjhpklolpmaopaaGreatDoor
