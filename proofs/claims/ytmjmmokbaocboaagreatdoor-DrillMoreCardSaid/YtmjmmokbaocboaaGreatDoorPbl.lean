/- A part of the proof: see the last file. -/
import Derived.Test.YtmjmmokbaocboaaGreatDoorPbk
import Derived.Test.YtmjmmokbaocboaaGreatDoorPap
import Derived.Test.YtmjmmokbaocboaaGreatDoorPaq
import Derived.Test.YtmjmmokbaocboaaGreatDoorPao
set_option linter.unusedVariables false
set_option linter.unusedSimpArgs false
set_option linter.unusedSectionVars false
namespace Go.Proofs.YtmjmmokbaocboaaGreatDoor
open Go.RowKit Go.Can
end Go.Proofs.YtmjmmokbaocboaaGreatDoor
namespace Go.Proofs.YtmjmmokbaocboaaGreatDoor
open Go.RowKit Go.Can
set_option maxRecDepth 100000 in
set_option maxHeartbeats 400000 in
theorem measure_nil (a : Option Addr) (c : Nat) (X Y : Nat → Int) (r : Int) (w : World) :
    Calls Tryz.prog 16 #[.agg #[.slice a 0 c, .int .i64 r]] w fun e w' => e = .returned (.bool (measB 0 X Y r)) ∧ Below w.heap.size w w' := by
  obtain ⟨w0, hw⟩ : ∃ w0, w.alloc (.cells #[.slice a 0 c, .int .i64 r] 24) = w0 := ⟨_, rfl⟩
  have hw0 : Below w.heap.size w w0 := by rw [← hw]; exact (Below.refl _ _).alloc (Nat.le_refl _) _
  have c0 : w0.cell? ⟨w.heap.size, 0, none⟩ = some (.slice a 0 c) := by rw [← hw]; have := cells_two w (.slice a 0 c) (.int .i64 r) 24 0 _ rfl; simp [Addr.add]
  have hpn : ponB 0 2 4 X Y 20 = false := by unfold ponB; rw [show inB ((0 : Nat) : Int) 2 4 = false from inB_no1 (by decide)]; simp
  have hm : measB 0 X Y r = false := by unfold measB; rw [hpn]; simp
  rw [hm]
  go_enter Tryz.func16, Tryz.ntmps16
  go_wp2
  refine wp_loop_rounds 1 ?_
  rw [rounds_succ]
  go_wp2_with (go_at_call 56; refine (points_nil a c 2 4 X Y 20 _).mono ?_; rw [hpn]; rintro e w' ⟨rfl, rfl⟩)
  go_ret
  exact ⟨rfl, hw0⟩
theorem measure_any (v : Value) (n : Nat) (X Y : Nat → Int) (r : Int) (w : World) (hn : n ≤ 1000) (hp : PSl w v n X Y) :
    Calls Tryz.prog 16 #[.agg #[v, .int .i64 r]] w fun e w' => e = .returned (.bool (measB n X Y r)) ∧ Below w.heap.size w w' := by
  rcases hp with ⟨a, c, rfl, rfl⟩ | ⟨b, off, cap, rfl, hb, hp⟩
  · exact measure_nil a c X Y r w
  · exact measure_some b off n cap X Y r w hn hp hb
/-! ### Match, case by case -/
end Go.Proofs.YtmjmmokbaocboaaGreatDoor
namespace Go.Proofs.YtmjmmokbaocboaaGreatDoor
open Go.RowKit
set_option maxRecDepth 100000 in
set_option maxHeartbeats 2000000 in
theorem held_any (a1 : Option Addr) (n c1 : Nat) (r : Int) (HX HY : Nat → Int) (m : Mach) (k f : Int) (w : World) (hn : n ≤ 6) (hs : m.sn ≤ 6) (hr : m.rn ≤ 6) (hp : PSl w (.slice a1 n c1) n HX HY) (h : MIn w m) (er : Int) (hA : Able m ((measB n HX HY r && decide (n = m.sn)) && inB k f 12) er) :
    Calls Tryz.prog 11 #[.agg #[.slice a1 n c1, .int .i64 r], m.val, .int .i64 k, .int .i64 f] w fun e w' => e = .returned (.int .i64 er) ∧ Below w.heap.size w w' := by
  have hme := fun (W : World) (hB : Below w.heap.size w W) => measure_any (.slice a1 n c1) n HX HY r W (by omega) (hp.below hB)
  have hma := fun (W : World) (hB : Below w.heap.size w W) => rmachine_any m W (by omega) (by omega) (h.below hB)
  have hbl := fun (W : World) => rblank_any k f W
  have hab0 := fun (er : Int) (hA : Able m true er) (W : World) (hB : Below w.heap.size w W) => able_any m er hA W (by omega) (by omega) (h.below hB)
  have hargs : ∀ x : Bool, ((measB n HX HY r && decide (n = m.sn)) && inB k f 12) = x → Able m x er := fun x hx => hx ▸ hA
  have hok : ∀ x : Bool, Able m x er → x = false ∨ m.ok = false → er = 2 := fun x hx hh => hx.arg (by
    rcases hh with hh | hh
    · rw [hh]; simp
    · rw [hh]; rfl)
  obtain ⟨W0, hW0⟩ : ∃ W0, (w.alloc (Obj.cells #[.slice a1 n c1, .int .i64 r] 24)).alloc (.cells #[.slice m.sa m.sn m.sc, .int .i64 m.c0, .int .i64 m.c1, .int .i64 m.d0, .int .i64 m.d1, .int .i64 m.w0, .int .i64 m.w1, .int .i64 m.v0, .int .i64 m.v1, .slice m.ra m.rn m.rc] 29) = W0 := ⟨_, rfl⟩
  have hX : PLift (SX w W0 m (.slice a1 n c1) r) := ⟨by rw [← hW0]; exact SX.new w m _ r⟩
  have z0 := hX.down.c0
  have z1 := hX.down.c1
  obtain ⟨y0', y1', y2', y3', y4', y5', y6', y7', y8', y9'⟩ := hX.down.mach
  generalize hg1 : measB n HX HY r = x1 at *
  generalize hg3 : inB k f 12 = x3 at *
  cases x1
  · obtain rfl : er = 2 := hok _ (hargs false (by simp)) (.inl rfl)
    clear hargs hok hA hab0
    have hab := hX
    go_enter Tryz.func11, Tryz.ntmps11
    go_wp2_with (first
      | (go_at_call 16; with_reducible refine (hme _ hX.down.old).mono ?_; rintro e w1 ⟨rfl, hb⟩; replace hX : PLift (SX w w1 m (.slice a1 n c1) r) := ⟨hX.down.below hb⟩; have z0 := hX.down.c0; have z1 := hX.down.c1; obtain ⟨y0', y1', y2', y3', y4', y5', y6', y7', y8', y9'⟩ := hX.down.mach; clear hb)
      | (go_at_call 17; with_reducible refine (hma _ hX.down.old).mono ?_; rintro e w1 ⟨rfl, hb⟩; replace hX : PLift (SX w w1 m (.slice a1 n c1) r) := ⟨hX.down.below hb⟩; have z0 := hX.down.c0; have z1 := hX.down.c1; obtain ⟨y0', y1', y2', y3', y4', y5', y6', y7', y8', y9'⟩ := hX.down.mach; clear hb)
      | (go_at_call 19; with_reducible refine (hbl _).mono ?_; rintro e w1 ⟨rfl, rfl⟩)
      | (go_at_call 25; with_reducible refine (hab _ hX.down.old).mono ?_; rintro e w1 ⟨rfl, hb⟩; replace hX : PLift (SX w w1 m (.slice a1 n c1) r) := ⟨hX.down.below hb⟩; clear hb))
    go_ret
    exact ⟨rfl, hX.down.old⟩
  · cases hg2 : m.ok
    · obtain rfl : er = 2 := hok _ hA (.inr hg2)
      rw [hg2] at hma
      clear hargs hok hA hab0
      have hab := hX
      go_enter Tryz.func11, Tryz.ntmps11
      go_wp2_with (first
        | (go_at_call 16; with_reducible refine (hme _ hX.down.old).mono ?_; rintro e w1 ⟨rfl, hb⟩; replace hX : PLift (SX w w1 m (.slice a1 n c1) r) := ⟨hX.down.below hb⟩; have z0 := hX.down.c0; have z1 := hX.down.c1; obtain ⟨y0', y1', y2', y3', y4', y5', y6', y7', y8', y9'⟩ := hX.down.mach; clear hb)
        | (go_at_call 17; with_reducible refine (hma _ hX.down.old).mono ?_; rintro e w1 ⟨rfl, hb⟩; replace hX : PLift (SX w w1 m (.slice a1 n c1) r) := ⟨hX.down.below hb⟩; have z0 := hX.down.c0; have z1 := hX.down.c1; obtain ⟨y0', y1', y2', y3', y4', y5', y6', y7', y8', y9'⟩ := hX.down.mach; clear hb)
        | (go_at_call 19; with_reducible refine (hbl _).mono ?_; rintro e w1 ⟨rfl, rfl⟩)
        | (go_at_call 25; with_reducible refine (hab _ hX.down.old).mono ?_; rintro e w1 ⟨rfl, hb⟩; replace hX : PLift (SX w w1 m (.slice a1 n c1) r) := ⟨hX.down.below hb⟩; clear hb))
      go_ret
      exact ⟨rfl, hX.down.old⟩
    · rw [hg2] at hma
      by_cases hnn : n = m.sn
      · subst hnn
        cases x3
        · obtain rfl : er = 2 := hok _ (hargs false (by simp)) (.inl rfl)
          clear hargs hok hA hab0
          have hab := hX
          go_enter Tryz.func11, Tryz.ntmps11
          go_wp2_with (first
            | (go_at_call 16; with_reducible refine (hme _ hX.down.old).mono ?_; rintro e w1 ⟨rfl, hb⟩; replace hX : PLift (SX w w1 m (.slice a1 m.sn c1) r) := ⟨hX.down.below hb⟩; have z0 := hX.down.c0; have z1 := hX.down.c1; obtain ⟨y0', y1', y2', y3', y4', y5', y6', y7', y8', y9'⟩ := hX.down.mach; clear hb)
            | (go_at_call 17; with_reducible refine (hma _ hX.down.old).mono ?_; rintro e w1 ⟨rfl, hb⟩; replace hX : PLift (SX w w1 m (.slice a1 m.sn c1) r) := ⟨hX.down.below hb⟩; have z0 := hX.down.c0; have z1 := hX.down.c1; obtain ⟨y0', y1', y2', y3', y4', y5', y6', y7', y8', y9'⟩ := hX.down.mach; clear hb)
            | (go_at_call 19; with_reducible refine (hbl _).mono ?_; rintro e w1 ⟨rfl, rfl⟩)
            | (go_at_call 25; with_reducible refine (hab _ hX.down.old).mono ?_; rintro e w1 ⟨rfl, hb⟩; replace hX : PLift (SX w w1 m (.slice a1 m.sn c1) r) := ⟨hX.down.below hb⟩; clear hb))
          go_ret
          exact ⟨rfl, hX.down.old⟩
        · have hab := hab0 er (hargs true (by simp))
          clear hargs hok hA hab0
          go_enter Tryz.func11, Tryz.ntmps11
          go_wp2_with (first
            | (go_at_call 16; with_reducible refine (hme _ hX.down.old).mono ?_; rintro e w1 ⟨rfl, hb⟩; replace hX : PLift (SX w w1 m (.slice a1 m.sn c1) r) := ⟨hX.down.below hb⟩; have z0 := hX.down.c0; have z1 := hX.down.c1; obtain ⟨y0', y1', y2', y3', y4', y5', y6', y7', y8', y9'⟩ := hX.down.mach; clear hb)
            | (go_at_call 17; with_reducible refine (hma _ hX.down.old).mono ?_; rintro e w1 ⟨rfl, hb⟩; replace hX : PLift (SX w w1 m (.slice a1 m.sn c1) r) := ⟨hX.down.below hb⟩; have z0 := hX.down.c0; have z1 := hX.down.c1; obtain ⟨y0', y1', y2', y3', y4', y5', y6', y7', y8', y9'⟩ := hX.down.mach; clear hb)
            | (go_at_call 19; with_reducible refine (hbl _).mono ?_; rintro e w1 ⟨rfl, rfl⟩)
            | (go_at_call 25; with_reducible refine (hab _ hX.down.old).mono ?_; rintro e w1 ⟨rfl, hb⟩; replace hX : PLift (SX w w1 m (.slice a1 m.sn c1) r) := ⟨hX.down.below hb⟩; clear hb))
          go_ret
          exact ⟨rfl, hX.down.old⟩
      · obtain rfl : er = 2 := hok _ (hargs false (by simp [hnn])) (.inl rfl)
        have hni : ¬ (n : Int) = (m.sn : Int) := by omega
        clear hargs hok hA hab0
        have hab := hX
        go_enter Tryz.func11, Tryz.ntmps11
        go_wp2_with (first
          | (go_at_call 16; with_reducible refine (hme _ hX.down.old).mono ?_; rintro e w1 ⟨rfl, hb⟩; replace hX : PLift (SX w w1 m (.slice a1 n c1) r) := ⟨hX.down.below hb⟩; have z0 := hX.down.c0; have z1 := hX.down.c1; obtain ⟨y0', y1', y2', y3', y4', y5', y6', y7', y8', y9'⟩ := hX.down.mach; clear hb)
          | (go_at_call 17; with_reducible refine (hma _ hX.down.old).mono ?_; rintro e w1 ⟨rfl, hb⟩; replace hX : PLift (SX w w1 m (.slice a1 n c1) r) := ⟨hX.down.below hb⟩; have z0 := hX.down.c0; have z1 := hX.down.c1; obtain ⟨y0', y1', y2', y3', y4', y5', y6', y7', y8', y9'⟩ := hX.down.mach; clear hb)
          | (go_at_call 19; with_reducible refine (hbl _).mono ?_; rintro e w1 ⟨rfl, rfl⟩)
          | (go_at_call 25; with_reducible refine (hab _ hX.down.old).mono ?_; rintro e w1 ⟨rfl, hb⟩; replace hX : PLift (SX w w1 m (.slice a1 n c1) r) := ⟨hX.down.below hb⟩; clear hb))
        go_ret
        exact ⟨rfl, hX.down.old⟩
end Go.Proofs.YtmjmmokbaocboaaGreatDoor
namespace Go.Proofs.YtmjmmokbaocboaaGreatDoor
open Go.RowKit
set_option maxRecDepth 100000 in
theorem lspan_any (a b : Int) (w : World) : Calls Tryz.prog 46 #[.int .i64 a, .int .i64 b] w fun e w' => e = .returned (.agg #[.int .i64 a, .int .i64 b]) ∧ Below w.heap.size w w' := by
  go_enter Tryz.func46, Tryz.ntmps46
  go_wp2
  refine bodyPost_ret (v := .agg #[.int .i64 a, .int .i64 b]) (by simp [results, Tryz.results46, go_sem]) rfl ⟨rfl, (Below.refl _ _).alloc (Nat.le_refl _) _⟩
set_option maxRecDepth 100000 in
theorem few_any (a : Option Addr) (n c : Nat) (r : Int) (w : World) (hn : n ≤ 9223372036854775807) : Calls Tryz.prog 23 #[.agg #[.slice a n c, .int .i64 r]] w fun e w' => e = .returned (.bool (decide (n ≤ 6))) ∧ Below w.heap.size w w' := by
  go_enter Tryz.func23, Tryz.ntmps23
  have h : decide ((n : Int) ≤ 6) = decide (n ≤ 6) := by by_cases h : n ≤ 6 <;> simp [h] <;> omega
  go_wp2
  go_ret
  exact ⟨rfl, (Below.refl _ _).alloc (Nat.le_refl _) _⟩
set_option maxRecDepth 100000 in
theorem closer_any (s0 s1 up down : Int) (h0 : -12 ≤ s0 ∧ s0 ≤ 12) (h1 : -12 ≤ s1 ∧ s1 ≤ 12) (hu : 0 ≤ up ∧ up ≤ 6) (hd : 0 ≤ down ∧ down ≤ 6) (w : World) : Calls Tryz.prog 31 #[.agg #[.int .i64 s0, .int .i64 s1], .int .i64 up, .int .i64 down] w fun e w' => e = .returned (.agg #[.int .i64 (min s1 (s0 + up)), .int .i64 (max (min s1 (s0 + up)) (s1 - down))]) ∧ Below w.heap.size w w' := by
  have w1 : IntKind.i64.wrap (s0 + up) = s0 + up := IntWalk.i64_in _ (by omega)
  have w2 : IntKind.i64.wrap (s1 - down) = s1 - down := IntWalk.i64_in _ (by omega)
  obtain ⟨A1, hA1⟩ : ∃ A1, w.alloc (Obj.cells #[.int .i64 s0, .int .i64 s1] 26) = A1 := ⟨_, rfl⟩
  have z1 : A1.heap.size = w.heap.size + 1 := by rw [← hA1, World.size_alloc]
  obtain ⟨W0, hW0⟩ : ∃ W0, A1.alloc (Obj.cells #[.int .i64 0, .int .i64 0] 26) = W0 := ⟨_, rfl⟩
  have z2 : W0.heap.size = w.heap.size + 1 + 1 := by rw [← hW0, World.size_alloc, z1]
  have hb1 : Below w.heap.size w A1 := by rw [← hA1]; exact (Below.refl _ _).alloc (Nat.le_refl _) _
  have hb2 : Below A1.heap.size A1 W0 := by rw [← hW0]; exact (Below.refl _ _).alloc (Nat.le_refl _) _
  have hO := hb1.trans (hb2.mono hb1.size)
  have hP : Two W0 w.heap.size s0 s1 := by have := Two.new w 26 s0 s1; rw [hA1] at this; exact this.below hb2 (by omega)
  have hT : Two W0 (w.heap.size + 1) 0 0 := by have := Two.new A1 26 0 0; rw [hW0, z1] at this; exact this
  obtain ⟨p0, p1, _, _⟩ := hP
  go_enter Tryz.func31, Tryz.ntmps31
  go_wp2_with (go_at_call 46; with_reducible refine (lspan_any _ _ _).mono ?_; rintro e w3 ⟨rfl, hb3⟩; have hT3 := hT.below hb3 (by omega); have hS3 := PLift.up (hT3.set01 (min s1 (s0 + up)) (max (min s1 (s0 + up)) (s1 - down))); obtain ⟨t0, t1, t2, t3⟩ := hT3)
  have r0 := hS3.down.k0
  have r1 := hS3.down.k1
  refine bodyPost_ret (v := .agg #[.int .i64 (min s1 (s0 + up)), .int .i64 (max (min s1 (s0 + up)) (s1 - down))]) (by simp [results, Tryz.results31, go_sem, r0, r1]) rfl ⟨rfl, ?_⟩
  have hB3 := hO.trans (hb3.mono hO.size)
  exact ⟨hB3.os, hB3.tape, hB3.output, by rw [World.size_setCell, World.size_setCell]; exact hB3.size, fun i hi => ((Below.heap_setCell _ ⟨w.heap.size + 1, 1, none⟩ _ _ (by show i ≠ w.heap.size + 1; omega)).trans (Below.heap_setCell _ ⟨w.heap.size + 1, 0, none⟩ _ _ (by show i ≠ w.heap.size + 1; omega))).trans (hB3.block i hi)⟩
set_option maxRecDepth 100000 in
theorem rbutton_any (a1 : Option Addr) (n c1 : Nat) (X Y : Nat → Int) (r : Int) (w : World) (hn : n ≤ 1000) (hp : PSl w (.slice a1 n c1) n X Y) : Calls Tryz.prog 26 #[.agg #[.slice a1 n c1, .int .i64 r]] w fun e w' => e = .returned (.bool (butB n X Y r)) ∧ Below w.heap.size w w' := by
  obtain ⟨W0, hW0⟩ : ∃ W0, w.alloc (Obj.cells #[.slice a1 n c1, .int .i64 r] 58) = W0 := ⟨_, rfl⟩
  have hb0 : Below w.heap.size w W0 := by rw [← hW0]; exact (Below.refl _ _).alloc (Nat.le_refl _) _
  have hsz : W0.heap.size = w.heap.size + 1 := by rw [← hW0, World.size_alloc]
  have c0 : W0.cell? ⟨w.heap.size, 0, none⟩ = some (.slice a1 n c1) := by rw [← hW0]; exact cells_new w _ _ rfl
  have c1' : W0.cell? ⟨w.heap.size, 1, none⟩ = some (.int .i64 r) := by rw [← hW0]; exact cells_new w _ _ rfl
  have hpo := points_any (.slice a1 n c1) n 2 4 X Y 80 (by omega) (by omega) W0 hn (hp.below hb0)
  have hwi := fun (W : World) => in_any r 0 4 W
  unfold butB
  rw [arB_pon2]
  generalize ponB n 2 4 X Y 80 = x at hpo ⊢
  generalize inB r 0 4 = y at hwi ⊢
  go_enter Tryz.func26, Tryz.ntmps26
  cases x
  · go_wp2_with (first | (go_at_call 56; with_reducible refine hpo.mono ?_; rintro e w1 ⟨rfl, rfl⟩))
    go_ret
    exact ⟨rfl, hb0⟩
  · go_wp2_with (first | (go_at_call 56; with_reducible refine hpo.mono ?_; rintro e w1 ⟨rfl, rfl⟩) | (go_at_call 57; with_reducible refine (hwi _).mono ?_; rintro e w8 ⟨rfl, rfl⟩))
    go_ret
    exact ⟨rfl, hb0⟩
/-- a list of blanks in memory. -/
def IRow (w : World) (v : Value) (l : List Nat) : Prop := (l = [] ∧ ∃ a c, v = .slice a 0 c) ∨ ∃ g c, v = .slice (some ⟨g, 0, none⟩) l.length c ∧ g < w.heap.size ∧ ∀ i (h : i < l.length), w.cell? ⟨g, i, none⟩ = some (.int .i64 ((l[i] : Nat) : Int))
theorem IRow.below {w w' : World} {v : Value} {l : List Nat} (h : IRow w v l) (hb : Below w.heap.size w w') : IRow w' v l := by
  rcases h with h | ⟨g, c, h1, h2, h3⟩
  · exact .inl h
  · exact .inr ⟨g, c, h1, Nat.lt_of_lt_of_le h2 hb.size, fun i hi => (hb.cell (p := ⟨g, i, none⟩) h2).trans (h3 i hi)⟩
theorem IRow.of_own {w : World} {B : Nat} {v : Value} {l : List Nat} (h : w.ownsRow B 3 1 v l.length (iCells l)) : IRow w v l := by
  by_cases hl : l.length = 0
  · obtain ⟨a, c, rfl⟩ := ownsRow_slice h
    exact .inl ⟨List.length_eq_zero_iff.1 hl, a, c, by rw [hl]⟩
  · obtain ⟨g, c, rfl⟩ := ownsRow_pos (by omega) h
    refine .inr ⟨g, c, rfl, (h.lt g rfl).2, fun i hi => ?_⟩
    rw [h.cellAt i (by omega)]
    unfold iCells
    rw [List.getElem?_map, List.getElem?_eq_getElem hi]
    rfl
set_option maxRecDepth 100000 in
theorem has_any (v : Value) (l : List Nat) (n : Nat) (w : World) (h : IRow w v l) (hl : l.length ≤ 12) (hm : n ∈ l) : Calls Tryz.prog 73 #[v, .int .i64 n] w fun e w' => e = .returned (.bool true) ∧ Below w.heap.size w w' := by
  rcases h with ⟨rfl, _⟩ | ⟨g, c, rfl, hg, hc⟩
  · cases hm
  · go_enter Tryz.func73, Tryz.ntmps73
    go_wp2
    go_loopw [5] (fun i wr => ∃ j : Nat, j ≤ l.length ∧ i = .int .i64 j ∧ Below w.heap.size w wr ∧ ∀ k (hk : k < l.length), k < j → l[k] ≠ n) (fun i _ => l.length - (intOf i).toNat)
    case atStart => exact ⟨0, Nat.zero_le _, rfl, Below.refl _ _, fun k _ hk => absurd hk (Nat.not_lt_zero _)⟩
    case round =>
      obtain ⟨j, hj, rfl, hbl, hno⟩ := hrel
      have hlt : j < l.length := by
        obtain ⟨i, hi, e⟩ := List.getElem_of_mem hm
        refine Classical.byContradiction fun hn => hno i hi (by omega) e
      have hlt' : (j : Int) < (l.length : Int) := by omega
      have h20 : (j : Int) < 20 := by omega
      have q := (hbl.cell (p := ⟨g, j, none⟩) hg).trans (hc j hlt)
      have hnx := hno
      clear hno
      by_cases hx : l[j] = n
      · rw [hx] at q
        clear hnx
        go_wp2
        go_ret
        exact ⟨rfl, hbl⟩
      · have hxi : ¬ ((l[j] : Nat) : Int) = (n : Int) := by omega
        generalize ((l[j] : Nat) : Int) = z at q hxi
        go_wp2
        go_roundw
        case rel => exact ⟨j + 1, by omega, by go_num, hbl, fun k hk hk1 => by
          rcases Nat.lt_succ_iff_lt_or_eq.1 hk1 with h1 | rfl
          · exact hnx k hk h1
          · exact hx⟩
        case measure => simp [intOf]; omega
set_option maxRecDepth 100000 in
theorem all_any (v u : Value) (l o : List Nat) (w : World) (h : IRow w v l) (k : IRow w u o) (hl : l.length ≤ 12) (ho : o.length ≤ 12) (hm : ∀ n ∈ o, n ∈ l) : Calls Tryz.prog 32 #[v, u] w fun e w' => e = .returned (.bool true) ∧ Below w.heap.size w w' := by
  have hha := fun (W : World) (hB : Below w.heap.size w W) (n : Nat) (hn : n ∈ o) => has_any v l n W (h.below hB) hl (hm n hn)
  rcases k with ⟨rfl, a, c, rfl⟩ | ⟨g, c, rfl, hg, hc⟩
  · go_enter Tryz.func32, Tryz.ntmps32
    go_wp2
    go_loopw [5] (fun i wr => i = .int .i64 0 ∧ Below w.heap.size w wr) (fun _ _ => 0)
    case atStart => exact ⟨rfl, Below.refl _ _⟩
    case round =>
      obtain ⟨rfl, hbl⟩ := hrel
      go_wp2
      go_ret
      exact ⟨rfl, hbl⟩
  · go_enter Tryz.func32, Tryz.ntmps32
    go_wp2
    go_loopw [5] (fun i wr => ∃ j : Nat, j ≤ o.length ∧ i = .int .i64 j ∧ Below w.heap.size w wr) (fun i _ => o.length - (intOf i).toNat)
    case atStart => exact ⟨0, Nat.zero_le _, rfl, Below.refl _ _⟩
    case round =>
      obtain ⟨j, hj, rfl, hbl⟩ := hrel
      by_cases hlt : j < o.length
      · have hlt' : (j : Int) < (o.length : Int) := by omega
        have q := (hbl.cell (p := ⟨g, j, none⟩) hg).trans (hc j hlt)
        have hh := hha _ hbl _ (List.getElem_mem hlt)
        generalize o[j] = n at q hh
        go_wp2_with (go_at_call 73; with_reducible refine hh.mono ?_; rintro e w3 ⟨rfl, hb3⟩)
        go_roundw
        case rel => exact ⟨j + 1, by omega, by go_num, hbl.trans (hb3.mono hbl.size)⟩
        case measure => simp [intOf]; omega
      · have hjj : ¬ (j : Int) < (o.length : Int) := by omega
        go_wp2
        go_ret
        exact ⟨rfl, hbl⟩
end Go.Proofs.YtmjmmokbaocboaaGreatDoor
namespace Go.Proofs.YtmjmmokbaocboaaGreatDoor
open Go.RowKit Go.Shelf
/-- the cells of readings. -/
def rdC (B X Y E : Nat → Int) : Nat → List Value
  | 0 => []
  | n+1 => rdC B X Y E n ++ [.int .i64 (B n), .int .i64 (X n), .int .i64 (Y n), .int .i64 (E n)]
theorem rdC_length (B X Y E : Nat → Int) : ∀ n, (rdC B X Y E n).length = n * 4
  | 0 => rfl
  | n+1 => by unfold rdC; rw [List.length_append, rdC_length B X Y E n]; simp; omega
theorem rdC_congr {B X Y E B' X' Y' E' : Nat → Int} : ∀ {n : Nat}, (∀ i, i < n → B' i = B i ∧ X' i = X i ∧ Y' i = Y i ∧ E' i = E i) → rdC B' X' Y' E' n = rdC B X Y E n
  | 0, _ => rfl
  | n+1, h => by
    obtain ⟨h1, h2, h3, h4⟩ := h n (by omega)
    unfold rdC
    rw [rdC_congr (n := n) fun i hi => h i (by omega), h1, h2, h3, h4]
theorem rdC_one (B X Y E : Nat → Int) : ∀ n, ∀ u ∈ rdC B X Y E n, u.oneCell' = true
  | 0 => fun u h => by cases h
  | n+1 => fun u h => by
    unfold rdC at h
    rcases List.mem_append.1 h with h | h
    · exact rdC_one B X Y E n u h
    · simp only [List.mem_cons, List.not_mem_nil, or_false] at h
      rcases h with rfl | rfl | rfl | rfl <;> rfl
theorem rdC_last {B X Y E : Nat → Int} {n j : Nat} {u : Value} (h : (rdC B X Y E (n + 1))[j]? = some u) : (rdC B X Y E n)[j]? = some u ∨ (j = n * 4 ∧ u = .int .i64 (B n)) ∨ (j = n * 4 + 1 ∧ u = .int .i64 (X n)) ∨ (j = n * 4 + 2 ∧ u = .int .i64 (Y n)) ∨ (j = n * 4 + 3 ∧ u = .int .i64 (E n)) := by
  unfold rdC at h
  by_cases hj : j < n * 4
  · rw [List.getElem?_append_left (by rw [rdC_length]; exact hj)] at h
    exact .inl h
  · rw [List.getElem?_append_right (by rw [rdC_length]; omega), rdC_length] at h
    obtain ⟨k, hk⟩ : ∃ k, j - n * 4 = k := ⟨_, rfl⟩
    rw [hk] at h
    match k, h with
    | 0, h => cases h; exact .inr (.inl ⟨by omega, rfl⟩)
    | 1, h => cases h; exact .inr (.inr (.inl ⟨by omega, rfl⟩))
    | 2, h => cases h; exact .inr (.inr (.inr (.inl ⟨by omega, rfl⟩)))
    | 3, h => cases h; exact .inr (.inr (.inr (.inr ⟨by omega, rfl⟩)))
    | k+4, h => cases h
theorem rdC_get {w : World} {b off : Nat} {B X Y E : Nat → Int} : ∀ {n : Nat}, RPts w b off n B X Y E → ∀ j u, (rdC B X Y E n)[j]? = some u → w.cell? ⟨b, off + j, none⟩ = some u
  | 0, _ => fun j u h => by cases h
  | n+1, hp => fun j u h => by
    obtain ⟨h1, h2, h3, h4⟩ := hp n (by omega)
    rcases rdC_last h with h | ⟨rfl, rfl⟩ | ⟨rfl, rfl⟩ | ⟨rfl, rfl⟩ | ⟨rfl, rfl⟩
    · exact rdC_get (n := n) (fun i hi => hp i (by omega)) j u h
    · exact h1
    · exact h2
    · exact h3
    · exact h4
theorem rdC_at (B X Y E : Nat → Int) : ∀ (n i : Nat), i < n → (rdC B X Y E n)[i * 4]? = some (.int .i64 (B i)) ∧ (rdC B X Y E n)[i * 4 + 1]? = some (.int .i64 (X i)) ∧ (rdC B X Y E n)[i * 4 + 2]? = some (.int .i64 (Y i)) ∧ (rdC B X Y E n)[i * 4 + 3]? = some (.int .i64 (E i))
  | 0, i, h => absurd h (Nat.not_lt_zero i)
  | n+1, i, h => by
    unfold rdC
    by_cases hi : i < n
    · have := rdC_at B X Y E n i hi
      rw [List.getElem?_append_left (by rw [rdC_length]; omega), List.getElem?_append_left (by rw [rdC_length]; omega), List.getElem?_append_left (by rw [rdC_length]; omega), List.getElem?_append_left (by rw [rdC_length]; omega)]
      exact this
    · obtain rfl : i = n := by omega
      rw [List.getElem?_append_right (by rw [rdC_length]; omega), List.getElem?_append_right (by rw [rdC_length]; omega), List.getElem?_append_right (by rw [rdC_length]; omega), List.getElem?_append_right (by rw [rdC_length]; omega), rdC_length,
        show i * 4 - i * 4 = 0 by omega, show i * 4 + 1 - i * 4 = 1 by omega, show i * 4 + 2 - i * 4 = 2 by omega, show i * 4 + 3 - i * 4 = 3 by omega]
      exact ⟨rfl, rfl, rfl, rfl⟩
theorem RSl_of_own {w : World} {A : Nat} {v : Value} {n : Nat} {B X Y E : Nat → Int} (hn : 1 ≤ n) (h : w.ownsRow A 69 4 v n (rdC B X Y E n)) : RSl w v n B X Y E := by
  obtain ⟨g, c, rfl⟩ := ownsRow_pos hn h
  refine .inr ⟨g, 0, c, rfl, (h.lt g rfl).2, fun i hi => ?_⟩
  obtain ⟨h1, h2, h3, h4⟩ := rdC_at B X Y E n i hi
  rw [Nat.zero_add]
  exact ⟨(h.cellAt _ (by omega)).trans h1, (h.cellAt _ (by omega)).trans h2, (h.cellAt _ (by omega)).trans h3, (h.cellAt _ (by omega)).trans h4⟩
theorem infoRd : (Tryz.prog.info? 69).map (fun i => (i.zero, i.size, i.bytes)) = some (some (.agg #[.int .i64 0, .int .i64 0, .int .i64 0, .int .i64 0]), 4, 32) := by kernel_rfl
theorem undRd : Tryz.prog.underlying 27 = some (.slice 69) := by kernel_rfl
/-- the readings are copied: append to nil. -/
theorem wp_append_reads (w : World) {o : Oper} {a : Act} {K : Act → World → Prop} {Q : Exit → Act → World → Prop} (s x : Operand) (ho : o.op = .call { callee := .builtin .append, args := #[s, x], argTypes := #[27, 27] })
    (hs : a.eval s = .slice none 0 0) (ra : Option Addr) (n rc : Nat) (B X Y E : Nat → Int) (hx : a.eval x = .slice ra n rc) (hr : RSl w (.slice ra n rc) n B X Y E) (hn : n ≤ 1000)
    (h : ∀ v w', w'.ownsRow w.heap.size 69 4 v n (rdC B X Y E n) → Below w.heap.size w w' → K (a.put o.dst v) w') : o.wp Tryz.prog a w K Q := by
  obtain ⟨i0, hi, hz0, hz1, hz2⟩ := info_parts infoRd
  have hnil : w.ownsRow w.heap.size 69 4 (.slice none 0 0) 0 [] := ⟨rfl, .inl ⟨rfl, rfl⟩⟩
  rcases hr with ⟨a', c, e, rfl⟩ | ⟨b, off, cap, e, hb, hp⟩
  · have hk := h (.slice none 0 0) w hnil (Below.refl _ _)
    unfold Oper.wp
    simp [execOp, ho, resolve, invoke, builtin, hs, hx, Result.andThen]
    have hu := undRd
    simp [Builtin.append_, hu, hi, hz0, hz1, hz2, go_sem]
    cases ra <;> simp [go_sem] <;> exact hk
  · cases e
    have hnw : ∀ j u, (rdC B X Y E n)[j]? = some u → w.cell? ((⟨b, off, none⟩ : Addr).add j) = some u := fun j u hj => by
      have h3 := rdC_get hp j u hj
      by_cases hj0 : j = 0
      · subst hj0; simpa [Addr.add] using h3
      · simpa [Addr.add, hj0] using h3
    refine wp_append_own w s x 27 ho w.heap.size 69 i0 (.agg #[.int .i64 0, .int .i64 0, .int .i64 0, .int .i64 0]) 4 32 undRd hi hz0 hz1 hz2 rfl (by decide) _ 0 [] hs hnil ⟨b, off, none⟩ n rc (rdC B X Y E n) hx (rdC_length B X Y E n) hnw (rdC_one B X Y E n) (by unfold maxLen; omega) (by omega) (Nat.le_refl _) fun v w' h1 h2 _ => h v w' (by rw [Nat.zero_add] at h1; exact h1) ⟨h2.os, h2.tape, h2.output, h2.size, fun i hi => h2.block i hi (by intro e; cases e)⟩
end Go.Proofs.YtmjmmokbaocboaaGreatDoor
namespace Go.Proofs.YtmjmmokbaocboaaGreatDoor
open Go.RowKit
theorem cell_off {W : World} {g i j : Nat} {u : Value} (h : i ≠ j) : (W.setCell ⟨g, i, none⟩ u).cell? ⟨g, j, none⟩ = W.cell? ⟨g, j, none⟩ := World.cell?_setCell_other _ _ (a := ⟨g, i, none⟩) (b := ⟨g, j, none⟩) (by intro e; cases e; exact h rfl)
theorem SX.far {w W W' : World} {m : Mach} {v1 : Value} {r : Int} (h : SX w W m v1 r) (hb : Below (w.heap.size + 2) W W') : SX w W' m v1 r := by
  have hl := h.big
  exact ⟨(hb.cell (p := ⟨w.heap.size, 0, none⟩) (by show w.heap.size < _; omega)).trans h.c0, (hb.cell (p := ⟨w.heap.size, 1, none⟩) (by show w.heap.size < _; omega)).trans h.c1, h.mach.below hb (by omega), h.old.trans (hb.mono (by omega)), Nat.le_trans hl hb.size⟩
/-- what the law of more is given: a measure, a machine, a reading, a button, each in its block. -/
structure MB (w W : World) (m : Mach) (v1 : Value) (r B X Y E : Int) (vb : Value) (rb : Int) : Prop where
  sx : SX w W m v1 r
  r0 : W.cell? ⟨w.heap.size + 1 + 1, 0, none⟩ = some (.int .i64 B)
  r1 : W.cell? ⟨w.heap.size + 1 + 1, 1, none⟩ = some (.int .i64 X)
  r2 : W.cell? ⟨w.heap.size + 1 + 1, 2, none⟩ = some (.int .i64 Y)
  r3 : W.cell? ⟨w.heap.size + 1 + 1, 3, none⟩ = some (.int .i64 E)
  b0 : W.cell? ⟨w.heap.size + 1 + 1 + 1, 0, none⟩ = some vb
  b1 : W.cell? ⟨w.heap.size + 1 + 1 + 1, 1, none⟩ = some (.int .i64 rb)
  big : w.heap.size + 4 ≤ W.heap.size
theorem MB.far {w W : World} {m : Mach} {v1 vb : Value} {r B X Y E rb : Int} {W' : World} (h : MB w W m v1 r B X Y E vb rb) (hb : Below (w.heap.size + 4) W W') : MB w W' m v1 r B X Y E vb rb := by
  have c : ∀ b j, b < w.heap.size + 4 → W'.cell? ⟨b, j, none⟩ = W.cell? ⟨b, j, none⟩ := fun b j hl => hb.cell (p := ⟨b, j, none⟩) hl
  exact ⟨h.sx.far (hb.mono (by omega)), (c _ _ (by omega)).trans h.r0, (c _ _ (by omega)).trans h.r1, (c _ _ (by omega)).trans h.r2, (c _ _ (by omega)).trans h.r3, (c _ _ (by omega)).trans h.b0, (c _ _ (by omega)).trans h.b1, Nat.le_trans h.big hb.size⟩
theorem MB.below {w W : World} {m : Mach} {v1 vb : Value} {r B X Y E rb : Int} {W' : World} (h : MB w W m v1 r B X Y E vb rb) (hb : Below W.heap.size W W') : MB w W' m v1 r B X Y E vb rb := h.far (hb.mono h.big)
theorem MB.alloc {w W : World} {m : Mach} {v1 vb : Value} {r B X Y E rb : Int} (h : MB w W m v1 r B X Y E vb rb) (o : Obj) : MB w (W.alloc o) m v1 r B X Y E vb rb := h.below ((Below.refl _ _).alloc (Nat.le_refl _) o)
theorem MB.drew {w W : World} {m : Mach} {v1 vb : Value} {r B X Y E rb : Int} (h : MB w W m v1 r B X Y E vb rb) : MB w W.drew m v1 r B X Y E vb rb := h.below (Below.refl _ _).drew
theorem MB.new (w : World) (m : Mach) (v1 : Value) (r B X Y E : Int) (vb : Value) (rb : Int) : MB w ((((w.alloc (Obj.cells #[v1, .int .i64 r] 24)).alloc (.cells #[.slice m.sa m.sn m.sc, .int .i64 m.c0, .int .i64 m.c1, .int .i64 m.d0, .int .i64 m.d1, .int .i64 m.w0, .int .i64 m.w1, .int .i64 m.v0, .int .i64 m.v1, .slice m.ra m.rn m.rc] 29)).alloc (Obj.cells #[.int .i64 B, .int .i64 X, .int .i64 Y, .int .i64 E] 69)).alloc (Obj.cells #[vb, .int .i64 rb] 58)) m v1 r B X Y E vb rb := by
  have h := SX.new w m v1 r
  obtain ⟨A2, hA2⟩ : ∃ A2, (w.alloc (Obj.cells #[v1, .int .i64 r] 24)).alloc (.cells #[.slice m.sa m.sn m.sc, .int .i64 m.c0, .int .i64 m.c1, .int .i64 m.d0, .int .i64 m.d1, .int .i64 m.w0, .int .i64 m.w1, .int .i64 m.v0, .int .i64 m.v1, .slice m.ra m.rn m.rc] 29) = A2 := ⟨_, rfl⟩
  have z2 : A2.heap.size = w.heap.size + 1 + 1 := by rw [← hA2, World.size_alloc, World.size_alloc]
  rw [hA2] at h ⊢
  have c := fun j u (hj : (#[.int .i64 B, .int .i64 X, .int .i64 Y, .int .i64 E] : Array Value)[j]? = some u) => cell_under A2 #[.int .i64 B, .int .i64 X, .int .i64 Y, .int .i64 E] #[vb, .int .i64 rb] 69 58 hj
  have d := fun j u (hj : (#[vb, .int .i64 rb] : Array Value)[j]? = some u) => cells_new (A2.alloc (Obj.cells #[.int .i64 B, .int .i64 X, .int .i64 Y, .int .i64 E] 69)) #[vb, .int .i64 rb] 58 hj
  rw [World.size_alloc] at d
  rw [z2] at c d
  exact ⟨(h.alloc _).alloc _, c 0 _ rfl, c 1 _ rfl, c 2 _ rfl, c 3 _ rfl, d 0 _ rfl, d 1 _ rfl, by rw [World.size_alloc, World.size_alloc]; omega⟩
/-- and the measure and the machine that are made of them. -/
structure MD (w W : World) (gd gx : Nat) (m y : Mach) (v1 : Value) (r r' B X Y E : Int) (vb : Value) (rb : Int) : Prop where
  mb : MB w W m v1 r B X Y E vb rb
  d0 : W.cell? ⟨gd, 0, none⟩ = some v1
  d1 : W.cell? ⟨gd, 1, none⟩ = some (.int .i64 r')
  dz : W.frozen? ⟨gd, 1, none⟩ = false
  xm : MAt W gx y
  xz : ∀ i, W.frozen? ⟨gx, i, none⟩ = false
  ld : w.heap.size + 4 ≤ gd
  lx : w.heap.size + 4 ≤ gx
  hd : gd < W.heap.size
  hx : gx < W.heap.size
  ne : gd ≠ gx
theorem MD.below {w W : World} {gd gx : Nat} {m y : Mach} {v1 vb : Value} {r r' B X Y E rb : Int} {W' : World} (h : MD w W gd gx m y v1 r r' B X Y E vb rb) (hb : Below W.heap.size W W') : MD w W' gd gx m y v1 r r' B X Y E vb rb :=
  ⟨h.mb.below hb, (hb.cell (p := ⟨gd, 0, none⟩) h.hd).trans h.d0, (hb.cell (p := ⟨gd, 1, none⟩) h.hd).trans h.d1, (hb.frozen (p := ⟨gd, 1, none⟩) h.hd).trans h.dz, h.xm.below hb h.hx, fun i => (hb.frozen (p := ⟨gx, i, none⟩) h.hx).trans (h.xz i), h.ld, h.lx, Nat.lt_of_lt_of_le h.hd hb.size, Nat.lt_of_lt_of_le h.hx hb.size, h.ne⟩
theorem MD.alloc {w W : World} {gd gx : Nat} {m y : Mach} {v1 vb : Value} {r r' B X Y E rb : Int} (h : MD w W gd gx m y v1 r r' B X Y E vb rb) (o : Obj) : MD w (W.alloc o) gd gx m y v1 r r' B X Y E vb rb := h.below ((Below.refl _ _).alloc (Nat.le_refl _) o)
theorem MD.drew {w W : World} {gd gx : Nat} {m y : Mach} {v1 vb : Value} {r r' B X Y E rb : Int} (h : MD w W gd gx m y v1 r r' B X Y E vb rb) : MD w W.drew gd gx m y v1 r r' B X Y E vb rb := h.below (Below.refl _ _).drew
theorem MD.atx {w W : World} {gd gx : Nat} {m y : Mach} {v1 vb : Value} {r r' B X Y E rb : Int} {y' : Mach} {W' : World} (h : MD w W gd gx m y v1 r r' B X Y E vb rb) (hb : Below (w.heap.size + 4) W W') (hh : W'.heap[gd]? = W.heap[gd]?) (hm : MAt W' gx y') (hz : ∀ i, W'.frozen? ⟨gx, i, none⟩ = false) : MD w W' gd gx m y' v1 r r' B X Y E vb rb :=
  ⟨h.mb.far hb, (World.cell?_of_block hh).trans h.d0, (World.cell?_of_block hh).trans h.d1, (World.frozen?_of_block hh).trans h.dz, hm, hz, h.ld, h.lx, Nat.lt_of_lt_of_le h.hd hb.size, Nat.lt_of_lt_of_le h.hx hb.size, h.ne⟩
theorem MD.setd {w W : World} {gd gx : Nat} {m y : Mach} {v1 vb : Value} {r r' B X Y E rb : Int} (h : MD w W gd gx m y v1 r r' B X Y E vb rb) (u : Int) : MD w (W.setCell ⟨gd, 1, none⟩ (.int .i64 u)) gd gx m y v1 r u B X Y E vb rb := by
  have hx : (W.setCell ⟨gd, 1, none⟩ (.int .i64 u)).heap[gx]? = W.heap[gx]? := Below.heap_setCell _ ⟨gd, 1, none⟩ _ _ (by show gx ≠ gd; exact fun e => h.ne e.symm)
  refine ⟨h.mb.far ((Below.refl _ _).setCell (p := ⟨gd, 1, none⟩) h.ld _), ?_, World.cell?_setCell_same' _ _ _ (by rw [h.d1]; rfl), by rw [World.frozen?_setCell]; exact h.dz, ?_, fun i => by rw [World.frozen?_setCell]; exact h.xz i, h.ld, h.lx, by rw [World.size_setCell]; exact h.hd, by rw [World.size_setCell]; exact h.hx, h.ne⟩
  · exact (cell_off (by decide)).trans h.d0
  · obtain ⟨k0, k1, k2, k3, k4, k5, k6, k7, k8, k9⟩ := h.xm
    exact ⟨(World.cell?_of_block hx).trans k0, (World.cell?_of_block hx).trans k1, (World.cell?_of_block hx).trans k2, (World.cell?_of_block hx).trans k3, (World.cell?_of_block hx).trans k4, (World.cell?_of_block hx).trans k5, (World.cell?_of_block hx).trans k6, (World.cell?_of_block hx).trans k7, (World.cell?_of_block hx).trans k8, (World.cell?_of_block hx).trans k9⟩
theorem MD.set1 {w W : World} {gd gx : Nat} {m y : Mach} {v1 vb : Value} {r r' B X Y E rb : Int} (h : MD w W gd gx m y v1 r r' B X Y E vb rb) (a b : Int) : MD w ((W.setCell ⟨gx, 1, none⟩ (.int .i64 a)).setCell ⟨gx, 2, none⟩ (.int .i64 b)) gd gx m { y with c0 := a, c1 := b } v1 r r' B X Y E vb rb := by
  refine h.atx (((Below.refl _ _).setCell (p := ⟨gx, 1, none⟩) h.lx _).setCell (p := ⟨gx, 2, none⟩) h.lx _) ((Below.heap_setCell _ ⟨gx, 2, none⟩ _ _ h.ne).trans (Below.heap_setCell _ ⟨gx, 1, none⟩ _ _ h.ne)) ?_ fun i => by rw [World.frozen?_setCell, World.frozen?_setCell]; exact h.xz i
  obtain ⟨k0, k1, k2, k3, k4, k5, k6, k7, k8, k9⟩ := h.xm
  exact ⟨(cell_off (by decide)).trans ((cell_off (by decide)).trans k0), (cell_off (by decide)).trans (World.cell?_setCell_same' _ _ _ (by rw [k1]; rfl)), World.cell?_setCell_same' _ _ _ (by rw [cell_off (by decide), k2]; rfl), (cell_off (by decide)).trans ((cell_off (by decide)).trans k3), (cell_off (by decide)).trans ((cell_off (by decide)).trans k4), (cell_off (by decide)).trans ((cell_off (by decide)).trans k5), (cell_off (by decide)).trans ((cell_off (by decide)).trans k6), (cell_off (by decide)).trans ((cell_off (by decide)).trans k7), (cell_off (by decide)).trans ((cell_off (by decide)).trans k8), (cell_off (by decide)).trans ((cell_off (by decide)).trans k9)⟩
theorem MD.set3 {w W : World} {gd gx : Nat} {m y : Mach} {v1 vb : Value} {r r' B X Y E rb : Int} (h : MD w W gd gx m y v1 r r' B X Y E vb rb) (a b : Int) : MD w ((W.setCell ⟨gx, 3, none⟩ (.int .i64 a)).setCell ⟨gx, 4, none⟩ (.int .i64 b)) gd gx m { y with d0 := a, d1 := b } v1 r r' B X Y E vb rb := by
  refine h.atx (((Below.refl _ _).setCell (p := ⟨gx, 3, none⟩) h.lx _).setCell (p := ⟨gx, 4, none⟩) h.lx _) ((Below.heap_setCell _ ⟨gx, 4, none⟩ _ _ h.ne).trans (Below.heap_setCell _ ⟨gx, 3, none⟩ _ _ h.ne)) ?_ fun i => by rw [World.frozen?_setCell, World.frozen?_setCell]; exact h.xz i
  obtain ⟨k0, k1, k2, k3, k4, k5, k6, k7, k8, k9⟩ := h.xm
  exact ⟨(cell_off (by decide)).trans ((cell_off (by decide)).trans k0), (cell_off (by decide)).trans ((cell_off (by decide)).trans k1), (cell_off (by decide)).trans ((cell_off (by decide)).trans k2), (cell_off (by decide)).trans (World.cell?_setCell_same' _ _ _ (by rw [k3]; rfl)), World.cell?_setCell_same' _ _ _ (by rw [cell_off (by decide), k4]; rfl), (cell_off (by decide)).trans ((cell_off (by decide)).trans k5), (cell_off (by decide)).trans ((cell_off (by decide)).trans k6), (cell_off (by decide)).trans ((cell_off (by decide)).trans k7), (cell_off (by decide)).trans ((cell_off (by decide)).trans k8), (cell_off (by decide)).trans ((cell_off (by decide)).trans k9)⟩
theorem MD.set5 {w W : World} {gd gx : Nat} {m y : Mach} {v1 vb : Value} {r r' B X Y E rb : Int} (h : MD w W gd gx m y v1 r r' B X Y E vb rb) (a b : Int) : MD w ((W.setCell ⟨gx, 5, none⟩ (.int .i64 a)).setCell ⟨gx, 6, none⟩ (.int .i64 b)) gd gx m { y with w0 := a, w1 := b } v1 r r' B X Y E vb rb := by
  refine h.atx (((Below.refl _ _).setCell (p := ⟨gx, 5, none⟩) h.lx _).setCell (p := ⟨gx, 6, none⟩) h.lx _) ((Below.heap_setCell _ ⟨gx, 6, none⟩ _ _ h.ne).trans (Below.heap_setCell _ ⟨gx, 5, none⟩ _ _ h.ne)) ?_ fun i => by rw [World.frozen?_setCell, World.frozen?_setCell]; exact h.xz i
  obtain ⟨k0, k1, k2, k3, k4, k5, k6, k7, k8, k9⟩ := h.xm
  exact ⟨(cell_off (by decide)).trans ((cell_off (by decide)).trans k0), (cell_off (by decide)).trans ((cell_off (by decide)).trans k1), (cell_off (by decide)).trans ((cell_off (by decide)).trans k2), (cell_off (by decide)).trans ((cell_off (by decide)).trans k3), (cell_off (by decide)).trans ((cell_off (by decide)).trans k4), (cell_off (by decide)).trans (World.cell?_setCell_same' _ _ _ (by rw [k5]; rfl)), World.cell?_setCell_same' _ _ _ (by rw [cell_off (by decide), k6]; rfl), (cell_off (by decide)).trans ((cell_off (by decide)).trans k7), (cell_off (by decide)).trans ((cell_off (by decide)).trans k8), (cell_off (by decide)).trans ((cell_off (by decide)).trans k9)⟩
theorem MD.set7 {w W : World} {gd gx : Nat} {m y : Mach} {v1 vb : Value} {r r' B X Y E rb : Int} (h : MD w W gd gx m y v1 r r' B X Y E vb rb) (a b : Int) : MD w ((W.setCell ⟨gx, 7, none⟩ (.int .i64 a)).setCell ⟨gx, 8, none⟩ (.int .i64 b)) gd gx m { y with v0 := a, v1 := b } v1 r r' B X Y E vb rb := by
  refine h.atx (((Below.refl _ _).setCell (p := ⟨gx, 7, none⟩) h.lx _).setCell (p := ⟨gx, 8, none⟩) h.lx _) ((Below.heap_setCell _ ⟨gx, 8, none⟩ _ _ h.ne).trans (Below.heap_setCell _ ⟨gx, 7, none⟩ _ _ h.ne)) ?_ fun i => by rw [World.frozen?_setCell, World.frozen?_setCell]; exact h.xz i
  obtain ⟨k0, k1, k2, k3, k4, k5, k6, k7, k8, k9⟩ := h.xm
  exact ⟨(cell_off (by decide)).trans ((cell_off (by decide)).trans k0), (cell_off (by decide)).trans ((cell_off (by decide)).trans k1), (cell_off (by decide)).trans ((cell_off (by decide)).trans k2), (cell_off (by decide)).trans ((cell_off (by decide)).trans k3), (cell_off (by decide)).trans ((cell_off (by decide)).trans k4), (cell_off (by decide)).trans ((cell_off (by decide)).trans k5), (cell_off (by decide)).trans ((cell_off (by decide)).trans k6), (cell_off (by decide)).trans (World.cell?_setCell_same' _ _ _ (by rw [k7]; rfl)), World.cell?_setCell_same' _ _ _ (by rw [cell_off (by decide), k8]; rfl), (cell_off (by decide)).trans ((cell_off (by decide)).trans k9)⟩
theorem MD.setr {w W : World} {gd gx : Nat} {m y : Mach} {v1 vb : Value} {r r' B X Y E rb : Int} (h : MD w W gd gx m y v1 r r' B X Y E vb rb) (ra : Option Addr) (rn rc : Nat) (RB RX RY RE : Nat → Int) : MD w (W.setCell ⟨gx, 9, none⟩ (.slice ra rn rc)) gd gx m { y with ra := ra, rn := rn, rc := rc, RB := RB, RX := RX, RY := RY, RE := RE } v1 r r' B X Y E vb rb := by
  refine h.atx ((Below.refl _ _).setCell (p := ⟨gx, 9, none⟩) h.lx _) (Below.heap_setCell _ ⟨gx, 9, none⟩ _ _ h.ne) ?_ fun i => by rw [World.frozen?_setCell]; exact h.xz i
  obtain ⟨k0, k1, k2, k3, k4, k5, k6, k7, k8, k9⟩ := h.xm
  exact ⟨(cell_off (by decide)).trans k0, (cell_off (by decide)).trans k1, (cell_off (by decide)).trans k2, (cell_off (by decide)).trans k3, (cell_off (by decide)).trans k4, (cell_off (by decide)).trans k5, (cell_off (by decide)).trans k6, (cell_off (by decide)).trans k7, (cell_off (by decide)).trans k8, World.cell?_setCell_same' _ _ _ (by rw [k9]; rfl)⟩
end Go.Proofs.YtmjmmokbaocboaaGreatDoor
namespace Go.Proofs.YtmjmmokbaocboaaGreatDoor
open Go.RowKit
def z10 : List Value := [.slice none 0 0, .int .i64 0, .int .i64 0, .int .i64 0, .int .i64 0, .int .i64 0, .int .i64 0, .int .i64 0, .int .i64 0, .slice none 0 0]
theorem md_make {w W : World} {gd gx : Nat} {m : Mach} {v1 vb : Value} {r B X Y E rb : Int} (h : MB w W m v1 r B X Y E vb rb) (hd : SAt W gd [.slice none 0 0, .int .i64 0]) (hx : SAt W gx z10) (ne : gd ≠ gx) (ld : w.heap.size + 4 ≤ gd) (lx : w.heap.size + 4 ≤ gx) (gd1 : gd < W.heap.size) (gx1 : gx < W.heap.size) :
    W.there gd 0 2 ∧ (W.setCells gd 0 [v1, .int .i64 r]).there gx 0 10 ∧ MD w ((W.setCells gd 0 [v1, .int .i64 r]).setCells gx 0 m.cells) gd gx m m v1 r r B X Y E vb rb := by
  have hz1 := size_setCells gd [v1, .int .i64 r] 0 W
  have hd1 : SAt (W.setCells gd 0 [v1, .int .i64 r]) gd [v1, .int .i64 r] := hd.fill rfl
  have hx1 : SAt (W.setCells gd 0 [v1, .int .i64 r]) gx z10 := hx.far (World.heap_setCells_other W gd 0 _ gx1 (fun e => ne e.symm))
  have hx2 : SAt ((W.setCells gd 0 [v1, .int .i64 r]).setCells gx 0 m.cells) gx m.cells := hx1.fill rfl
  have hd2 : SAt ((W.setCells gd 0 [v1, .int .i64 r]).setCells gx 0 m.cells) gd [v1, .int .i64 r] := hd1.far (World.heap_setCells_other _ gx 0 _ (by rw [hz1]; exact gd1) ne)
  have c := fun j u (hj : m.cells[j]? = some u) => by have := hx2.c j u hj; rw [Nat.zero_add] at this; exact this
  have hb : Below (w.heap.size + 4) W ((W.setCells gd 0 [v1, .int .i64 r]).setCells gx 0 m.cells) := below_setCells lx _ _ _ (below_setCells ld _ _ _ (Below.refl _ _))
  exact ⟨hd.there 0 2 (by decide), hx1.there 0 10 (by decide), h.far hb, hd2.c 0 _ rfl, hd2.c 1 _ rfl, hd2.z 1, ⟨c 0 _ rfl, c 1 _ rfl, c 2 _ rfl, c 3 _ rfl, c 4 _ rfl, c 5 _ rfl, c 6 _ rfl, c 7 _ rfl, c 8 _ rfl, c 9 _ rfl⟩, hx2.z, ld, lx, by rw [size_setCells, hz1]; exact gd1, by rw [size_setCells, hz1]; exact gx1, ne⟩
/-- the two new blocks, in either order. -/
theorem two_new (V : World) (e e' : TypeId) : SAt ((V.alloc (Obj.cells #[.slice none 0 0, .int .i64 0] e)).alloc (Obj.cells #[.slice none 0 0, .int .i64 0, .int .i64 0, .int .i64 0, .int .i64 0, .int .i64 0, .int .i64 0, .int .i64 0, .int .i64 0, .slice none 0 0] e')) V.heap.size [.slice none 0 0, .int .i64 0] ∧
    SAt ((V.alloc (Obj.cells #[.slice none 0 0, .int .i64 0] e)).alloc (Obj.cells #[.slice none 0 0, .int .i64 0, .int .i64 0, .int .i64 0, .int .i64 0, .int .i64 0, .int .i64 0, .int .i64 0, .int .i64 0, .slice none 0 0] e')) (V.heap.size + 1) z10 := by
  have h1 := SAt.new V [.slice none 0 0, .int .i64 0] e
  have h2 := SAt.new (V.alloc (Obj.cells [Value.slice none 0 0, .int .i64 0].toArray e)) z10 e'
  rw [World.size_alloc] at h2
  exact ⟨h1.below ((Below.refl _ _).alloc (Nat.le_refl _) _) (by rw [World.size_alloc]; omega), h2⟩
theorem two_new' (V : World) (e e' : TypeId) : SAt ((V.alloc (Obj.cells #[.slice none 0 0, .int .i64 0, .int .i64 0, .int .i64 0, .int .i64 0, .int .i64 0, .int .i64 0, .int .i64 0, .int .i64 0, .slice none 0 0] e')).alloc (Obj.cells #[.slice none 0 0, .int .i64 0] e)) (V.heap.size + 1) [.slice none 0 0, .int .i64 0] ∧
    SAt ((V.alloc (Obj.cells #[.slice none 0 0, .int .i64 0, .int .i64 0, .int .i64 0, .int .i64 0, .int .i64 0, .int .i64 0, .int .i64 0, .int .i64 0, .slice none 0 0] e')).alloc (Obj.cells #[.slice none 0 0, .int .i64 0] e)) V.heap.size z10 := by
  have h1 := SAt.new V z10 e'
  have h2 := SAt.new (V.alloc (Obj.cells z10.toArray e')) [.slice none 0 0, .int .i64 0] e
  rw [World.size_alloc] at h2
  exact ⟨h2, h1.below ((Below.refl _ _).alloc (Nat.le_refl _) _) (by rw [World.size_alloc]; omega)⟩
theorem step_reads {ops : Array Oper} (w : World) {o : Oper} {a : Act} {K : Act → World → Prop} {Q : Exit → Act → World → Prop} {D : Prop} (hgd : o.guard = none) (s x : Operand) (ho : o.op = .call { callee := .builtin .append, args := #[s, x], argTypes := #[27, 27] })
    (hs : a.eval s = .slice none 0 0) (ra : Option Addr) (n rc : Nat) (B X Y E : Nat → Int) (hx : a.eval x = .slice ra n rc) (hr : RSl w (.slice ra n rc) n B X Y E) (hn : n ≤ 1000)
    (h : ∀ v w', w'.ownsRow w.heap.size 69 4 v n (rdC B X Y E n) → Below w.heap.size w w' → K (a.put o.dst v) w') : if Region.wanted o (yielded ops a.tmps) = true then Oper.wp Tryz.prog o a w K Q else D := by
  rw [if_pos (show Region.wanted o (yielded ops a.tmps) = true by simp [Region.wanted, hgd])]
  exact wp_append_reads w s x ho hs ra n rc B X Y E hx hr hn h
theorem step_read {ops : Array Oper} (w : World) {o : Oper} {a : Act} {K : Act → World → Prop} {Q : Exit → Act → World → Prop} {D : Prop} (hgd : o.guard = none) (s x : Operand) (ho : o.op = .call { callee := .builtin .append, args := #[s, x], argTypes := #[27, 27] })
    (base : Nat) (v : Value) (n : Nat) (B X Y E : Nat → Int) (hs : a.eval s = v) (hown : w.ownsRow base 69 4 v n (rdC B X Y E n)) (hn : n ≤ 1000) (gb : Nat) (b x' y' e' : Int) (hx : a.eval x = .slice (some ⟨gb, 0, none⟩) 1 1)
    (c0 : w.cell? ⟨gb, 0, none⟩ = some (.int .i64 b)) (c1 : w.cell? ⟨gb, 1, none⟩ = some (.int .i64 x')) (c2 : w.cell? ⟨gb, 2, none⟩ = some (.int .i64 y')) (c3 : w.cell? ⟨gb, 3, none⟩ = some (.int .i64 e')) (hbase : base ≤ w.heap.size)
    (h : ∀ g c w', w'.ownsRow base 69 4 (.slice (some ⟨g, 0, none⟩) (n + 1) c) (n + 1) (rdC (fun i => if i = n then b else B i) (fun i => if i = n then x' else X i) (fun i => if i = n then y' else Y i) (fun i => if i = n then e' else E i) (n + 1)) → Below base w w' → K (a.put o.dst (.slice (some ⟨g, 0, none⟩) (n + 1) c)) w') :
    if Region.wanted o (yielded ops a.tmps) = true then Oper.wp Tryz.prog o a w K Q else D := by
  rw [if_pos (show Region.wanted o (yielded ops a.tmps) = true by simp [Region.wanted, hgd])]
  obtain ⟨i0, hi, hz0, hz1, hz2⟩ := info_parts infoRd
  refine wp_append_own w s x 27 ho base 69 i0 (.agg #[.int .i64 0, .int .i64 0, .int .i64 0, .int .i64 0]) 4 32 undRd hi hz0 hz1 hz2 rfl (by decide) v n _ hs hown ⟨gb, 0, none⟩ 1 1 [.int .i64 b, .int .i64 x', .int .i64 y', .int .i64 e'] hx rfl (fun j u hj => ?_) (by simp [Value.oneCell']) (by unfold maxLen; omega) (by omega) hbase fun v' w' h1 h2 _ => ?_
  · match j, hj with
    | 0, hj => cases hj; exact c0
    | 1, hj => cases hj; exact c1
    | 2, hj => cases hj; exact c2
    | 3, hj => cases hj; exact c3
    | j+4, hj => cases hj
  · obtain ⟨g, c, rfl⟩ := ownsRow_pos (by omega) h1
    refine h g c w' ?_ ((Below.refl _ _).grown h2 hbase fun j hj => (hown.lt j hj).1)
    have e : rdC (fun i => if i = n then b else B i) (fun i => if i = n then x' else X i) (fun i => if i = n then y' else Y i) (fun i => if i = n then e' else E i) (n + 1) = rdC B X Y E n ++ [.int .i64 b, .int .i64 x', .int .i64 y', .int .i64 e'] := by
      conv => lhs; unfold rdC
      rw [rdC_congr (B := B) (X := X) (Y := Y) (E := E) (n := n) fun i hi => by
        have : i ≠ n := by omega
        simp [this]]
      simp
    rw [e]
    exact h1
theorem Able.ex (m : Mach) : ∃ er, Able m true er ∧ ((er = 0 ∧ m.ok = true ∧ m.can) ∨ er = 2 ∨ er = 7) := by
  cases hok : m.ok with
  | false => exact ⟨2, ⟨fun _ => rfl, (fun h => by rw [hok] at h; cases h), (fun h => by rw [hok] at h; cases h)⟩, .inr (.inl rfl)⟩
  | true =>
    by_cases hc : m.can
    · exact ⟨0, ⟨(fun h => by rw [hok] at h; cases h), fun _ h => absurd hc h, fun _ _ => rfl⟩, .inl ⟨rfl, rfl, hc⟩⟩
    · exact ⟨7, ⟨(fun h => by rw [hok] at h; cases h), fun _ _ => rfl, fun _ h => absurd h hc⟩, .inr (.inr rfl)⟩
theorem meas_more {n : Nat} {X Y : Nat → Int} {r s : Int} (h : measB n X Y r = true) (hs : 0 ≤ s ∧ s ≤ 6) : measB n X Y s = true := by
  unfold measB at *
  simp only [Bool.and_eq_true] at *
  exact ⟨h.1, h.2.1, inB_iff.2 hs⟩
end Go.Proofs.YtmjmmokbaocboaaGreatDoor
namespace Go.Proofs.YtmjmmokbaocboaaGreatDoor
theorem bool_ex (P : Prop) : ∃ b : Bool, (b = false ↔ P) := by
  by_cases h : P
  · exact ⟨false, fun _ => h, fun _ => rfl⟩
  · exact ⟨true, (fun e => by cases e), fun e => absurd e h⟩
theorem blanks_more {sg sg' : Nat → Bool} (h : ∀ k, k ≤ 12 → sg k = false → sg' k = false) : ∀ n ∈ blanksTo sg' 12, n ∈ blanksTo sg 12 := by
  intro n hn
  unfold blanksTo at *
  rw [List.mem_filter, List.mem_map] at *
  obtain ⟨⟨i, hi, e⟩, hs⟩ := hn
  refine ⟨⟨i, hi, e⟩, ?_⟩
  have hi := List.mem_range.1 hi
  cases hg : sg n with
  | true => rfl
  | false => rw [h n (by omega) hg] at hs; cases hs
end Go.Proofs.YtmjmmokbaocboaaGreatDoor
