/- A part of the proof: see the last file. -/
import Derived.Test.YtmjmmokbaocboaaGreatDoorPbl
import Derived.Test.YtmjmmokbaocboaaGreatDoorPbk
set_option linter.unusedVariables false
set_option linter.unusedSimpArgs false
set_option linter.unusedSectionVars false
namespace Go.Proofs.YtmjmmokbaocboaaGreatDoor
open Go.RowKit
/-- what a walk uses of the blocks: the measure, the machine, the button. -/
structure MG (W : World) (b : Nat) (m : Mach) (v1 : Value) (r : Int) (vb : Value) (rb : Int) : Prop where
  z0 : W.cell? ⟨b, 0, none⟩ = some v1
  z1 : W.cell? ⟨b, 1, none⟩ = some (.int .i64 r)
  y0 : W.cell? ⟨b + 1, 0, none⟩ = some (.slice m.sa m.sn m.sc)
  y1 : W.cell? ⟨b + 1, 1, none⟩ = some (.int .i64 m.c0)
  y2 : W.cell? ⟨b + 1, 2, none⟩ = some (.int .i64 m.c1)
  y3 : W.cell? ⟨b + 1, 3, none⟩ = some (.int .i64 m.d0)
  y4 : W.cell? ⟨b + 1, 4, none⟩ = some (.int .i64 m.d1)
  y5 : W.cell? ⟨b + 1, 5, none⟩ = some (.int .i64 m.w0)
  y6 : W.cell? ⟨b + 1, 6, none⟩ = some (.int .i64 m.w1)
  y7 : W.cell? ⟨b + 1, 7, none⟩ = some (.int .i64 m.v0)
  y8 : W.cell? ⟨b + 1, 8, none⟩ = some (.int .i64 m.v1)
  y9 : W.cell? ⟨b + 1, 9, none⟩ = some (.slice m.ra m.rn m.rc)
  z6 : W.cell? ⟨b + 1 + 1 + 1, 0, none⟩ = some vb
  z7 : W.cell? ⟨b + 1 + 1 + 1, 1, none⟩ = some (.int .i64 rb)
theorem MB.mg {w W : World} {m : Mach} {v1 vb : Value} {r B X Y E rb : Int} (h : MB w W m v1 r B X Y E vb rb) : MG W w.heap.size m v1 r vb rb := by
  obtain ⟨y0, y1, y2, y3, y4, y5, y6, y7, y8, y9⟩ := h.sx.mach
  exact ⟨h.sx.c0, h.sx.c1, y0, y1, y2, y3, y4, y5, y6, y7, y8, y9, h.b0, h.b1⟩
set_option maxRecDepth 100000 in
set_option maxHeartbeats 4000000 in
theorem more_skip (a1 : Option Addr) (n c1 : Nat) (r : Int) (m : Mach) (more up down B X Y E : Int) (a2 : Option Addr) (nb c2 : Nat) (rb k : Int) (s f : Bool) (er : Int) (w : World) (hk : KG w)
    (hsl : ∀ W, Calls Tryz.prog 8 #[m.val] W fun e w' => e = .returned (.bool s) ∧ Below W.heap.size W w')
    (hfw : ∀ W, Calls Tryz.prog 23 #[.agg #[.slice a2 nb c2, .int .i64 rb]] W fun e w' => e = .returned (.bool f) ∧ Below W.heap.size W w')
    (hhe : s = true → n ≤ 6 → f = true → ∀ W, Below w.heap.size w W → Calls Tryz.prog 11 #[.agg #[.slice a1 n c1, .int .i64 r], m.val, .int .i64 k, .int .i64 1] W fun e w' => e = .returned (.int .i64 er) ∧ Below W.heap.size W w')
    (hno : s = false ∨ 6 < n ∨ f = false ∨ er ≠ 0 ∨ more < 0 ∨ 6 < more ∨ up < 0 ∨ 6 < up ∨ down < 0 ∨ 6 < down) :
    Calls Tryz.prog 7 #[.agg #[.slice a1 n c1, .int .i64 r], m.val, .int .i64 more, .int .i64 up, .int .i64 down, .agg #[.int .i64 B, .int .i64 X, .int .i64 Y, .int .i64 E], .agg #[.slice a2 nb c2, .int .i64 rb], .int .i64 k] w fun e w' => e = .returned (.bool true) ∧ Below w.heap.size w w' := by
  obtain ⟨W0, hW0⟩ : ∃ W0, (((w.alloc (Obj.cells #[.slice a1 n c1, .int .i64 r] 24)).alloc (.cells #[.slice m.sa m.sn m.sc, .int .i64 m.c0, .int .i64 m.c1, .int .i64 m.d0, .int .i64 m.d1, .int .i64 m.w0, .int .i64 m.w1, .int .i64 m.v0, .int .i64 m.v1, .slice m.ra m.rn m.rc] 29)).alloc (Obj.cells #[.int .i64 B, .int .i64 X, .int .i64 Y, .int .i64 E] 69)).alloc (Obj.cells #[.slice a2 nb c2, .int .i64 rb] 58) = W0 := ⟨_, rfl⟩
  have hX : PLift (MB w W0 m (.slice a1 n c1) r B X Y E (.slice a2 nb c2) rb) := ⟨by rw [← hW0]; exact MB.new w m _ r B X Y E _ rb⟩
  obtain ⟨z0, z1, y0', y1', y2', y3', y4', y5', y6', y7', y8', y9', z6, z7⟩ := hX.down.mg
  have hcase : (s = false) ∨ (s = true ∧ (6 : Int) < (n : Int)) ∨ (s = true ∧ ¬ (6 : Int) < (n : Int) ∧ f = false) ∨ (s = true ∧ ¬ (6 : Int) < (n : Int) ∧ f = true ∧ er ≠ 0) ∨ (s = true ∧ ¬ (6 : Int) < (n : Int) ∧ f = true ∧ er = 0 ∧ more < 0) ∨ (s = true ∧ ¬ (6 : Int) < (n : Int) ∧ f = true ∧ er = 0 ∧ ¬ more < 0 ∧ 6 < more) ∨ (s = true ∧ ¬ (6 : Int) < (n : Int) ∧ f = true ∧ er = 0 ∧ ¬ more < 0 ∧ ¬ 6 < more ∧ up < 0) ∨ (s = true ∧ ¬ (6 : Int) < (n : Int) ∧ f = true ∧ er = 0 ∧ ¬ more < 0 ∧ ¬ 6 < more ∧ ¬ up < 0 ∧ 6 < up) ∨ (s = true ∧ ¬ (6 : Int) < (n : Int) ∧ f = true ∧ er = 0 ∧ ¬ more < 0 ∧ ¬ 6 < more ∧ ¬ up < 0 ∧ ¬ 6 < up ∧ down < 0) ∨ (s = true ∧ ¬ (6 : Int) < (n : Int) ∧ f = true ∧ er = 0 ∧ ¬ more < 0 ∧ ¬ 6 < more ∧ ¬ up < 0 ∧ ¬ 6 < up ∧ ¬ down < 0 ∧ 6 < down) := by
    cases s
    · exact .inl rfl
    refine .inr ?_
    by_cases h1 : (6 : Int) < (n : Int)
    · exact .inl ⟨rfl, h1⟩
    refine .inr ?_
    cases f
    · exact .inl ⟨rfl, h1, rfl⟩
    refine .inr ?_
    by_cases he : er = 0
    · refine .inr ?_
      have hno' : more < 0 ∨ 6 < more ∨ up < 0 ∨ 6 < up ∨ down < 0 ∨ 6 < down := by
        rcases hno with h | h | h | h | h
        · cases h
        · omega
        · cases h
        · exact absurd he h
        · exact h
      by_cases p0 : more < 0
      · exact .inl ⟨rfl, h1, rfl, he, p0⟩
      refine .inr ?_
      by_cases p1 : 6 < more
      · exact .inl ⟨rfl, h1, rfl, he, p0, p1⟩
      refine .inr ?_
      by_cases p2 : up < 0
      · exact .inl ⟨rfl, h1, rfl, he, p0, p1, p2⟩
      refine .inr ?_
      by_cases p3 : 6 < up
      · exact .inl ⟨rfl, h1, rfl, he, p0, p1, p2, p3⟩
      refine .inr ?_
      by_cases p4 : down < 0
      · exact .inl ⟨rfl, h1, rfl, he, p0, p1, p2, p3, p4⟩
      refine .inr ?_
      by_cases p5 : 6 < down
      · exact ⟨rfl, h1, rfl, he, p0, p1, p2, p3, p4, p5⟩
      omega
    · exact .inl ⟨rfl, h1, rfl, he⟩
  rcases hcase with rfl | ⟨rfl, h6⟩ | ⟨rfl, h6, rfl⟩ | ⟨rfl, h6, rfl, he⟩ | ⟨rfl, h6, rfl, rfl, p0⟩ | ⟨rfl, h6, rfl, rfl, p0, p1⟩ | ⟨rfl, h6, rfl, rfl, p0, p1, p2⟩ | ⟨rfl, h6, rfl, rfl, p0, p1, p2, p3⟩ | ⟨rfl, h6, rfl, rfl, p0, p1, p2, p3, p4⟩ | ⟨rfl, h6, rfl, rfl, p0, p1, p2, p3, p4, p5⟩
  all_goals
    (try replace hhe := hhe rfl (by omega) rfl)
    clear hno
    go_enter Tryz.func7, Tryz.ntmps7
    go_wp2_with (first
        | (go_at_call 8; with_reducible refine (hsl _).mono ?_; rintro e w1 ⟨rfl, hb⟩; replace hX := PLift.up (hX.down.below hb); clear z0 z1 y0' y1' y2' y3' y4' y5' y6' y7' y8' y9' z6 z7 hb; obtain ⟨z0, z1, y0', y1', y2', y3', y4', y5', y6', y7', y8', y9', z6, z7⟩ := hX.down.mg)
        | (go_at_call 23; with_reducible refine (hfw _).mono ?_; rintro e w1 ⟨rfl, hb⟩; replace hX := PLift.up (hX.down.below hb); clear z0 z1 y0' y1' y2' y3' y4' y5' y6' y7' y8' y9' z6 z7 hb; obtain ⟨z0, z1, y0', y1', y2', y3', y4', y5', y6', y7', y8', y9', z6, z7⟩ := hX.down.mg)
        | (go_at_call 11; with_reducible refine (hhe _ hX.down.sx.old).mono ?_; rintro e w1 ⟨rfl, hb⟩; replace hX := PLift.up (hX.down.below hb); clear z0 z1 y0' y1' y2' y3' y4' y5' y6' y7' y8' y9' z6 z7 hb; obtain ⟨z0, z1, y0', y1', y2', y3', y4', y5', y6', y7', y8', y9', z6, z7⟩ := hX.down.mg)
        | (go_at_call 9; with_reducible refine (known_ok _ (hk.below hX.down.sx.old)).mono ?_; rintro e w1 ⟨rfl, hb⟩; replace hX := PLift.up (hX.down.below hb); clear z0 z1 y0' y1' y2' y3' y4' y5' y6' y7' y8' y9' z6 z7 hb; obtain ⟨z0, z1, y0', y1', y2', y3', y4', y5', y6', y7', y8', y9', z6, z7⟩ := hX.down.mg))
    go_ret
    exact ⟨rfl, hX.down.sx.old⟩
end Go.Proofs.YtmjmmokbaocboaaGreatDoor
