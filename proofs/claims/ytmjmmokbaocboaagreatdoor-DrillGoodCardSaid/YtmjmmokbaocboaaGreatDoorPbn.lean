/- A part of the proof: see the last file. -/
import Derived.Test.YtmjmmokbaocboaaGreatDoorPbj
import Derived.Test.YtmjmmokbaocboaaGreatDoorPbl
import Derived.Test.YtmjmmokbaocboaaGreatDoorPbm
import Derived.Test.YtmjmmokbaocboaaGreatDoorPbi
set_option linter.unusedVariables false
set_option linter.unusedSimpArgs false
set_option linter.unusedSectionVars false
namespace Go.Proofs.YtmjmmokbaocboaaGreatDoor
open Go.RowKit
end Go.Proofs.YtmjmmokbaocboaaGreatDoor
namespace Go.Proofs.YtmjmmokbaocboaaGreatDoor
open Go.RowKit
/-- a measure, a machine and a truth in blocks of their own. -/
structure GDX (w W : World) (m : Mach) (v1 : Value) (r : Int) (xa1 : Option Addr) (xn1 xc1 : Nat) (xa2 : Option Addr) (xn2 xc2 : Nat) : Prop where
  sx : SX w W m v1 r
  u0 : W.cell? ⟨w.heap.size + 1 + 1, 0, none⟩ = some (.slice xa1 xn1 xc1)
  u1 : W.cell? ⟨w.heap.size + 1 + 1, 1, none⟩ = some (.slice xa2 xn2 xc2)
  lt : w.heap.size + 1 + 1 < W.heap.size
theorem GDX.below {w W W' : World} {m : Mach} {v1 : Value} {r : Int} {xa1 : Option Addr} {xn1 xc1 : Nat} {xa2 : Option Addr} {xn2 xc2 : Nat} (h : GDX w W m v1 r xa1 xn1 xc1 xa2 xn2 xc2) (hb : Below W.heap.size W W') : GDX w W' m v1 r xa1 xn1 xc1 xa2 xn2 xc2 :=
  ⟨h.sx.below hb, (hb.cell (p := ⟨w.heap.size + 1 + 1, 0, none⟩) h.lt).trans h.u0, (hb.cell (p := ⟨w.heap.size + 1 + 1, 1, none⟩) h.lt).trans h.u1, Nat.lt_of_lt_of_le h.lt hb.size⟩
theorem GDX.new (w : World) (m : Mach) (v1 : Value) (r : Int) (xa1 : Option Addr) (xn1 xc1 : Nat) (xa2 : Option Addr) (xn2 xc2 : Nat) : GDX w (((w.alloc (Obj.cells #[v1, .int .i64 r] 24)).alloc (.cells #[.slice m.sa m.sn m.sc, .int .i64 m.c0, .int .i64 m.c1, .int .i64 m.d0, .int .i64 m.d1, .int .i64 m.w0, .int .i64 m.w1, .int .i64 m.v0, .int .i64 m.v1, .slice m.ra m.rn m.rc] 29)).alloc (Obj.cells #[.slice xa1 xn1 xc1, .slice xa2 xn2 xc2] 45)) m v1 r xa1 xn1 xc1 xa2 xn2 xc2 := by
  have h := SX.new w m v1 r
  have hz : ((w.alloc (Obj.cells #[v1, .int .i64 r] 24)).alloc (.cells #[.slice m.sa m.sn m.sc, .int .i64 m.c0, .int .i64 m.c1, .int .i64 m.d0, .int .i64 m.d1, .int .i64 m.w0, .int .i64 m.w1, .int .i64 m.v0, .int .i64 m.v1, .slice m.ra m.rn m.rc] 29)).heap.size = w.heap.size + 1 + 1 := by rw [World.size_alloc, World.size_alloc]
  generalize (w.alloc (Obj.cells #[v1, .int .i64 r] 24)).alloc (.cells #[.slice m.sa m.sn m.sc, .int .i64 m.c0, .int .i64 m.c1, .int .i64 m.d0, .int .i64 m.d1, .int .i64 m.w0, .int .i64 m.w1, .int .i64 m.v0, .int .i64 m.v1, .slice m.ra m.rn m.rc] 29) = W1 at *
  have c0 := cells_new W1 #[.slice xa1 xn1 xc1, .slice xa2 xn2 xc2] 45 (j := 0) rfl
  have c1 := cells_new W1 #[.slice xa1 xn1 xc1, .slice xa2 xn2 xc2] 45 (j := 1) rfl
  rw [hz] at c0 c1
  exact ⟨h.alloc _, c0, c1, by rw [World.size_alloc]; omega⟩
set_option maxRecDepth 100000 in
set_option maxHeartbeats 2000000 in
theorem good_long (a1 : Option Addr) (n c1 : Nat) (r : Int) (m : Mach) (xa1 : Option Addr) (xn1 xc1 : Nat) (xa2 : Option Addr) (xn2 xc2 : Nat) (k : Int) (w : World) (hk : KG w) (hn : n ≤ 9223372036854775807) (hs : m.sn ≤ 9223372036854775807) (hr : m.rn ≤ 9223372036854775807) (hx1 : xn1 ≤ 9223372036854775807) (hx2 : xn2 ≤ 9223372036854775807) (hno : (((decide (m.sn ≤ 6) && decide (m.rn ≤ 6)) && (decide (xn1 ≤ 15) && decide (xn2 ≤ 15))) && decide (n ≤ 6)) = false) :
    Calls Tryz.prog 5 #[.agg #[.slice a1 n c1, .int .i64 r], m.val, .agg #[.slice xa1 xn1 xc1, .slice xa2 xn2 xc2], .int .i64 k] w fun e w' => e = .returned (.bool true) ∧ Below w.heap.size w w' := by
  have hsl := fun (W : World) => slim_any m W hs hr
  have hbr := fun (W : World) => brief_any xa1 xn1 xc1 xa2 xn2 xc2 W hx1 hx2
  obtain ⟨W0, hW0⟩ : ∃ W0, ((w.alloc (Obj.cells #[.slice a1 n c1, .int .i64 r] 24)).alloc (.cells #[.slice m.sa m.sn m.sc, .int .i64 m.c0, .int .i64 m.c1, .int .i64 m.d0, .int .i64 m.d1, .int .i64 m.w0, .int .i64 m.w1, .int .i64 m.v0, .int .i64 m.v1, .slice m.ra m.rn m.rc] 29)).alloc (Obj.cells #[.slice xa1 xn1 xc1, .slice xa2 xn2 xc2] 45) = W0 := ⟨_, rfl⟩
  have hX : PLift (GDX w W0 m (.slice a1 n c1) r xa1 xn1 xc1 xa2 xn2 xc2) := ⟨by rw [← hW0]; exact GDX.new w m _ r _ _ _ _ _ _⟩
  have z0 := hX.down.sx.c0
  have z1 := hX.down.sx.c1
  have z2 := hX.down.u0
  have z3 := hX.down.u1
  obtain ⟨y0', y1', y2', y3', y4', y5', y6', y7', y8', y9'⟩ := hX.down.sx.mach
  generalize (decide (m.sn ≤ 6) && decide (m.rn ≤ 6)) = s at *
  generalize (decide (xn1 ≤ 15) && decide (xn2 ≤ 15)) = b at *
  cases s
  · clear hno
    go_enter Tryz.func5, Tryz.ntmps5
    go_wp2_with (first
      | (go_at_call 8; with_reducible refine (hsl _).mono ?_; rintro e w1 ⟨rfl, hb⟩; replace hX : PLift (GDX w w1 m (.slice a1 n c1) r xa1 xn1 xc1 xa2 xn2 xc2) := ⟨hX.down.below hb⟩; have z0 := hX.down.sx.c0; have z1 := hX.down.sx.c1; have z2 := hX.down.u0; have z3 := hX.down.u1; obtain ⟨y0', y1', y2', y3', y4', y5', y6', y7', y8', y9'⟩ := hX.down.sx.mach; try replace hpl := hpl.below hb; clear hb)
      | (go_at_call 15; with_reducible refine (hbr _).mono ?_; rintro e w1 ⟨rfl, hb⟩; replace hX : PLift (GDX w w1 m (.slice a1 n c1) r xa1 xn1 xc1 xa2 xn2 xc2) := ⟨hX.down.below hb⟩; have z0 := hX.down.sx.c0; have z1 := hX.down.sx.c1; have z2 := hX.down.u0; have z3 := hX.down.u1; obtain ⟨y0', y1', y2', y3', y4', y5', y6', y7', y8', y9'⟩ := hX.down.sx.mach; try replace hpl := hpl.below hb; clear hb)
      | (go_at_call 9; with_reducible refine (known_ok _ (hk.below hX.down.sx.old)).mono ?_; rintro e w1 ⟨rfl, hb⟩; replace hX : PLift (GDX w w1 m (.slice a1 n c1) r xa1 xn1 xc1 xa2 xn2 xc2) := ⟨hX.down.below hb⟩; have z0 := hX.down.sx.c0; have z1 := hX.down.sx.c1; have z2 := hX.down.u0; have z3 := hX.down.u1; obtain ⟨y0', y1', y2', y3', y4', y5', y6', y7', y8', y9'⟩ := hX.down.sx.mach; try replace hpl := hpl.below hb; clear hb))
    go_ret
    exact ⟨rfl, hX.down.sx.old⟩
  · cases b
    · clear hno
      go_enter Tryz.func5, Tryz.ntmps5
      go_wp2_with (first
        | (go_at_call 8; with_reducible refine (hsl _).mono ?_; rintro e w1 ⟨rfl, hb⟩; replace hX : PLift (GDX w w1 m (.slice a1 n c1) r xa1 xn1 xc1 xa2 xn2 xc2) := ⟨hX.down.below hb⟩; have z0 := hX.down.sx.c0; have z1 := hX.down.sx.c1; have z2 := hX.down.u0; have z3 := hX.down.u1; obtain ⟨y0', y1', y2', y3', y4', y5', y6', y7', y8', y9'⟩ := hX.down.sx.mach; try replace hpl := hpl.below hb; clear hb)
        | (go_at_call 15; with_reducible refine (hbr _).mono ?_; rintro e w1 ⟨rfl, hb⟩; replace hX : PLift (GDX w w1 m (.slice a1 n c1) r xa1 xn1 xc1 xa2 xn2 xc2) := ⟨hX.down.below hb⟩; have z0 := hX.down.sx.c0; have z1 := hX.down.sx.c1; have z2 := hX.down.u0; have z3 := hX.down.u1; obtain ⟨y0', y1', y2', y3', y4', y5', y6', y7', y8', y9'⟩ := hX.down.sx.mach; try replace hpl := hpl.below hb; clear hb)
        | (go_at_call 9; with_reducible refine (known_ok _ (hk.below hX.down.sx.old)).mono ?_; rintro e w1 ⟨rfl, hb⟩; replace hX : PLift (GDX w w1 m (.slice a1 n c1) r xa1 xn1 xc1 xa2 xn2 xc2) := ⟨hX.down.below hb⟩; have z0 := hX.down.sx.c0; have z1 := hX.down.sx.c1; have z2 := hX.down.u0; have z3 := hX.down.u1; obtain ⟨y0', y1', y2', y3', y4', y5', y6', y7', y8', y9'⟩ := hX.down.sx.mach; try replace hpl := hpl.below hb; clear hb))
      go_ret
      exact ⟨rfl, hX.down.sx.old⟩
    · rw [Bool.true_and, Bool.true_and] at hno
      have hnn : ¬ n ≤ 6 := of_decide_eq_false hno
      have h6 : (6 : Int) < (n : Int) := by omega
      clear hno
      go_enter Tryz.func5, Tryz.ntmps5
      go_wp2_with (first
        | (go_at_call 8; with_reducible refine (hsl _).mono ?_; rintro e w1 ⟨rfl, hb⟩; replace hX : PLift (GDX w w1 m (.slice a1 n c1) r xa1 xn1 xc1 xa2 xn2 xc2) := ⟨hX.down.below hb⟩; have z0 := hX.down.sx.c0; have z1 := hX.down.sx.c1; have z2 := hX.down.u0; have z3 := hX.down.u1; obtain ⟨y0', y1', y2', y3', y4', y5', y6', y7', y8', y9'⟩ := hX.down.sx.mach; try replace hpl := hpl.below hb; clear hb)
        | (go_at_call 15; with_reducible refine (hbr _).mono ?_; rintro e w1 ⟨rfl, hb⟩; replace hX : PLift (GDX w w1 m (.slice a1 n c1) r xa1 xn1 xc1 xa2 xn2 xc2) := ⟨hX.down.below hb⟩; have z0 := hX.down.sx.c0; have z1 := hX.down.sx.c1; have z2 := hX.down.u0; have z3 := hX.down.u1; obtain ⟨y0', y1', y2', y3', y4', y5', y6', y7', y8', y9'⟩ := hX.down.sx.mach; try replace hpl := hpl.below hb; clear hb)
        | (go_at_call 9; with_reducible refine (known_ok _ (hk.below hX.down.sx.old)).mono ?_; rintro e w1 ⟨rfl, hb⟩; replace hX : PLift (GDX w w1 m (.slice a1 n c1) r xa1 xn1 xc1 xa2 xn2 xc2) := ⟨hX.down.below hb⟩; have z0 := hX.down.sx.c0; have z1 := hX.down.sx.c1; have z2 := hX.down.u0; have z3 := hX.down.u1; obtain ⟨y0', y1', y2', y3', y4', y5', y6', y7', y8', y9'⟩ := hX.down.sx.mach; try replace hpl := hpl.below hb; clear hb))
      go_ret
      exact ⟨rfl, hX.down.sx.old⟩
set_option maxRecDepth 100000 in
set_option maxHeartbeats 2000000 in
theorem good_odd (a1 : Option Addr) (n c1 : Nat) (r : Int) (HX HY : Nat → Int) (m : Mach) (xa1 : Option Addr) (xn1 xc1 : Nat) (xa2 : Option Addr) (xn2 xc2 : Nat) (F G : Nat → Int) (k : Int) (w : World) (hk : KG w) (hn : n ≤ 6) (hs : m.sn ≤ 6) (hr : m.rn ≤ 6) (hx1 : xn1 ≤ 15) (hx2 : xn2 ≤ 15) (hp : PSc w (.slice a1 n c1) n HX HY) (h : MIn w m) (hF : IntsSl w (.slice xa1 xn1 xc1) xn1 F) (hG : IntsSl w (.slice xa2 xn2 xc2) xn2 G)
    (hno : ((measB n HX HY r && m.ok) && (decide (n = m.sn) && ((offB xn1 F && offB xn2 G) && inB k 1 12))) = false) :
    Calls Tryz.prog 5 #[.agg #[.slice a1 n c1, .int .i64 r], m.val, .agg #[.slice xa1 xn1 xc1, .slice xa2 xn2 xc2], .int .i64 k] w fun e w' => e = .returned (.bool true) ∧ Below w.heap.size w w' := by
  have hsl := fun (W : World) => slim_any m W (by omega) (by omega)
  rw [decide_eq_true hs, decide_eq_true hr, Bool.and_true] at hsl
  have hbr := fun (W : World) => brief_any xa1 xn1 xc1 xa2 xn2 xc2 W (by omega) (by omega)
  rw [decide_eq_true hx1, decide_eq_true hx2, Bool.and_true] at hbr
  have hme := fun (W : World) (hB : Below w.heap.size w W) => measure_any (.slice a1 n c1) n HX HY r W (by omega) (hp.1.below hB)
  have hma := fun (W : World) (hB : Below w.heap.size w W) => rmachine_any m W (by omega) (by omega) (h.below hB)
  have htr := fun (W : World) (hB : Below w.heap.size w W) => rtruth_any xa1 xn1 xc1 xa2 xn2 xc2 F G W (by omega) (by omega) (isl_below hF hB) (isl_below hG hB)
  have hbl := fun (W : World) => rblank_any k 1 W
  have h6 : ¬ (6 : Int) < (n : Int) := by omega
  obtain ⟨W0, hW0⟩ : ∃ W0, ((w.alloc (Obj.cells #[.slice a1 n c1, .int .i64 r] 24)).alloc (.cells #[.slice m.sa m.sn m.sc, .int .i64 m.c0, .int .i64 m.c1, .int .i64 m.d0, .int .i64 m.d1, .int .i64 m.w0, .int .i64 m.w1, .int .i64 m.v0, .int .i64 m.v1, .slice m.ra m.rn m.rc] 29)).alloc (Obj.cells #[.slice xa1 xn1 xc1, .slice xa2 xn2 xc2] 45) = W0 := ⟨_, rfl⟩
  have hX : PLift (GDX w W0 m (.slice a1 n c1) r xa1 xn1 xc1 xa2 xn2 xc2) := ⟨by rw [← hW0]; exact GDX.new w m _ r _ _ _ _ _ _⟩
  have z0 := hX.down.sx.c0
  have z1 := hX.down.sx.c1
  have z2 := hX.down.u0
  have z3 := hX.down.u1
  obtain ⟨y0', y1', y2', y3', y4', y5', y6', y7', y8', y9'⟩ := hX.down.sx.mach
  generalize measB n HX HY r = x1 at *
  generalize m.ok = x2 at *
  generalize (offB xn1 F && offB xn2 G) = x3 at *
  generalize inB k 1 12 = x4 at *
  cases x1
  · clear hno
    go_enter Tryz.func5, Tryz.ntmps5
    go_wp2_with (first
      | (go_at_call 8; with_reducible refine (hsl _).mono ?_; rintro e w1 ⟨rfl, hb⟩; replace hX : PLift (GDX w w1 m (.slice a1 n c1) r xa1 xn1 xc1 xa2 xn2 xc2) := ⟨hX.down.below hb⟩; have z0 := hX.down.sx.c0; have z1 := hX.down.sx.c1; have z2 := hX.down.u0; have z3 := hX.down.u1; obtain ⟨y0', y1', y2', y3', y4', y5', y6', y7', y8', y9'⟩ := hX.down.sx.mach; try replace hpl := hpl.below hb; clear hb)
      | (go_at_call 15; with_reducible refine (hbr _).mono ?_; rintro e w1 ⟨rfl, hb⟩; replace hX : PLift (GDX w w1 m (.slice a1 n c1) r xa1 xn1 xc1 xa2 xn2 xc2) := ⟨hX.down.below hb⟩; have z0 := hX.down.sx.c0; have z1 := hX.down.sx.c1; have z2 := hX.down.u0; have z3 := hX.down.u1; obtain ⟨y0', y1', y2', y3', y4', y5', y6', y7', y8', y9'⟩ := hX.down.sx.mach; try replace hpl := hpl.below hb; clear hb)
      | (go_at_call 16; with_reducible refine (hme _ hX.down.sx.old).mono ?_; rintro e w1 ⟨rfl, hb⟩; replace hX : PLift (GDX w w1 m (.slice a1 n c1) r xa1 xn1 xc1 xa2 xn2 xc2) := ⟨hX.down.below hb⟩; have z0 := hX.down.sx.c0; have z1 := hX.down.sx.c1; have z2 := hX.down.u0; have z3 := hX.down.u1; obtain ⟨y0', y1', y2', y3', y4', y5', y6', y7', y8', y9'⟩ := hX.down.sx.mach; try replace hpl := hpl.below hb; clear hb)
      | (go_at_call 17; with_reducible refine (hma _ hX.down.sx.old).mono ?_; rintro e w1 ⟨rfl, hb⟩; replace hX : PLift (GDX w w1 m (.slice a1 n c1) r xa1 xn1 xc1 xa2 xn2 xc2) := ⟨hX.down.below hb⟩; have z0 := hX.down.sx.c0; have z1 := hX.down.sx.c1; have z2 := hX.down.u0; have z3 := hX.down.u1; obtain ⟨y0', y1', y2', y3', y4', y5', y6', y7', y8', y9'⟩ := hX.down.sx.mach; try replace hpl := hpl.below hb; clear hb)
      | (go_at_call 18; with_reducible refine (htr _ hX.down.sx.old).mono ?_; rintro e w1 ⟨rfl, hb⟩; replace hX : PLift (GDX w w1 m (.slice a1 n c1) r xa1 xn1 xc1 xa2 xn2 xc2) := ⟨hX.down.below hb⟩; have z0 := hX.down.sx.c0; have z1 := hX.down.sx.c1; have z2 := hX.down.u0; have z3 := hX.down.u1; obtain ⟨y0', y1', y2', y3', y4', y5', y6', y7', y8', y9'⟩ := hX.down.sx.mach; try replace hpl := hpl.below hb; clear hb)
      | (go_at_call 19; with_reducible refine (hbl _).mono ?_; rintro e w1 ⟨rfl, rfl⟩)
      | (go_at_call 9; with_reducible refine (known_ok _ (hk.below hX.down.sx.old)).mono ?_; rintro e w1 ⟨rfl, hb⟩; replace hX : PLift (GDX w w1 m (.slice a1 n c1) r xa1 xn1 xc1 xa2 xn2 xc2) := ⟨hX.down.below hb⟩; have z0 := hX.down.sx.c0; have z1 := hX.down.sx.c1; have z2 := hX.down.u0; have z3 := hX.down.u1; obtain ⟨y0', y1', y2', y3', y4', y5', y6', y7', y8', y9'⟩ := hX.down.sx.mach; try replace hpl := hpl.below hb; clear hb))
    go_ret
    exact ⟨rfl, hX.down.sx.old⟩
  · cases x2
    · clear hno
      go_enter Tryz.func5, Tryz.ntmps5
      go_wp2_with (first
        | (go_at_call 8; with_reducible refine (hsl _).mono ?_; rintro e w1 ⟨rfl, hb⟩; replace hX : PLift (GDX w w1 m (.slice a1 n c1) r xa1 xn1 xc1 xa2 xn2 xc2) := ⟨hX.down.below hb⟩; have z0 := hX.down.sx.c0; have z1 := hX.down.sx.c1; have z2 := hX.down.u0; have z3 := hX.down.u1; obtain ⟨y0', y1', y2', y3', y4', y5', y6', y7', y8', y9'⟩ := hX.down.sx.mach; try replace hpl := hpl.below hb; clear hb)
        | (go_at_call 15; with_reducible refine (hbr _).mono ?_; rintro e w1 ⟨rfl, hb⟩; replace hX : PLift (GDX w w1 m (.slice a1 n c1) r xa1 xn1 xc1 xa2 xn2 xc2) := ⟨hX.down.below hb⟩; have z0 := hX.down.sx.c0; have z1 := hX.down.sx.c1; have z2 := hX.down.u0; have z3 := hX.down.u1; obtain ⟨y0', y1', y2', y3', y4', y5', y6', y7', y8', y9'⟩ := hX.down.sx.mach; try replace hpl := hpl.below hb; clear hb)
        | (go_at_call 16; with_reducible refine (hme _ hX.down.sx.old).mono ?_; rintro e w1 ⟨rfl, hb⟩; replace hX : PLift (GDX w w1 m (.slice a1 n c1) r xa1 xn1 xc1 xa2 xn2 xc2) := ⟨hX.down.below hb⟩; have z0 := hX.down.sx.c0; have z1 := hX.down.sx.c1; have z2 := hX.down.u0; have z3 := hX.down.u1; obtain ⟨y0', y1', y2', y3', y4', y5', y6', y7', y8', y9'⟩ := hX.down.sx.mach; try replace hpl := hpl.below hb; clear hb)
        | (go_at_call 17; with_reducible refine (hma _ hX.down.sx.old).mono ?_; rintro e w1 ⟨rfl, hb⟩; replace hX : PLift (GDX w w1 m (.slice a1 n c1) r xa1 xn1 xc1 xa2 xn2 xc2) := ⟨hX.down.below hb⟩; have z0 := hX.down.sx.c0; have z1 := hX.down.sx.c1; have z2 := hX.down.u0; have z3 := hX.down.u1; obtain ⟨y0', y1', y2', y3', y4', y5', y6', y7', y8', y9'⟩ := hX.down.sx.mach; try replace hpl := hpl.below hb; clear hb)
        | (go_at_call 18; with_reducible refine (htr _ hX.down.sx.old).mono ?_; rintro e w1 ⟨rfl, hb⟩; replace hX : PLift (GDX w w1 m (.slice a1 n c1) r xa1 xn1 xc1 xa2 xn2 xc2) := ⟨hX.down.below hb⟩; have z0 := hX.down.sx.c0; have z1 := hX.down.sx.c1; have z2 := hX.down.u0; have z3 := hX.down.u1; obtain ⟨y0', y1', y2', y3', y4', y5', y6', y7', y8', y9'⟩ := hX.down.sx.mach; try replace hpl := hpl.below hb; clear hb)
        | (go_at_call 19; with_reducible refine (hbl _).mono ?_; rintro e w1 ⟨rfl, rfl⟩)
        | (go_at_call 9; with_reducible refine (known_ok _ (hk.below hX.down.sx.old)).mono ?_; rintro e w1 ⟨rfl, hb⟩; replace hX : PLift (GDX w w1 m (.slice a1 n c1) r xa1 xn1 xc1 xa2 xn2 xc2) := ⟨hX.down.below hb⟩; have z0 := hX.down.sx.c0; have z1 := hX.down.sx.c1; have z2 := hX.down.u0; have z3 := hX.down.u1; obtain ⟨y0', y1', y2', y3', y4', y5', y6', y7', y8', y9'⟩ := hX.down.sx.mach; try replace hpl := hpl.below hb; clear hb))
      go_ret
      exact ⟨rfl, hX.down.sx.old⟩
    · by_cases hnm : n = m.sn
      · subst hnm
        cases x3
        · clear hno
          go_enter Tryz.func5, Tryz.ntmps5
          go_wp2_with (first
            | (go_at_call 8; with_reducible refine (hsl _).mono ?_; rintro e w1 ⟨rfl, hb⟩; replace hX : PLift (GDX w w1 m (.slice a1 m.sn c1) r xa1 xn1 xc1 xa2 xn2 xc2) := ⟨hX.down.below hb⟩; have z0 := hX.down.sx.c0; have z1 := hX.down.sx.c1; have z2 := hX.down.u0; have z3 := hX.down.u1; obtain ⟨y0', y1', y2', y3', y4', y5', y6', y7', y8', y9'⟩ := hX.down.sx.mach; try replace hpl := hpl.below hb; clear hb)
            | (go_at_call 15; with_reducible refine (hbr _).mono ?_; rintro e w1 ⟨rfl, hb⟩; replace hX : PLift (GDX w w1 m (.slice a1 m.sn c1) r xa1 xn1 xc1 xa2 xn2 xc2) := ⟨hX.down.below hb⟩; have z0 := hX.down.sx.c0; have z1 := hX.down.sx.c1; have z2 := hX.down.u0; have z3 := hX.down.u1; obtain ⟨y0', y1', y2', y3', y4', y5', y6', y7', y8', y9'⟩ := hX.down.sx.mach; try replace hpl := hpl.below hb; clear hb)
            | (go_at_call 16; with_reducible refine (hme _ hX.down.sx.old).mono ?_; rintro e w1 ⟨rfl, hb⟩; replace hX : PLift (GDX w w1 m (.slice a1 m.sn c1) r xa1 xn1 xc1 xa2 xn2 xc2) := ⟨hX.down.below hb⟩; have z0 := hX.down.sx.c0; have z1 := hX.down.sx.c1; have z2 := hX.down.u0; have z3 := hX.down.u1; obtain ⟨y0', y1', y2', y3', y4', y5', y6', y7', y8', y9'⟩ := hX.down.sx.mach; try replace hpl := hpl.below hb; clear hb)
            | (go_at_call 17; with_reducible refine (hma _ hX.down.sx.old).mono ?_; rintro e w1 ⟨rfl, hb⟩; replace hX : PLift (GDX w w1 m (.slice a1 m.sn c1) r xa1 xn1 xc1 xa2 xn2 xc2) := ⟨hX.down.below hb⟩; have z0 := hX.down.sx.c0; have z1 := hX.down.sx.c1; have z2 := hX.down.u0; have z3 := hX.down.u1; obtain ⟨y0', y1', y2', y3', y4', y5', y6', y7', y8', y9'⟩ := hX.down.sx.mach; try replace hpl := hpl.below hb; clear hb)
            | (go_at_call 18; with_reducible refine (htr _ hX.down.sx.old).mono ?_; rintro e w1 ⟨rfl, hb⟩; replace hX : PLift (GDX w w1 m (.slice a1 m.sn c1) r xa1 xn1 xc1 xa2 xn2 xc2) := ⟨hX.down.below hb⟩; have z0 := hX.down.sx.c0; have z1 := hX.down.sx.c1; have z2 := hX.down.u0; have z3 := hX.down.u1; obtain ⟨y0', y1', y2', y3', y4', y5', y6', y7', y8', y9'⟩ := hX.down.sx.mach; try replace hpl := hpl.below hb; clear hb)
            | (go_at_call 19; with_reducible refine (hbl _).mono ?_; rintro e w1 ⟨rfl, rfl⟩)
            | (go_at_call 9; with_reducible refine (known_ok _ (hk.below hX.down.sx.old)).mono ?_; rintro e w1 ⟨rfl, hb⟩; replace hX : PLift (GDX w w1 m (.slice a1 m.sn c1) r xa1 xn1 xc1 xa2 xn2 xc2) := ⟨hX.down.below hb⟩; have z0 := hX.down.sx.c0; have z1 := hX.down.sx.c1; have z2 := hX.down.u0; have z3 := hX.down.u1; obtain ⟨y0', y1', y2', y3', y4', y5', y6', y7', y8', y9'⟩ := hX.down.sx.mach; try replace hpl := hpl.below hb; clear hb))
          go_ret
          exact ⟨rfl, hX.down.sx.old⟩
        · cases x4
          · clear hno
            go_enter Tryz.func5, Tryz.ntmps5
            go_wp2_with (first
              | (go_at_call 8; with_reducible refine (hsl _).mono ?_; rintro e w1 ⟨rfl, hb⟩; replace hX : PLift (GDX w w1 m (.slice a1 m.sn c1) r xa1 xn1 xc1 xa2 xn2 xc2) := ⟨hX.down.below hb⟩; have z0 := hX.down.sx.c0; have z1 := hX.down.sx.c1; have z2 := hX.down.u0; have z3 := hX.down.u1; obtain ⟨y0', y1', y2', y3', y4', y5', y6', y7', y8', y9'⟩ := hX.down.sx.mach; try replace hpl := hpl.below hb; clear hb)
              | (go_at_call 15; with_reducible refine (hbr _).mono ?_; rintro e w1 ⟨rfl, hb⟩; replace hX : PLift (GDX w w1 m (.slice a1 m.sn c1) r xa1 xn1 xc1 xa2 xn2 xc2) := ⟨hX.down.below hb⟩; have z0 := hX.down.sx.c0; have z1 := hX.down.sx.c1; have z2 := hX.down.u0; have z3 := hX.down.u1; obtain ⟨y0', y1', y2', y3', y4', y5', y6', y7', y8', y9'⟩ := hX.down.sx.mach; try replace hpl := hpl.below hb; clear hb)
              | (go_at_call 16; with_reducible refine (hme _ hX.down.sx.old).mono ?_; rintro e w1 ⟨rfl, hb⟩; replace hX : PLift (GDX w w1 m (.slice a1 m.sn c1) r xa1 xn1 xc1 xa2 xn2 xc2) := ⟨hX.down.below hb⟩; have z0 := hX.down.sx.c0; have z1 := hX.down.sx.c1; have z2 := hX.down.u0; have z3 := hX.down.u1; obtain ⟨y0', y1', y2', y3', y4', y5', y6', y7', y8', y9'⟩ := hX.down.sx.mach; try replace hpl := hpl.below hb; clear hb)
              | (go_at_call 17; with_reducible refine (hma _ hX.down.sx.old).mono ?_; rintro e w1 ⟨rfl, hb⟩; replace hX : PLift (GDX w w1 m (.slice a1 m.sn c1) r xa1 xn1 xc1 xa2 xn2 xc2) := ⟨hX.down.below hb⟩; have z0 := hX.down.sx.c0; have z1 := hX.down.sx.c1; have z2 := hX.down.u0; have z3 := hX.down.u1; obtain ⟨y0', y1', y2', y3', y4', y5', y6', y7', y8', y9'⟩ := hX.down.sx.mach; try replace hpl := hpl.below hb; clear hb)
              | (go_at_call 18; with_reducible refine (htr _ hX.down.sx.old).mono ?_; rintro e w1 ⟨rfl, hb⟩; replace hX : PLift (GDX w w1 m (.slice a1 m.sn c1) r xa1 xn1 xc1 xa2 xn2 xc2) := ⟨hX.down.below hb⟩; have z0 := hX.down.sx.c0; have z1 := hX.down.sx.c1; have z2 := hX.down.u0; have z3 := hX.down.u1; obtain ⟨y0', y1', y2', y3', y4', y5', y6', y7', y8', y9'⟩ := hX.down.sx.mach; try replace hpl := hpl.below hb; clear hb)
              | (go_at_call 19; with_reducible refine (hbl _).mono ?_; rintro e w1 ⟨rfl, rfl⟩)
              | (go_at_call 9; with_reducible refine (known_ok _ (hk.below hX.down.sx.old)).mono ?_; rintro e w1 ⟨rfl, hb⟩; replace hX : PLift (GDX w w1 m (.slice a1 m.sn c1) r xa1 xn1 xc1 xa2 xn2 xc2) := ⟨hX.down.below hb⟩; have z0 := hX.down.sx.c0; have z1 := hX.down.sx.c1; have z2 := hX.down.u0; have z3 := hX.down.u1; obtain ⟨y0', y1', y2', y3', y4', y5', y6', y7', y8', y9'⟩ := hX.down.sx.mach; try replace hpl := hpl.below hb; clear hb))
            go_ret
            exact ⟨rfl, hX.down.sx.old⟩
          · exact absurd hno (by simp)
      · have hni : ¬ (n : Int) = (m.sn : Int) := by omega
        clear hno
        go_enter Tryz.func5, Tryz.ntmps5
        go_wp2_with (first
          | (go_at_call 8; with_reducible refine (hsl _).mono ?_; rintro e w1 ⟨rfl, hb⟩; replace hX : PLift (GDX w w1 m (.slice a1 n c1) r xa1 xn1 xc1 xa2 xn2 xc2) := ⟨hX.down.below hb⟩; have z0 := hX.down.sx.c0; have z1 := hX.down.sx.c1; have z2 := hX.down.u0; have z3 := hX.down.u1; obtain ⟨y0', y1', y2', y3', y4', y5', y6', y7', y8', y9'⟩ := hX.down.sx.mach; try replace hpl := hpl.below hb; clear hb)
          | (go_at_call 15; with_reducible refine (hbr _).mono ?_; rintro e w1 ⟨rfl, hb⟩; replace hX : PLift (GDX w w1 m (.slice a1 n c1) r xa1 xn1 xc1 xa2 xn2 xc2) := ⟨hX.down.below hb⟩; have z0 := hX.down.sx.c0; have z1 := hX.down.sx.c1; have z2 := hX.down.u0; have z3 := hX.down.u1; obtain ⟨y0', y1', y2', y3', y4', y5', y6', y7', y8', y9'⟩ := hX.down.sx.mach; try replace hpl := hpl.below hb; clear hb)
          | (go_at_call 16; with_reducible refine (hme _ hX.down.sx.old).mono ?_; rintro e w1 ⟨rfl, hb⟩; replace hX : PLift (GDX w w1 m (.slice a1 n c1) r xa1 xn1 xc1 xa2 xn2 xc2) := ⟨hX.down.below hb⟩; have z0 := hX.down.sx.c0; have z1 := hX.down.sx.c1; have z2 := hX.down.u0; have z3 := hX.down.u1; obtain ⟨y0', y1', y2', y3', y4', y5', y6', y7', y8', y9'⟩ := hX.down.sx.mach; try replace hpl := hpl.below hb; clear hb)
          | (go_at_call 17; with_reducible refine (hma _ hX.down.sx.old).mono ?_; rintro e w1 ⟨rfl, hb⟩; replace hX : PLift (GDX w w1 m (.slice a1 n c1) r xa1 xn1 xc1 xa2 xn2 xc2) := ⟨hX.down.below hb⟩; have z0 := hX.down.sx.c0; have z1 := hX.down.sx.c1; have z2 := hX.down.u0; have z3 := hX.down.u1; obtain ⟨y0', y1', y2', y3', y4', y5', y6', y7', y8', y9'⟩ := hX.down.sx.mach; try replace hpl := hpl.below hb; clear hb)
          | (go_at_call 18; with_reducible refine (htr _ hX.down.sx.old).mono ?_; rintro e w1 ⟨rfl, hb⟩; replace hX : PLift (GDX w w1 m (.slice a1 n c1) r xa1 xn1 xc1 xa2 xn2 xc2) := ⟨hX.down.below hb⟩; have z0 := hX.down.sx.c0; have z1 := hX.down.sx.c1; have z2 := hX.down.u0; have z3 := hX.down.u1; obtain ⟨y0', y1', y2', y3', y4', y5', y6', y7', y8', y9'⟩ := hX.down.sx.mach; try replace hpl := hpl.below hb; clear hb)
          | (go_at_call 19; with_reducible refine (hbl _).mono ?_; rintro e w1 ⟨rfl, rfl⟩)
          | (go_at_call 9; with_reducible refine (known_ok _ (hk.below hX.down.sx.old)).mono ?_; rintro e w1 ⟨rfl, hb⟩; replace hX : PLift (GDX w w1 m (.slice a1 n c1) r xa1 xn1 xc1 xa2 xn2 xc2) := ⟨hX.down.below hb⟩; have z0 := hX.down.sx.c0; have z1 := hX.down.sx.c1; have z2 := hX.down.u0; have z3 := hX.down.u1; obtain ⟨y0', y1', y2', y3', y4', y5', y6', y7', y8', y9'⟩ := hX.down.sx.mach; try replace hpl := hpl.below hb; clear hb))
        go_ret
        exact ⟨rfl, hX.down.sx.old⟩
set_option maxRecDepth 100000 in
set_option maxHeartbeats 2000000 in
theorem good_none (a1 : Option Addr) (c1 : Nat) (r : Int) (HX HY : Nat → Int) (m : Mach) (xa1 : Option Addr) (xc1 : Nat) (xa2 : Option Addr) (xc2 : Nat) (F G : Nat → Int) (k : Nat) (hk1 : 1 ≤ k) (hk12 : k ≤ 12) (w : World) (hk : KG w) (hn : m.sn ≤ 6) (hr : m.rn ≤ 6) (hp : PSc w (.slice a1 m.sn c1) m.sn HX HY) (h : MIn w m) (hF : IntsSl w (.slice xa1 13 xc1) 13 F) (hG : IntsSl w (.slice xa2 13 xc2) 13 G) (hc1 : 13 ≤ xc1) (hc2 : 13 ≤ xc2) (hok : m.ok = true) (ho1 : offB 13 F = true) (ho2 : offB 13 G = true) (hmb : measB m.sn HX HY r = true) (hno : (m.axX.holdB F && m.axY.holdB G) = false) :
    Calls Tryz.prog 5 #[.agg #[.slice a1 m.sn c1, .int .i64 r], m.val, .agg #[.slice xa1 13 xc1, .slice xa2 13 xc2], .int .i64 k] w fun e w' => e = .returned (.bool true) ∧ Below w.heap.size w w' := by
  have hsl := fun (W : World) => slim_any m W (by omega) (by omega)
  rw [decide_eq_true hn, decide_eq_true hr, Bool.and_true] at hsl
  have hbr := fun (W : World) => brief_any xa1 13 xc1 xa2 13 xc2 W (by omega) (by omega)
  rw [show (decide (13 ≤ 15) && decide (13 ≤ 15)) = true from rfl] at hbr
  have hme := fun (W : World) (hB : Below w.heap.size w W) => measure_any (.slice a1 m.sn c1) m.sn HX HY r W (by omega) (hp.1.below hB)
  rw [hmb] at hme
  have hma := fun (W : World) (hB : Below w.heap.size w W) => rmachine_any m W (by omega) (by omega) (h.below hB)
  rw [hok] at hma
  have htr := fun (W : World) (hB : Below w.heap.size w W) => rtruth_any xa1 13 xc1 xa2 13 xc2 F G W (by omega) (by omega) (isl_below hF hB) (isl_below hG hB)
  rw [ho1, ho2, Bool.and_true] at htr
  have hbl := fun (W : World) => rblank_any (k : Int) 1 W
  rw [show inB (k : Int) 1 12 = true from inB_yes (by omega) (by omega)] at hbl
  have hfi := fun (W : World) (hB : Below w.heap.size w W) => Fits_yes m xa1 13 xc1 xa2 13 xc2 F G W (by omega) (by omega) (h.below hB) (by omega) (by omega) (isl_below hF hB) (isl_below hG hB) hok ho1 ho2 hc1 hc2
  have h6 : ¬ (6 : Int) < (m.sn : Int) := by omega
  rw [hno] at hfi
  obtain ⟨W0, hW0⟩ : ∃ W0, ((w.alloc (Obj.cells #[.slice a1 m.sn c1, .int .i64 r] 24)).alloc (.cells #[.slice m.sa m.sn m.sc, .int .i64 m.c0, .int .i64 m.c1, .int .i64 m.d0, .int .i64 m.d1, .int .i64 m.w0, .int .i64 m.w1, .int .i64 m.v0, .int .i64 m.v1, .slice m.ra m.rn m.rc] 29)).alloc (Obj.cells #[.slice xa1 13 xc1, .slice xa2 13 xc2] 45) = W0 := ⟨_, rfl⟩
  have hX : PLift (GDX w W0 m (.slice a1 m.sn c1) r xa1 13 xc1 xa2 13 xc2) := ⟨by rw [← hW0]; exact GDX.new w m _ r _ _ _ _ _ _⟩
  have z0 := hX.down.sx.c0
  have z1 := hX.down.sx.c1
  have z2 := hX.down.u0
  have z3 := hX.down.u1
  obtain ⟨y0', y1', y2', y3', y4', y5', y6', y7', y8', y9'⟩ := hX.down.sx.mach
  go_enter Tryz.func5, Tryz.ntmps5
  go_wp2_with (first
    | (go_at_call 8; with_reducible refine (hsl _).mono ?_; rintro e w1 ⟨rfl, hb⟩; replace hX : PLift (GDX w w1 m (.slice a1 m.sn c1) r xa1 13 xc1 xa2 13 xc2) := ⟨hX.down.below hb⟩; have z0 := hX.down.sx.c0; have z1 := hX.down.sx.c1; have z2 := hX.down.u0; have z3 := hX.down.u1; obtain ⟨y0', y1', y2', y3', y4', y5', y6', y7', y8', y9'⟩ := hX.down.sx.mach; try replace hpl := hpl.below hb; clear hb)
    | (go_at_call 15; with_reducible refine (hbr _).mono ?_; rintro e w1 ⟨rfl, hb⟩; replace hX : PLift (GDX w w1 m (.slice a1 m.sn c1) r xa1 13 xc1 xa2 13 xc2) := ⟨hX.down.below hb⟩; have z0 := hX.down.sx.c0; have z1 := hX.down.sx.c1; have z2 := hX.down.u0; have z3 := hX.down.u1; obtain ⟨y0', y1', y2', y3', y4', y5', y6', y7', y8', y9'⟩ := hX.down.sx.mach; try replace hpl := hpl.below hb; clear hb)
    | (go_at_call 16; with_reducible refine (hme _ hX.down.sx.old).mono ?_; rintro e w1 ⟨rfl, hb⟩; replace hX : PLift (GDX w w1 m (.slice a1 m.sn c1) r xa1 13 xc1 xa2 13 xc2) := ⟨hX.down.below hb⟩; have z0 := hX.down.sx.c0; have z1 := hX.down.sx.c1; have z2 := hX.down.u0; have z3 := hX.down.u1; obtain ⟨y0', y1', y2', y3', y4', y5', y6', y7', y8', y9'⟩ := hX.down.sx.mach; try replace hpl := hpl.below hb; clear hb)
    | (go_at_call 17; with_reducible refine (hma _ hX.down.sx.old).mono ?_; rintro e w1 ⟨rfl, hb⟩; replace hX : PLift (GDX w w1 m (.slice a1 m.sn c1) r xa1 13 xc1 xa2 13 xc2) := ⟨hX.down.below hb⟩; have z0 := hX.down.sx.c0; have z1 := hX.down.sx.c1; have z2 := hX.down.u0; have z3 := hX.down.u1; obtain ⟨y0', y1', y2', y3', y4', y5', y6', y7', y8', y9'⟩ := hX.down.sx.mach; try replace hpl := hpl.below hb; clear hb)
    | (go_at_call 18; with_reducible refine (htr _ hX.down.sx.old).mono ?_; rintro e w1 ⟨rfl, hb⟩; replace hX : PLift (GDX w w1 m (.slice a1 m.sn c1) r xa1 13 xc1 xa2 13 xc2) := ⟨hX.down.below hb⟩; have z0 := hX.down.sx.c0; have z1 := hX.down.sx.c1; have z2 := hX.down.u0; have z3 := hX.down.u1; obtain ⟨y0', y1', y2', y3', y4', y5', y6', y7', y8', y9'⟩ := hX.down.sx.mach; try replace hpl := hpl.below hb; clear hb)
    | (go_at_call 19; with_reducible refine (hbl _).mono ?_; rintro e w1 ⟨rfl, rfl⟩)
    | (go_at_call 20; with_reducible refine (hfi _ hX.down.sx.old).mono ?_; rintro e w1 ⟨rfl, hb⟩; replace hX : PLift (GDX w w1 m (.slice a1 m.sn c1) r xa1 13 xc1 xa2 13 xc2) := ⟨hX.down.below hb⟩; have z0 := hX.down.sx.c0; have z1 := hX.down.sx.c1; have z2 := hX.down.u0; have z3 := hX.down.u1; obtain ⟨y0', y1', y2', y3', y4', y5', y6', y7', y8', y9'⟩ := hX.down.sx.mach; try replace hpl := hpl.below hb; clear hb)
    | (go_at_call 9; with_reducible refine (known_ok _ (hk.below hX.down.sx.old)).mono ?_; rintro e w1 ⟨rfl, hb⟩; replace hX : PLift (GDX w w1 m (.slice a1 m.sn c1) r xa1 13 xc1 xa2 13 xc2) := ⟨hX.down.below hb⟩; have z0 := hX.down.sx.c0; have z1 := hX.down.sx.c1; have z2 := hX.down.u0; have z3 := hX.down.u1; obtain ⟨y0', y1', y2', y3', y4', y5', y6', y7', y8', y9'⟩ := hX.down.sx.mach; try replace hpl := hpl.below hb; clear hb))
  go_ret
  exact ⟨rfl, hX.down.sx.old⟩
/-- points in a block, as a slice has them. -/
structure HPl (w : World) (pb po pc n : Nat) (X Y : Nat → Int) : Prop where
  lt : pb < w.heap.size
  pts : Pts w pb po n X Y
theorem HPl.below {w w' : World} {pb po pc n : Nat} {X Y : Nat → Int} (h : HPl w pb po pc n X Y) (hb : Below w.heap.size w w') : HPl w' pb po pc n X Y := ⟨Nat.lt_of_lt_of_le h.lt hb.size, h.pts.below hb h.lt⟩
set_option maxRecDepth 100000 in
set_option maxHeartbeats 2000000 in
theorem good_yes (a1 : Option Addr) (c1 : Nat) (r : Int) (HX HY : Nat → Int) (m : Mach) (xa1 : Option Addr) (xc1 : Nat) (xa2 : Option Addr) (xc2 : Nat) (F G : Nat → Int) (k : Nat) (hk1 : 1 ≤ k) (hk12 : k ≤ 12) (w : World) (hk : KG w) (hn : m.sn ≤ 6) (hr : m.rn ≤ 6) (hp : PSc w (.slice a1 m.sn c1) m.sn HX HY) (h : MIn w m) (hF : IntsSl w (.slice xa1 13 xc1) 13 F) (hG : IntsSl w (.slice xa2 13 xc2) 13 G) (hc1 : 13 ≤ xc1) (hc2 : 13 ≤ xc2) (hok : m.ok = true) (ho1 : offB 13 F = true) (ho2 : offB 13 G = true) (hmb : measB m.sn HX HY r = true) (hyes : (m.axX.holdB F && m.axY.holdB G) = true) :
    Calls Tryz.prog 5 #[.agg #[.slice a1 m.sn c1, .int .i64 r], m.val, .agg #[.slice xa1 13 xc1, .slice xa2 13 xc2], .int .i64 k] w fun e w' => e = .returned (.bool true) ∧ Below w.heap.size w w' := by
  have hsl := fun (W : World) => slim_any m W (by omega) (by omega)
  rw [decide_eq_true hn, decide_eq_true hr, Bool.and_true] at hsl
  have hbr := fun (W : World) => brief_any xa1 13 xc1 xa2 13 xc2 W (by omega) (by omega)
  rw [show (decide (13 ≤ 15) && decide (13 ≤ 15)) = true from rfl] at hbr
  have hme := fun (W : World) (hB : Below w.heap.size w W) => measure_any (.slice a1 m.sn c1) m.sn HX HY r W (by omega) (hp.1.below hB)
  rw [hmb] at hme
  have hma := fun (W : World) (hB : Below w.heap.size w W) => rmachine_any m W (by omega) (by omega) (h.below hB)
  rw [hok] at hma
  have htr := fun (W : World) (hB : Below w.heap.size w W) => rtruth_any xa1 13 xc1 xa2 13 xc2 F G W (by omega) (by omega) (isl_below hF hB) (isl_below hG hB)
  rw [ho1, ho2, Bool.and_true] at htr
  have hbl := fun (W : World) => rblank_any (k : Int) 1 W
  rw [show inB (k : Int) 1 12 = true from inB_yes (by omega) (by omega)] at hbl
  have hfi := fun (W : World) (hB : Below w.heap.size w W) => Fits_yes m xa1 13 xc1 xa2 13 xc2 F G W (by omega) (by omega) (h.below hB) (by omega) (by omega) (isl_below hF hB) (isl_below hG hB) hok ho1 ho2 hc1 hc2
  have h6 : ¬ (6 : Int) < (m.sn : Int) := by omega
  rw [hyes] at hfi
  have hc := hold_can hok hyes
  have hy2 := hyes
  rw [Bool.and_eq_true] at hy2
  have hinX := Axis.ends_in (Mach.fineX hok) (Axis.holdB_iff.1 hy2.1) k hk12
  have hinY := Axis.ends_in (Mach.fineY hok) (Axis.holdB_iff.1 hy2.2) k hk12
  have hbX := Axis.any_bound (Mach.fineX hok) k hk12
  have hbY := Axis.any_bound (Mach.fineY hok) k hk12
  have hex := fun k => IsWord.ex (goodB m.sn HX HY m.SX m.SY r) (m.axX.ends k).1 (m.axX.ends k).2 (m.axY.ends k).1 (m.axY.ends k).2
  obtain ⟨wd, hwd⟩ := Classical.axiomOfChoice hex
  obtain ⟨n, hgz⟩ := IsGauge.ex wd
  have hga := fun (W : World) (hB : Below w.heap.size w W) => Gauge_ok a1 c1 r HX HY m W (by omega) (by omega) ⟨hp.1.below hB, hp.2⟩ (h.below hB) hok hc hmb wd (fun k _ => hwd k) n hgz
  have hsu := fun (W : World) (hB : Below w.heap.size w W) => Sure_ok a1 c1 r HX HY m k hk1 hk12 W (by omega) (by omega) ⟨hp.1.below hB, hp.2⟩ (h.below hB) hok hc hmb (wd k) (hwd k)
  have hwk := hwd k
  have hbox : InBox (m.axX.ends k).1 (m.axX.ends k).2 (m.axY.ends k).1 (m.axY.ends k).2 (F k) (G k) := ⟨hinX.1, hinX.2, hinY.1, hinY.2⟩
  have hkn : k ≤ n → wd k = 3 := fun hle => by
    have := hgz.2.1 (k - 1) (by omega)
    rwa [show k - 1 + 1 = k by omega] at this
  have hkn1 : k = n + 1 → wd k ≠ 3 := fun e => by
    have := hgz.2.2 (by omega)
    rw [e]; exact this
  have hn12 := hgz.1
  obtain ⟨⟨q1, q2⟩, ⟨q3, q4⟩, q5⟩ := meas_parts hmb
  have hst := (Mach.ok_parts hok).1
  have hsS : ∀ i, i < m.sn → (-20 ≤ m.SX i ∧ m.SX i ≤ 20) ∧ (-20 ≤ m.SY i ∧ m.SY i ≤ 20) := fun i hi => by
    unfold Mach.okStops arB at hst
    rw [Bool.and_eq_true, allB_iff] at hst
    have := hst.2 i hi
    unfold ptB at this
    rw [Bool.and_eq_true, inB_iff, inB_iff] at this
    omega
  clear hst
  have har : arB m.sn 0 (fun i => m.SX i + F k) (fun i => m.SY i + G k) 80 = true := by
    unfold arB
    rw [Bool.and_eq_true, allB_iff, inB_iff]
    refine ⟨by omega, fun i hi => ?_⟩
    have := hsS i hi
    exact ptB_small (p := (m.SX i + F k, m.SY i + G k)) ⟨⟨by dsimp only; omega, by dsimp only; omega⟩, by dsimp only; omega, by dsimp only; omega⟩
  have hho : ∀ (W : World), Below w.heap.size w W → Calls Tryz.prog 21 #[m.val, .agg #[.slice xa1 13 xc1, .slice xa2 13 xc2], .int .i64 k] W fun e w' => ∃ pb po pc, e = .returned (.tuple #[.slice (some ⟨pb, po, none⟩) m.sn pc, .int .i64 0]) ∧ HPl w' pb po pc m.sn (fun i => m.SX i + F k) (fun i => m.SY i + G k) ∧ Below W.heap.size W w' := fun W hB => by
    refine (Holes_yes m xa1 13 xc1 xa2 13 xc2 F G k hk12 W (by omega) (by omega) (h.below hB) (by omega) (by omega) (isl_below hF hB) (isl_below hG hB) hok ho1 ho2 hc1 hc2 hyes).mono ?_
    rintro e w' ⟨v', rfl, hown, hb⟩
    obtain ⟨pb, po, pc, rfl, lp, pp⟩ := PSl_posD (PSl_of_own hown) (by omega)
    exact ⟨pb, po, pc, rfl, ⟨lp, pp⟩, hb⟩
  clear hinX hinY hbX hbY hex hgz hwd hsS
  obtain ⟨b1, o1, k1, e1, l1, p1⟩ := PSl_posD hp.1 (by omega)
  cases e1
  generalize hg : goodB m.sn HX HY m.SX m.SY r (F k) (G k) = g
  have hmt1 : g = true → ∀ (W : World) (pb po pc : Nat), Below w.heap.size w W → HPl W pb po pc m.sn (fun i => m.SX i + F k) (fun i => m.SY i + G k) → Calls Tryz.prog 22 #[.agg #[.slice (some ⟨b1, o1, none⟩) m.sn c1, .int .i64 r], .slice (some ⟨pb, po, none⟩) m.sn pc] W fun e w' => ∃ (mt mb mc : Nat), e = .returned (.tuple #[.int .i64 mt, .slice (some ⟨mb, 0, none⟩) m.sn mc, .int .i64 0]) ∧ Below W.heap.size W w' := fun hgt W pb po pc hB hpl => by
    subst hgt
    unfold goodB at hg
    cases hm : matchS m.sn HX HY (fun i => m.SX i + F k) (fun i => m.SY i + G k) r with
    | none => rw [hm] at hg; cases hg
    | some q =>
      obtain ⟨t, q⟩ := q
      refine (Match_some (some ⟨b1, o1, none⟩) c1 m.sn (some ⟨pb, po, none⟩) pc HX HY _ _ r W t q ⟨hp.1.below hB, hp.2⟩ (.inr ⟨pb, po, pc, rfl, hpl.lt, hpl.pts⟩) hmb har hm).mono ?_
      rintro e w' ⟨qb, qc, rfl, _, _, hb⟩
      exact ⟨t, qb, qc, rfl, hb⟩
  have hmt0 : g = false → ∀ (W : World) (pb po pc : Nat), Below w.heap.size w W → HPl W pb po pc m.sn (fun i => m.SX i + F k) (fun i => m.SY i + G k) → Calls Tryz.prog 22 #[.agg #[.slice (some ⟨b1, o1, none⟩) m.sn c1, .int .i64 r], .slice (some ⟨pb, po, none⟩) m.sn pc] W fun e w' => e = .returned (.tuple #[.int .i64 0, .slice none 0 0, .int .i64 5]) ∧ Below W.heap.size W w' := fun hgt W pb po pc hB hpl => by
    subst hgt
    unfold goodB at hg
    cases hm : matchS m.sn HX HY (fun i => m.SX i + F k) (fun i => m.SY i + G k) r with
    | none => exact Match_none (some ⟨b1, o1, none⟩) c1 m.sn (some ⟨pb, po, none⟩) pc HX HY _ _ r W ⟨hp.1.below hB, hp.2⟩ (.inr ⟨pb, po, pc, rfl, hpl.lt, hpl.pts⟩) hmb har hm
    | some q => rw [hm] at hg; cases hg
  obtain ⟨W0, hW0⟩ : ∃ W0, ((w.alloc (Obj.cells #[.slice (some ⟨b1, o1, none⟩) m.sn c1, .int .i64 r] 24)).alloc (.cells #[.slice m.sa m.sn m.sc, .int .i64 m.c0, .int .i64 m.c1, .int .i64 m.d0, .int .i64 m.d1, .int .i64 m.w0, .int .i64 m.w1, .int .i64 m.v0, .int .i64 m.v1, .slice m.ra m.rn m.rc] 29)).alloc (Obj.cells #[.slice xa1 13 xc1, .slice xa2 13 xc2] 45) = W0 := ⟨_, rfl⟩
  have hX : PLift (GDX w W0 m (.slice (some ⟨b1, o1, none⟩) m.sn c1) r xa1 13 xc1 xa2 13 xc2) := ⟨by rw [← hW0]; exact GDX.new w m _ r _ _ _ _ _ _⟩
  have z0 := hX.down.sx.c0
  have z1 := hX.down.sx.c1
  have z2 := hX.down.u0
  have z3 := hX.down.u1
  obtain ⟨y0', y1', y2', y3', y4', y5', y6', y7', y8', y9'⟩ := hX.down.sx.mach
  have hv3 : wd k = 3 → g = true := fun e => hg ▸ hwk.surely.1 e _ _ hbox
  have hv1 : wd k = 1 → g = false := fun e => by
    rcases hwk with ⟨e', _⟩ | ⟨_, _, hall⟩ | ⟨e', _⟩
    · omega
    · exact hg ▸ hall _ _ hbox
    · omega
  have hrg := hwk.range
  clear hwk hg har hbox
  have hn0 : (0 : Int) ≤ (n : Int) := Int.natCast_nonneg _
  have hwn : IntKind.i64.wrap ((n : Int) + 1) = (n : Int) + 1 := IntWalk.i64_in _ (by omega)
  have hni : ¬ (12 : Int) < (n : Int) := by omega
  by_cases hle : k ≤ n
  · have hle' : (k : Int) ≤ (n : Int) := by omega
    have hw3 := hkn hle
    rw [hw3] at hsu
    obtain rfl := hv3 hw3
    have hmt := hmt1 rfl
    clear hmt1 hmt0 hv3 hv1 hrg hkn hkn1
    go_enter Tryz.func5, Tryz.ntmps5
    go_wp2_with (first
      | (go_at_call 8; with_reducible refine (hsl _).mono ?_; rintro e w1 ⟨rfl, hb⟩; replace hX : PLift (GDX w w1 m (.slice (some ⟨b1, o1, none⟩) m.sn c1) r xa1 13 xc1 xa2 13 xc2) := ⟨hX.down.below hb⟩; have z0 := hX.down.sx.c0; have z1 := hX.down.sx.c1; have z2 := hX.down.u0; have z3 := hX.down.u1; obtain ⟨y0', y1', y2', y3', y4', y5', y6', y7', y8', y9'⟩ := hX.down.sx.mach; try replace hpl := hpl.below hb; clear hb)
      | (go_at_call 15; with_reducible refine (hbr _).mono ?_; rintro e w1 ⟨rfl, hb⟩; replace hX : PLift (GDX w w1 m (.slice (some ⟨b1, o1, none⟩) m.sn c1) r xa1 13 xc1 xa2 13 xc2) := ⟨hX.down.below hb⟩; have z0 := hX.down.sx.c0; have z1 := hX.down.sx.c1; have z2 := hX.down.u0; have z3 := hX.down.u1; obtain ⟨y0', y1', y2', y3', y4', y5', y6', y7', y8', y9'⟩ := hX.down.sx.mach; try replace hpl := hpl.below hb; clear hb)
      | (go_at_call 16; with_reducible refine (hme _ hX.down.sx.old).mono ?_; rintro e w1 ⟨rfl, hb⟩; replace hX : PLift (GDX w w1 m (.slice (some ⟨b1, o1, none⟩) m.sn c1) r xa1 13 xc1 xa2 13 xc2) := ⟨hX.down.below hb⟩; have z0 := hX.down.sx.c0; have z1 := hX.down.sx.c1; have z2 := hX.down.u0; have z3 := hX.down.u1; obtain ⟨y0', y1', y2', y3', y4', y5', y6', y7', y8', y9'⟩ := hX.down.sx.mach; try replace hpl := hpl.below hb; clear hb)
      | (go_at_call 17; with_reducible refine (hma _ hX.down.sx.old).mono ?_; rintro e w1 ⟨rfl, hb⟩; replace hX : PLift (GDX w w1 m (.slice (some ⟨b1, o1, none⟩) m.sn c1) r xa1 13 xc1 xa2 13 xc2) := ⟨hX.down.below hb⟩; have z0 := hX.down.sx.c0; have z1 := hX.down.sx.c1; have z2 := hX.down.u0; have z3 := hX.down.u1; obtain ⟨y0', y1', y2', y3', y4', y5', y6', y7', y8', y9'⟩ := hX.down.sx.mach; try replace hpl := hpl.below hb; clear hb)
      | (go_at_call 18; with_reducible refine (htr _ hX.down.sx.old).mono ?_; rintro e w1 ⟨rfl, hb⟩; replace hX : PLift (GDX w w1 m (.slice (some ⟨b1, o1, none⟩) m.sn c1) r xa1 13 xc1 xa2 13 xc2) := ⟨hX.down.below hb⟩; have z0 := hX.down.sx.c0; have z1 := hX.down.sx.c1; have z2 := hX.down.u0; have z3 := hX.down.u1; obtain ⟨y0', y1', y2', y3', y4', y5', y6', y7', y8', y9'⟩ := hX.down.sx.mach; try replace hpl := hpl.below hb; clear hb)
      | (go_at_call 19; with_reducible refine (hbl _).mono ?_; rintro e w1 ⟨rfl, rfl⟩)
      | (go_at_call 20; with_reducible refine (hfi _ hX.down.sx.old).mono ?_; rintro e w1 ⟨rfl, hb⟩; replace hX : PLift (GDX w w1 m (.slice (some ⟨b1, o1, none⟩) m.sn c1) r xa1 13 xc1 xa2 13 xc2) := ⟨hX.down.below hb⟩; have z0 := hX.down.sx.c0; have z1 := hX.down.sx.c1; have z2 := hX.down.u0; have z3 := hX.down.u1; obtain ⟨y0', y1', y2', y3', y4', y5', y6', y7', y8', y9'⟩ := hX.down.sx.mach; try replace hpl := hpl.below hb; clear hb)
      | (go_at_call 13; with_reducible refine (hga _ hX.down.sx.old).mono ?_; rintro e w1 ⟨rfl, hb⟩; replace hX : PLift (GDX w w1 m (.slice (some ⟨b1, o1, none⟩) m.sn c1) r xa1 13 xc1 xa2 13 xc2) := ⟨hX.down.below hb⟩; have z0 := hX.down.sx.c0; have z1 := hX.down.sx.c1; have z2 := hX.down.u0; have z3 := hX.down.u1; obtain ⟨y0', y1', y2', y3', y4', y5', y6', y7', y8', y9'⟩ := hX.down.sx.mach; try replace hpl := hpl.below hb; clear hb)
      | (go_at_call 10; with_reducible refine (hsu _ hX.down.sx.old).mono ?_; rintro e w1 ⟨rfl, hb⟩; replace hX : PLift (GDX w w1 m (.slice (some ⟨b1, o1, none⟩) m.sn c1) r xa1 13 xc1 xa2 13 xc2) := ⟨hX.down.below hb⟩; have z0 := hX.down.sx.c0; have z1 := hX.down.sx.c1; have z2 := hX.down.u0; have z3 := hX.down.u1; obtain ⟨y0', y1', y2', y3', y4', y5', y6', y7', y8', y9'⟩ := hX.down.sx.mach; try replace hpl := hpl.below hb; clear hb)
      | (go_at_call 21; with_reducible refine (hho _ hX.down.sx.old).mono ?_; rintro e w1 ⟨pb, po, pc, rfl, hpl, hb⟩; replace hX : PLift (GDX w w1 m (.slice (some ⟨b1, o1, none⟩) m.sn c1) r xa1 13 xc1 xa2 13 xc2) := ⟨hX.down.below hb⟩; have z0 := hX.down.sx.c0; have z1 := hX.down.sx.c1; have z2 := hX.down.u0; have z3 := hX.down.u1; obtain ⟨y0', y1', y2', y3', y4', y5', y6', y7', y8', y9'⟩ := hX.down.sx.mach; clear hb)
      | (go_at_call 22; with_reducible refine (hmt _ pb po pc hX.down.sx.old hpl).mono ?_; rintro e w1 ⟨mt, mb, mc, rfl, hb⟩; replace hX : PLift (GDX w w1 m (.slice (some ⟨b1, o1, none⟩) m.sn c1) r xa1 13 xc1 xa2 13 xc2) := ⟨hX.down.below hb⟩; have z0 := hX.down.sx.c0; have z1 := hX.down.sx.c1; have z2 := hX.down.u0; have z3 := hX.down.u1; obtain ⟨y0', y1', y2', y3', y4', y5', y6', y7', y8', y9'⟩ := hX.down.sx.mach; try replace hpl := hpl.below hb; clear hb)
      | (go_at_call 9; with_reducible refine (known_ok _ (hk.below hX.down.sx.old)).mono ?_; rintro e w1 ⟨rfl, hb⟩; replace hX : PLift (GDX w w1 m (.slice (some ⟨b1, o1, none⟩) m.sn c1) r xa1 13 xc1 xa2 13 xc2) := ⟨hX.down.below hb⟩; have z0 := hX.down.sx.c0; have z1 := hX.down.sx.c1; have z2 := hX.down.u0; have z3 := hX.down.u1; obtain ⟨y0', y1', y2', y3', y4', y5', y6', y7', y8', y9'⟩ := hX.down.sx.mach; try replace hpl := hpl.below hb; clear hb))
    go_ret
    exact ⟨rfl, hX.down.sx.old⟩
  · have hle' : ¬ (k : Int) ≤ (n : Int) := by omega
    rcases hrg with hw | hw | hw
    · rw [hw] at hsu
      obtain rfl := hv1 hw
      have hmt := hmt0 rfl
      clear hmt1 hmt0 hv3 hv1 hkn hkn1
      by_cases hne : (k : Int) = (n : Int) + 1
      · rw [hne] at hsu hho hbl ⊢
        go_enter Tryz.func5, Tryz.ntmps5
        go_wp2_with (first
          | (go_at_call 8; with_reducible refine (hsl _).mono ?_; rintro e w1 ⟨rfl, hb⟩; replace hX : PLift (GDX w w1 m (.slice (some ⟨b1, o1, none⟩) m.sn c1) r xa1 13 xc1 xa2 13 xc2) := ⟨hX.down.below hb⟩; have z0 := hX.down.sx.c0; have z1 := hX.down.sx.c1; have z2 := hX.down.u0; have z3 := hX.down.u1; obtain ⟨y0', y1', y2', y3', y4', y5', y6', y7', y8', y9'⟩ := hX.down.sx.mach; try replace hpl := hpl.below hb; clear hb)
          | (go_at_call 15; with_reducible refine (hbr _).mono ?_; rintro e w1 ⟨rfl, hb⟩; replace hX : PLift (GDX w w1 m (.slice (some ⟨b1, o1, none⟩) m.sn c1) r xa1 13 xc1 xa2 13 xc2) := ⟨hX.down.below hb⟩; have z0 := hX.down.sx.c0; have z1 := hX.down.sx.c1; have z2 := hX.down.u0; have z3 := hX.down.u1; obtain ⟨y0', y1', y2', y3', y4', y5', y6', y7', y8', y9'⟩ := hX.down.sx.mach; try replace hpl := hpl.below hb; clear hb)
          | (go_at_call 16; with_reducible refine (hme _ hX.down.sx.old).mono ?_; rintro e w1 ⟨rfl, hb⟩; replace hX : PLift (GDX w w1 m (.slice (some ⟨b1, o1, none⟩) m.sn c1) r xa1 13 xc1 xa2 13 xc2) := ⟨hX.down.below hb⟩; have z0 := hX.down.sx.c0; have z1 := hX.down.sx.c1; have z2 := hX.down.u0; have z3 := hX.down.u1; obtain ⟨y0', y1', y2', y3', y4', y5', y6', y7', y8', y9'⟩ := hX.down.sx.mach; try replace hpl := hpl.below hb; clear hb)
          | (go_at_call 17; with_reducible refine (hma _ hX.down.sx.old).mono ?_; rintro e w1 ⟨rfl, hb⟩; replace hX : PLift (GDX w w1 m (.slice (some ⟨b1, o1, none⟩) m.sn c1) r xa1 13 xc1 xa2 13 xc2) := ⟨hX.down.below hb⟩; have z0 := hX.down.sx.c0; have z1 := hX.down.sx.c1; have z2 := hX.down.u0; have z3 := hX.down.u1; obtain ⟨y0', y1', y2', y3', y4', y5', y6', y7', y8', y9'⟩ := hX.down.sx.mach; try replace hpl := hpl.below hb; clear hb)
          | (go_at_call 18; with_reducible refine (htr _ hX.down.sx.old).mono ?_; rintro e w1 ⟨rfl, hb⟩; replace hX : PLift (GDX w w1 m (.slice (some ⟨b1, o1, none⟩) m.sn c1) r xa1 13 xc1 xa2 13 xc2) := ⟨hX.down.below hb⟩; have z0 := hX.down.sx.c0; have z1 := hX.down.sx.c1; have z2 := hX.down.u0; have z3 := hX.down.u1; obtain ⟨y0', y1', y2', y3', y4', y5', y6', y7', y8', y9'⟩ := hX.down.sx.mach; try replace hpl := hpl.below hb; clear hb)
          | (go_at_call 19; with_reducible refine (hbl _).mono ?_; rintro e w1 ⟨rfl, rfl⟩)
          | (go_at_call 20; with_reducible refine (hfi _ hX.down.sx.old).mono ?_; rintro e w1 ⟨rfl, hb⟩; replace hX : PLift (GDX w w1 m (.slice (some ⟨b1, o1, none⟩) m.sn c1) r xa1 13 xc1 xa2 13 xc2) := ⟨hX.down.below hb⟩; have z0 := hX.down.sx.c0; have z1 := hX.down.sx.c1; have z2 := hX.down.u0; have z3 := hX.down.u1; obtain ⟨y0', y1', y2', y3', y4', y5', y6', y7', y8', y9'⟩ := hX.down.sx.mach; try replace hpl := hpl.below hb; clear hb)
          | (go_at_call 13; with_reducible refine (hga _ hX.down.sx.old).mono ?_; rintro e w1 ⟨rfl, hb⟩; replace hX : PLift (GDX w w1 m (.slice (some ⟨b1, o1, none⟩) m.sn c1) r xa1 13 xc1 xa2 13 xc2) := ⟨hX.down.below hb⟩; have z0 := hX.down.sx.c0; have z1 := hX.down.sx.c1; have z2 := hX.down.u0; have z3 := hX.down.u1; obtain ⟨y0', y1', y2', y3', y4', y5', y6', y7', y8', y9'⟩ := hX.down.sx.mach; try replace hpl := hpl.below hb; clear hb)
          | (go_at_call 10; with_reducible refine (hsu _ hX.down.sx.old).mono ?_; rintro e w1 ⟨rfl, hb⟩; replace hX : PLift (GDX w w1 m (.slice (some ⟨b1, o1, none⟩) m.sn c1) r xa1 13 xc1 xa2 13 xc2) := ⟨hX.down.below hb⟩; have z0 := hX.down.sx.c0; have z1 := hX.down.sx.c1; have z2 := hX.down.u0; have z3 := hX.down.u1; obtain ⟨y0', y1', y2', y3', y4', y5', y6', y7', y8', y9'⟩ := hX.down.sx.mach; try replace hpl := hpl.below hb; clear hb)
          | (go_at_call 21; with_reducible refine (hho _ hX.down.sx.old).mono ?_; rintro e w1 ⟨pb, po, pc, rfl, hpl, hb⟩; replace hX : PLift (GDX w w1 m (.slice (some ⟨b1, o1, none⟩) m.sn c1) r xa1 13 xc1 xa2 13 xc2) := ⟨hX.down.below hb⟩; have z0 := hX.down.sx.c0; have z1 := hX.down.sx.c1; have z2 := hX.down.u0; have z3 := hX.down.u1; obtain ⟨y0', y1', y2', y3', y4', y5', y6', y7', y8', y9'⟩ := hX.down.sx.mach; clear hb)
          | (go_at_call 22; with_reducible refine (hmt _ pb po pc hX.down.sx.old hpl).mono ?_; rintro e w1 ⟨rfl, hb⟩; replace hX : PLift (GDX w w1 m (.slice (some ⟨b1, o1, none⟩) m.sn c1) r xa1 13 xc1 xa2 13 xc2) := ⟨hX.down.below hb⟩; have z0 := hX.down.sx.c0; have z1 := hX.down.sx.c1; have z2 := hX.down.u0; have z3 := hX.down.u1; obtain ⟨y0', y1', y2', y3', y4', y5', y6', y7', y8', y9'⟩ := hX.down.sx.mach; try replace hpl := hpl.below hb; clear hb)
          | (go_at_call 9; with_reducible refine (known_ok _ (hk.below hX.down.sx.old)).mono ?_; rintro e w1 ⟨rfl, hb⟩; replace hX : PLift (GDX w w1 m (.slice (some ⟨b1, o1, none⟩) m.sn c1) r xa1 13 xc1 xa2 13 xc2) := ⟨hX.down.below hb⟩; have z0 := hX.down.sx.c0; have z1 := hX.down.sx.c1; have z2 := hX.down.u0; have z3 := hX.down.u1; obtain ⟨y0', y1', y2', y3', y4', y5', y6', y7', y8', y9'⟩ := hX.down.sx.mach; try replace hpl := hpl.below hb; clear hb))
        go_ret
        exact ⟨rfl, hX.down.sx.old⟩
      · skip
        go_enter Tryz.func5, Tryz.ntmps5
        go_wp2_with (first
          | (go_at_call 8; with_reducible refine (hsl _).mono ?_; rintro e w1 ⟨rfl, hb⟩; replace hX : PLift (GDX w w1 m (.slice (some ⟨b1, o1, none⟩) m.sn c1) r xa1 13 xc1 xa2 13 xc2) := ⟨hX.down.below hb⟩; have z0 := hX.down.sx.c0; have z1 := hX.down.sx.c1; have z2 := hX.down.u0; have z3 := hX.down.u1; obtain ⟨y0', y1', y2', y3', y4', y5', y6', y7', y8', y9'⟩ := hX.down.sx.mach; try replace hpl := hpl.below hb; clear hb)
          | (go_at_call 15; with_reducible refine (hbr _).mono ?_; rintro e w1 ⟨rfl, hb⟩; replace hX : PLift (GDX w w1 m (.slice (some ⟨b1, o1, none⟩) m.sn c1) r xa1 13 xc1 xa2 13 xc2) := ⟨hX.down.below hb⟩; have z0 := hX.down.sx.c0; have z1 := hX.down.sx.c1; have z2 := hX.down.u0; have z3 := hX.down.u1; obtain ⟨y0', y1', y2', y3', y4', y5', y6', y7', y8', y9'⟩ := hX.down.sx.mach; try replace hpl := hpl.below hb; clear hb)
          | (go_at_call 16; with_reducible refine (hme _ hX.down.sx.old).mono ?_; rintro e w1 ⟨rfl, hb⟩; replace hX : PLift (GDX w w1 m (.slice (some ⟨b1, o1, none⟩) m.sn c1) r xa1 13 xc1 xa2 13 xc2) := ⟨hX.down.below hb⟩; have z0 := hX.down.sx.c0; have z1 := hX.down.sx.c1; have z2 := hX.down.u0; have z3 := hX.down.u1; obtain ⟨y0', y1', y2', y3', y4', y5', y6', y7', y8', y9'⟩ := hX.down.sx.mach; try replace hpl := hpl.below hb; clear hb)
          | (go_at_call 17; with_reducible refine (hma _ hX.down.sx.old).mono ?_; rintro e w1 ⟨rfl, hb⟩; replace hX : PLift (GDX w w1 m (.slice (some ⟨b1, o1, none⟩) m.sn c1) r xa1 13 xc1 xa2 13 xc2) := ⟨hX.down.below hb⟩; have z0 := hX.down.sx.c0; have z1 := hX.down.sx.c1; have z2 := hX.down.u0; have z3 := hX.down.u1; obtain ⟨y0', y1', y2', y3', y4', y5', y6', y7', y8', y9'⟩ := hX.down.sx.mach; try replace hpl := hpl.below hb; clear hb)
          | (go_at_call 18; with_reducible refine (htr _ hX.down.sx.old).mono ?_; rintro e w1 ⟨rfl, hb⟩; replace hX : PLift (GDX w w1 m (.slice (some ⟨b1, o1, none⟩) m.sn c1) r xa1 13 xc1 xa2 13 xc2) := ⟨hX.down.below hb⟩; have z0 := hX.down.sx.c0; have z1 := hX.down.sx.c1; have z2 := hX.down.u0; have z3 := hX.down.u1; obtain ⟨y0', y1', y2', y3', y4', y5', y6', y7', y8', y9'⟩ := hX.down.sx.mach; try replace hpl := hpl.below hb; clear hb)
          | (go_at_call 19; with_reducible refine (hbl _).mono ?_; rintro e w1 ⟨rfl, rfl⟩)
          | (go_at_call 20; with_reducible refine (hfi _ hX.down.sx.old).mono ?_; rintro e w1 ⟨rfl, hb⟩; replace hX : PLift (GDX w w1 m (.slice (some ⟨b1, o1, none⟩) m.sn c1) r xa1 13 xc1 xa2 13 xc2) := ⟨hX.down.below hb⟩; have z0 := hX.down.sx.c0; have z1 := hX.down.sx.c1; have z2 := hX.down.u0; have z3 := hX.down.u1; obtain ⟨y0', y1', y2', y3', y4', y5', y6', y7', y8', y9'⟩ := hX.down.sx.mach; try replace hpl := hpl.below hb; clear hb)
          | (go_at_call 13; with_reducible refine (hga _ hX.down.sx.old).mono ?_; rintro e w1 ⟨rfl, hb⟩; replace hX : PLift (GDX w w1 m (.slice (some ⟨b1, o1, none⟩) m.sn c1) r xa1 13 xc1 xa2 13 xc2) := ⟨hX.down.below hb⟩; have z0 := hX.down.sx.c0; have z1 := hX.down.sx.c1; have z2 := hX.down.u0; have z3 := hX.down.u1; obtain ⟨y0', y1', y2', y3', y4', y5', y6', y7', y8', y9'⟩ := hX.down.sx.mach; try replace hpl := hpl.below hb; clear hb)
          | (go_at_call 10; with_reducible refine (hsu _ hX.down.sx.old).mono ?_; rintro e w1 ⟨rfl, hb⟩; replace hX : PLift (GDX w w1 m (.slice (some ⟨b1, o1, none⟩) m.sn c1) r xa1 13 xc1 xa2 13 xc2) := ⟨hX.down.below hb⟩; have z0 := hX.down.sx.c0; have z1 := hX.down.sx.c1; have z2 := hX.down.u0; have z3 := hX.down.u1; obtain ⟨y0', y1', y2', y3', y4', y5', y6', y7', y8', y9'⟩ := hX.down.sx.mach; try replace hpl := hpl.below hb; clear hb)
          | (go_at_call 21; with_reducible refine (hho _ hX.down.sx.old).mono ?_; rintro e w1 ⟨pb, po, pc, rfl, hpl, hb⟩; replace hX : PLift (GDX w w1 m (.slice (some ⟨b1, o1, none⟩) m.sn c1) r xa1 13 xc1 xa2 13 xc2) := ⟨hX.down.below hb⟩; have z0 := hX.down.sx.c0; have z1 := hX.down.sx.c1; have z2 := hX.down.u0; have z3 := hX.down.u1; obtain ⟨y0', y1', y2', y3', y4', y5', y6', y7', y8', y9'⟩ := hX.down.sx.mach; clear hb)
          | (go_at_call 22; with_reducible refine (hmt _ pb po pc hX.down.sx.old hpl).mono ?_; rintro e w1 ⟨rfl, hb⟩; replace hX : PLift (GDX w w1 m (.slice (some ⟨b1, o1, none⟩) m.sn c1) r xa1 13 xc1 xa2 13 xc2) := ⟨hX.down.below hb⟩; have z0 := hX.down.sx.c0; have z1 := hX.down.sx.c1; have z2 := hX.down.u0; have z3 := hX.down.u1; obtain ⟨y0', y1', y2', y3', y4', y5', y6', y7', y8', y9'⟩ := hX.down.sx.mach; try replace hpl := hpl.below hb; clear hb)
          | (go_at_call 9; with_reducible refine (known_ok _ (hk.below hX.down.sx.old)).mono ?_; rintro e w1 ⟨rfl, hb⟩; replace hX : PLift (GDX w w1 m (.slice (some ⟨b1, o1, none⟩) m.sn c1) r xa1 13 xc1 xa2 13 xc2) := ⟨hX.down.below hb⟩; have z0 := hX.down.sx.c0; have z1 := hX.down.sx.c1; have z2 := hX.down.u0; have z3 := hX.down.u1; obtain ⟨y0', y1', y2', y3', y4', y5', y6', y7', y8', y9'⟩ := hX.down.sx.mach; try replace hpl := hpl.below hb; clear hb))
        go_ret
        exact ⟨rfl, hX.down.sx.old⟩
    · rw [hw] at hsu
      clear hv3 hv1 hkn hkn1
      by_cases hne : (k : Int) = (n : Int) + 1
      · rw [hne] at hsu hho hbl ⊢
        cases g
        · have hmt := hmt0 rfl
          clear hmt1 hmt0
          go_enter Tryz.func5, Tryz.ntmps5
          go_wp2_with (first
            | (go_at_call 8; with_reducible refine (hsl _).mono ?_; rintro e w1 ⟨rfl, hb⟩; replace hX : PLift (GDX w w1 m (.slice (some ⟨b1, o1, none⟩) m.sn c1) r xa1 13 xc1 xa2 13 xc2) := ⟨hX.down.below hb⟩; have z0 := hX.down.sx.c0; have z1 := hX.down.sx.c1; have z2 := hX.down.u0; have z3 := hX.down.u1; obtain ⟨y0', y1', y2', y3', y4', y5', y6', y7', y8', y9'⟩ := hX.down.sx.mach; try replace hpl := hpl.below hb; clear hb)
            | (go_at_call 15; with_reducible refine (hbr _).mono ?_; rintro e w1 ⟨rfl, hb⟩; replace hX : PLift (GDX w w1 m (.slice (some ⟨b1, o1, none⟩) m.sn c1) r xa1 13 xc1 xa2 13 xc2) := ⟨hX.down.below hb⟩; have z0 := hX.down.sx.c0; have z1 := hX.down.sx.c1; have z2 := hX.down.u0; have z3 := hX.down.u1; obtain ⟨y0', y1', y2', y3', y4', y5', y6', y7', y8', y9'⟩ := hX.down.sx.mach; try replace hpl := hpl.below hb; clear hb)
            | (go_at_call 16; with_reducible refine (hme _ hX.down.sx.old).mono ?_; rintro e w1 ⟨rfl, hb⟩; replace hX : PLift (GDX w w1 m (.slice (some ⟨b1, o1, none⟩) m.sn c1) r xa1 13 xc1 xa2 13 xc2) := ⟨hX.down.below hb⟩; have z0 := hX.down.sx.c0; have z1 := hX.down.sx.c1; have z2 := hX.down.u0; have z3 := hX.down.u1; obtain ⟨y0', y1', y2', y3', y4', y5', y6', y7', y8', y9'⟩ := hX.down.sx.mach; try replace hpl := hpl.below hb; clear hb)
            | (go_at_call 17; with_reducible refine (hma _ hX.down.sx.old).mono ?_; rintro e w1 ⟨rfl, hb⟩; replace hX : PLift (GDX w w1 m (.slice (some ⟨b1, o1, none⟩) m.sn c1) r xa1 13 xc1 xa2 13 xc2) := ⟨hX.down.below hb⟩; have z0 := hX.down.sx.c0; have z1 := hX.down.sx.c1; have z2 := hX.down.u0; have z3 := hX.down.u1; obtain ⟨y0', y1', y2', y3', y4', y5', y6', y7', y8', y9'⟩ := hX.down.sx.mach; try replace hpl := hpl.below hb; clear hb)
            | (go_at_call 18; with_reducible refine (htr _ hX.down.sx.old).mono ?_; rintro e w1 ⟨rfl, hb⟩; replace hX : PLift (GDX w w1 m (.slice (some ⟨b1, o1, none⟩) m.sn c1) r xa1 13 xc1 xa2 13 xc2) := ⟨hX.down.below hb⟩; have z0 := hX.down.sx.c0; have z1 := hX.down.sx.c1; have z2 := hX.down.u0; have z3 := hX.down.u1; obtain ⟨y0', y1', y2', y3', y4', y5', y6', y7', y8', y9'⟩ := hX.down.sx.mach; try replace hpl := hpl.below hb; clear hb)
            | (go_at_call 19; with_reducible refine (hbl _).mono ?_; rintro e w1 ⟨rfl, rfl⟩)
            | (go_at_call 20; with_reducible refine (hfi _ hX.down.sx.old).mono ?_; rintro e w1 ⟨rfl, hb⟩; replace hX : PLift (GDX w w1 m (.slice (some ⟨b1, o1, none⟩) m.sn c1) r xa1 13 xc1 xa2 13 xc2) := ⟨hX.down.below hb⟩; have z0 := hX.down.sx.c0; have z1 := hX.down.sx.c1; have z2 := hX.down.u0; have z3 := hX.down.u1; obtain ⟨y0', y1', y2', y3', y4', y5', y6', y7', y8', y9'⟩ := hX.down.sx.mach; try replace hpl := hpl.below hb; clear hb)
            | (go_at_call 13; with_reducible refine (hga _ hX.down.sx.old).mono ?_; rintro e w1 ⟨rfl, hb⟩; replace hX : PLift (GDX w w1 m (.slice (some ⟨b1, o1, none⟩) m.sn c1) r xa1 13 xc1 xa2 13 xc2) := ⟨hX.down.below hb⟩; have z0 := hX.down.sx.c0; have z1 := hX.down.sx.c1; have z2 := hX.down.u0; have z3 := hX.down.u1; obtain ⟨y0', y1', y2', y3', y4', y5', y6', y7', y8', y9'⟩ := hX.down.sx.mach; try replace hpl := hpl.below hb; clear hb)
            | (go_at_call 10; with_reducible refine (hsu _ hX.down.sx.old).mono ?_; rintro e w1 ⟨rfl, hb⟩; replace hX : PLift (GDX w w1 m (.slice (some ⟨b1, o1, none⟩) m.sn c1) r xa1 13 xc1 xa2 13 xc2) := ⟨hX.down.below hb⟩; have z0 := hX.down.sx.c0; have z1 := hX.down.sx.c1; have z2 := hX.down.u0; have z3 := hX.down.u1; obtain ⟨y0', y1', y2', y3', y4', y5', y6', y7', y8', y9'⟩ := hX.down.sx.mach; try replace hpl := hpl.below hb; clear hb)
            | (go_at_call 21; with_reducible refine (hho _ hX.down.sx.old).mono ?_; rintro e w1 ⟨pb, po, pc, rfl, hpl, hb⟩; replace hX : PLift (GDX w w1 m (.slice (some ⟨b1, o1, none⟩) m.sn c1) r xa1 13 xc1 xa2 13 xc2) := ⟨hX.down.below hb⟩; have z0 := hX.down.sx.c0; have z1 := hX.down.sx.c1; have z2 := hX.down.u0; have z3 := hX.down.u1; obtain ⟨y0', y1', y2', y3', y4', y5', y6', y7', y8', y9'⟩ := hX.down.sx.mach; clear hb)
            | (go_at_call 22; with_reducible refine (hmt _ pb po pc hX.down.sx.old hpl).mono ?_; rintro e w1 ⟨rfl, hb⟩; replace hX : PLift (GDX w w1 m (.slice (some ⟨b1, o1, none⟩) m.sn c1) r xa1 13 xc1 xa2 13 xc2) := ⟨hX.down.below hb⟩; have z0 := hX.down.sx.c0; have z1 := hX.down.sx.c1; have z2 := hX.down.u0; have z3 := hX.down.u1; obtain ⟨y0', y1', y2', y3', y4', y5', y6', y7', y8', y9'⟩ := hX.down.sx.mach; try replace hpl := hpl.below hb; clear hb)
            | (go_at_call 9; with_reducible refine (known_ok _ (hk.below hX.down.sx.old)).mono ?_; rintro e w1 ⟨rfl, hb⟩; replace hX : PLift (GDX w w1 m (.slice (some ⟨b1, o1, none⟩) m.sn c1) r xa1 13 xc1 xa2 13 xc2) := ⟨hX.down.below hb⟩; have z0 := hX.down.sx.c0; have z1 := hX.down.sx.c1; have z2 := hX.down.u0; have z3 := hX.down.u1; obtain ⟨y0', y1', y2', y3', y4', y5', y6', y7', y8', y9'⟩ := hX.down.sx.mach; try replace hpl := hpl.below hb; clear hb))
          go_ret
          exact ⟨rfl, hX.down.sx.old⟩
        · have hmt := hmt1 rfl
          clear hmt1 hmt0
          go_enter Tryz.func5, Tryz.ntmps5
          go_wp2_with (first
            | (go_at_call 8; with_reducible refine (hsl _).mono ?_; rintro e w1 ⟨rfl, hb⟩; replace hX : PLift (GDX w w1 m (.slice (some ⟨b1, o1, none⟩) m.sn c1) r xa1 13 xc1 xa2 13 xc2) := ⟨hX.down.below hb⟩; have z0 := hX.down.sx.c0; have z1 := hX.down.sx.c1; have z2 := hX.down.u0; have z3 := hX.down.u1; obtain ⟨y0', y1', y2', y3', y4', y5', y6', y7', y8', y9'⟩ := hX.down.sx.mach; try replace hpl := hpl.below hb; clear hb)
            | (go_at_call 15; with_reducible refine (hbr _).mono ?_; rintro e w1 ⟨rfl, hb⟩; replace hX : PLift (GDX w w1 m (.slice (some ⟨b1, o1, none⟩) m.sn c1) r xa1 13 xc1 xa2 13 xc2) := ⟨hX.down.below hb⟩; have z0 := hX.down.sx.c0; have z1 := hX.down.sx.c1; have z2 := hX.down.u0; have z3 := hX.down.u1; obtain ⟨y0', y1', y2', y3', y4', y5', y6', y7', y8', y9'⟩ := hX.down.sx.mach; try replace hpl := hpl.below hb; clear hb)
            | (go_at_call 16; with_reducible refine (hme _ hX.down.sx.old).mono ?_; rintro e w1 ⟨rfl, hb⟩; replace hX : PLift (GDX w w1 m (.slice (some ⟨b1, o1, none⟩) m.sn c1) r xa1 13 xc1 xa2 13 xc2) := ⟨hX.down.below hb⟩; have z0 := hX.down.sx.c0; have z1 := hX.down.sx.c1; have z2 := hX.down.u0; have z3 := hX.down.u1; obtain ⟨y0', y1', y2', y3', y4', y5', y6', y7', y8', y9'⟩ := hX.down.sx.mach; try replace hpl := hpl.below hb; clear hb)
            | (go_at_call 17; with_reducible refine (hma _ hX.down.sx.old).mono ?_; rintro e w1 ⟨rfl, hb⟩; replace hX : PLift (GDX w w1 m (.slice (some ⟨b1, o1, none⟩) m.sn c1) r xa1 13 xc1 xa2 13 xc2) := ⟨hX.down.below hb⟩; have z0 := hX.down.sx.c0; have z1 := hX.down.sx.c1; have z2 := hX.down.u0; have z3 := hX.down.u1; obtain ⟨y0', y1', y2', y3', y4', y5', y6', y7', y8', y9'⟩ := hX.down.sx.mach; try replace hpl := hpl.below hb; clear hb)
            | (go_at_call 18; with_reducible refine (htr _ hX.down.sx.old).mono ?_; rintro e w1 ⟨rfl, hb⟩; replace hX : PLift (GDX w w1 m (.slice (some ⟨b1, o1, none⟩) m.sn c1) r xa1 13 xc1 xa2 13 xc2) := ⟨hX.down.below hb⟩; have z0 := hX.down.sx.c0; have z1 := hX.down.sx.c1; have z2 := hX.down.u0; have z3 := hX.down.u1; obtain ⟨y0', y1', y2', y3', y4', y5', y6', y7', y8', y9'⟩ := hX.down.sx.mach; try replace hpl := hpl.below hb; clear hb)
            | (go_at_call 19; with_reducible refine (hbl _).mono ?_; rintro e w1 ⟨rfl, rfl⟩)
            | (go_at_call 20; with_reducible refine (hfi _ hX.down.sx.old).mono ?_; rintro e w1 ⟨rfl, hb⟩; replace hX : PLift (GDX w w1 m (.slice (some ⟨b1, o1, none⟩) m.sn c1) r xa1 13 xc1 xa2 13 xc2) := ⟨hX.down.below hb⟩; have z0 := hX.down.sx.c0; have z1 := hX.down.sx.c1; have z2 := hX.down.u0; have z3 := hX.down.u1; obtain ⟨y0', y1', y2', y3', y4', y5', y6', y7', y8', y9'⟩ := hX.down.sx.mach; try replace hpl := hpl.below hb; clear hb)
            | (go_at_call 13; with_reducible refine (hga _ hX.down.sx.old).mono ?_; rintro e w1 ⟨rfl, hb⟩; replace hX : PLift (GDX w w1 m (.slice (some ⟨b1, o1, none⟩) m.sn c1) r xa1 13 xc1 xa2 13 xc2) := ⟨hX.down.below hb⟩; have z0 := hX.down.sx.c0; have z1 := hX.down.sx.c1; have z2 := hX.down.u0; have z3 := hX.down.u1; obtain ⟨y0', y1', y2', y3', y4', y5', y6', y7', y8', y9'⟩ := hX.down.sx.mach; try replace hpl := hpl.below hb; clear hb)
            | (go_at_call 10; with_reducible refine (hsu _ hX.down.sx.old).mono ?_; rintro e w1 ⟨rfl, hb⟩; replace hX : PLift (GDX w w1 m (.slice (some ⟨b1, o1, none⟩) m.sn c1) r xa1 13 xc1 xa2 13 xc2) := ⟨hX.down.below hb⟩; have z0 := hX.down.sx.c0; have z1 := hX.down.sx.c1; have z2 := hX.down.u0; have z3 := hX.down.u1; obtain ⟨y0', y1', y2', y3', y4', y5', y6', y7', y8', y9'⟩ := hX.down.sx.mach; try replace hpl := hpl.below hb; clear hb)
            | (go_at_call 21; with_reducible refine (hho _ hX.down.sx.old).mono ?_; rintro e w1 ⟨pb, po, pc, rfl, hpl, hb⟩; replace hX : PLift (GDX w w1 m (.slice (some ⟨b1, o1, none⟩) m.sn c1) r xa1 13 xc1 xa2 13 xc2) := ⟨hX.down.below hb⟩; have z0 := hX.down.sx.c0; have z1 := hX.down.sx.c1; have z2 := hX.down.u0; have z3 := hX.down.u1; obtain ⟨y0', y1', y2', y3', y4', y5', y6', y7', y8', y9'⟩ := hX.down.sx.mach; clear hb)
            | (go_at_call 22; with_reducible refine (hmt _ pb po pc hX.down.sx.old hpl).mono ?_; rintro e w1 ⟨mt, mb, mc, rfl, hb⟩; replace hX : PLift (GDX w w1 m (.slice (some ⟨b1, o1, none⟩) m.sn c1) r xa1 13 xc1 xa2 13 xc2) := ⟨hX.down.below hb⟩; have z0 := hX.down.sx.c0; have z1 := hX.down.sx.c1; have z2 := hX.down.u0; have z3 := hX.down.u1; obtain ⟨y0', y1', y2', y3', y4', y5', y6', y7', y8', y9'⟩ := hX.down.sx.mach; try replace hpl := hpl.below hb; clear hb)
            | (go_at_call 9; with_reducible refine (known_ok _ (hk.below hX.down.sx.old)).mono ?_; rintro e w1 ⟨rfl, hb⟩; replace hX : PLift (GDX w w1 m (.slice (some ⟨b1, o1, none⟩) m.sn c1) r xa1 13 xc1 xa2 13 xc2) := ⟨hX.down.below hb⟩; have z0 := hX.down.sx.c0; have z1 := hX.down.sx.c1; have z2 := hX.down.u0; have z3 := hX.down.u1; obtain ⟨y0', y1', y2', y3', y4', y5', y6', y7', y8', y9'⟩ := hX.down.sx.mach; try replace hpl := hpl.below hb; clear hb))
          go_ret
          exact ⟨rfl, hX.down.sx.old⟩
      · cases g
        · have hmt := hmt0 rfl
          clear hmt1 hmt0
          go_enter Tryz.func5, Tryz.ntmps5
          go_wp2_with (first
            | (go_at_call 8; with_reducible refine (hsl _).mono ?_; rintro e w1 ⟨rfl, hb⟩; replace hX : PLift (GDX w w1 m (.slice (some ⟨b1, o1, none⟩) m.sn c1) r xa1 13 xc1 xa2 13 xc2) := ⟨hX.down.below hb⟩; have z0 := hX.down.sx.c0; have z1 := hX.down.sx.c1; have z2 := hX.down.u0; have z3 := hX.down.u1; obtain ⟨y0', y1', y2', y3', y4', y5', y6', y7', y8', y9'⟩ := hX.down.sx.mach; try replace hpl := hpl.below hb; clear hb)
            | (go_at_call 15; with_reducible refine (hbr _).mono ?_; rintro e w1 ⟨rfl, hb⟩; replace hX : PLift (GDX w w1 m (.slice (some ⟨b1, o1, none⟩) m.sn c1) r xa1 13 xc1 xa2 13 xc2) := ⟨hX.down.below hb⟩; have z0 := hX.down.sx.c0; have z1 := hX.down.sx.c1; have z2 := hX.down.u0; have z3 := hX.down.u1; obtain ⟨y0', y1', y2', y3', y4', y5', y6', y7', y8', y9'⟩ := hX.down.sx.mach; try replace hpl := hpl.below hb; clear hb)
            | (go_at_call 16; with_reducible refine (hme _ hX.down.sx.old).mono ?_; rintro e w1 ⟨rfl, hb⟩; replace hX : PLift (GDX w w1 m (.slice (some ⟨b1, o1, none⟩) m.sn c1) r xa1 13 xc1 xa2 13 xc2) := ⟨hX.down.below hb⟩; have z0 := hX.down.sx.c0; have z1 := hX.down.sx.c1; have z2 := hX.down.u0; have z3 := hX.down.u1; obtain ⟨y0', y1', y2', y3', y4', y5', y6', y7', y8', y9'⟩ := hX.down.sx.mach; try replace hpl := hpl.below hb; clear hb)
            | (go_at_call 17; with_reducible refine (hma _ hX.down.sx.old).mono ?_; rintro e w1 ⟨rfl, hb⟩; replace hX : PLift (GDX w w1 m (.slice (some ⟨b1, o1, none⟩) m.sn c1) r xa1 13 xc1 xa2 13 xc2) := ⟨hX.down.below hb⟩; have z0 := hX.down.sx.c0; have z1 := hX.down.sx.c1; have z2 := hX.down.u0; have z3 := hX.down.u1; obtain ⟨y0', y1', y2', y3', y4', y5', y6', y7', y8', y9'⟩ := hX.down.sx.mach; try replace hpl := hpl.below hb; clear hb)
            | (go_at_call 18; with_reducible refine (htr _ hX.down.sx.old).mono ?_; rintro e w1 ⟨rfl, hb⟩; replace hX : PLift (GDX w w1 m (.slice (some ⟨b1, o1, none⟩) m.sn c1) r xa1 13 xc1 xa2 13 xc2) := ⟨hX.down.below hb⟩; have z0 := hX.down.sx.c0; have z1 := hX.down.sx.c1; have z2 := hX.down.u0; have z3 := hX.down.u1; obtain ⟨y0', y1', y2', y3', y4', y5', y6', y7', y8', y9'⟩ := hX.down.sx.mach; try replace hpl := hpl.below hb; clear hb)
            | (go_at_call 19; with_reducible refine (hbl _).mono ?_; rintro e w1 ⟨rfl, rfl⟩)
            | (go_at_call 20; with_reducible refine (hfi _ hX.down.sx.old).mono ?_; rintro e w1 ⟨rfl, hb⟩; replace hX : PLift (GDX w w1 m (.slice (some ⟨b1, o1, none⟩) m.sn c1) r xa1 13 xc1 xa2 13 xc2) := ⟨hX.down.below hb⟩; have z0 := hX.down.sx.c0; have z1 := hX.down.sx.c1; have z2 := hX.down.u0; have z3 := hX.down.u1; obtain ⟨y0', y1', y2', y3', y4', y5', y6', y7', y8', y9'⟩ := hX.down.sx.mach; try replace hpl := hpl.below hb; clear hb)
            | (go_at_call 13; with_reducible refine (hga _ hX.down.sx.old).mono ?_; rintro e w1 ⟨rfl, hb⟩; replace hX : PLift (GDX w w1 m (.slice (some ⟨b1, o1, none⟩) m.sn c1) r xa1 13 xc1 xa2 13 xc2) := ⟨hX.down.below hb⟩; have z0 := hX.down.sx.c0; have z1 := hX.down.sx.c1; have z2 := hX.down.u0; have z3 := hX.down.u1; obtain ⟨y0', y1', y2', y3', y4', y5', y6', y7', y8', y9'⟩ := hX.down.sx.mach; try replace hpl := hpl.below hb; clear hb)
            | (go_at_call 10; with_reducible refine (hsu _ hX.down.sx.old).mono ?_; rintro e w1 ⟨rfl, hb⟩; replace hX : PLift (GDX w w1 m (.slice (some ⟨b1, o1, none⟩) m.sn c1) r xa1 13 xc1 xa2 13 xc2) := ⟨hX.down.below hb⟩; have z0 := hX.down.sx.c0; have z1 := hX.down.sx.c1; have z2 := hX.down.u0; have z3 := hX.down.u1; obtain ⟨y0', y1', y2', y3', y4', y5', y6', y7', y8', y9'⟩ := hX.down.sx.mach; try replace hpl := hpl.below hb; clear hb)
            | (go_at_call 21; with_reducible refine (hho _ hX.down.sx.old).mono ?_; rintro e w1 ⟨pb, po, pc, rfl, hpl, hb⟩; replace hX : PLift (GDX w w1 m (.slice (some ⟨b1, o1, none⟩) m.sn c1) r xa1 13 xc1 xa2 13 xc2) := ⟨hX.down.below hb⟩; have z0 := hX.down.sx.c0; have z1 := hX.down.sx.c1; have z2 := hX.down.u0; have z3 := hX.down.u1; obtain ⟨y0', y1', y2', y3', y4', y5', y6', y7', y8', y9'⟩ := hX.down.sx.mach; clear hb)
            | (go_at_call 22; with_reducible refine (hmt _ pb po pc hX.down.sx.old hpl).mono ?_; rintro e w1 ⟨rfl, hb⟩; replace hX : PLift (GDX w w1 m (.slice (some ⟨b1, o1, none⟩) m.sn c1) r xa1 13 xc1 xa2 13 xc2) := ⟨hX.down.below hb⟩; have z0 := hX.down.sx.c0; have z1 := hX.down.sx.c1; have z2 := hX.down.u0; have z3 := hX.down.u1; obtain ⟨y0', y1', y2', y3', y4', y5', y6', y7', y8', y9'⟩ := hX.down.sx.mach; try replace hpl := hpl.below hb; clear hb)
            | (go_at_call 9; with_reducible refine (known_ok _ (hk.below hX.down.sx.old)).mono ?_; rintro e w1 ⟨rfl, hb⟩; replace hX : PLift (GDX w w1 m (.slice (some ⟨b1, o1, none⟩) m.sn c1) r xa1 13 xc1 xa2 13 xc2) := ⟨hX.down.below hb⟩; have z0 := hX.down.sx.c0; have z1 := hX.down.sx.c1; have z2 := hX.down.u0; have z3 := hX.down.u1; obtain ⟨y0', y1', y2', y3', y4', y5', y6', y7', y8', y9'⟩ := hX.down.sx.mach; try replace hpl := hpl.below hb; clear hb))
          go_ret
          exact ⟨rfl, hX.down.sx.old⟩
        · have hmt := hmt1 rfl
          clear hmt1 hmt0
          go_enter Tryz.func5, Tryz.ntmps5
          go_wp2_with (first
            | (go_at_call 8; with_reducible refine (hsl _).mono ?_; rintro e w1 ⟨rfl, hb⟩; replace hX : PLift (GDX w w1 m (.slice (some ⟨b1, o1, none⟩) m.sn c1) r xa1 13 xc1 xa2 13 xc2) := ⟨hX.down.below hb⟩; have z0 := hX.down.sx.c0; have z1 := hX.down.sx.c1; have z2 := hX.down.u0; have z3 := hX.down.u1; obtain ⟨y0', y1', y2', y3', y4', y5', y6', y7', y8', y9'⟩ := hX.down.sx.mach; try replace hpl := hpl.below hb; clear hb)
            | (go_at_call 15; with_reducible refine (hbr _).mono ?_; rintro e w1 ⟨rfl, hb⟩; replace hX : PLift (GDX w w1 m (.slice (some ⟨b1, o1, none⟩) m.sn c1) r xa1 13 xc1 xa2 13 xc2) := ⟨hX.down.below hb⟩; have z0 := hX.down.sx.c0; have z1 := hX.down.sx.c1; have z2 := hX.down.u0; have z3 := hX.down.u1; obtain ⟨y0', y1', y2', y3', y4', y5', y6', y7', y8', y9'⟩ := hX.down.sx.mach; try replace hpl := hpl.below hb; clear hb)
            | (go_at_call 16; with_reducible refine (hme _ hX.down.sx.old).mono ?_; rintro e w1 ⟨rfl, hb⟩; replace hX : PLift (GDX w w1 m (.slice (some ⟨b1, o1, none⟩) m.sn c1) r xa1 13 xc1 xa2 13 xc2) := ⟨hX.down.below hb⟩; have z0 := hX.down.sx.c0; have z1 := hX.down.sx.c1; have z2 := hX.down.u0; have z3 := hX.down.u1; obtain ⟨y0', y1', y2', y3', y4', y5', y6', y7', y8', y9'⟩ := hX.down.sx.mach; try replace hpl := hpl.below hb; clear hb)
            | (go_at_call 17; with_reducible refine (hma _ hX.down.sx.old).mono ?_; rintro e w1 ⟨rfl, hb⟩; replace hX : PLift (GDX w w1 m (.slice (some ⟨b1, o1, none⟩) m.sn c1) r xa1 13 xc1 xa2 13 xc2) := ⟨hX.down.below hb⟩; have z0 := hX.down.sx.c0; have z1 := hX.down.sx.c1; have z2 := hX.down.u0; have z3 := hX.down.u1; obtain ⟨y0', y1', y2', y3', y4', y5', y6', y7', y8', y9'⟩ := hX.down.sx.mach; try replace hpl := hpl.below hb; clear hb)
            | (go_at_call 18; with_reducible refine (htr _ hX.down.sx.old).mono ?_; rintro e w1 ⟨rfl, hb⟩; replace hX : PLift (GDX w w1 m (.slice (some ⟨b1, o1, none⟩) m.sn c1) r xa1 13 xc1 xa2 13 xc2) := ⟨hX.down.below hb⟩; have z0 := hX.down.sx.c0; have z1 := hX.down.sx.c1; have z2 := hX.down.u0; have z3 := hX.down.u1; obtain ⟨y0', y1', y2', y3', y4', y5', y6', y7', y8', y9'⟩ := hX.down.sx.mach; try replace hpl := hpl.below hb; clear hb)
            | (go_at_call 19; with_reducible refine (hbl _).mono ?_; rintro e w1 ⟨rfl, rfl⟩)
            | (go_at_call 20; with_reducible refine (hfi _ hX.down.sx.old).mono ?_; rintro e w1 ⟨rfl, hb⟩; replace hX : PLift (GDX w w1 m (.slice (some ⟨b1, o1, none⟩) m.sn c1) r xa1 13 xc1 xa2 13 xc2) := ⟨hX.down.below hb⟩; have z0 := hX.down.sx.c0; have z1 := hX.down.sx.c1; have z2 := hX.down.u0; have z3 := hX.down.u1; obtain ⟨y0', y1', y2', y3', y4', y5', y6', y7', y8', y9'⟩ := hX.down.sx.mach; try replace hpl := hpl.below hb; clear hb)
            | (go_at_call 13; with_reducible refine (hga _ hX.down.sx.old).mono ?_; rintro e w1 ⟨rfl, hb⟩; replace hX : PLift (GDX w w1 m (.slice (some ⟨b1, o1, none⟩) m.sn c1) r xa1 13 xc1 xa2 13 xc2) := ⟨hX.down.below hb⟩; have z0 := hX.down.sx.c0; have z1 := hX.down.sx.c1; have z2 := hX.down.u0; have z3 := hX.down.u1; obtain ⟨y0', y1', y2', y3', y4', y5', y6', y7', y8', y9'⟩ := hX.down.sx.mach; try replace hpl := hpl.below hb; clear hb)
            | (go_at_call 10; with_reducible refine (hsu _ hX.down.sx.old).mono ?_; rintro e w1 ⟨rfl, hb⟩; replace hX : PLift (GDX w w1 m (.slice (some ⟨b1, o1, none⟩) m.sn c1) r xa1 13 xc1 xa2 13 xc2) := ⟨hX.down.below hb⟩; have z0 := hX.down.sx.c0; have z1 := hX.down.sx.c1; have z2 := hX.down.u0; have z3 := hX.down.u1; obtain ⟨y0', y1', y2', y3', y4', y5', y6', y7', y8', y9'⟩ := hX.down.sx.mach; try replace hpl := hpl.below hb; clear hb)
            | (go_at_call 21; with_reducible refine (hho _ hX.down.sx.old).mono ?_; rintro e w1 ⟨pb, po, pc, rfl, hpl, hb⟩; replace hX : PLift (GDX w w1 m (.slice (some ⟨b1, o1, none⟩) m.sn c1) r xa1 13 xc1 xa2 13 xc2) := ⟨hX.down.below hb⟩; have z0 := hX.down.sx.c0; have z1 := hX.down.sx.c1; have z2 := hX.down.u0; have z3 := hX.down.u1; obtain ⟨y0', y1', y2', y3', y4', y5', y6', y7', y8', y9'⟩ := hX.down.sx.mach; clear hb)
            | (go_at_call 22; with_reducible refine (hmt _ pb po pc hX.down.sx.old hpl).mono ?_; rintro e w1 ⟨mt, mb, mc, rfl, hb⟩; replace hX : PLift (GDX w w1 m (.slice (some ⟨b1, o1, none⟩) m.sn c1) r xa1 13 xc1 xa2 13 xc2) := ⟨hX.down.below hb⟩; have z0 := hX.down.sx.c0; have z1 := hX.down.sx.c1; have z2 := hX.down.u0; have z3 := hX.down.u1; obtain ⟨y0', y1', y2', y3', y4', y5', y6', y7', y8', y9'⟩ := hX.down.sx.mach; try replace hpl := hpl.below hb; clear hb)
            | (go_at_call 9; with_reducible refine (known_ok _ (hk.below hX.down.sx.old)).mono ?_; rintro e w1 ⟨rfl, hb⟩; replace hX : PLift (GDX w w1 m (.slice (some ⟨b1, o1, none⟩) m.sn c1) r xa1 13 xc1 xa2 13 xc2) := ⟨hX.down.below hb⟩; have z0 := hX.down.sx.c0; have z1 := hX.down.sx.c1; have z2 := hX.down.u0; have z3 := hX.down.u1; obtain ⟨y0', y1', y2', y3', y4', y5', y6', y7', y8', y9'⟩ := hX.down.sx.mach; try replace hpl := hpl.below hb; clear hb))
          go_ret
          exact ⟨rfl, hX.down.sx.old⟩
    · rw [hw] at hsu
      have hne : ¬ (k : Int) = (n : Int) + 1 := fun e => hkn1 (by omega) hw
      obtain rfl := hv3 hw
      have hmt := hmt1 rfl
      clear hmt1 hmt0 hv3 hv1 hkn hkn1
      go_enter Tryz.func5, Tryz.ntmps5
      go_wp2_with (first
        | (go_at_call 8; with_reducible refine (hsl _).mono ?_; rintro e w1 ⟨rfl, hb⟩; replace hX : PLift (GDX w w1 m (.slice (some ⟨b1, o1, none⟩) m.sn c1) r xa1 13 xc1 xa2 13 xc2) := ⟨hX.down.below hb⟩; have z0 := hX.down.sx.c0; have z1 := hX.down.sx.c1; have z2 := hX.down.u0; have z3 := hX.down.u1; obtain ⟨y0', y1', y2', y3', y4', y5', y6', y7', y8', y9'⟩ := hX.down.sx.mach; try replace hpl := hpl.below hb; clear hb)
        | (go_at_call 15; with_reducible refine (hbr _).mono ?_; rintro e w1 ⟨rfl, hb⟩; replace hX : PLift (GDX w w1 m (.slice (some ⟨b1, o1, none⟩) m.sn c1) r xa1 13 xc1 xa2 13 xc2) := ⟨hX.down.below hb⟩; have z0 := hX.down.sx.c0; have z1 := hX.down.sx.c1; have z2 := hX.down.u0; have z3 := hX.down.u1; obtain ⟨y0', y1', y2', y3', y4', y5', y6', y7', y8', y9'⟩ := hX.down.sx.mach; try replace hpl := hpl.below hb; clear hb)
        | (go_at_call 16; with_reducible refine (hme _ hX.down.sx.old).mono ?_; rintro e w1 ⟨rfl, hb⟩; replace hX : PLift (GDX w w1 m (.slice (some ⟨b1, o1, none⟩) m.sn c1) r xa1 13 xc1 xa2 13 xc2) := ⟨hX.down.below hb⟩; have z0 := hX.down.sx.c0; have z1 := hX.down.sx.c1; have z2 := hX.down.u0; have z3 := hX.down.u1; obtain ⟨y0', y1', y2', y3', y4', y5', y6', y7', y8', y9'⟩ := hX.down.sx.mach; try replace hpl := hpl.below hb; clear hb)
        | (go_at_call 17; with_reducible refine (hma _ hX.down.sx.old).mono ?_; rintro e w1 ⟨rfl, hb⟩; replace hX : PLift (GDX w w1 m (.slice (some ⟨b1, o1, none⟩) m.sn c1) r xa1 13 xc1 xa2 13 xc2) := ⟨hX.down.below hb⟩; have z0 := hX.down.sx.c0; have z1 := hX.down.sx.c1; have z2 := hX.down.u0; have z3 := hX.down.u1; obtain ⟨y0', y1', y2', y3', y4', y5', y6', y7', y8', y9'⟩ := hX.down.sx.mach; try replace hpl := hpl.below hb; clear hb)
        | (go_at_call 18; with_reducible refine (htr _ hX.down.sx.old).mono ?_; rintro e w1 ⟨rfl, hb⟩; replace hX : PLift (GDX w w1 m (.slice (some ⟨b1, o1, none⟩) m.sn c1) r xa1 13 xc1 xa2 13 xc2) := ⟨hX.down.below hb⟩; have z0 := hX.down.sx.c0; have z1 := hX.down.sx.c1; have z2 := hX.down.u0; have z3 := hX.down.u1; obtain ⟨y0', y1', y2', y3', y4', y5', y6', y7', y8', y9'⟩ := hX.down.sx.mach; try replace hpl := hpl.below hb; clear hb)
        | (go_at_call 19; with_reducible refine (hbl _).mono ?_; rintro e w1 ⟨rfl, rfl⟩)
        | (go_at_call 20; with_reducible refine (hfi _ hX.down.sx.old).mono ?_; rintro e w1 ⟨rfl, hb⟩; replace hX : PLift (GDX w w1 m (.slice (some ⟨b1, o1, none⟩) m.sn c1) r xa1 13 xc1 xa2 13 xc2) := ⟨hX.down.below hb⟩; have z0 := hX.down.sx.c0; have z1 := hX.down.sx.c1; have z2 := hX.down.u0; have z3 := hX.down.u1; obtain ⟨y0', y1', y2', y3', y4', y5', y6', y7', y8', y9'⟩ := hX.down.sx.mach; try replace hpl := hpl.below hb; clear hb)
        | (go_at_call 13; with_reducible refine (hga _ hX.down.sx.old).mono ?_; rintro e w1 ⟨rfl, hb⟩; replace hX : PLift (GDX w w1 m (.slice (some ⟨b1, o1, none⟩) m.sn c1) r xa1 13 xc1 xa2 13 xc2) := ⟨hX.down.below hb⟩; have z0 := hX.down.sx.c0; have z1 := hX.down.sx.c1; have z2 := hX.down.u0; have z3 := hX.down.u1; obtain ⟨y0', y1', y2', y3', y4', y5', y6', y7', y8', y9'⟩ := hX.down.sx.mach; try replace hpl := hpl.below hb; clear hb)
        | (go_at_call 10; with_reducible refine (hsu _ hX.down.sx.old).mono ?_; rintro e w1 ⟨rfl, hb⟩; replace hX : PLift (GDX w w1 m (.slice (some ⟨b1, o1, none⟩) m.sn c1) r xa1 13 xc1 xa2 13 xc2) := ⟨hX.down.below hb⟩; have z0 := hX.down.sx.c0; have z1 := hX.down.sx.c1; have z2 := hX.down.u0; have z3 := hX.down.u1; obtain ⟨y0', y1', y2', y3', y4', y5', y6', y7', y8', y9'⟩ := hX.down.sx.mach; try replace hpl := hpl.below hb; clear hb)
        | (go_at_call 21; with_reducible refine (hho _ hX.down.sx.old).mono ?_; rintro e w1 ⟨pb, po, pc, rfl, hpl, hb⟩; replace hX : PLift (GDX w w1 m (.slice (some ⟨b1, o1, none⟩) m.sn c1) r xa1 13 xc1 xa2 13 xc2) := ⟨hX.down.below hb⟩; have z0 := hX.down.sx.c0; have z1 := hX.down.sx.c1; have z2 := hX.down.u0; have z3 := hX.down.u1; obtain ⟨y0', y1', y2', y3', y4', y5', y6', y7', y8', y9'⟩ := hX.down.sx.mach; clear hb)
        | (go_at_call 22; with_reducible refine (hmt _ pb po pc hX.down.sx.old hpl).mono ?_; rintro e w1 ⟨mt, mb, mc, rfl, hb⟩; replace hX : PLift (GDX w w1 m (.slice (some ⟨b1, o1, none⟩) m.sn c1) r xa1 13 xc1 xa2 13 xc2) := ⟨hX.down.below hb⟩; have z0 := hX.down.sx.c0; have z1 := hX.down.sx.c1; have z2 := hX.down.u0; have z3 := hX.down.u1; obtain ⟨y0', y1', y2', y3', y4', y5', y6', y7', y8', y9'⟩ := hX.down.sx.mach; try replace hpl := hpl.below hb; clear hb)
        | (go_at_call 9; with_reducible refine (known_ok _ (hk.below hX.down.sx.old)).mono ?_; rintro e w1 ⟨rfl, hb⟩; replace hX : PLift (GDX w w1 m (.slice (some ⟨b1, o1, none⟩) m.sn c1) r xa1 13 xc1 xa2 13 xc2) := ⟨hX.down.below hb⟩; have z0 := hX.down.sx.c0; have z1 := hX.down.sx.c1; have z2 := hX.down.u0; have z3 := hX.down.u1; obtain ⟨y0', y1', y2', y3', y4', y5', y6', y7', y8', y9'⟩ := hX.down.sx.mach; try replace hpl := hpl.below hb; clear hb))
      go_ret
      exact ⟨rfl, hX.down.sx.old⟩
theorem good_all {a1 : Option Addr} {n c1 : Nat} {r : Int} {HX HY : Nat → Int} {m : Mach} {xa1 : Option Addr} {xn1 xc1 : Nat} {xa2 : Option Addr} {xn2 xc2 : Nat} {F G : Nat → Int} {k : Int} {w : World} (hk : KG w) (hn : n ≤ 9223372036854775807) (hs : m.sn ≤ 9223372036854775807) (hr : m.rn ≤ 9223372036854775807) (hx1 : xn1 ≤ 9223372036854775807) (hx2 : xn2 ≤ 9223372036854775807) (hp : PSc w (.slice a1 n c1) n HX HY) (h : MIn w m) (hF : IntsSl w (.slice xa1 xn1 xc1) xn1 F) (hG : IntsSl w (.slice xa2 xn2 xc2) xn2 G) (hc1 : xn1 ≤ xc1) (hc2 : xn2 ≤ xc2) :
    Calls Tryz.prog 5 #[.agg #[.slice a1 n c1, .int .i64 r], m.val, .agg #[.slice xa1 xn1 xc1, .slice xa2 xn2 xc2], .int .i64 k] w fun e w' => e = .returned (.bool true) ∧ Below w.heap.size w w' := by
  cases hl : (((decide (m.sn ≤ 6) && decide (m.rn ≤ 6)) && (decide (xn1 ≤ 15) && decide (xn2 ≤ 15))) && decide (n ≤ 6)) with
  | false => exact good_long a1 n c1 r m xa1 xn1 xc1 xa2 xn2 xc2 k w hk hn hs hr hx1 hx2 hl
  | true =>
    simp only [Bool.and_eq_true, decide_eq_true_eq] at hl
    obtain ⟨⟨⟨l1, l2⟩, l3, l4⟩, l5⟩ := hl
    cases ho : ((measB n HX HY r && m.ok) && (decide (n = m.sn) && ((offB xn1 F && offB xn2 G) && inB k 1 12))) with
    | false => exact good_odd a1 n c1 r HX HY m xa1 xn1 xc1 xa2 xn2 xc2 F G k w hk l5 l1 l2 l3 l4 hp h hF hG ho
    | true =>
      simp only [Bool.and_eq_true, decide_eq_true_eq] at ho
      obtain ⟨⟨o1, o2⟩, rfl, ⟨o3, o4⟩, o5⟩ := ho
      have hi := inB_iff.1 o5
      obtain ⟨k', rfl⟩ : ∃ k' : Nat, k = (k' : Int) := ⟨k.toNat, by omega⟩
      obtain ⟨rfl, _⟩ := offB_iff.1 o3
      obtain ⟨rfl, _⟩ := offB_iff.1 o4
      cases hf : (m.axX.holdB F && m.axY.holdB G) with
      | false => exact good_none a1 c1 r HX HY m xa1 xc1 xa2 xc2 F G k' (by omega) (by omega) w hk l1 l2 hp h hF hG hc1 hc2 o2 o3 o4 o1 hf
      | true => exact good_yes a1 c1 r HX HY m xa1 xc1 xa2 xc2 F G k' (by omega) (by omega) w hk l1 l2 hp h hF hG hc1 hc2 o2 o3 o4 o1 hf
end Go.Proofs.YtmjmmokbaocboaaGreatDoor
