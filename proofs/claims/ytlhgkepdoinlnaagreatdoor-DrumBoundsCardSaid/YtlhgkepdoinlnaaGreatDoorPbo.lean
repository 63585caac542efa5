/- A part of the proof: see the last file. -/
import Derived.Test.YtlhgkepdoinlnaaGreatDoorPbf
import Derived.Test.YtlhgkepdoinlnaaGreatDoorPaa
set_option linter.unusedVariables false
set_option linter.unusedSimpArgs false
set_option linter.unusedSectionVars false
namespace Go.Proofs.YtlhgkepdoinlnaaGreatDoor
open Go.ChangeShapes Go.WideShapes Go.ChangeAt Go.RowKit Go.Deep Go.Gen
theorem ints_int : IntsOf Tryz.prog 3 1 := IntsOf.int (by kernel_rfl) Tryz.underlying3
theorem ints_span : IntsOf Tryz.prog 47 2 := IntsOf.struct (by kernel_rfl) Tryz.underlying47 fun j hj => by
 match j, hj with
 | 0, _ => exact ⟨0, _, 1, rfl, by decide, by decide, by decide, ints_int⟩
 | 1, _ => exact ⟨1, _, 1, rfl, by decide, by decide, by decide, ints_int⟩
theorem ints_DrumAcid : IntsOf Tryz.prog 106 4 := IntsOf.struct (by kernel_rfl) Tryz.underlying106 fun j hj => by
 match j, hj with
 | 0, _ => exact ⟨0, _, 2, rfl, by decide, by decide, by decide, ints_span⟩
 | 1, _ => exact ⟨0, _, 2, rfl, by decide, by decide, by decide, ints_span⟩
 | 2, _ => exact ⟨1, _, 2, rfl, by decide, by decide, by decide, ints_span⟩
 | 3, _ => exact ⟨1, _, 2, rfl, by decide, by decide, by decide, ints_span⟩
theorem ints_DrumStrip : IntsOf Tryz.prog 60 3 := IntsOf.struct (by kernel_rfl) Tryz.underlying60 fun j hj => by
 match j, hj with
 | 0, _ => exact ⟨0, _, 1, rfl, by decide, by decide, by decide, ints_int⟩
 | 1, _ => exact ⟨1, _, 1, rfl, by decide, by decide, by decide, ints_int⟩
 | 2, _ => exact ⟨2, _, 1, rfl, by decide, by decide, by decide, ints_int⟩
theorem ints_DrumBatch : IntsOf Tryz.prog 79 6 := IntsOf.struct (by kernel_rfl) Tryz.underlying79 fun j hj => by
 match j, hj with
 | 0, _ => exact ⟨0, _, 1, rfl, by decide, by decide, by decide, ints_int⟩
 | 1, _ => exact ⟨1, _, 1, rfl, by decide, by decide, by decide, ints_int⟩
 | 2, _ => exact ⟨2, _, 1, rfl, by decide, by decide, by decide, ints_int⟩
 | 3, _ => exact ⟨3, _, 1, rfl, by decide, by decide, by decide, ints_int⟩
 | 4, _ => exact ⟨4, _, 1, rfl, by decide, by decide, by decide, ints_int⟩
 | 5, _ => exact ⟨5, _, 1, rfl, by decide, by decide, by decide, ints_int⟩
theorem cons_of {α : Type} : ∀ {l : List α} {k : Nat}, l.length = k + 1 → ∃ u l', l = u :: l' ∧ l'.length = k
 | u :: l, k, h => ⟨u, l, rfl, by simpa using h⟩
theorem some_at {α : Type} {l : List α} {n i : Nat} (h : l.length = n) (hi : i < n) : ∃ y, l[i]? = some y := ⟨l[i]'(by omega), List.getElem?_eq_getElem (by omega)⟩
set_option maxRecDepth 100000 in
set_option maxHeartbeats 1000000 in
theorem open_drum {H : Type} {enc : TypeId × Value → H} {W : World} {base : Nat} {v : Value} {d : DataW H} {p : List MemPlace} (hval : Value.okWide Tryz.prog W .any base 27 v) (h0 : DataW.Trod enc Tryz.prog W 0 (fun _ => true) true 27 v d p) :
  ∃ (a0 : Option Addr) (n0 c0 : Nat) (F0 : Nat → Nat → Int) (x1 : Int) (x2 : Int) (a3 : Option Addr) (n3 c3 : Nat) (F3 : Nat → Nat → Int) (a4 : Option Addr) (n4 c4 : Nat) (F4 : Nat → Nat → Int) (a5 : Option Addr) (n5 c5 : Nat) (F5 : Nat → Nat → Int), v = .agg #[.slice a0 n0 c0, .int .i64 x1, .int .i64 x2, .slice a3 n3 c3, .slice a4 n4 c4, .slice a5 n5 c5] ∧ (n0 ≤ 9223372036854775807 ∧ n0 ≤ c0 ∧ KSl 4 W (.slice a0 n0 c0) n0 F0) ∧ (n3 ≤ 9223372036854775807 ∧ n3 ≤ c3 ∧ KSl 1 W (.slice a3 n3 c3) n3 F3) ∧ (n4 ≤ 9223372036854775807 ∧ n4 ≤ c4 ∧ KSl 3 W (.slice a4 n4 c4) n4 F4) ∧ (n5 ≤ 9223372036854775807 ∧ n5 ≤ c5 ∧ KSl 6 W (.slice a5 n5 c5) n5 F5) := by
 obtain ⟨cs, rfl, hsz⟩ := okWide_struct Tryz.underlying27 hval
 obtain ⟨fuel, hf⟩ := h0
 rw [show Tryz.prog.cellsOf 27 = 6 from by kernel_rfl] at hsz
 obtain ⟨ys, n2, _, _, _, hyl, hff⟩ := DataW.trod_struct Tryz.underlying27 hf
 obtain ⟨l0⟩ := cs
 have g0 : l0.length = 6 := by simpa using hsz
 obtain ⟨u0, l1', rfl, g1⟩ := cons_of g0
 obtain ⟨u1, l2', rfl, g2⟩ := cons_of g1
 obtain ⟨u2, l3', rfl, g3⟩ := cons_of g2
 obtain ⟨u3, l4', rfl, g4⟩ := cons_of g3
 obtain ⟨u4, l5', rfl, g5⟩ := cons_of g4
 obtain ⟨u5, l6', rfl, g6⟩ := cons_of g5
 obtain rfl := List.eq_nil_of_length_eq_zero g6
 have hyl : ys.length = 6 := hyl
 clear hsz hval hf
 have k0 : DataW.trod enc Tryz.prog W 0 (fun _ => true) true n2 22 (([u0, u1, u2, u3, u4, u5].drop 0).take (Tryz.prog.cellsOf 22)) = ys[0]? := hff 0 _ rfl
 rw [show Tryz.prog.cellsOf 22 = 1 from by kernel_rfl] at k0
 obtain ⟨y0, hy0⟩ := some_at (i := 0) hyl (by decide)
 have k1 : DataW.trod enc Tryz.prog W 0 (fun _ => true) true n2 3 (([u0, u1, u2, u3, u4, u5].drop 1).take (Tryz.prog.cellsOf 3)) = ys[1]? := hff 1 _ rfl
 rw [show Tryz.prog.cellsOf 3 = 1 from by kernel_rfl] at k1
 obtain ⟨y1, hy1⟩ := some_at (i := 1) hyl (by decide)
 have k2 : DataW.trod enc Tryz.prog W 0 (fun _ => true) true n2 3 (([u0, u1, u2, u3, u4, u5].drop 2).take (Tryz.prog.cellsOf 3)) = ys[2]? := hff 2 _ rfl
 rw [show Tryz.prog.cellsOf 3 = 1 from by kernel_rfl] at k2
 obtain ⟨y2, hy2⟩ := some_at (i := 2) hyl (by decide)
 have k3 : DataW.trod enc Tryz.prog W 0 (fun _ => true) true n2 23 (([u0, u1, u2, u3, u4, u5].drop 3).take (Tryz.prog.cellsOf 23)) = ys[3]? := hff 3 _ rfl
 rw [show Tryz.prog.cellsOf 23 = 1 from by kernel_rfl] at k3
 obtain ⟨y3, hy3⟩ := some_at (i := 3) hyl (by decide)
 have k4 : DataW.trod enc Tryz.prog W 0 (fun _ => true) true n2 24 (([u0, u1, u2, u3, u4, u5].drop 4).take (Tryz.prog.cellsOf 24)) = ys[4]? := hff 4 _ rfl
 rw [show Tryz.prog.cellsOf 24 = 1 from by kernel_rfl] at k4
 obtain ⟨y4, hy4⟩ := some_at (i := 4) hyl (by decide)
 have k5 : DataW.trod enc Tryz.prog W 0 (fun _ => true) true n2 25 (([u0, u1, u2, u3, u4, u5].drop 5).take (Tryz.prog.cellsOf 25)) = ys[5]? := hff 5 _ rfl
 rw [show Tryz.prog.cellsOf 25 = 1 from by kernel_rfl] at k5
 obtain ⟨y5, hy5⟩ := some_at (i := 5) hyl (by decide)
 obtain ⟨a0, n0, c0, F0, e0, m0, l0, s0⟩ := ksl_trod Tryz.underlying22 ints_DrumAcid (by decide) (k0.trans hy0)
 have e0 : [u0] = [Value.slice a0 n0 c0] := e0
 obtain rfl : u0 = Value.slice a0 n0 c0 := (List.cons.inj e0).1
 obtain ⟨x1, e1, _⟩ := DataW.trod_int Tryz.underlying3 (k1.trans hy1)
 have e1 : [u1] = [Value.int .i64 x1] := e1
 obtain rfl : u1 = Value.int .i64 x1 := (List.cons.inj e1).1
 obtain ⟨x2, e2, _⟩ := DataW.trod_int Tryz.underlying3 (k2.trans hy2)
 have e2 : [u2] = [Value.int .i64 x2] := e2
 obtain rfl : u2 = Value.int .i64 x2 := (List.cons.inj e2).1
 obtain ⟨a3, n3, c3, F3, e3, m3, l3, s3⟩ := ksl_trod Tryz.underlying23 ints_int (by decide) (k3.trans hy3)
 have e3 : [u3] = [Value.slice a3 n3 c3] := e3
 obtain rfl : u3 = Value.slice a3 n3 c3 := (List.cons.inj e3).1
 obtain ⟨a4, n4, c4, F4, e4, m4, l4, s4⟩ := ksl_trod Tryz.underlying24 ints_DrumStrip (by decide) (k4.trans hy4)
 have e4 : [u4] = [Value.slice a4 n4 c4] := e4
 obtain rfl : u4 = Value.slice a4 n4 c4 := (List.cons.inj e4).1
 obtain ⟨a5, n5, c5, F5, e5, m5, l5, s5⟩ := ksl_trod Tryz.underlying25 ints_DrumBatch (by decide) (k5.trans hy5)
 have e5 : [u5] = [Value.slice a5 n5 c5] := e5
 obtain rfl : u5 = Value.slice a5 n5 c5 := (List.cons.inj e5).1
 exact ⟨a0, n0, c0, F0, x1, x2, a3, n3, c3, F3, a4, n4, c4, F4, a5, n5, c5, F5, rfl, ⟨m0, l0, s0⟩, ⟨m3, l3, s3⟩, ⟨m4, l4, s4⟩, ⟨m5, l5, s5⟩⟩
set_option maxRecDepth 100000 in
set_option maxHeartbeats 1000000 in
theorem open_truth {H : Type} {enc : TypeId × Value → H} {W : World} {base : Nat} {v : Value} {d : DataW H} {p : List MemPlace} (hval : Value.okWide Tryz.prog W .any base 29 v) (h0 : DataW.Trod enc Tryz.prog W 0 (fun _ => true) true 29 v d p) :
  ∃ (x0 : Int) (a1 : Option Addr) (n1 c1 : Nat) (F1 : Nat → Nat → Int), v = .agg #[.int .i64 x0, .slice a1 n1 c1] ∧ (n1 ≤ 9223372036854775807 ∧ n1 ≤ c1 ∧ KSl 1 W (.slice a1 n1 c1) n1 F1) := by
 obtain ⟨cs, rfl, hsz⟩ := okWide_struct Tryz.underlying29 hval
 obtain ⟨fuel, hf⟩ := h0
 rw [show Tryz.prog.cellsOf 29 = 2 from by kernel_rfl] at hsz
 obtain ⟨ys, n2, _, _, _, hyl, hff⟩ := DataW.trod_struct Tryz.underlying29 hf
 obtain ⟨l0⟩ := cs
 have g0 : l0.length = 2 := by simpa using hsz
 obtain ⟨u0, l1', rfl, g1⟩ := cons_of g0
 obtain ⟨u1, l2', rfl, g2⟩ := cons_of g1
 obtain rfl := List.eq_nil_of_length_eq_zero g2
 have hyl : ys.length = 2 := hyl
 clear hsz hval hf
 have k0 : DataW.trod enc Tryz.prog W 0 (fun _ => true) true n2 3 (([u0, u1].drop 0).take (Tryz.prog.cellsOf 3)) = ys[0]? := hff 0 _ rfl
 rw [show Tryz.prog.cellsOf 3 = 1 from by kernel_rfl] at k0
 obtain ⟨y0, hy0⟩ := some_at (i := 0) hyl (by decide)
 have k1 : DataW.trod enc Tryz.prog W 0 (fun _ => true) true n2 23 (([u0, u1].drop 1).take (Tryz.prog.cellsOf 23)) = ys[1]? := hff 1 _ rfl
 rw [show Tryz.prog.cellsOf 23 = 1 from by kernel_rfl] at k1
 obtain ⟨y1, hy1⟩ := some_at (i := 1) hyl (by decide)
 obtain ⟨x0, e0, _⟩ := DataW.trod_int Tryz.underlying3 (k0.trans hy0)
 have e0 : [u0] = [Value.int .i64 x0] := e0
 obtain rfl : u0 = Value.int .i64 x0 := (List.cons.inj e0).1
 obtain ⟨a1, n1, c1, F1, e1, m1, l1, s1⟩ := ksl_trod Tryz.underlying23 ints_int (by decide) (k1.trans hy1)
 have e1 : [u1] = [Value.slice a1 n1 c1] := e1
 obtain rfl : u1 = Value.slice a1 n1 c1 := (List.cons.inj e1).1
 exact ⟨x0, a1, n1, c1, F1, rfl, ⟨m1, l1, s1⟩⟩
end Go.Proofs.YtlhgkepdoinlnaaGreatDoor
