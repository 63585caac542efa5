/- A part of the proof: see the last file. -/
import Derived.ProofKit
import Derived.LaidMore
import Derived.OpenShut
import Derived.Stop.Joined
import Derived.Deep.Slices
import Derived.Carry
import Derived.ChangeSame
import Derived.Below
import Derived.Laws.EntriesVeiled
import Derived.RangeFuncRecord
import Derived.Test.YtjhpklolpmaopaaGreatDoorPbm
import Derived.Test.YtjhpklolpmaopaaGreatDoorPbh
import Derived.Test.YtjhpklolpmaopaaGreatDoorPbl
set_option linter.unusedVariables false
set_option linter.unusedSimpArgs false
set_option linter.unusedSectionVars false
/-! Slices whose elements are so many integers each, whatever the struct: in memory, and out of a row's reading. No seat. -/
namespace Go.Gen
open Go Go.ChangeShapes Go.WideShapes Go.ChangeAt Go.RowKit Go.Deep
/-- n elements of k integers each. -/
def KRows (k : Nat) (w : World) (b off n : Nat) (F : Nat → Nat → Int) : Prop := ∀ i, i < n → ∀ j, j < k → w.cell? ⟨b, off + i * k + j, none⟩ = some (.int .i64 (F i j))
theorem KRows.below {k : Nat} {w w' : World} {b off n : Nat} {F : Nat → Nat → Int} (h : KRows k w b off n F) (hb : Below w.heap.size w w') (hl : b < w.heap.size) : KRows k w' b off n F :=
 fun i hi j hj => (hb.cell (p := ⟨b, off + i * k + j, none⟩) hl).trans (h i hi j hj)
/-- a slice of them; an empty one lies wherever. -/
def KSl (k : Nat) (w : World) (v : Value) (n : Nat) (F : Nat → Nat → Int) : Prop := (∃ a c, v = .slice a 0 c ∧ n = 0) ∨ ∃ b off cap, v = .slice (some ⟨b, off, none⟩) n cap ∧ b < w.heap.size ∧ KRows k w b off n F
theorem KSl.below {k : Nat} {w w' : World} {v : Value} {n : Nat} {F : Nat → Nat → Int} (h : KSl k w v n F) (hb : Below w.heap.size w w') : KSl k w' v n F := by
 rcases h with h | ⟨b, off, cap, h1, h2, h3⟩
 ·exact .inl h
 ·exact .inr ⟨b, off, cap, h1, Nat.lt_of_lt_of_le h2 hb.size, h3.below hb h2⟩
theorem KSl.slice {k : Nat} {w : World} {v : Value} {n : Nat} {F : Nat → Nat → Int} (h : KSl k w v n F) : ∃ a c, v = .slice a n c := by
 rcases h with ⟨a, c, h1, h2⟩ | ⟨b, off, c, h1, _⟩
 ·exact ⟨a, c, by rw [h1, h2]⟩
 ·exact ⟨_, c, h1⟩
theorem KSl.pos {k : Nat} {w : World} {v : Value} {n : Nat} {F : Nat → Nat → Int} (h : KSl k w v n F) (hn : 1 ≤ n) : ∃ b off cap, v = .slice (some ⟨b, off, none⟩) n cap ∧ b < w.heap.size ∧ KRows k w b off n F := by
 rcases h with ⟨a, c, _, h2⟩ | h
 ·omega
 ·exact h
/-- one element's integer, at the place as a walk reckons it. -/
theorem KRows.first {k : Nat} {w : World} {b off n : Nat} {F : Nat → Nat → Int} (h : KRows k w b off n F) {i : Nat} (hi : i < n) (hk : 0 < k) : w.cell? ⟨b, off + i * k, none⟩ = some (.int .i64 (F i 0)) := h i hi 0 hk
theorem KRows.one {w : World} {b off n : Nat} {F : Nat → Nat → Int} (h : KRows 1 w b off n F) {i : Nat} (hi : i < n) : w.cell? ⟨b, off + i, none⟩ = some (.int .i64 (F i 0)) := by
 have := h i hi 0 (by omega)
 rw [Nat.mul_one] at this
 exact this
/-- the cells of a new block. -/
theorem cells_new (w : World) (l : Array Value) (e : TypeId) {j : Nat} {u : Value} (h : l[j]? = some u) : (w.alloc (Obj.cells l e)).cell? ⟨w.heap.size, j, none⟩ = some u := by
 have h1 : (w.alloc (Obj.cells l e)).heap[w.heap.size]? = some (Obj.cells l e (0, 0)) := World.alloc_heap_new w _
 unfold World.cell?
 rw [h1]
 exact h
theorem wle_one (w : World) (a : Obj) : w.heap.size ≤ (w.alloc a).heap.size := by rw [World.size_alloc]; omega
theorem wle_two (w : World) (a b : Obj) : w.heap.size ≤ ((w.alloc a).alloc b).heap.size := by rw [World.size_alloc, World.size_alloc]; omega
theorem wlt_two (w : World) (a b : Obj) : w.heap.size < ((w.alloc a).alloc b).heap.size := by rw [World.size_alloc, World.size_alloc]; omega
/-! ### Out of a reading -/
theorem add_zero' (a : Addr) : a.add 0 = a := by
 obtain ⟨b, o, s⟩ := a
 cases s <;> simp [Addr.add]
theorem spot_of {W : World} {a : Addr} {v : Value} (hx0 : W.cell? a = some v) : a.spot = none := by
 unfold World.cell? at hx0
 split at hx0
 ·split at hx0
  ·cases hx0
  ·next hns => cases e : a.spot with
   | none => rfl
   | some s => rw [e] at hns; exact absurd rfl hns
 ·cases hx0
theorem add_at (b o j : Nat) : (⟨b, o, none⟩ : Addr).add j = ⟨b, o + j, none⟩ := by unfold Addr.add; split <;> simp_all
/-- whatever reads as type e is k integers. -/
def IntsOf (P : Program) (e : TypeId) (k : Nat) : Prop :=
 P.cellsOf e = k ∧ ∀ {H : Type} {enc : TypeId × Value → H} {W : World} {base : Nat} {spare : Nat → Bool} {held : Bool} (fuel : Nat) (cs : List Value) (y : DataW H × List MemPlace), DataW.trod enc P W base spare held fuel e cs = some y → cs.length = k → ∀ j, j < k → ∃ x : Int, cs[j]? = some (.int .i64 x)
theorem IntsOf.int {P : Program} {e : TypeId} (hc : P.cellsOf e = 1) (ht : P.underlying e = some (.int .i64)) : IntsOf P e 1 := ⟨hc, fun fuel cs y h hl j hj => by
 obtain ⟨x, e1, _⟩ := DataW.trod_int ht h
 obtain rfl : j = 0 := by omega
 have e1 : cs = [Value.int .i64 x] := e1
 exact ⟨x, by rw [e1]; rfl⟩⟩
theorem IntsOf.struct {P : Program} {t : TypeId} {fs : Array Field} {k : Nat} (hc : P.cellsOf t = k) (ht : P.underlying t = some (.struct fs))
  (hcov : ∀ j, j < k → ∃ (i : Nat) (f : Field) (m : Nat), fs[i]? = some f ∧ f.offset ≤ j ∧ j < f.offset + m ∧ f.offset + m ≤ k ∧ IntsOf P f.type m) : IntsOf P t k := ⟨hc, fun {H enc W base spare held} fuel cs y h hl j hj => by
 obtain ⟨ys, n2, _, _, _, hyl, hff⟩ := DataW.trod_struct ht h
 obtain ⟨i, f, m, h1, h2, h3, h3', h4, h5⟩ := hcov j hj
 have h6 := hff i f h1
 rw [h4] at h6
 have hi : i < ys.length := by
  rw [hyl]
  have := (Array.getElem?_eq_some_iff.1 h1).1
  simpa using this
 have h7 := h6.trans (List.getElem?_eq_getElem hi)
 have hlen : ((cs.drop f.offset).take m).length = m := by
  rw [List.length_take, List.length_drop, hl]; omega
 obtain ⟨x, hx⟩ := h5 (H := H) (enc := enc) (W := W) (base := base) (spare := spare) (held := held) n2 _ _ h7 hlen (j - f.offset) (by omega)
 refine ⟨x, ?_⟩
 rw [List.getElem?_take, if_pos (by omega), List.getElem?_drop] at hx
 rw [← hx]
 congr 1
 omega⟩
theorem ksl_trod {P : Program} {H : Type} {enc : TypeId × Value → H} {W : World} {k : Nat} {t e : TypeId} {fuel : Nat} {cs : List Value} {y : DataW H × List MemPlace} (ht : P.underlying t = some (.slice e)) (he : IntsOf P e k) (hk : 0 < k)
  (hf : DataW.trod enc P W 0 (fun _ => true) true fuel t cs = some y) :
  ∃ (a : Option Addr) (n c : Nat) (F : Nat → Nat → Int), cs = [.slice a n c] ∧ n ≤ 9223372036854775807 ∧ n ≤ c ∧ KSl k W (.slice a n c) n F := by
 rcases open_slice ht hf with ⟨h1, _⟩ | ⟨a, len, cap, m, n', D, Pl, hcs, _, hl, hm, hmm, _, hi⟩
 ·exact ⟨none, 0, 0, fun _ _ => 0, h1, by omega, Nat.le_refl _, .inl ⟨none, 0, rfl, rfl⟩⟩
 ·have hmax : len ≤ 9223372036854775807 := by unfold maxLen at hm; omega
  have hmc : m = cap := hmm
  subst hmc
  have each : ∀ i, i < m → ∀ j, j < k → ∃ x : Int, W.cell? ((a.add (i * k)).add j) = some (.int .i64 x) := fun i hi' j hj => by
   obtain ⟨cs', hc, ht'⟩ := hi i hi'
   rw [he.1] at hc
   obtain ⟨_, hcl, hat⟩ := World.cells?_some hc
   obtain ⟨x, hx⟩ := he.2 _ _ _ ht' hcl j hj
   refine ⟨x, ?_⟩
   rw [hat j (by omega)]
   have : cs'[j]? = some (Value.int .i64 x) := hx
   rw [this]
  refine ⟨some a, len, m, fun i j => intOf ((W.cell? ⟨a.block, a.off + i * k + j, none⟩).getD undef), hcs, hmax, hl, ?_⟩
  rcases Nat.eq_zero_or_pos m with hz | hpos
  ·have : len = 0 := by omega
   subst this
   exact .inl ⟨some a, m, rfl, rfl⟩
  ·obtain ⟨x0, hx0⟩ := each 0 hpos 0 hk
   have hlt := World.block_lt_of_cell? W _ hx0
   rw [Nat.zero_mul, add_zero', add_zero'] at hx0
   have hsp := spot_of hx0
   obtain ⟨b, off, sp⟩ := a
   dsimp only at hsp
   subst hsp
   have hlt' : b < W.heap.size := World.block_lt_of_cell? W _ hx0
   refine .inr ⟨b, off, m, rfl, hlt', fun i hi2 j hj => ?_⟩
   obtain ⟨x, hx⟩ := each i (by omega) j hj
   have e1 : ((⟨b, off, none⟩ : Addr).add (i * k)).add j = ⟨b, off + i * k + j, none⟩ := by rw [add_at, add_at]
   rw [e1] at hx
   show W.cell? ⟨b, off + i * k + j, none⟩ = some (.int .i64 (intOf ((W.cell? ⟨b, off + i * k + j, none⟩).getD undef)))
   rw [hx]; rfl
end Go.Gen
namespace Go.Proofs.YtjhpklolpmaopaaGreatDoor
open Go.ChangeShapes Go.WideShapes Go.ChangeAt Go.RowKit Go.Deep Go.Gen
theorem ints_int : IntsOf Tryz.prog 3 1 := IntsOf.int (by kernel_rfl) Tryz.underlying3
theorem ints_span : IntsOf Tryz.prog 24 2 := IntsOf.struct (by kernel_rfl) Tryz.underlying24 fun j hj => by
 match j, hj with
 | 0, _ => exact ⟨0, _, 1, rfl, by decide, by decide, by decide, ints_int⟩
 | 1, _ => exact ⟨1, _, 1, rfl, by decide, by decide, by decide, ints_int⟩
theorem ints_DrillPoint : IntsOf Tryz.prog 43 2 := IntsOf.struct (by kernel_rfl) Tryz.underlying43 fun j hj => by
 match j, hj with
 | 0, _ => exact ⟨0, _, 1, rfl, by decide, by decide, by decide, ints_int⟩
 | 1, _ => exact ⟨1, _, 1, rfl, by decide, by decide, by decide, ints_int⟩
theorem ints_DrillReading : IntsOf Tryz.prog 60 4 := IntsOf.struct (by kernel_rfl) Tryz.underlying60 fun j hj => by
 match j, hj with
 | 0, _ => exact ⟨0, _, 1, rfl, by decide, by decide, by decide, ints_int⟩
 | 1, _ => exact ⟨1, _, 1, rfl, by decide, by decide, by decide, ints_int⟩
 | 2, _ => exact ⟨2, _, 1, rfl, by decide, by decide, by decide, ints_int⟩
 | 3, _ => exact ⟨3, _, 1, rfl, by decide, by decide, by decide, ints_int⟩
theorem cons_of {α : Type} : ∀ {l : List α} {k : Nat}, l.length = k + 1 → ∃ u l', l = u :: l' ∧ l'.length = k
 | u :: l, k, h => ⟨u, l, rfl, by simpa using h⟩
theorem some_at {α : Type} {l : List α} {n i : Nat} (h : l.length = n) (hi : i < n) : ∃ y, l[i]? = some y := ⟨l[i]'(by omega), List.getElem?_eq_getElem (by omega)⟩
set_option maxRecDepth 100000 in
set_option maxHeartbeats 1000000 in
theorem open_mach {H : Type} {enc : TypeId × Value → H} {W : World} {base : Nat} {v : Value} {d : DataW H} {p : List MemPlace} (hval : Value.okWide Tryz.prog W .any base 27 v) (h0 : DataW.Trod enc Tryz.prog W 0 (fun _ => true) true 27 v d p) :
  ∃ (a0 : Option Addr) (n0 c0 : Nat) (F0 : Nat → Nat → Int) (x1 z1 : Int) (x2 z2 : Int) (x3 z3 : Int) (x4 z4 : Int) (a5 : Option Addr) (n5 c5 : Nat) (F5 : Nat → Nat → Int), v = .agg #[.slice a0 n0 c0, .int .i64 x1, .int .i64 z1, .int .i64 x2, .int .i64 z2, .int .i64 x3, .int .i64 z3, .int .i64 x4, .int .i64 z4, .slice a5 n5 c5] ∧ (n0 ≤ 9223372036854775807 ∧ n0 ≤ c0 ∧ KSl 2 W (.slice a0 n0 c0) n0 F0) ∧ (n5 ≤ 9223372036854775807 ∧ n5 ≤ c5 ∧ KSl 4 W (.slice a5 n5 c5) n5 F5) := by
 obtain ⟨cs, rfl, hsz⟩ := okWide_struct Tryz.underlying27 hval
 obtain ⟨fuel, hf⟩ := h0
 rw [show Tryz.prog.cellsOf 27 = 10 from by kernel_rfl] at hsz
 obtain ⟨ys, n2, _, _, _, hyl, hff⟩ := DataW.trod_struct Tryz.underlying27 hf
 obtain ⟨l0⟩ := cs
 have g0 : l0.length = 10 := by simpa using hsz
 obtain ⟨u0, l1', rfl, g1⟩ := cons_of g0
 obtain ⟨u1, l2', rfl, g2⟩ := cons_of g1
 obtain ⟨u2, l3', rfl, g3⟩ := cons_of g2
 obtain ⟨u3, l4', rfl, g4⟩ := cons_of g3
 obtain ⟨u4, l5', rfl, g5⟩ := cons_of g4
 obtain ⟨u5, l6', rfl, g6⟩ := cons_of g5
 obtain ⟨u6, l7', rfl, g7⟩ := cons_of g6
 obtain ⟨u7, l8', rfl, g8⟩ := cons_of g7
 obtain ⟨u8, l9', rfl, g9⟩ := cons_of g8
 obtain ⟨u9, l10', rfl, g10⟩ := cons_of g9
 obtain rfl := List.eq_nil_of_length_eq_zero g10
 have hyl : ys.length = 6 := hyl
 clear hsz hval hf
 have k0 : DataW.trod enc Tryz.prog W 0 (fun _ => true) true n2 22 (([u0, u1, u2, u3, u4, u5, u6, u7, u8, u9].drop 0).take (Tryz.prog.cellsOf 22)) = ys[0]? := hff 0 _ rfl
 rw [show Tryz.prog.cellsOf 22 = 1 from by kernel_rfl] at k0
 obtain ⟨y0, hy0⟩ := some_at (i := 0) hyl (by decide)
 have k1 : DataW.trod enc Tryz.prog W 0 (fun _ => true) true n2 24 (([u0, u1, u2, u3, u4, u5, u6, u7, u8, u9].drop 1).take (Tryz.prog.cellsOf 24)) = ys[1]? := hff 1 _ rfl
 rw [show Tryz.prog.cellsOf 24 = 2 from by kernel_rfl] at k1
 obtain ⟨y1, hy1⟩ := some_at (i := 1) hyl (by decide)
 have k2 : DataW.trod enc Tryz.prog W 0 (fun _ => true) true n2 24 (([u0, u1, u2, u3, u4, u5, u6, u7, u8, u9].drop 3).take (Tryz.prog.cellsOf 24)) = ys[2]? := hff 2 _ rfl
 rw [show Tryz.prog.cellsOf 24 = 2 from by kernel_rfl] at k2
 obtain ⟨y2, hy2⟩ := some_at (i := 2) hyl (by decide)
 have k3 : DataW.trod enc Tryz.prog W 0 (fun _ => true) true n2 24 (([u0, u1, u2, u3, u4, u5, u6, u7, u8, u9].drop 5).take (Tryz.prog.cellsOf 24)) = ys[3]? := hff 3 _ rfl
 rw [show Tryz.prog.cellsOf 24 = 2 from by kernel_rfl] at k3
 obtain ⟨y3, hy3⟩ := some_at (i := 3) hyl (by decide)
 have k4 : DataW.trod enc Tryz.prog W 0 (fun _ => true) true n2 24 (([u0, u1, u2, u3, u4, u5, u6, u7, u8, u9].drop 7).take (Tryz.prog.cellsOf 24)) = ys[4]? := hff 4 _ rfl
 rw [show Tryz.prog.cellsOf 24 = 2 from by kernel_rfl] at k4
 obtain ⟨y4, hy4⟩ := some_at (i := 4) hyl (by decide)
 have k5 : DataW.trod enc Tryz.prog W 0 (fun _ => true) true n2 25 (([u0, u1, u2, u3, u4, u5, u6, u7, u8, u9].drop 9).take (Tryz.prog.cellsOf 25)) = ys[5]? := hff 5 _ rfl
 rw [show Tryz.prog.cellsOf 25 = 1 from by kernel_rfl] at k5
 obtain ⟨y5, hy5⟩ := some_at (i := 5) hyl (by decide)
 obtain ⟨a0, n0, c0, F0, e0, m0, l0, s0⟩ := ksl_trod Tryz.underlying22 ints_DrillPoint (by decide) (k0.trans hy0)
 have e0 : [u0] = [Value.slice a0 n0 c0] := e0
 obtain rfl : u0 = Value.slice a0 n0 c0 := (List.cons.inj e0).1
 obtain ⟨x1, e1⟩ := ints_span.2 _ _ _ (k1.trans hy1) rfl 0 (by decide)
 obtain ⟨z1, g1⟩ := ints_span.2 _ _ _ (k1.trans hy1) rfl 1 (by decide)
 have e1 : some u1 = some (Value.int .i64 x1) := e1
 have g1 : some u2 = some (Value.int .i64 z1) := g1
 obtain rfl : u1 = Value.int .i64 x1 := Option.some.inj e1
 obtain rfl : u2 = Value.int .i64 z1 := Option.some.inj g1
 obtain ⟨x2, e2⟩ := ints_span.2 _ _ _ (k2.trans hy2) rfl 0 (by decide)
 obtain ⟨z2, g2⟩ := ints_span.2 _ _ _ (k2.trans hy2) rfl 1 (by decide)
 have e2 : some u3 = some (Value.int .i64 x2) := e2
 have g2 : some u4 = some (Value.int .i64 z2) := g2
 obtain rfl : u3 = Value.int .i64 x2 := Option.some.inj e2
 obtain rfl : u4 = Value.int .i64 z2 := Option.some.inj g2
 obtain ⟨x3, e3⟩ := ints_span.2 _ _ _ (k3.trans hy3) rfl 0 (by decide)
 obtain ⟨z3, g3⟩ := ints_span.2 _ _ _ (k3.trans hy3) rfl 1 (by decide)
 have e3 : some u5 = some (Value.int .i64 x3) := e3
 have g3 : some u6 = some (Value.int .i64 z3) := g3
 obtain rfl : u5 = Value.int .i64 x3 := Option.some.inj e3
 obtain rfl : u6 = Value.int .i64 z3 := Option.some.inj g3
 obtain ⟨x4, e4⟩ := ints_span.2 _ _ _ (k4.trans hy4) rfl 0 (by decide)
 obtain ⟨z4, g4⟩ := ints_span.2 _ _ _ (k4.trans hy4) rfl 1 (by decide)
 have e4 : some u7 = some (Value.int .i64 x4) := e4
 have g4 : some u8 = some (Value.int .i64 z4) := g4
 obtain rfl : u7 = Value.int .i64 x4 := Option.some.inj e4
 obtain rfl : u8 = Value.int .i64 z4 := Option.some.inj g4
 obtain ⟨a5, n5, c5, F5, e5, m5, l5, s5⟩ := ksl_trod Tryz.underlying25 ints_DrillReading (by decide) (k5.trans hy5)
 have e5 : [u9] = [Value.slice a5 n5 c5] := e5
 obtain rfl : u9 = Value.slice a5 n5 c5 := (List.cons.inj e5).1
 exact ⟨a0, n0, c0, F0, x1, z1, x2, z2, x3, z3, x4, z4, a5, n5, c5, F5, rfl, ⟨m0, l0, s0⟩, ⟨m5, l5, s5⟩⟩
set_option maxRecDepth 100000 in
set_option maxHeartbeats 1000000 in
theorem open_but {H : Type} {enc : TypeId × Value → H} {W : World} {base : Nat} {v : Value} {d : DataW H} {p : List MemPlace} (hval : Value.okWide Tryz.prog W .any base 41 v) (h0 : DataW.Trod enc Tryz.prog W 0 (fun _ => true) true 41 v d p) :
  ∃ (a0 : Option Addr) (n0 c0 : Nat) (F0 : Nat → Nat → Int) (x1 : Int), v = .agg #[.slice a0 n0 c0, .int .i64 x1] ∧ (n0 ≤ 9223372036854775807 ∧ n0 ≤ c0 ∧ KSl 2 W (.slice a0 n0 c0) n0 F0) := by
 obtain ⟨cs, rfl, hsz⟩ := okWide_struct Tryz.underlying41 hval
 obtain ⟨fuel, hf⟩ := h0
 rw [show Tryz.prog.cellsOf 41 = 2 from by kernel_rfl] at hsz
 obtain ⟨ys, n2, _, _, _, hyl, hff⟩ := DataW.trod_struct Tryz.underlying41 hf
 obtain ⟨l0⟩ := cs
 have g0 : l0.length = 2 := by simpa using hsz
 obtain ⟨u0, l1', rfl, g1⟩ := cons_of g0
 obtain ⟨u1, l2', rfl, g2⟩ := cons_of g1
 obtain rfl := List.eq_nil_of_length_eq_zero g2
 have hyl : ys.length = 2 := hyl
 clear hsz hval hf
 have k0 : DataW.trod enc Tryz.prog W 0 (fun _ => true) true n2 22 (([u0, u1].drop 0).take (Tryz.prog.cellsOf 22)) = ys[0]? := hff 0 _ rfl
 rw [show Tryz.prog.cellsOf 22 = 1 from by kernel_rfl] at k0
 obtain ⟨y0, hy0⟩ := some_at (i := 0) hyl (by decide)
 have k1 : DataW.trod enc Tryz.prog W 0 (fun _ => true) true n2 3 (([u0, u1].drop 1).take (Tryz.prog.cellsOf 3)) = ys[1]? := hff 1 _ rfl
 rw [show Tryz.prog.cellsOf 3 = 1 from by kernel_rfl] at k1
 obtain ⟨y1, hy1⟩ := some_at (i := 1) hyl (by decide)
 obtain ⟨a0, n0, c0, F0, e0, m0, l0, s0⟩ := ksl_trod Tryz.underlying22 ints_DrillPoint (by decide) (k0.trans hy0)
 have e0 : [u0] = [Value.slice a0 n0 c0] := e0
 obtain rfl : u0 = Value.slice a0 n0 c0 := (List.cons.inj e0).1
 obtain ⟨x1, e1, _⟩ := DataW.trod_int Tryz.underlying3 (k1.trans hy1)
 have e1 : [u1] = [Value.int .i64 x1] := e1
 obtain rfl : u1 = Value.int .i64 x1 := (List.cons.inj e1).1
 exact ⟨a0, n0, c0, F0, x1, rfl, ⟨m0, l0, s0⟩⟩
end Go.Proofs.YtjhpklolpmaopaaGreatDoor
namespace Go.Proofs.YtjhpklolpmaopaaGreatDoor
open Go.RowKit Go.Gen
theorem psl_of_k {w : World} {a : Option Addr} {n c : Nat} {F : Nat → Nat → Int} (h : KSl 2 w (.slice a n c) n F) : PSl w (.slice a n c) n (fun i => F i 0) (fun i => F i 1) := by
 rcases h with ⟨a', c', h1, h2⟩ | ⟨b, off, cap, h1, h2, h3⟩
 ·exact .inl ⟨a', c', h1, h2⟩
 ·exact .inr ⟨b, off, cap, h1, h2, fun i hi => ⟨h3 i hi 0 (by omega), h3 i hi 1 (by omega)⟩⟩
theorem rsl_of_k {w : World} {a : Option Addr} {n c : Nat} {F : Nat → Nat → Int} (h : KSl 4 w (.slice a n c) n F) : RSl w (.slice a n c) n (fun i => F i 0) (fun i => F i 1) (fun i => F i 2) (fun i => F i 3) := by
 rcases h with ⟨a', c', h1, h2⟩ | ⟨b, off, cap, h1, h2, h3⟩
 ·exact .inl ⟨a', c', h1, h2⟩
 ·exact .inr ⟨b, off, cap, h1, h2, fun i hi => ⟨h3 i hi 0 (by omega), h3 i hi 1 (by omega), h3 i hi 2 (by omega), h3 i hi 3 (by omega)⟩⟩
/-- a machine out of a row's reading. -/
@[reducible] def machK (sa : Option Addr) (sn sc : Nat) (S : Nat → Nat → Int) (c0 c1 d0 d1 w0 w1 v0 v1 : Int) (ra : Option Addr) (rn rc : Nat) (R : Nat → Nat → Int) : Mach :=
 ⟨sa, sn, sc, fun i => S i 0, fun i => S i 1, c0, c1, d0, d1, w0, w1, v0, v1, ra, rn, rc, fun i => R i 0, fun i => R i 1, fun i => R i 2, fun i => R i 3⟩
theorem min_of_k {w : World} {sa : Option Addr} {sn sc : Nat} {S : Nat → Nat → Int} {c0 c1 d0 d1 w0 w1 v0 v1 : Int} {ra : Option Addr} {rn rc : Nat} {R : Nat → Nat → Int} (h1 : KSl 2 w (.slice sa sn sc) sn S) (h2 : KSl 4 w (.slice ra rn rc) rn R) : MIn w (machK sa sn sc S c0 c1 d0 d1 w0 w1 v0 v1 ra rn rc R) := ⟨psl_of_k h1, rsl_of_k h2⟩
end Go.Proofs.YtjhpklolpmaopaaGreatDoor
