/- A part of the proof: see the last file. -/
import Derived.Test.YtbgjocgjmjkneaaGreatDoorPbi
import Derived.Test.YtbgjocgjmjkneaaGreatDoorPbh
import Derived.ProofKit
import Derived.LaidMore
import Derived.OpenShut
import Derived.Stop.Joined
import Derived.Deep.Slices
import Derived.Carry
import Derived.ChangeSame
import Derived.Below
import Derived.Laws.EntriesVeiled
import Derived.RangeFuncRecord
set_option linter.unusedVariables false
set_option linter.unusedSimpArgs false
set_option linter.unusedSectionVars false
namespace Go.Proofs.YtbgjocgjmjkneaaGreatDoor
open Go.ChangeShapes Go.WideShapes Go.ChangeAt Go.RowKit
/-! ### What the package-level variables hold -/
section
variable {H : Type} {enc : TypeId × Value → H} {P : Program} {w : World} {base : Nat} {spare : Nat → Bool} {held : Bool}
theorem arr_each {α : Type} {n fuel : Nat} {e t : TypeId} {cs : List Value} {p : List MemPlace} {l : List α} {D : α → DataW H} {V : α → Value} (ht : P.underlying t = some (.array n e)) (hc : P.cellsOf e = 1) (hct : P.cellsOf t = n)
    (hone : ∀ m v y a, DataW.trod enc P w base spare held m e [v] = some y → y.1 = D a → v = V a)
    (h : DataW.trod enc P w base spare held fuel t cs = some (.agg (l.map D), p)) : cs = l.map V := by
  obtain ⟨xs, m, _, hx, hlen, hn, hel⟩ := DataW.trod_array ht h
  simp only [Prod.mk.injEq, DataW.agg.injEq] at hx
  rw [hct] at hlen
  have hll : l.length = n := by
    have := congrArg List.length hx.1
    simp only [List.length_map] at this
    omega
  apply List.ext_getElem (by rw [List.length_map]; omega)
  intro i h1 h2
  rw [List.length_map] at h2
  have hi : i < n := by omega
  have h3 := hel i hi
  rw [hc, Nat.mul_one] at h3
  have h4 : (cs.drop i).take 1 = [cs[i]] := by
    rw [List.drop_eq_getElem_cons h1]; rfl
  rw [h4] at h3
  have h5 : xs[i]? = some (xs[i]'(by omega)) := List.getElem?_eq_getElem (by omega)
  have h6 : (xs[i]'(by omega)).1 = D (l[i]'h2) := by
    have h7 : (l.map D)[i]? = (xs.map (·.1))[i]? := by rw [hx.1]
    rw [List.getElem?_map, List.getElem?_map, h5, List.getElem?_eq_getElem h2] at h7
    simpa using h7.symm
  rw [List.getElem_map]
  exact hone m _ _ _ (h3.trans h5) h6
end
theorem block_of_var {P : Program} {w : World} {name : String} {cs : Array Value} {g : Nat} (hg : P.globalNamed name = some g) (h : w.var? P name = some cs) : ∃ e f, w.heap[g]? = some (.cells cs e f) := by
  unfold World.var? at h
  rw [hg] at h
  simp only [Option.bind_some] at h
  split at h
  · next c e f hh => cases h; exact ⟨e, f, hh⟩
  · cases h
theorem int_each {k : IntKind} {e : TypeId} {P : Program} {w : World} {base : Nat} {spare : Nat → Bool} {held : Bool} {H : Type} {enc : TypeId × Value → H} (he : P.underlying e = some (.int k)) :
    ∀ m v (y : DataW H × List MemPlace) a, DataW.trod enc P w base spare held m e [v] = some y → y.1 = .lit (.int k a) → v = .int k a := fun m v y a h h1 => by
  obtain ⟨n, e1, e2, _⟩ := DataW.trod_int he h
  rw [e2] at h1
  simp only [DataW.lit.injEq, Lit.int.injEq, true_and] at h1
  rw [List.cons.injEq] at e1
  rw [e1.1, h1]
theorem str_each {e : TypeId} {P : Program} {w : World} {base : Nat} {spare : Nat → Bool} {held : Bool} {H : Type} {enc : TypeId × Value → H} (he : P.underlying e = some .string) :
    ∀ m v (y : DataW H × List MemPlace) (a : ByteArray), DataW.trod enc P w base spare held m e [v] = some y → y.1 = .lit (.string a.data.toList) → v = .string a := fun m v y a h h1 => by
  obtain ⟨s, e1, e2, _⟩ := DataW.trod_string he h
  rw [e2] at h1
  simp only [DataW.lit.injEq, Lit.string.injEq] at h1
  rw [List.cons.injEq] at e1
  rw [e1.1]
  obtain ⟨s⟩ := s
  obtain ⟨a⟩ := a
  dsimp only at h1
  rw [Array.toList_inj.1 h1]
def list0 : List Int := [0, 1, 28, 2, 29, 14, 24, 3, 30, 22, 20, 15, 25, 17, 4, 8, 31, 27, 13, 23, 21, 19, 16, 7, 26, 12, 18, 6, 11, 5, 10, 9]
theorem gl0 : Tryz.prog.globalNamed "math/bits.deBruijn32tab" = some 3 := by kernel_rfl
theorem ty0 : (Tryz.prog.globals[3]?).map (·.type) = some 289 := by kernel_rfl
def list1 : List Int := [0, 1, 56, 2, 57, 49, 28, 3, 61, 58, 42, 50, 38, 29, 17, 4, 62, 47, 59, 36, 45, 43, 51, 22, 53, 39, 33, 30, 24, 18, 12, 5, 63, 55, 48, 27, 60, 41, 37, 16, 46, 35, 44, 21, 52, 32, 23, 11, 54, 26, 40, 15, 34, 20, 31, 10, 25, 14, 19, 9, 13, 8, 7, 6]
theorem gl1 : Tryz.prog.globalNamed "math/bits.deBruijn64tab" = some 4 := by kernel_rfl
theorem ty1 : (Tryz.prog.globals[4]?).map (·.type) = some 290 := by kernel_rfl
def list2 : List Int := [1, 10, 100, 1000, 10000, 100000, 1000000, 10000000, 100000000, 1000000000, 10000000000, 100000000000, 1000000000000, 10000000000000, 100000000000000, 1000000000000000, 10000000000000000, 100000000000000000, 1000000000000000000, 10000000000000000000]
theorem gl2 : Tryz.prog.globalNamed "internal/strconv.uint64pow10" = some 2 := by kernel_rfl
theorem ty2 : (Tryz.prog.globals[2]?).map (·.type) = some 278 := by kernel_rfl
def list3 : List ByteArray := [⟨#[109, 97, 99, 104, 105, 110, 101]⟩, ⟨#[115, 116, 111, 112]⟩, ⟨#[99, 104, 117, 99, 107]⟩, ⟨#[119, 101, 97, 114]⟩, ⟨#[114, 101, 97, 100, 105, 110, 103]⟩, ⟨#[101, 110, 100]⟩]
theorem gl3 : Tryz.prog.globalNamed "nacre/drill.words" = some 0 := by kernel_rfl
theorem ty3 : (Tryz.prog.globals[0]?).map (·.type) = some 211 := by kernel_rfl
theorem of_laid {W : World} (h : laidMetH Tryz.prog Rows.drillProvesRow.laid W) : KG W := by
  rw [MakeChecks.laidMetH_plain _ _ _ (by kernel_rfl)] at h
  obtain ⟨ps, ⟨a0, t0, cs0, f0, p0, q0, hg0, ht0, hv0, hd0, ⟨a1, t1, cs1, f1, p1, q1, hg1, ht1, hv1, hd1, ⟨a2, t2, cs2, f2, p2, q2, hg2, ht2, hv2, hd2, ⟨a3, t3, cs3, f3, p3, q3, hg3, ht3, hv3, hd3, _, _⟩, _⟩, _⟩, _⟩, _, _⟩ := h
  obtain rfl := Option.some.inj (gl0.symm.trans hg0)
  obtain rfl := Option.some.inj (ty0.symm.trans ht0)
  obtain rfl := Option.some.inj (gl1.symm.trans hg1)
  obtain rfl := Option.some.inj (ty1.symm.trans ht1)
  obtain rfl := Option.some.inj (gl2.symm.trans hg2)
  obtain rfl := Option.some.inj (ty2.symm.trans ht2)
  obtain rfl := Option.some.inj (gl3.symm.trans hg3)
  obtain rfl := Option.some.inj (ty3.symm.trans ht3)
  have z0 := arr_each (l := list0) (V := Value.int .u8) (D := fun z => .lit (.int .u8 z)) (by kernel_rfl : Tryz.prog.underlying 289 = some (.array 32 5)) (by kernel_rfl) (by kernel_rfl) (int_each (by kernel_rfl : Tryz.prog.underlying 5 = some (.int .u8))) hd0
  have z1 := arr_each (l := list1) (V := Value.int .u8) (D := fun z => .lit (.int .u8 z)) (by kernel_rfl : Tryz.prog.underlying 290 = some (.array 64 5)) (by kernel_rfl) (by kernel_rfl) (int_each (by kernel_rfl : Tryz.prog.underlying 5 = some (.int .u8))) hd1
  have z2 := arr_each (l := list2) (V := Value.int .u64) (D := fun z => .lit (.int .u64 z)) (by kernel_rfl : Tryz.prog.underlying 278 = some (.array 20 261)) (by kernel_rfl) (by kernel_rfl) (int_each (by kernel_rfl : Tryz.prog.underlying 261 = some (.int .u64))) hd2
  have z3 := arr_each (l := list3) (V := Value.string) (D := fun z => .lit (.string z.data.toList)) (by kernel_rfl : Tryz.prog.underlying 211 = some (.array 6 9)) (by kernel_rfl) (by kernel_rfl) (str_each (by kernel_rfl : Tryz.prog.underlying 9 = some .string)) hd3
  have w0 : cs0 = cells0.toArray := Array.toList_inj.1 (by rw [z0]; rfl)
  have w1 : cs1 = cells1.toArray := Array.toList_inj.1 (by rw [z1]; rfl)
  have w2 : cs2 = cells2.toArray := Array.toList_inj.1 (by rw [z2]; rfl)
  have w3 : cs3 = cells3.toArray := Array.toList_inj.1 (by rw [z3]; rfl)
  subst w0
  subst w1
  subst w2
  subst w3
  exact ⟨block_of_var gl0 hv0, block_of_var gl1 hv1, block_of_var gl2 hv2, block_of_var gl3 hv3⟩
theorem own : ownKnob Tryz.prog.godebug = none := by kernel_rfl
theorem laidOut : laidOutB Tryz.prog = true := by kernel_rfl
end Go.Proofs.YtbgjocgjmjkneaaGreatDoor
/-! Slices whose elements are so many integers each, whatever the struct: in memory, and out of a row's reading. No seat. -/
namespace Go.Gen
open Go Go.ChangeShapes Go.WideShapes Go.ChangeAt Go.RowKit Go.Deep
/-- n elements of k integers each. -/
def KRows (k : Nat) (w : World) (b off n : Nat) (F : Nat → Nat → Int) : Prop := ∀ i, i < n → ∀ j, j < k → w.cell? ⟨b, off + i * k + j, none⟩ = some (.int .i64 (F i j))
theorem KRows.below {k : Nat} {w w' : World} {b off n : Nat} {F : Nat → Nat → Int} (h : KRows k w b off n F) (hb : Below w.heap.size w w') (hl : b < w.heap.size) : KRows k w' b off n F :=
  fun i hi j hj => (hb.cell (p := ⟨b, off + i * k + j, none⟩) hl).trans (h i hi j hj)
/-- a slice of them; an empty one lies wherever. -/
def KSl (k : Nat) (w : World) (v : Value) (n : Nat) (F : Nat → Nat → Int) : Prop := (∃ a c, v = .slice a 0 c ∧ n = 0) ∨ ∃ b off cap, v = .slice (some ⟨b, off, none⟩) n cap ∧ b < w.heap.size ∧ KRows k w b off n F
theorem KSl.below {k : Nat} {w w' : World} {v : Value} {n : Nat} {F : Nat → Nat → Int} (h : KSl k w v n F) (hb : Below w.heap.size w w') : KSl k w' v n F := by
  rcases h with h | ⟨b, off, cap, h1, h2, h3⟩
  · exact .inl h
  · exact .inr ⟨b, off, cap, h1, Nat.lt_of_lt_of_le h2 hb.size, h3.below hb h2⟩
theorem KSl.slice {k : Nat} {w : World} {v : Value} {n : Nat} {F : Nat → Nat → Int} (h : KSl k w v n F) : ∃ a c, v = .slice a n c := by
  rcases h with ⟨a, c, h1, h2⟩ | ⟨b, off, c, h1, _⟩
  · exact ⟨a, c, by rw [h1, h2]⟩
  · exact ⟨_, c, h1⟩
theorem KSl.pos {k : Nat} {w : World} {v : Value} {n : Nat} {F : Nat → Nat → Int} (h : KSl k w v n F) (hn : 1 ≤ n) : ∃ b off cap, v = .slice (some ⟨b, off, none⟩) n cap ∧ b < w.heap.size ∧ KRows k w b off n F := by
  rcases h with ⟨a, c, _, h2⟩ | h
  · omega
  · exact h
/-- one element's integer, at the place as a walk reckons it. -/
theorem KRows.first {k : Nat} {w : World} {b off n : Nat} {F : Nat → Nat → Int} (h : KRows k w b off n F) {i : Nat} (hi : i < n) (hk : 0 < k) : w.cell? ⟨b, off + i * k, none⟩ = some (.int .i64 (F i 0)) := h i hi 0 hk
theorem KRows.one {w : World} {b off n : Nat} {F : Nat → Nat → Int} (h : KRows 1 w b off n F) {i : Nat} (hi : i < n) : w.cell? ⟨b, off + i, none⟩ = some (.int .i64 (F i 0)) := by
  have := h i hi 0 (by omega)
  rw [Nat.mul_one] at this
  exact this
/-- the cells of a new block. -/
theorem cells_new (w : World) (l : Array Value) (e : TypeId) {j : Nat} {u : Value} (h : l[j]? = some u) : (w.alloc (Obj.cells l e)).cell? ⟨w.heap.size, j, none⟩ = some u := by
  have h1 : (w.alloc (Obj.cells l e)).heap[w.heap.size]? = some (Obj.cells l e (0, 0)) := World.alloc_heap_new w _
  unfold World.cell?
  rw [h1]
  exact h
theorem wle_one (w : World) (a : Obj) : w.heap.size ≤ (w.alloc a).heap.size := by rw [World.size_alloc]; omega
theorem wle_two (w : World) (a b : Obj) : w.heap.size ≤ ((w.alloc a).alloc b).heap.size := by rw [World.size_alloc, World.size_alloc]; omega
theorem wlt_two (w : World) (a b : Obj) : w.heap.size < ((w.alloc a).alloc b).heap.size := by rw [World.size_alloc, World.size_alloc]; omega
/-! ### Out of a reading -/
theorem add_zero' (a : Addr) : a.add 0 = a := by
  obtain ⟨b, o, s⟩ := a
  cases s <;> simp [Addr.add]
theorem spot_of {W : World} {a : Addr} {v : Value} (hx0 : W.cell? a = some v) : a.spot = none := by
  unfold World.cell? at hx0
  split at hx0
  · split at hx0
    · cases hx0
    · next hns => cases e : a.spot with
      | none => rfl
      | some s => rw [e] at hns; exact absurd rfl hns
  · cases hx0
theorem add_at (b o j : Nat) : (⟨b, o, none⟩ : Addr).add j = ⟨b, o + j, none⟩ := by unfold Addr.add; split <;> simp_all
/-- whatever reads as type e is k integers. -/
def IntsOf (P : Program) (e : TypeId) (k : Nat) : Prop :=
  P.cellsOf e = k ∧ ∀ {H : Type} {enc : TypeId × Value → H} {W : World} {base : Nat} {spare : Nat → Bool} {held : Bool} (fuel : Nat) (cs : List Value) (y : DataW H × List MemPlace), DataW.trod enc P W base spare held fuel e cs = some y → cs.length = k → ∀ j, j < k → ∃ x : Int, cs[j]? = some (.int .i64 x)
theorem IntsOf.int {P : Program} {e : TypeId} (hc : P.cellsOf e = 1) (ht : P.underlying e = some (.int .i64)) : IntsOf P e 1 := ⟨hc, fun fuel cs y h hl j hj => by
  obtain ⟨x, e1, _⟩ := DataW.trod_int ht h
  obtain rfl : j = 0 := by omega
  have e1 : cs = [Value.int .i64 x] := e1
  exact ⟨x, by rw [e1]; rfl⟩⟩
theorem IntsOf.struct {P : Program} {t : TypeId} {fs : Array Field} {k : Nat} (hc : P.cellsOf t = k) (ht : P.underlying t = some (.struct fs))
    (hcov : ∀ j, j < k → ∃ (i : Nat) (f : Field) (m : Nat), fs[i]? = some f ∧ f.offset ≤ j ∧ j < f.offset + m ∧ f.offset + m ≤ k ∧ IntsOf P f.type m) : IntsOf P t k := ⟨hc, fun {H enc W base spare held} fuel cs y h hl j hj => by
  obtain ⟨ys, n2, _, _, _, hyl, hff⟩ := DataW.trod_struct ht h
  obtain ⟨i, f, m, h1, h2, h3, h3', h4, h5⟩ := hcov j hj
  have h6 := hff i f h1
  rw [h4] at h6
  have hi : i < ys.length := by
    rw [hyl]
    have := (Array.getElem?_eq_some_iff.1 h1).1
    simpa using this
  have h7 := h6.trans (List.getElem?_eq_getElem hi)
  have hlen : ((cs.drop f.offset).take m).length = m := by
    rw [List.length_take, List.length_drop, hl]; omega
  obtain ⟨x, hx⟩ := h5 (H := H) (enc := enc) (W := W) (base := base) (spare := spare) (held := held) n2 _ _ h7 hlen (j - f.offset) (by omega)
  refine ⟨x, ?_⟩
  rw [List.getElem?_take, if_pos (by omega), List.getElem?_drop] at hx
  rw [← hx]
  congr 1
  omega⟩
theorem ksl_trod {P : Program} {H : Type} {enc : TypeId × Value → H} {W : World} {k : Nat} {t e : TypeId} {fuel : Nat} {cs : List Value} {y : DataW H × List MemPlace} (ht : P.underlying t = some (.slice e)) (he : IntsOf P e k) (hk : 0 < k)
    (hf : DataW.trod enc P W 0 (fun _ => true) true fuel t cs = some y) :
    ∃ (a : Option Addr) (n c : Nat) (F : Nat → Nat → Int), cs = [.slice a n c] ∧ n ≤ 9223372036854775807 ∧ n ≤ c ∧ KSl k W (.slice a n c) n F := by
  rcases open_slice ht hf with ⟨h1, _⟩ | ⟨a, len, cap, m, n', D, Pl, hcs, _, hl, hm, hmm, _, hi⟩
  · exact ⟨none, 0, 0, fun _ _ => 0, h1, by omega, Nat.le_refl _, .inl ⟨none, 0, rfl, rfl⟩⟩
  · have hmax : len ≤ 9223372036854775807 := by unfold maxLen at hm; omega
    have hmc : m = cap := hmm
    subst hmc
    have each : ∀ i, i < m → ∀ j, j < k → ∃ x : Int, W.cell? ((a.add (i * k)).add j) = some (.int .i64 x) := fun i hi' j hj => by
      obtain ⟨cs', hc, ht'⟩ := hi i hi'
      rw [he.1] at hc
      obtain ⟨_, hcl, hat⟩ := World.cells?_some hc
      obtain ⟨x, hx⟩ := he.2 _ _ _ ht' hcl j hj
      refine ⟨x, ?_⟩
      rw [hat j (by omega)]
      have : cs'[j]? = some (Value.int .i64 x) := hx
      rw [this]
    refine ⟨some a, len, m, fun i j => intOf ((W.cell? ⟨a.block, a.off + i * k + j, none⟩).getD undef), hcs, hmax, hl, ?_⟩
    rcases Nat.eq_zero_or_pos m with hz | hpos
    · have : len = 0 := by omega
      subst this
      exact .inl ⟨some a, m, rfl, rfl⟩
    · obtain ⟨x0, hx0⟩ := each 0 hpos 0 hk
      have hlt := World.block_lt_of_cell? W _ hx0
      rw [Nat.zero_mul, add_zero', add_zero'] at hx0
      have hsp := spot_of hx0
      obtain ⟨b, off, sp⟩ := a
      dsimp only at hsp
      subst hsp
      have hlt' : b < W.heap.size := World.block_lt_of_cell? W _ hx0
      refine .inr ⟨b, off, m, rfl, hlt', fun i hi2 j hj => ?_⟩
      obtain ⟨x, hx⟩ := each i (by omega) j hj
      have e1 : ((⟨b, off, none⟩ : Addr).add (i * k)).add j = ⟨b, off + i * k + j, none⟩ := by rw [add_at, add_at]
      rw [e1] at hx
      show W.cell? ⟨b, off + i * k + j, none⟩ = some (.int .i64 (intOf ((W.cell? ⟨b, off + i * k + j, none⟩).getD undef)))
      rw [hx]; rfl
theorem cells_slice {v : Value} {a : Option Addr} {n c : Nat} (hs : ∃ a n c, v = .slice a n c) (h : v.cells.toList = [.slice a n c]) : v = .slice a n c := by
  obtain ⟨a', n', c', rfl⟩ := hs
  simpa [Value.cells] using h
end Go.Gen
namespace Go.Proofs.YtbgjocgjmjkneaaGreatDoor
open Go.ChangeShapes Go.WideShapes Go.ChangeAt Go.RowKit Go.Deep Go.Gen
theorem ints_int : IntsOf Tryz.prog 3 1 := IntsOf.int (by kernel_rfl) Tryz.underlying3
theorem ints_span : IntsOf Tryz.prog 30 2 := IntsOf.struct (by kernel_rfl) Tryz.underlying30 fun j hj => by
  match j, hj with
  | 0, _ => exact ⟨0, _, 1, rfl, by decide, by decide, by decide, ints_int⟩
  | 1, _ => exact ⟨1, _, 1, rfl, by decide, by decide, by decide, ints_int⟩
theorem ints_DrillPoint : IntsOf Tryz.prog 53 2 := IntsOf.struct (by kernel_rfl) Tryz.underlying53 fun j hj => by
  match j, hj with
  | 0, _ => exact ⟨0, _, 1, rfl, by decide, by decide, by decide, ints_int⟩
  | 1, _ => exact ⟨1, _, 1, rfl, by decide, by decide, by decide, ints_int⟩
theorem ints_DrillReading : IntsOf Tryz.prog 111 4 := IntsOf.struct (by kernel_rfl) Tryz.underlying111 fun j hj => by
  match j, hj with
  | 0, _ => exact ⟨0, _, 1, rfl, by decide, by decide, by decide, ints_int⟩
  | 1, _ => exact ⟨1, _, 1, rfl, by decide, by decide, by decide, ints_int⟩
  | 2, _ => exact ⟨2, _, 1, rfl, by decide, by decide, by decide, ints_int⟩
  | 3, _ => exact ⟨3, _, 1, rfl, by decide, by decide, by decide, ints_int⟩
theorem cons_of {α : Type} : ∀ {l : List α} {k : Nat}, l.length = k + 1 → ∃ u l', l = u :: l' ∧ l'.length = k
  | u :: l, k, h => ⟨u, l, rfl, by simpa using h⟩
theorem some_at {α : Type} {l : List α} {n i : Nat} (h : l.length = n) (hi : i < n) : ∃ y, l[i]? = some y := ⟨l[i]'(by omega), List.getElem?_eq_getElem (by omega)⟩
set_option maxRecDepth 100000 in
set_option maxHeartbeats 1000000 in
theorem open_but {H : Type} {enc : TypeId × Value → H} {W : World} {base : Nat} {v : Value} {d : DataW H} {p : List MemPlace} (hval : Value.okWide Tryz.prog W .any base 25 v) (h0 : DataW.Trod enc Tryz.prog W 0 (fun _ => true) true 25 v d p) :
    ∃ (a0 : Option Addr) (n0 c0 : Nat) (F0 : Nat → Nat → Int) (x1 : Int), v = .agg #[.slice a0 n0 c0, .int .i64 x1] ∧ (n0 ≤ 9223372036854775807 ∧ n0 ≤ c0 ∧ KSl 2 W (.slice a0 n0 c0) n0 F0) := by
  obtain ⟨cs, rfl, hsz⟩ := okWide_struct Tryz.underlying25 hval
  obtain ⟨fuel, hf⟩ := h0
  rw [show Tryz.prog.cellsOf 25 = 2 from by kernel_rfl] at hsz
  obtain ⟨ys, n2, _, _, _, hyl, hff⟩ := DataW.trod_struct Tryz.underlying25 hf
  obtain ⟨l0⟩ := cs
  have g0 : l0.length = 2 := by simpa using hsz
  obtain ⟨u0, l1', rfl, g1⟩ := cons_of g0
  obtain ⟨u1, l2', rfl, g2⟩ := cons_of g1
  obtain rfl := List.eq_nil_of_length_eq_zero g2
  have hyl : ys.length = 2 := hyl
  clear hsz hval hf
  have k0 : DataW.trod enc Tryz.prog W 0 (fun _ => true) true n2 23 (([u0, u1].drop 0).take (Tryz.prog.cellsOf 23)) = ys[0]? := hff 0 _ rfl
  rw [show Tryz.prog.cellsOf 23 = 1 from by kernel_rfl] at k0
  obtain ⟨y0, hy0⟩ := some_at (i := 0) hyl (by decide)
  have k1 : DataW.trod enc Tryz.prog W 0 (fun _ => true) true n2 3 (([u0, u1].drop 1).take (Tryz.prog.cellsOf 3)) = ys[1]? := hff 1 _ rfl
  rw [show Tryz.prog.cellsOf 3 = 1 from by kernel_rfl] at k1
  obtain ⟨y1, hy1⟩ := some_at (i := 1) hyl (by decide)
  obtain ⟨a0, n0, c0, F0, e0, m0, l0, s0⟩ := ksl_trod Tryz.underlying23 ints_DrillPoint (by decide) (k0.trans hy0)
  have e0 : [u0] = [Value.slice a0 n0 c0] := e0
  obtain rfl : u0 = Value.slice a0 n0 c0 := (List.cons.inj e0).1
  obtain ⟨x1, e1, _⟩ := DataW.trod_int Tryz.underlying3 (k1.trans hy1)
  have e1 : [u1] = [Value.int .i64 x1] := e1
  obtain rfl : u1 = Value.int .i64 x1 := (List.cons.inj e1).1
  exact ⟨a0, n0, c0, F0, x1, rfl, ⟨m0, l0, s0⟩⟩
end Go.Proofs.YtbgjocgjmjkneaaGreatDoor
namespace Go.Proofs.YtbgjocgjmjkneaaGreatDoor
open Go.RowKit Go.Gen
theorem psl_of_k {w : World} {a : Option Addr} {n c : Nat} {F : Nat → Nat → Int} (h : KSl 2 w (.slice a n c) n F) : PSl w (.slice a n c) n (fun i => F i 0) (fun i => F i 1) := by
  rcases h with ⟨a', c', h1, h2⟩ | ⟨b, off, cap, h1, h2, h3⟩
  · exact .inl ⟨a', c', h1, h2⟩
  · exact .inr ⟨b, off, cap, h1, h2, fun i hi => ⟨h3 i hi 0 (by omega), h3 i hi 1 (by omega)⟩⟩
theorem rsl_of_k {w : World} {a : Option Addr} {n c : Nat} {F : Nat → Nat → Int} (h : KSl 4 w (.slice a n c) n F) : RSl w (.slice a n c) n (fun i => F i 0) (fun i => F i 1) (fun i => F i 2) (fun i => F i 3) := by
  rcases h with ⟨a', c', h1, h2⟩ | ⟨b, off, cap, h1, h2, h3⟩
  · exact .inl ⟨a', c', h1, h2⟩
  · exact .inr ⟨b, off, cap, h1, h2, fun i hi => ⟨h3 i hi 0 (by omega), h3 i hi 1 (by omega), h3 i hi 2 (by omega), h3 i hi 3 (by omega)⟩⟩
/-- a machine out of a row's reading. -/
@[reducible] def machK (sa : Option Addr) (sn sc : Nat) (S : Nat → Nat → Int) (c0 c1 d0 d1 w0 w1 v0 v1 : Int) (ra : Option Addr) (rn rc : Nat) (R : Nat → Nat → Int) : Mach :=
  ⟨sa, sn, sc, fun i => S i 0, fun i => S i 1, c0, c1, d0, d1, w0, w1, v0, v1, ra, rn, rc, fun i => R i 0, fun i => R i 1, fun i => R i 2, fun i => R i 3⟩
theorem min_of_k {w : World} {sa : Option Addr} {sn sc : Nat} {S : Nat → Nat → Int} {c0 c1 d0 d1 w0 w1 v0 v1 : Int} {ra : Option Addr} {rn rc : Nat} {R : Nat → Nat → Int} (h1 : KSl 2 w (.slice sa sn sc) sn S) (h2 : KSl 4 w (.slice ra rn rc) rn R) : MIn w (machK sa sn sc S c0 c1 d0 d1 w0 w1 v0 v1 ra rn rc R) := ⟨psl_of_k h1, rsl_of_k h2⟩
end Go.Proofs.YtbgjocgjmjkneaaGreatDoor
namespace Go.Proofs.YtbgjocgjmjkneaaGreatDoor
open Go.ChangeShapes Go.WideShapes Go.ChangeAt Go.RowKit Go.Deep Go.Gen
set_option maxRecDepth 100000 in
set_option maxHeartbeats 1000000 in
theorem mach_trod {H : Type} {enc : TypeId × Value → H} {W : World} {fuel : Nat} {l0 : List Value} {y : DataW H × List MemPlace} (hf : DataW.trod enc Tryz.prog W 0 (fun _ => true) true fuel 33 l0 = some y) (g0 : l0.length = 10) :
    ∃ m : Mach, l0 = m.cells ∧ MIn W m ∧ m.sn ≤ 9223372036854775807 ∧ m.rn ≤ 9223372036854775807 := by
  obtain ⟨ys, n2, _, _, _, hyl, hff⟩ := DataW.trod_struct Tryz.underlying33 hf
  obtain ⟨u0, l1', rfl, g1⟩ := cons_of g0
  obtain ⟨u1, l2', rfl, g2⟩ := cons_of g1
  obtain ⟨u2, l3', rfl, g3⟩ := cons_of g2
  obtain ⟨u3, l4', rfl, g4⟩ := cons_of g3
  obtain ⟨u4, l5', rfl, g5⟩ := cons_of g4
  obtain ⟨u5, l6', rfl, g6⟩ := cons_of g5
  obtain ⟨u6, l7', rfl, g7⟩ := cons_of g6
  obtain ⟨u7, l8', rfl, g8⟩ := cons_of g7
  obtain ⟨u8, l9', rfl, g9⟩ := cons_of g8
  obtain ⟨u9, l10', rfl, g10⟩ := cons_of g9
  obtain rfl := List.eq_nil_of_length_eq_zero g10
  have hyl : ys.length = 6 := hyl
  clear hf
  have k0 : DataW.trod enc Tryz.prog W 0 (fun _ => true) true n2 23 (([u0, u1, u2, u3, u4, u5, u6, u7, u8, u9].drop 0).take (Tryz.prog.cellsOf 23)) = ys[0]? := hff 0 _ rfl
  rw [show Tryz.prog.cellsOf 23 = 1 from by kernel_rfl] at k0
  obtain ⟨y0, hy0⟩ := some_at (i := 0) hyl (by decide)
  have k1 : DataW.trod enc Tryz.prog W 0 (fun _ => true) true n2 30 (([u0, u1, u2, u3, u4, u5, u6, u7, u8, u9].drop 1).take (Tryz.prog.cellsOf 30)) = ys[1]? := hff 1 _ rfl
  rw [show Tryz.prog.cellsOf 30 = 2 from by kernel_rfl] at k1
  obtain ⟨y1, hy1⟩ := some_at (i := 1) hyl (by decide)
  have k2 : DataW.trod enc Tryz.prog W 0 (fun _ => true) true n2 30 (([u0, u1, u2, u3, u4, u5, u6, u7, u8, u9].drop 3).take (Tryz.prog.cellsOf 30)) = ys[2]? := hff 2 _ rfl
  rw [show Tryz.prog.cellsOf 30 = 2 from by kernel_rfl] at k2
  obtain ⟨y2, hy2⟩ := some_at (i := 2) hyl (by decide)
  have k3 : DataW.trod enc Tryz.prog W 0 (fun _ => true) true n2 30 (([u0, u1, u2, u3, u4, u5, u6, u7, u8, u9].drop 5).take (Tryz.prog.cellsOf 30)) = ys[3]? := hff 3 _ rfl
  rw [show Tryz.prog.cellsOf 30 = 2 from by kernel_rfl] at k3
  obtain ⟨y3, hy3⟩ := some_at (i := 3) hyl (by decide)
  have k4 : DataW.trod enc Tryz.prog W 0 (fun _ => true) true n2 30 (([u0, u1, u2, u3, u4, u5, u6, u7, u8, u9].drop 7).take (Tryz.prog.cellsOf 30)) = ys[4]? := hff 4 _ rfl
  rw [show Tryz.prog.cellsOf 30 = 2 from by kernel_rfl] at k4
  obtain ⟨y4, hy4⟩ := some_at (i := 4) hyl (by decide)
  have k5 : DataW.trod enc Tryz.prog W 0 (fun _ => true) true n2 31 (([u0, u1, u2, u3, u4, u5, u6, u7, u8, u9].drop 9).take (Tryz.prog.cellsOf 31)) = ys[5]? := hff 5 _ rfl
  rw [show Tryz.prog.cellsOf 31 = 1 from by kernel_rfl] at k5
  obtain ⟨y5, hy5⟩ := some_at (i := 5) hyl (by decide)
  obtain ⟨a0, n0, c0, F0, e0, m0, l0, s0⟩ := ksl_trod Tryz.underlying23 ints_DrillPoint (by decide) (k0.trans hy0)
  have e0 : [u0] = [Value.slice a0 n0 c0] := e0
  obtain rfl : u0 = Value.slice a0 n0 c0 := (List.cons.inj e0).1
  obtain ⟨x1, e1⟩ := ints_span.2 _ _ _ (k1.trans hy1) rfl 0 (by decide)
  obtain ⟨z1, g1⟩ := ints_span.2 _ _ _ (k1.trans hy1) rfl 1 (by decide)
  have e1 : some u1 = some (Value.int .i64 x1) := e1
  have g1 : some u2 = some (Value.int .i64 z1) := g1
  obtain rfl : u1 = Value.int .i64 x1 := Option.some.inj e1
  obtain rfl : u2 = Value.int .i64 z1 := Option.some.inj g1
  obtain ⟨x2, e2⟩ := ints_span.2 _ _ _ (k2.trans hy2) rfl 0 (by decide)
  obtain ⟨z2, g2⟩ := ints_span.2 _ _ _ (k2.trans hy2) rfl 1 (by decide)
  have e2 : some u3 = some (Value.int .i64 x2) := e2
  have g2 : some u4 = some (Value.int .i64 z2) := g2
  obtain rfl : u3 = Value.int .i64 x2 := Option.some.inj e2
  obtain rfl : u4 = Value.int .i64 z2 := Option.some.inj g2
  obtain ⟨x3, e3⟩ := ints_span.2 _ _ _ (k3.trans hy3) rfl 0 (by decide)
  obtain ⟨z3, g3⟩ := ints_span.2 _ _ _ (k3.trans hy3) rfl 1 (by decide)
  have e3 : some u5 = some (Value.int .i64 x3) := e3
  have g3 : some u6 = some (Value.int .i64 z3) := g3
  obtain rfl : u5 = Value.int .i64 x3 := Option.some.inj e3
  obtain rfl : u6 = Value.int .i64 z3 := Option.some.inj g3
  obtain ⟨x4, e4⟩ := ints_span.2 _ _ _ (k4.trans hy4) rfl 0 (by decide)
  obtain ⟨z4, g4⟩ := ints_span.2 _ _ _ (k4.trans hy4) rfl 1 (by decide)
  have e4 : some u7 = some (Value.int .i64 x4) := e4
  have g4 : some u8 = some (Value.int .i64 z4) := g4
  obtain rfl : u7 = Value.int .i64 x4 := Option.some.inj e4
  obtain rfl : u8 = Value.int .i64 z4 := Option.some.inj g4
  obtain ⟨a5, n5, c5, F5, e5, m5, l5, s5⟩ := ksl_trod Tryz.underlying31 ints_DrillReading (by decide) (k5.trans hy5)
  have e5 : [u9] = [Value.slice a5 n5 c5] := e5
  obtain rfl : u9 = Value.slice a5 n5 c5 := (List.cons.inj e5).1
  exact ⟨machK a0 n0 c0 F0 x1 z1 x2 z2 x3 z3 x4 z4 a5 n5 c5 F5, rfl, min_of_k s0 s5, m0, m5⟩
theorem machs_trod {H : Type} {enc : TypeId × Value → H} {W : World} {fuel : Nat} {cs : List Value} {y : DataW H × List MemPlace} (hf : DataW.trod enc Tryz.prog W 0 (fun _ => true) true fuel 22 cs = some y) :
    ∃ (a : Option Addr) (n c : Nat) (M : Nat → Mach), cs = [.slice a n c] ∧ n ≤ 9223372036854775807 ∧ MSl W (.slice a n c) n M ∧ ∀ i, i < n → (M i).sn ≤ 9223372036854775807 ∧ (M i).rn ≤ 9223372036854775807 := by
  rcases open_slice (by kernel_rfl : Tryz.prog.underlying 22 = some (.slice 33)) hf with ⟨h1, _⟩ | ⟨a, len, cap, m, n', D, Pl, hcs, _, hl, hm, hmm, _, hi⟩
  · exact ⟨none, 0, 0, fun _ => zM, h1, by omega, .inl ⟨none, 0, rfl, rfl⟩, fun i h => absurd h (Nat.not_lt_zero i)⟩
  · have hmax : len ≤ 9223372036854775807 := by unfold maxLen at hm; omega
    have hmc : m = cap := hmm
    subst hmc
    have each : ∀ i, ∃ mm : Mach, i < m → (∀ j u, mm.cells[j]? = some u → W.cell? ((a.add (i * 10)).add j) = some u) ∧ MIn W mm ∧ mm.sn ≤ 9223372036854775807 ∧ mm.rn ≤ 9223372036854775807 := fun i => by
      by_cases hi' : i < m
      · obtain ⟨cs', hc, ht'⟩ := hi i hi'
        rw [show Tryz.prog.cellsOf 33 = 10 from by kernel_rfl] at hc
        obtain ⟨_, hcl, hat⟩ := World.cells?_some hc
        obtain ⟨mm, h1, h2, h3, h4⟩ := mach_trod ht' hcl
        refine ⟨mm, fun _ => ⟨fun j u hj => ?_, h2, h3, h4⟩⟩
        have hj10 : j < 10 := by
          have := (List.getElem?_eq_some_iff.1 hj).1
          rw [← h1] at this
          omega
        rw [hat j hj10]
        rw [← h1] at hj
        have : cs'[j]? = some u := hj
        rw [this]
      · exact ⟨zM, fun h => absurd h hi'⟩
    obtain ⟨M, hM⟩ := Classical.axiomOfChoice each
    refine ⟨some a, len, m, M, hcs, hmax, ?_, fun i h => (hM i (by omega)).2.2⟩
    rcases Nat.eq_zero_or_pos len with hz | hpos
    · subst hz
      exact .inl ⟨some a, m, rfl, rfl⟩
    · have hx0 := (hM 0 (by omega)).1 0 _ rfl
      rw [Nat.zero_mul, add_zero', add_zero'] at hx0
      have hsp := spot_of hx0
      obtain ⟨b, off, sp⟩ := a
      dsimp only at hsp
      subst hsp
      have hlt' : b < W.heap.size := World.block_lt_of_cell? W _ hx0
      refine .inr ⟨b, off, m, rfl, fun i hi2 => ?_, fun i hi2 => (hM i (by omega)).2.1, hlt'⟩
      have hk : ∀ j u, (M i).cells[j]? = some u → W.cell? ⟨b, off + i * 10 + j, none⟩ = some u := fun j u hj => by
        have := (hM i (by omega)).1 j u hj
        rw [add_at, add_at] at this
        exact this
      exact ⟨hk 0 _ rfl, hk 1 _ rfl, hk 2 _ rfl, hk 3 _ rfl, hk 4 _ rfl, hk 5 _ rfl, hk 6 _ rfl, hk 7 _ rfl, hk 8 _ rfl, hk 9 _ rfl⟩
set_option maxRecDepth 100000 in
theorem open_machs {H : Type} {enc : TypeId × Value → H} {W : World} {base : Nat} {v : Value} {d : DataW H} {p : List MemPlace} (hval : Value.okWide Tryz.prog W .any base 22 v) (h0 : DataW.Trod enc Tryz.prog W 0 (fun _ => true) true 22 v d p) :
    ∃ (a : Option Addr) (n c : Nat) (M : Nat → Mach), v = .slice a n c ∧ n ≤ 9223372036854775807 ∧ MSl W (.slice a n c) n M ∧ ∀ i, i < n → (M i).sn ≤ 9223372036854775807 ∧ (M i).rn ≤ 9223372036854775807 := by
  obtain ⟨fuel, hf⟩ := h0
  obtain ⟨a, n, c, M, h1, h2, h3, h4⟩ := machs_trod hf
  exact ⟨a, n, c, M, cells_slice (okWide_slice (by kernel_rfl : Tryz.prog.underlying 22 = some (.slice 33)) hval) h1, h2, h3, h4⟩
end Go.Proofs.YtbgjocgjmjkneaaGreatDoor
