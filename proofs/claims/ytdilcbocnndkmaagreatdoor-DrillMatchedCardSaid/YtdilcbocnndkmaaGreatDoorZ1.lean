/- A part of the proof: see the last file. -/
import Derived.Test.YtdilcbocnndkmaaGreatDoorY7
import Derived.ProofKit
import Derived.LaidMore
import Derived.OpenShut
import Derived.Stop.Joined
import Derived.Deep.Slices
import Derived.Carry
set_option linter.unusedVariables false
set_option linter.unusedSimpArgs false
set_option linter.unusedSectionVars false
namespace Go.Proofs.YtdilcbocnndkmaaGreatDoor
open Go.ChangeShapes Go.WideShapes Go.ChangeAt Go.RowKit

/-! ### What the package-level variables hold -/
section
variable {H : Type} {enc : TypeId × Value → H} {P : Program} {w : World} {base : Nat} {spare : Nat → Bool} {held : Bool}
theorem arr_each {α : Type} {n fuel : Nat} {e t : TypeId} {cs : List Value} {p : List MemPlace} {l : List α} {D : α → DataW H} {V : α → Value} (ht : P.underlying t = some (.array n e)) (hc : P.cellsOf e = 1) (hct : P.cellsOf t = n)
    (hone : ∀ m v y a, DataW.trod enc P w base spare held m e [v] = some y → y.1 = D a → v = V a)
    (h : DataW.trod enc P w base spare held fuel t cs = some (.agg (l.map D), p)) : cs = l.map V := by
  obtain ⟨xs, m, _, hx, hlen, hn, hel⟩ := DataW.trod_array ht h
  simp only [Prod.mk.injEq, DataW.agg.injEq] at hx
  rw [hct] at hlen
  have hll : l.length = n := by
    have := congrArg List.length hx.1
    simp only [List.length_map] at this
    omega
  apply List.ext_getElem (by rw [List.length_map]; omega)
  intro i h1 h2
  rw [List.length_map] at h2
  have hi : i < n := by omega
  have h3 := hel i hi
  rw [hc, Nat.mul_one] at h3
  have h4 : (cs.drop i).take 1 = [cs[i]] := by
    rw [List.drop_eq_getElem_cons h1]; rfl
  rw [h4] at h3
  have h5 : xs[i]? = some (xs[i]'(by omega)) := List.getElem?_eq_getElem (by omega)
  have h6 : (xs[i]'(by omega)).1 = D (l[i]'h2) := by
    have h7 : (l.map D)[i]? = (xs.map (·.1))[i]? := by rw [hx.1]
    rw [List.getElem?_map, List.getElem?_map, h5, List.getElem?_eq_getElem h2] at h7
    simpa using h7.symm
  rw [List.getElem_map]
  exact hone m _ _ _ (h3.trans h5) h6
end
theorem block_of_var {P : Program} {w : World} {name : String} {cs : Array Value} {g : Nat} (hg : P.globalNamed name = some g) (h : w.var? P name = some cs) : ∃ e f, w.heap[g]? = some (.cells cs e f) := by
  unfold World.var? at h
  rw [hg] at h
  simp only [Option.bind_some] at h
  split at h
  · next c e f hh => cases h; exact ⟨e, f, hh⟩
  · cases h
def db32L : List Int := [0, 1, 28, 2, 29, 14, 24, 3, 30, 22, 20, 15, 25, 17, 4, 8, 31, 27, 13, 23, 21, 19, 16, 7, 26, 12, 18, 6, 11, 5, 10, 9]
def db64L : List Int := [0, 1, 56, 2, 57, 49, 28, 3, 61, 58, 42, 50, 38, 29, 17, 4, 62, 47, 59, 36, 45, 43, 51, 22, 53, 39, 33, 30, 24, 18, 12, 5, 63, 55, 48, 27, 60, 41, 37, 16, 46, 35, 44, 21, 52, 32, 23, 11, 54, 26, 40, 15, 34, 20, 31, 10, 25, 14, 19, 9, 13, 8, 7, 6]
def powL : List Int := [1, 10, 100, 1000, 10000, 100000, 1000000, 10000000, 100000000, 1000000000, 10000000000, 100000000000, 1000000000000, 10000000000000, 100000000000000, 1000000000000000, 10000000000000000, 100000000000000000, 1000000000000000000, 10000000000000000000]
def wordsL : List ByteArray := [⟨#[109, 97, 99, 104, 105, 110, 101]⟩, ⟨#[115, 116, 111, 112]⟩, ⟨#[99, 104, 117, 99, 107]⟩, ⟨#[119, 101, 97, 114]⟩, ⟨#[114, 101, 97, 100, 105, 110, 103]⟩, ⟨#[101, 110, 100]⟩]
theorem g0 : Tryz.prog.globalNamed "nacre/drill.words" = some 0 := by kernel_rfl
theorem g2 : Tryz.prog.globalNamed "internal/strconv.uint64pow10" = some 2 := by kernel_rfl
theorem g3 : Tryz.prog.globalNamed "math/bits.deBruijn32tab" = some 3 := by kernel_rfl
theorem g4 : Tryz.prog.globalNamed "math/bits.deBruijn64tab" = some 4 := by kernel_rfl
theorem y0 : (Tryz.prog.globals[0]?).map (·.type) = some 211 := by kernel_rfl
theorem y2 : (Tryz.prog.globals[2]?).map (·.type) = some 275 := by kernel_rfl
theorem y3 : (Tryz.prog.globals[3]?).map (·.type) = some 286 := by kernel_rfl
theorem y4 : (Tryz.prog.globals[4]?).map (·.type) = some 287 := by kernel_rfl
theorem c1_3 : Tryz.prog.cellsOf 3 = 1 := by kernel_rfl
theorem c1_5 : Tryz.prog.cellsOf 5 = 1 := by kernel_rfl
theorem c1_9 : Tryz.prog.cellsOf 9 = 1 := by kernel_rfl
theorem u174 : Tryz.prog.underlying 211 = some (.array 6 9) := by kernel_rfl
theorem int_each {k : IntKind} {e : TypeId} {P : Program} {w : World} {base : Nat} {spare : Nat → Bool} {held : Bool} {H : Type} {enc : TypeId × Value → H} (he : P.underlying e = some (.int k)) :
    ∀ m v (y : DataW H × List MemPlace) a, DataW.trod enc P w base spare held m e [v] = some y → y.1 = .lit (.int k a) → v = .int k a := fun m v y a h h1 => by
  obtain ⟨n, e1, e2, _⟩ := DataW.trod_int he h
  rw [e2] at h1
  simp only [DataW.lit.injEq, Lit.int.injEq, true_and] at h1
  rw [List.cons.injEq] at e1
  rw [e1.1, h1]
theorem str_each {e : TypeId} {P : Program} {w : World} {base : Nat} {spare : Nat → Bool} {held : Bool} {H : Type} {enc : TypeId × Value → H} (he : P.underlying e = some .string) :
    ∀ m v (y : DataW H × List MemPlace) (a : ByteArray), DataW.trod enc P w base spare held m e [v] = some y → y.1 = .lit (.string a.data.toList) → v = .string a := fun m v y a h h1 => by
  obtain ⟨s, e1, e2, _⟩ := DataW.trod_string he h
  rw [e2] at h1
  simp only [DataW.lit.injEq, Lit.string.injEq] at h1
  rw [List.cons.injEq] at e1
  rw [e1.1]
  obtain ⟨s⟩ := s
  obtain ⟨a⟩ := a
  dsimp only at h1
  rw [Array.toList_inj.1 h1]
theorem of_laid {W : World} (h : laidMetH Tryz.prog Rows.drillTurnedRow.laid W) : KG W := by
  rw [MakeChecks.laidMetH_plain _ _ _ (by kernel_rfl)] at h
  obtain ⟨ps, ⟨a3, t3, cs3, f3, p3, q3, hg3, ht3, hv3, hd3, ⟨a4, t4, cs4, f4, p4, q4, hg4, ht4, hv4, hd4, ⟨a2, t2, cs2, f2, p2, q2, hg2, ht2, hv2, hd2, ⟨a0, t0, cs0, f0, p0, q0, hg0, ht0, hv0, hd0, _, _⟩, _⟩, _⟩, _⟩, _, _⟩ := h
  obtain rfl := Option.some.inj (g3.symm.trans hg3)
  obtain rfl := Option.some.inj (g4.symm.trans hg4)
  obtain rfl := Option.some.inj (g2.symm.trans hg2)
  obtain rfl := Option.some.inj (g0.symm.trans hg0)
  obtain rfl := Option.some.inj (y3.symm.trans ht3)
  obtain rfl := Option.some.inj (y4.symm.trans ht4)
  obtain rfl := Option.some.inj (y2.symm.trans ht2)
  obtain rfl := Option.some.inj (y0.symm.trans ht0)
  have z3 := arr_each (l := db32L) (V := Value.int .u8) (D := fun z => .lit (.int .u8 z)) Tryz.underlying286 c1_5 (by kernel_rfl) (int_each Tryz.underlying5) hd3
  have z4 := arr_each (l := db64L) (V := Value.int .u8) (D := fun z => .lit (.int .u8 z)) Tryz.underlying287 c1_5 (by kernel_rfl) (int_each Tryz.underlying5) hd4
  have z2 := arr_each (l := powL) (V := Value.int .u64) (D := fun z => .lit (.int .u64 z)) Tryz.underlying275 (by kernel_rfl) (by kernel_rfl) (int_each (by kernel_rfl)) hd2
  have z0 := arr_each (l := wordsL) (V := Value.string) (D := fun z => .lit (.string z.data.toList)) Tryz.underlying211 c1_9 (by kernel_rfl) (str_each Tryz.underlying9) hd0
  have w3 : cs3 = db32Cells.toArray := Array.toList_inj.1 (by rw [z3]; rfl)
  have w4 : cs4 = db64Cells.toArray := Array.toList_inj.1 (by rw [z4]; rfl)
  have w2 : cs2 = powCells.toArray := Array.toList_inj.1 (by rw [z2]; rfl)
  have w0 : cs0 = wordsCells.toArray := Array.toList_inj.1 (by rw [z0]; rfl)
  subst w3; subst w4; subst w2; subst w0
  exact ⟨block_of_var g0 hv0, block_of_var g2 hv2, block_of_var g3 hv3, block_of_var g4 hv4⟩
end Go.Proofs.YtdilcbocnndkmaaGreatDoor
