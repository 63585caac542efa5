/- A part of the proof: see the last file. -/
import Derived.Test.YtlhgkepdoinlnaaGreatDoorPas
import Derived.Test.YtlhgkepdoinlnaaGreatDoorPat
import Derived.Test.YtlhgkepdoinlnaaGreatDoorPau
import Derived.Test.YtlhgkepdoinlnaaGreatDoorPav
import Derived.Test.YtlhgkepdoinlnaaGreatDoorPaw
import Derived.Test.YtlhgkepdoinlnaaGreatDoorPax
import Derived.Test.YtlhgkepdoinlnaaGreatDoorPay
import Derived.Test.YtlhgkepdoinlnaaGreatDoorPaz
import Derived.Test.YtlhgkepdoinlnaaGreatDoorPba
import Derived.Test.YtlhgkepdoinlnaaGreatDoorPbb
import Derived.Test.YtlhgkepdoinlnaaGreatDoorPbc
import Derived.Test.YtlhgkepdoinlnaaGreatDoorPbd
import Derived.Test.YtlhgkepdoinlnaaGreatDoorPbe
import Derived.Test.YtlhgkepdoinlnaaGreatDoorPaa
import Derived.ProofKit
import Derived.LaidMore
import Derived.OpenShut
import Derived.Stop.Joined
import Derived.Deep.Slices
import Derived.Carry
import Derived.Test.YtlhgkepdoinlnaaGreatDoorPal
import Derived.Test.YtlhgkepdoinlnaaGreatDoorPam
set_option linter.unusedVariables false
set_option linter.unusedSimpArgs false
set_option linter.unusedSectionVars false
namespace Go.Proofs.YtlhgkepdoinlnaaGreatDoor
open Go Go.Proofs Go.Can Go.RowKit
/-- the package-level variables hold what the text lays -/
structure KG (w : World) : Prop where
 g0 : ∃ e f, w.heap[5]? = some (.cells cells0.toArray e f)
 g1 : ∃ e f, w.heap[6]? = some (.cells cells1.toArray e f)
 g2 : ∃ e f, w.heap[4]? = some (.cells cells2.toArray e f)
 g3 : ∃ e f, w.heap[0]? = some (.cells cells3.toArray e f)
theorem KG.below {w w' : World} (h : KG w) (hb : Below w.heap.size w w') : KG w' := by
 have lt : ∀ {i : Nat} {o : Obj}, w.heap[i]? = some o → i < w.heap.size := fun h => (Array.getElem?_eq_some_iff.1 h).1
 obtain ⟨⟨e0, f0, h0⟩, ⟨e1, f1, h1⟩, ⟨e2, f2, h2⟩, ⟨e3, f3, h3⟩⟩ := h
 exact ⟨⟨e0, f0, by rw [hb.block _ (lt h0)]; exact h0⟩, ⟨e1, f1, by rw [hb.block _ (lt h1)]; exact h1⟩, ⟨e2, f2, by rw [hb.block _ (lt h2)]; exact h2⟩, ⟨e3, f3, by rw [hb.block _ (lt h3)]; exact h3⟩⟩
theorem KG.num {w : World} (h : KG w) : Glob.num ≤ w.heap.size := by
 obtain ⟨⟨e0, f0, h0⟩, ⟨e1, f1, h1⟩, ⟨e2, f2, h2⟩, ⟨e3, f3, h3⟩⟩ := h
 exact (Array.getElem?_eq_some_iff.1 h1).1
theorem known_ok (w : World) (h : KG w) : Calls Tryz.prog 16 #[] w fun e w' => e = .returned (.bool true) ∧ Below w.heap.size w w' := by
 have hn := h.num
 obtain ⟨⟨e0, f0, h0⟩, ⟨e1, f1, h1⟩, ⟨e2, f2, h2⟩, ⟨e3, f3, h3⟩⟩ := h
 refine runsM_true fair (ms := [memoF0, memoF1, memoF2, memoF3, memoF4, memoF5, memoF6, memoF7, memoF8, memoF9]) (fun m hm => ?_) (known_run e0 e1 e2 e3 f0 f1 f2 f3) w ⟨hn, fun g o hg => ?_⟩
 ·simp only [List.mem_cons, List.not_mem_nil, or_false] at hm
  rcases hm with rfl | rfl | rfl | rfl | rfl | rfl | rfl | rfl | rfl | rfl
  ·exact memoF0_ok
  ·exact memoF1_ok
  ·exact memoF2_ok
  ·exact memoF3_ok
  ·exact memoF4_ok
  ·exact memoF5_ok
  ·exact memoF6_ok
  ·exact memoF7_ok
  ·exact memoF8_ok
  ·exact memoF9_ok
 ·simp only [List.mem_cons, List.not_mem_nil, or_false, Prod.mk.injEq] at hg
  rcases hg with ⟨rfl, rfl⟩ | ⟨rfl, rfl⟩ | ⟨rfl, rfl⟩ | ⟨rfl, rfl⟩
  ·exact ⟨_, h0, .plain (by kernel_rfl)⟩
  ·exact ⟨_, h1, .plain (by kernel_rfl)⟩
  ·exact ⟨_, h2, .plain (by kernel_rfl)⟩
  ·exact ⟨_, h3, .plain (by kernel_rfl)⟩
end Go.Proofs.YtlhgkepdoinlnaaGreatDoor
namespace Go.Proofs.YtlhgkepdoinlnaaGreatDoor
open Go.ChangeShapes Go.WideShapes Go.ChangeAt Go.RowKit
/-! ### What the package-level variables hold -/
section
variable {H : Type} {enc : TypeId × Value → H} {P : Program} {w : World} {base : Nat} {spare : Nat → Bool} {held : Bool}
theorem arr_each {α : Type} {n fuel : Nat} {e t : TypeId} {cs : List Value} {p : List MemPlace} {l : List α} {D : α → DataW H} {V : α → Value} (ht : P.underlying t = some (.array n e)) (hc : P.cellsOf e = 1) (hct : P.cellsOf t = n)
  (hone : ∀ m v y a, DataW.trod enc P w base spare held m e [v] = some y → y.1 = D a → v = V a)
  (h : DataW.trod enc P w base spare held fuel t cs = some (.agg (l.map D), p)) : cs = l.map V := by
 obtain ⟨xs, m, _, hx, hlen, hn, hel⟩ := DataW.trod_array ht h
 simp only [Prod.mk.injEq, DataW.agg.injEq] at hx
 rw [hct] at hlen
 have hll : l.length = n := by
  have := congrArg List.length hx.1
  simp only [List.length_map] at this
  omega
 apply List.ext_getElem (by rw [List.length_map]; omega)
 intro i h1 h2
 rw [List.length_map] at h2
 have hi : i < n := by omega
 have h3 := hel i hi
 rw [hc, Nat.mul_one] at h3
 have h4 : (cs.drop i).take 1 = [cs[i]] := by
  rw [List.drop_eq_getElem_cons h1]; rfl
 rw [h4] at h3
 have h5 : xs[i]? = some (xs[i]'(by omega)) := List.getElem?_eq_getElem (by omega)
 have h6 : (xs[i]'(by omega)).1 = D (l[i]'h2) := by
  have h7 : (l.map D)[i]? = (xs.map (·.1))[i]? := by rw [hx.1]
  rw [List.getElem?_map, List.getElem?_map, h5, List.getElem?_eq_getElem h2] at h7
  simpa using h7.symm
 rw [List.getElem_map]
 exact hone m _ _ _ (h3.trans h5) h6
end
theorem block_of_var {P : Program} {w : World} {name : String} {cs : Array Value} {g : Nat} (hg : P.globalNamed name = some g) (h : w.var? P name = some cs) : ∃ e f, w.heap[g]? = some (.cells cs e f) := by
 unfold World.var? at h
 rw [hg] at h
 simp only [Option.bind_some] at h
 split at h
 ·next c e f hh => cases h; exact ⟨e, f, hh⟩
 ·cases h
theorem int_each {k : IntKind} {e : TypeId} {P : Program} {w : World} {base : Nat} {spare : Nat → Bool} {held : Bool} {H : Type} {enc : TypeId × Value → H} (he : P.underlying e = some (.int k)) :
  ∀ m v (y : DataW H × List MemPlace) a, DataW.trod enc P w base spare held m e [v] = some y → y.1 = .lit (.int k a) → v = .int k a := fun m v y a h h1 => by
 obtain ⟨n, e1, e2, _⟩ := DataW.trod_int he h
 rw [e2] at h1
 simp only [DataW.lit.injEq, Lit.int.injEq, true_and] at h1
 rw [List.cons.injEq] at e1
 rw [e1.1, h1]
theorem str_each {e : TypeId} {P : Program} {w : World} {base : Nat} {spare : Nat → Bool} {held : Bool} {H : Type} {enc : TypeId × Value → H} (he : P.underlying e = some .string) :
  ∀ m v (y : DataW H × List MemPlace) (a : ByteArray), DataW.trod enc P w base spare held m e [v] = some y → y.1 = .lit (.string a.data.toList) → v = .string a := fun m v y a h h1 => by
 obtain ⟨s, e1, e2, _⟩ := DataW.trod_string he h
 rw [e2] at h1
 simp only [DataW.lit.injEq, Lit.string.injEq] at h1
 rw [List.cons.injEq] at e1
 rw [e1.1]
 obtain ⟨s⟩ := s
 obtain ⟨a⟩ := a
 dsimp only at h1
 rw [Array.toList_inj.1 h1]
def list0 : List Int := [0, 1, 28, 2, 29, 14, 24, 3, 30, 22, 20, 15, 25, 17, 4, 8, 31, 27, 13, 23, 21, 19, 16, 7, 26, 12, 18, 6, 11, 5, 10, 9]
theorem gl0 : Tryz.prog.globalNamed "math/bits.deBruijn32tab" = some 5 := by kernel_rfl
theorem ty0 : (Tryz.prog.globals[5]?).map (·.type) = some 214 := by kernel_rfl
def list1 : List Int := [0, 1, 56, 2, 57, 49, 28, 3, 61, 58, 42, 50, 38, 29, 17, 4, 62, 47, 59, 36, 45, 43, 51, 22, 53, 39, 33, 30, 24, 18, 12, 5, 63, 55, 48, 27, 60, 41, 37, 16, 46, 35, 44, 21, 52, 32, 23, 11, 54, 26, 40, 15, 34, 20, 31, 10, 25, 14, 19, 9, 13, 8, 7, 6]
theorem gl1 : Tryz.prog.globalNamed "math/bits.deBruijn64tab" = some 6 := by kernel_rfl
theorem ty1 : (Tryz.prog.globals[6]?).map (·.type) = some 215 := by kernel_rfl
def list2 : List Int := [1, 10, 100, 1000, 10000, 100000, 1000000, 10000000, 100000000, 1000000000, 10000000000, 100000000000, 1000000000000, 10000000000000, 100000000000000, 1000000000000000, 10000000000000000, 100000000000000000, 1000000000000000000, 10000000000000000000]
theorem gl2 : Tryz.prog.globalNamed "internal/strconv.uint64pow10" = some 4 := by kernel_rfl
theorem ty2 : (Tryz.prog.globals[4]?).map (·.type) = some 210 := by kernel_rfl
def list3 : List ByteArray := [⟨#[100, 114, 117, 109, 32, 35, 32, 107, 110, 111, 119, 110, 32, 35]⟩, ⟨#[97, 99, 105, 100, 32, 35, 32, 35, 32, 102, 97, 108, 108, 32, 35, 32, 35]⟩, ⟨#[97, 100, 100]⟩, ⟨#[115, 116, 114, 105, 112, 32, 35, 32, 35, 32, 35]⟩, ⟨#[98, 97, 116, 99, 104, 32, 35, 32, 35, 32, 35, 32, 35, 32, 35, 32, 35]⟩, ⟨#[101, 110, 100]⟩]
theorem gl3 : Tryz.prog.globalNamed "nacre/drum.forms" = some 0 := by kernel_rfl
theorem ty3 : (Tryz.prog.globals[0]?).map (·.type) = some 179 := by kernel_rfl
theorem of_laid {W : World} (h : laidMetH Tryz.prog Rows.drumCouldsRow.laid W) : KG W := by
 rw [MakeChecks.laidMetH_plain _ _ _ (by kernel_rfl)] at h
 obtain ⟨ps, ⟨a0, t0, cs0, f0, p0, q0, hg0, ht0, hv0, hd0, ⟨a1, t1, cs1, f1, p1, q1, hg1, ht1, hv1, hd1, ⟨a2, t2, cs2, f2, p2, q2, hg2, ht2, hv2, hd2, ⟨_, _, _, _, _, _, _, _, _, _, ⟨a3, t3, cs3, f3, p3, q3, hg3, ht3, hv3, hd3, ⟨_, _, _, _, _, _, _, _, _, _, _, _⟩, _⟩, _⟩, _⟩, _⟩, _⟩, _, _⟩ := h
 obtain rfl := Option.some.inj (gl0.symm.trans hg0)
 obtain rfl := Option.some.inj (ty0.symm.trans ht0)
 obtain rfl := Option.some.inj (gl1.symm.trans hg1)
 obtain rfl := Option.some.inj (ty1.symm.trans ht1)
 obtain rfl := Option.some.inj (gl2.symm.trans hg2)
 obtain rfl := Option.some.inj (ty2.symm.trans ht2)
 obtain rfl := Option.some.inj (gl3.symm.trans hg3)
 obtain rfl := Option.some.inj (ty3.symm.trans ht3)
 have z0 := arr_each (l := list0) (V := Value.int .u8) (D := fun z => .lit (.int .u8 z)) (by kernel_rfl : Tryz.prog.underlying 214 = some (.array 32 5)) (by kernel_rfl) (by kernel_rfl) (int_each (by kernel_rfl : Tryz.prog.underlying 5 = some (.int .u8))) hd0
 have z1 := arr_each (l := list1) (V := Value.int .u8) (D := fun z => .lit (.int .u8 z)) (by kernel_rfl : Tryz.prog.underlying 215 = some (.array 64 5)) (by kernel_rfl) (by kernel_rfl) (int_each (by kernel_rfl : Tryz.prog.underlying 5 = some (.int .u8))) hd1
 have z2 := arr_each (l := list2) (V := Value.int .u64) (D := fun z => .lit (.int .u64 z)) (by kernel_rfl : Tryz.prog.underlying 210 = some (.array 20 194)) (by kernel_rfl) (by kernel_rfl) (int_each (by kernel_rfl : Tryz.prog.underlying 194 = some (.int .u64))) hd2
 have z3 := arr_each (l := list3) (V := Value.string) (D := fun z => .lit (.string z.data.toList)) (by kernel_rfl : Tryz.prog.underlying 179 = some (.array 6 9)) (by kernel_rfl) (by kernel_rfl) (str_each (by kernel_rfl : Tryz.prog.underlying 9 = some .string)) hd3
 have w0 : cs0 = cells0.toArray := Array.toList_inj.1 (by rw [z0]; rfl)
 have w1 : cs1 = cells1.toArray := Array.toList_inj.1 (by rw [z1]; rfl)
 have w2 : cs2 = cells2.toArray := Array.toList_inj.1 (by rw [z2]; rfl)
 have w3 : cs3 = cells3.toArray := Array.toList_inj.1 (by rw [z3]; rfl)
 subst w0
 subst w1
 subst w2
 subst w3
 exact ⟨block_of_var gl0 hv0, block_of_var gl1 hv1, block_of_var gl2 hv2, block_of_var gl3 hv3⟩
theorem own : ownKnob Tryz.prog.godebug = none := by kernel_rfl
theorem laidOut : laidOutB Tryz.prog = true := by kernel_rfl
end Go.Proofs.YtlhgkepdoinlnaaGreatDoor
namespace Go.Proofs.YtlhgkepdoinlnaaGreatDoor
open Go.RowKit Go.Gen Go.Drum
theorem fits_is (d : Drm) (i : Nat) (ta : Option Addr) (tc : Nat) (F : Nat → Nat → Int) (w : World) (hd : DIn w d) (hl : d.Len) (hok : d.Ok) (hi : i < d.an) (hF : KSl 1 w (.slice ta d.dn tc) d.dn F) (b : Bool) (hb : b = true ↔ d.fits i F) :
  Calls Tryz.prog 18 #[d.val, .agg #[.int .i64 i, .slice ta d.dn tc]] w fun e w' => e = .returned (.tuple #[.bool b, .int .i64 0]) ∧ Below w.heap.size w w' := by
 refine (fits_ok d i ta tc F w hd hl hok hi hF).mono ?_
 rintro e w' ⟨b', hb', rfl, hbl⟩
 obtain rfl : b' = b := by
  cases b <;> cases b' <;> simp_all
 exact ⟨rfl, hbl⟩
theorem rdrum_yes (d : Drm) (w : World) (hd : DIn w d) (hl : d.Len) (h : d.Ok) : Calls Tryz.prog 20 #[d.val] w fun e w' => e = .returned (.bool true) ∧ Below w.heap.size w w' :=
 (rdrum_says d w hd hl.la hl.ld hl.ls hl.lb).mono fun _ _ hs => SaysB.of_yes h hs
theorem rdrum_no (d : Drm) (w : World) (hd : DIn w d) (hl : d.Len) (h : ¬ d.Ok) : Calls Tryz.prog 20 #[d.val] w fun e w' => e = .returned (.bool false) ∧ Below w.heap.size w w' :=
 (rdrum_says d w hd hl.la hl.ld hl.ls hl.lb).mono fun _ _ hs => SaysB.of_no h hs
theorem rsized_yes (d : Drm) (t : Tru) (w : World) (hl : d.Len) (ht : t.tn ≤ 9223372036854775807) (h : t.sized d) : Calls Tryz.prog 21 #[d.val, t.val] w fun e w' => e = .returned (.bool true) ∧ Below w.heap.size w w' :=
 (rsized_says d t w hl.la ht).mono fun _ _ hs => SaysB.of_yes h hs
theorem rsized_no (d : Drm) (t : Tru) (w : World) (hl : d.Len) (ht : t.tn ≤ 9223372036854775807) (h : ¬ t.sized d) : Calls Tryz.prog 21 #[d.val, t.val] w fun e w' => e = .returned (.bool false) ∧ Below w.heap.size w w' :=
 (rsized_says d t w hl.la ht).mono fun _ _ hs => SaysB.of_no h hs
def Drm.shortP (d : Drm) : Prop := d.an ≤ 6 ∧ d.dn ≤ 15 ∧ d.sn ≤ 9 ∧ d.bn ≤ 7
theorem short_yes (d : Drm) (w : World) (h : d.shortP) : Calls Tryz.prog 15 #[d.val] w fun e w' => e = .returned (.bool true) ∧ Below w.heap.size w w' :=
 (short_says d w).mono fun _ _ hs => SaysB.of_yes h hs
theorem short_no (d : Drm) (w : World) (h : ¬ d.shortP) : Calls Tryz.prog 15 #[d.val] w fun e w' => e = .returned (.bool false) ∧ Below w.heap.size w w' :=
 (short_says d w).mono fun _ _ hs => SaysB.of_no h hs
end Go.Proofs.YtlhgkepdoinlnaaGreatDoor
