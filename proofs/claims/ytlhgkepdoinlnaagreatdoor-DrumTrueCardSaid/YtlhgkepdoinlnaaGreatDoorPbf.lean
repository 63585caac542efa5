/- A part of the proof: see the last file. -/
import Derived.Test.YtlhgkepdoinlnaaGreatDoorPas
import Derived.Test.YtlhgkepdoinlnaaGreatDoorPat
import Derived.Test.YtlhgkepdoinlnaaGreatDoorPau
import Derived.Test.YtlhgkepdoinlnaaGreatDoorPav
import Derived.Test.YtlhgkepdoinlnaaGreatDoorPaw
import Derived.Test.YtlhgkepdoinlnaaGreatDoorPax
import Derived.Test.YtlhgkepdoinlnaaGreatDoorPay
import Derived.Test.YtlhgkepdoinlnaaGreatDoorPaz
import Derived.Test.YtlhgkepdoinlnaaGreatDoorPba
import Derived.Test.YtlhgkepdoinlnaaGreatDoorPbb
import Derived.Test.YtlhgkepdoinlnaaGreatDoorPbc
import Derived.Test.YtlhgkepdoinlnaaGreatDoorPbd
import Derived.Test.YtlhgkepdoinlnaaGreatDoorPbe
import Derived.Test.YtlhgkepdoinlnaaGreatDoorPaa
import Derived.ProofKit
import Derived.LaidMore
import Derived.OpenShut
import Derived.Stop.Joined
import Derived.Deep.Slices
import Derived.Carry
import Derived.Test.YtlhgkepdoinlnaaGreatDoorPal
import Derived.Test.YtlhgkepdoinlnaaGreatDoorPam
import Derived.Lib.LazyBuf
import Derived.Test.YtlhgkepdoinlnaaGreatDoorPak
set_option linter.unusedVariables false
set_option linter.unusedSimpArgs false
set_option linter.unusedSectionVars false
namespace Go.Proofs.YtlhgkepdoinlnaaGreatDoor
open Go Go.Proofs Go.Can Go.RowKit
/-- the package-level variables hold what the text lays -/
structure KG (w : World) : Prop where
 g0 : ∃ e f, w.heap[5]? = some (.cells cells0.toArray e f)
 g1 : ∃ e f, w.heap[6]? = some (.cells cells1.toArray e f)
 g2 : ∃ e f, w.heap[4]? = some (.cells cells2.toArray e f)
 g3 : ∃ e f, w.heap[0]? = some (.cells cells3.toArray e f)
theorem KG.below {w w' : World} (h : KG w) (hb : Below w.heap.size w w') : KG w' := by
 have lt : ∀ {i : Nat} {o : Obj}, w.heap[i]? = some o → i < w.heap.size := fun h => (Array.getElem?_eq_some_iff.1 h).1
 obtain ⟨⟨e0, f0, h0⟩, ⟨e1, f1, h1⟩, ⟨e2, f2, h2⟩, ⟨e3, f3, h3⟩⟩ := h
 exact ⟨⟨e0, f0, by rw [hb.block _ (lt h0)]; exact h0⟩, ⟨e1, f1, by rw [hb.block _ (lt h1)]; exact h1⟩, ⟨e2, f2, by rw [hb.block _ (lt h2)]; exact h2⟩, ⟨e3, f3, by rw [hb.block _ (lt h3)]; exact h3⟩⟩
theorem KG.num {w : World} (h : KG w) : Glob.num ≤ w.heap.size := by
 obtain ⟨⟨e0, f0, h0⟩, ⟨e1, f1, h1⟩, ⟨e2, f2, h2⟩, ⟨e3, f3, h3⟩⟩ := h
 exact (Array.getElem?_eq_some_iff.1 h1).1
theorem known_ok (w : World) (h : KG w) : Calls Tryz.prog 16 #[] w fun e w' => e = .returned (.bool true) ∧ Below w.heap.size w w' := by
 have hn := h.num
 obtain ⟨⟨e0, f0, h0⟩, ⟨e1, f1, h1⟩, ⟨e2, f2, h2⟩, ⟨e3, f3, h3⟩⟩ := h
 refine runsM_true fair (ms := [memoF0, memoF1, memoF2, memoF3, memoF4, memoF5, memoF6, memoF7, memoF8, memoF9]) (fun m hm => ?_) (known_run e0 e1 e2 e3 f0 f1 f2 f3) w ⟨hn, fun g o hg => ?_⟩
 ·simp only [List.mem_cons, List.not_mem_nil, or_false] at hm
  rcases hm with rfl | rfl | rfl | rfl | rfl | rfl | rfl | rfl | rfl | rfl
  ·exact memoF0_ok
  ·exact memoF1_ok
  ·exact memoF2_ok
  ·exact memoF3_ok
  ·exact memoF4_ok
  ·exact memoF5_ok
  ·exact memoF6_ok
  ·exact memoF7_ok
  ·exact memoF8_ok
  ·exact memoF9_ok
 ·simp only [List.mem_cons, List.not_mem_nil, or_false, Prod.mk.injEq] at hg
  rcases hg with ⟨rfl, rfl⟩ | ⟨rfl, rfl⟩ | ⟨rfl, rfl⟩ | ⟨rfl, rfl⟩
  ·exact ⟨_, h0, .plain (by kernel_rfl)⟩
  ·exact ⟨_, h1, .plain (by kernel_rfl)⟩
  ·exact ⟨_, h2, .plain (by kernel_rfl)⟩
  ·exact ⟨_, h3, .plain (by kernel_rfl)⟩
end Go.Proofs.YtlhgkepdoinlnaaGreatDoor
namespace Go.Proofs.YtlhgkepdoinlnaaGreatDoor
open Go.ChangeShapes Go.WideShapes Go.ChangeAt Go.RowKit
/-! ### What the package-level variables hold -/
section
variable {H : Type} {enc : TypeId × Value → H} {P : Program} {w : World} {base : Nat} {spare : Nat → Bool} {held : Bool}
theorem arr_each {α : Type} {n fuel : Nat} {e t : TypeId} {cs : List Value} {p : List MemPlace} {l : List α} {D : α → DataW H} {V : α → Value} (ht : P.underlying t = some (.array n e)) (hc : P.cellsOf e = 1) (hct : P.cellsOf t = n)
  (hone : ∀ m v y a, DataW.trod enc P w base spare held m e [v] = some y → y.1 = D a → v = V a)
  (h : DataW.trod enc P w base spare held fuel t cs = some (.agg (l.map D), p)) : cs = l.map V := by
 obtain ⟨xs, m, _, hx, hlen, hn, hel⟩ := DataW.trod_array ht h
 simp only [Prod.mk.injEq, DataW.agg.injEq] at hx
 rw [hct] at hlen
 have hll : l.length = n := by
  have := congrArg List.length hx.1
  simp only [List.length_map] at this
  omega
 apply List.ext_getElem (by rw [List.length_map]; omega)
 intro i h1 h2
 rw [List.length_map] at h2
 have hi : i < n := by omega
 have h3 := hel i hi
 rw [hc, Nat.mul_one] at h3
 have h4 : (cs.drop i).take 1 = [cs[i]] := by
  rw [List.drop_eq_getElem_cons h1]; rfl
 rw [h4] at h3
 have h5 : xs[i]? = some (xs[i]'(by omega)) := List.getElem?_eq_getElem (by omega)
 have h6 : (xs[i]'(by omega)).1 = D (l[i]'h2) := by
  have h7 : (l.map D)[i]? = (xs.map (·.1))[i]? := by rw [hx.1]
  rw [List.getElem?_map, List.getElem?_map, h5, List.getElem?_eq_getElem h2] at h7
  simpa using h7.symm
 rw [List.getElem_map]
 exact hone m _ _ _ (h3.trans h5) h6
end
theorem block_of_var {P : Program} {w : World} {name : String} {cs : Array Value} {g : Nat} (hg : P.globalNamed name = some g) (h : w.var? P name = some cs) : ∃ e f, w.heap[g]? = some (.cells cs e f) := by
 unfold World.var? at h
 rw [hg] at h
 simp only [Option.bind_some] at h
 split at h
 ·next c e f hh => cases h; exact ⟨e, f, hh⟩
 ·cases h
theorem int_each {k : IntKind} {e : TypeId} {P : Program} {w : World} {base : Nat} {spare : Nat → Bool} {held : Bool} {H : Type} {enc : TypeId × Value → H} (he : P.underlying e = some (.int k)) :
  ∀ m v (y : DataW H × List MemPlace) a, DataW.trod enc P w base spare held m e [v] = some y → y.1 = .lit (.int k a) → v = .int k a := fun m v y a h h1 => by
 obtain ⟨n, e1, e2, _⟩ := DataW.trod_int he h
 rw [e2] at h1
 simp only [DataW.lit.injEq, Lit.int.injEq, true_and] at h1
 rw [List.cons.injEq] at e1
 rw [e1.1, h1]
theorem str_each {e : TypeId} {P : Program} {w : World} {base : Nat} {spare : Nat → Bool} {held : Bool} {H : Type} {enc : TypeId × Value → H} (he : P.underlying e = some .string) :
  ∀ m v (y : DataW H × List MemPlace) (a : ByteArray), DataW.trod enc P w base spare held m e [v] = some y → y.1 = .lit (.string a.data.toList) → v = .string a := fun m v y a h h1 => by
 obtain ⟨s, e1, e2, _⟩ := DataW.trod_string he h
 rw [e2] at h1
 simp only [DataW.lit.injEq, Lit.string.injEq] at h1
 rw [List.cons.injEq] at e1
 rw [e1.1]
 obtain ⟨s⟩ := s
 obtain ⟨a⟩ := a
 dsimp only at h1
 rw [Array.toList_inj.1 h1]
def list0 : List Int := [0, 1, 28, 2, 29, 14, 24, 3, 30, 22, 20, 15, 25, 17, 4, 8, 31, 27, 13, 23, 21, 19, 16, 7, 26, 12, 18, 6, 11, 5, 10, 9]
theorem gl0 : Tryz.prog.globalNamed "math/bits.deBruijn32tab" = some 5 := by kernel_rfl
theorem ty0 : (Tryz.prog.globals[5]?).map (·.type) = some 214 := by kernel_rfl
def list1 : List Int := [0, 1, 56, 2, 57, 49, 28, 3, 61, 58, 42, 50, 38, 29, 17, 4, 62, 47, 59, 36, 45, 43, 51, 22, 53, 39, 33, 30, 24, 18, 12, 5, 63, 55, 48, 27, 60, 41, 37, 16, 46, 35, 44, 21, 52, 32, 23, 11, 54, 26, 40, 15, 34, 20, 31, 10, 25, 14, 19, 9, 13, 8, 7, 6]
theorem gl1 : Tryz.prog.globalNamed "math/bits.deBruijn64tab" = some 6 := by kernel_rfl
theorem ty1 : (Tryz.prog.globals[6]?).map (·.type) = some 215 := by kernel_rfl
def list2 : List Int := [1, 10, 100, 1000, 10000, 100000, 1000000, 10000000, 100000000, 1000000000, 10000000000, 100000000000, 1000000000000, 10000000000000, 100000000000000, 1000000000000000, 10000000000000000, 100000000000000000, 1000000000000000000, 10000000000000000000]
theorem gl2 : Tryz.prog.globalNamed "internal/strconv.uint64pow10" = some 4 := by kernel_rfl
theorem ty2 : (Tryz.prog.globals[4]?).map (·.type) = some 210 := by kernel_rfl
def list3 : List ByteArray := [⟨#[100, 114, 117, 109, 32, 35, 32, 107, 110, 111, 119, 110, 32, 35]⟩, ⟨#[97, 99, 105, 100, 32, 35, 32, 35, 32, 102, 97, 108, 108, 32, 35, 32, 35]⟩, ⟨#[97, 100, 100]⟩, ⟨#[115, 116, 114, 105, 112, 32, 35, 32, 35, 32, 35]⟩, ⟨#[98, 97, 116, 99, 104, 32, 35, 32, 35, 32, 35, 32, 35, 32, 35, 32, 35]⟩, ⟨#[101, 110, 100]⟩]
theorem gl3 : Tryz.prog.globalNamed "nacre/drum.forms" = some 0 := by kernel_rfl
theorem ty3 : (Tryz.prog.globals[0]?).map (·.type) = some 179 := by kernel_rfl
theorem of_laid {W : World} (h : laidMetH Tryz.prog Rows.drumCouldsRow.laid W) : KG W := by
 rw [MakeChecks.laidMetH_plain _ _ _ (by kernel_rfl)] at h
 obtain ⟨ps, ⟨a0, t0, cs0, f0, p0, q0, hg0, ht0, hv0, hd0, ⟨a1, t1, cs1, f1, p1, q1, hg1, ht1, hv1, hd1, ⟨a2, t2, cs2, f2, p2, q2, hg2, ht2, hv2, hd2, ⟨_, _, _, _, _, _, _, _, _, _, ⟨a3, t3, cs3, f3, p3, q3, hg3, ht3, hv3, hd3, ⟨_, _, _, _, _, _, _, _, _, _, _, _⟩, _⟩, _⟩, _⟩, _⟩, _⟩, _, _⟩ := h
 obtain rfl := Option.some.inj (gl0.symm.trans hg0)
 obtain rfl := Option.some.inj (ty0.symm.trans ht0)
 obtain rfl := Option.some.inj (gl1.symm.trans hg1)
 obtain rfl := Option.some.inj (ty1.symm.trans ht1)
 obtain rfl := Option.some.inj (gl2.symm.trans hg2)
 obtain rfl := Option.some.inj (ty2.symm.trans ht2)
 obtain rfl := Option.some.inj (gl3.symm.trans hg3)
 obtain rfl := Option.some.inj (ty3.symm.trans ht3)
 have z0 := arr_each (l := list0) (V := Value.int .u8) (D := fun z => .lit (.int .u8 z)) (by kernel_rfl : Tryz.prog.underlying 214 = some (.array 32 5)) (by kernel_rfl) (by kernel_rfl) (int_each (by kernel_rfl : Tryz.prog.underlying 5 = some (.int .u8))) hd0
 have z1 := arr_each (l := list1) (V := Value.int .u8) (D := fun z => .lit (.int .u8 z)) (by kernel_rfl : Tryz.prog.underlying 215 = some (.array 64 5)) (by kernel_rfl) (by kernel_rfl) (int_each (by kernel_rfl : Tryz.prog.underlying 5 = some (.int .u8))) hd1
 have z2 := arr_each (l := list2) (V := Value.int .u64) (D := fun z => .lit (.int .u64 z)) (by kernel_rfl : Tryz.prog.underlying 210 = some (.array 20 194)) (by kernel_rfl) (by kernel_rfl) (int_each (by kernel_rfl : Tryz.prog.underlying 194 = some (.int .u64))) hd2
 have z3 := arr_each (l := list3) (V := Value.string) (D := fun z => .lit (.string z.data.toList)) (by kernel_rfl : Tryz.prog.underlying 179 = some (.array 6 9)) (by kernel_rfl) (by kernel_rfl) (str_each (by kernel_rfl : Tryz.prog.underlying 9 = some .string)) hd3
 have w0 : cs0 = cells0.toArray := Array.toList_inj.1 (by rw [z0]; rfl)
 have w1 : cs1 = cells1.toArray := Array.toList_inj.1 (by rw [z1]; rfl)
 have w2 : cs2 = cells2.toArray := Array.toList_inj.1 (by rw [z2]; rfl)
 have w3 : cs3 = cells3.toArray := Array.toList_inj.1 (by rw [z3]; rfl)
 subst w0
 subst w1
 subst w2
 subst w3
 exact ⟨block_of_var gl0 hv0, block_of_var gl1 hv1, block_of_var gl2 hv2, block_of_var gl3 hv3⟩
theorem own : ownKnob Tryz.prog.godebug = none := by kernel_rfl
theorem laidOut : laidOutB Tryz.prog = true := by kernel_rfl
end Go.Proofs.YtlhgkepdoinlnaaGreatDoor
namespace Go.Proofs.YtlhgkepdoinlnaaGreatDoor
open Go.RowKit Go.Gen Go.Drum
theorem could_rule (d : Drm) (w : World) (hd : DIn w d) (hl : d.Len) (hok : d.Ok) (hc : CouldTo d d.an []) : Calls Tryz.prog 19 #[d.val] w (ExRule w 7) :=
 could_err d 7 (.inr rfl) w hd fun W hB => examine_rule d W (hd.below hB) hl hok hc
/-- a list of numbers that is returned with no error. -/
def CoL (l : List Nat) (w : World) (e : Ending) (w' : World) : Prop := ∃ a c, e = .returned (.tuple #[.slice a l.length c, .int .i64 0]) ∧ KSl 1 w' (.slice a l.length c) l.length (natsF l) ∧ Below w.heap.size w w'
theorem could_yes (d : Drm) (l : List Nat) (hc : CouldTo d d.an l) (hne : l ≠ []) (w : World) (hd : DIn w d) (hl : d.Len) (hok : d.Ok) : Calls Tryz.prog 19 #[d.val] w (CoL l w) := by
 refine (could_ok d l hc w hd (fun W hB => examine_ok d W (hd.below hB) hl hok l hc hne) hok.acids.2).mono ?_
 rintro e w' ⟨v, B, rfl, hown, hb⟩
 have hks := ksl_of_row hown
 obtain ⟨a, c, rfl⟩ := ksl_slice hks
 exact ⟨a, c, rfl, hks, hb⟩
theorem fits_is (d : Drm) (i : Nat) (ta : Option Addr) (tc : Nat) (F : Nat → Nat → Int) (w : World) (hd : DIn w d) (hl : d.Len) (hok : d.Ok) (hi : i < d.an) (hF : KSl 1 w (.slice ta d.dn tc) d.dn F) (b : Bool) (hb : b = true ↔ d.fits i F) :
  Calls Tryz.prog 18 #[d.val, .agg #[.int .i64 i, .slice ta d.dn tc]] w fun e w' => e = .returned (.tuple #[.bool b, .int .i64 0]) ∧ Below w.heap.size w w' := by
 refine (fits_ok d i ta tc F w hd hl hok hi hF).mono ?_
 rintro e w' ⟨b', hb', rfl, hbl⟩
 obtain rfl : b' = b := by
  cases b <;> cases b' <;> simp_all
 exact ⟨rfl, hbl⟩
theorem ex_bool (P : Prop) : ∃ b : Bool, b = true ↔ P := by
 by_cases h : P
 ·exact ⟨true, by simp [h]⟩
 ·exact ⟨false, by simp [h]⟩
theorem rdrum_yes (d : Drm) (w : World) (hd : DIn w d) (hl : d.Len) (h : d.Ok) : Calls Tryz.prog 20 #[d.val] w fun e w' => e = .returned (.bool true) ∧ Below w.heap.size w w' :=
 (rdrum_says d w hd hl.la hl.ld hl.ls hl.lb).mono fun _ _ hs => SaysB.of_yes h hs
theorem rdrum_no (d : Drm) (w : World) (hd : DIn w d) (hl : d.Len) (h : ¬ d.Ok) : Calls Tryz.prog 20 #[d.val] w fun e w' => e = .returned (.bool false) ∧ Below w.heap.size w w' :=
 (rdrum_says d w hd hl.la hl.ld hl.ls hl.lb).mono fun _ _ hs => SaysB.of_no h hs
theorem rsized_yes (d : Drm) (t : Tru) (w : World) (hl : d.Len) (ht : t.tn ≤ 9223372036854775807) (h : t.sized d) : Calls Tryz.prog 21 #[d.val, t.val] w fun e w' => e = .returned (.bool true) ∧ Below w.heap.size w w' :=
 (rsized_says d t w hl.la ht).mono fun _ _ hs => SaysB.of_yes h hs
theorem rsized_no (d : Drm) (t : Tru) (w : World) (hl : d.Len) (ht : t.tn ≤ 9223372036854775807) (h : ¬ t.sized d) : Calls Tryz.prog 21 #[d.val, t.val] w fun e w' => e = .returned (.bool false) ∧ Below w.heap.size w w' :=
 (rsized_says d t w hl.la ht).mono fun _ _ hs => SaysB.of_no h hs
def Drm.shortP (d : Drm) : Prop := d.an ≤ 6 ∧ d.dn ≤ 15 ∧ d.sn ≤ 9 ∧ d.bn ≤ 7
theorem short_yes (d : Drm) (w : World) (h : d.shortP) : Calls Tryz.prog 15 #[d.val] w fun e w' => e = .returned (.bool true) ∧ Below w.heap.size w w' :=
 (short_says d w).mono fun _ _ hs => SaysB.of_yes h hs
theorem short_no (d : Drm) (w : World) (h : ¬ d.shortP) : Calls Tryz.prog 15 #[d.val] w fun e w' => e = .returned (.bool false) ∧ Below w.heap.size w w' :=
 (short_says d w).mono fun _ _ hs => SaysB.of_no h hs
end Go.Proofs.YtlhgkepdoinlnaaGreatDoor
namespace Go.Proofs.YtlhgkepdoinlnaaGreatDoor
open Go.RowKit Go.Gen Go.Drum
theorem crsL_cell {f : Nat → Int × Int} {w : World} {g n : Nat} (h : CAt w g n f) : ∀ j u, (crsL f n)[j]? = some u → w.cell? ⟨g, j, none⟩ = some u := by
 intro j u hu
 have hl := crsL_length f n
 have hj : j < 2 * n := by
  rw [← hl]
  exact (List.getElem?_eq_some_iff.1 hu).1
 obtain ⟨i, hi⟩ : ∃ i, j = i * 2 ∨ j = i * 2 + 1 := ⟨j / 2, by omega⟩
 have hin : i < n := by omega
 obtain ⟨a1, a2⟩ := crsL_at f n i hin
 obtain ⟨b1, b2⟩ := h.c i hin
 rcases hi with rfl | rfl
 ·rw [b1]; rw [a1] at hu; exact hu
 ·rw [b2]; rw [a2] at hu; exact hu
theorem crsL_one (f : Nat → Int × Int) : ∀ n, ∀ u ∈ crsL f n, u.oneCell' = true
 | 0, u, hu => by cases hu
 | n+1, u, hu => by
  unfold crsL at hu
  rcases List.mem_append.1 hu with h | h
  ·exact crsL_one f n u h
  ·exact two_one _ _ u h
set_option maxRecDepth 100000 in
set_option maxHeartbeats 1000000 in
theorem cloneS_any (g n cap : Nat) (f : Nat → Int × Int) (w : World) (hn : n ≤ 1000) (hrow : CAt w g n f) (hg : g < w.heap.size) :
  Calls Tryz.prog 70 #[.slice (some ⟨g, 0, none⟩) n cap] w fun e w' => ∃ v', e = .returned v' ∧ w'.ownsRow w.heap.size 47 2 v' n (crsL f n) ∧ Below w.heap.size w w' := by
 obtain ⟨i0, hi, hz0, hz1, hz2⟩ := info_parts Tryz.infoB
 have he : ∀ w, (binOp .eql 41 (.slice (some ⟨g, 0, none⟩) n cap) (.slice none 0 0)).run Tryz.prog w = .ok (.bool false) w := fun w => run_eql_slice_nil w 41 47 _ n cap Tryz.underlying41
 have hl : (crsL f n).length = n * 2 := by rw [crsL_length]; omega
 have hb1 : Below w.heap.size w (w.alloc (.cells #[] 47)) := (Below.refl _ _).alloc (Nat.le_refl _) _
 have hown : (w.alloc (.cells #[] 47)).ownsRow w.heap.size 47 2 (.slice (some ⟨w.heap.size, 0, none⟩) 0 0) 0 [] :=
  ⟨rfl, .inr ⟨w.heap.size, 0, #[], rfl, Nat.le_refl _, World.alloc_heap_new w _, Nat.le_refl _, by unfold maxLen; omega, rfl, rfl⟩⟩
 go_enter Tryz.func70, Tryz.ntmps70
 go_wp2_with (at_builtin; refine wpList_append_own _ rfl _ _ 41 rfl w.heap.size 47 i0 (.agg #[.int .i64 0, .int .i64 0]) 2 16 Tryz.underlying41 hi hz0 hz1 hz2 rfl (by decide) _ 0 [] rfl hown ⟨g, 0, none⟩ n cap (crsL f n) rfl hl ?c1 (crsL_one f n) ?c3 ?c4 ?c5 ?_)
 case c1 =>
  intro j u hu
  have : (⟨g, 0, none⟩ : Addr).add j = ⟨g, j, none⟩ := by simp [Addr.add]; omega
  rw [this, hb1.cell (p := ⟨g, j, none⟩) hg]
  exact crsL_cell hrow j u hu
 case c3 => unfold maxLen; omega
 case c4 => omega
 case c5 => simp
 intro v3 w3 hown3 hgrow _
 have hb3 : Below w.heap.size w w3 := hb1.grown hgrow hb1.size fun k hk => by
  have := (hown.lt k hk).1; exact this
 go_wp2
 go_ret
 exact ⟨_, rfl, hown3, hb3⟩
/-- a row that is this call's own. -/
structure SX (w1 : World) (gs n : Nat) (r : Nat → Int × Int) (W : World) : Prop where
 o : Below w1.heap.size w1 W
 row : CAt W gs n r
 lo : w1.heap.size ≤ gs
 lt : gs < W.heap.size
theorem SX.below {w1 : World} {gs n : Nat} {r : Nat → Int × Int} {W W' : World} (h : SX w1 gs n r W) (hb : Below W.heap.size W W') : SX w1 gs n r W' :=
 ⟨h.o.trans (hb.mono h.o.size), h.row.below hb h.lt, h.lo, Nat.lt_of_lt_of_le h.lt hb.size⟩
theorem SX.put {w1 : World} {gs n : Nat} {r : Nat → Int × Int} {W : World} (h : SX w1 gs n r W) (k : Nat) (hk : k < n) (x y : Int) :
  SX w1 gs n (fun j => if j = k then (x, y) else r j) ((W.setCell ⟨gs, k * 2, none⟩ (.int .i64 x)).setCell ⟨gs, k * 2 + 1, none⟩ (.int .i64 y)) :=
 ⟨(h.o.setCell (p := ⟨gs, k * 2, none⟩) h.lo _).setCell (p := ⟨gs, k * 2 + 1, none⟩) h.lo _, h.row.store k hk x y, h.lo, by rw [World.size_setCell, World.size_setCell]; exact h.lt⟩
structure SXT (w1 : World) (gs n : Nat) (r : Nat → Int × Int) (T : Nat) (s0 s1 : Int) (W : World) : Prop where
 x : SX w1 gs n r W
 s : Two W T s0 s1
 lt : T < W.heap.size
theorem SXT.below {w1 : World} {gs n : Nat} {r : Nat → Int × Int} {T : Nat} {s0 s1 : Int} {W W' : World} (h : SXT w1 gs n r T s0 s1 W) (hb : Below W.heap.size W W') : SXT w1 gs n r T s0 s1 W' :=
 ⟨h.x.below hb, h.s.below hb h.lt, Nat.lt_of_lt_of_le h.lt hb.size⟩
theorem SXT.drew {w1 : World} {gs n : Nat} {r : Nat → Int × Int} {T : Nat} {s0 s1 : Int} {W : World} (h : SXT w1 gs n r T s0 s1 W) : SXT w1 gs n r T s0 s1 W.drew := h.below (Below.refl _ _).drew
/-- the ends of an acid by its number. -/
def Drm.en (d : Drm) : Nat → Nat → Int × Int := fun j h => (d.acid j).ends d.dn h
/-- what Strength returns. -/
def StOk (d : Drm) (l : List Nat) (w : World) (e : Ending) (w' : World) : Prop :=
 ∃ g cap, e = .returned (.tuple #[.slice (some ⟨g, 0, none⟩) d.dn cap, .int .i64 0]) ∧ w.heap.size ≤ g ∧ g < w'.heap.size ∧ CAt w' g d.dn (hullTo d.en l) ∧ Below w.heap.size w w'
set_option maxRecDepth 100000 in
set_option maxHeartbeats 1000000 in
theorem strength_err (d : Drm) (er : Int) (hne : er = 2 ∨ er = 7) (w : World) (he : ∀ W, Below w.heap.size w W → Calls Tryz.prog 64 #[d.val, .bool true] W (ExRule W er)) :
  Calls Tryz.prog 25 #[d.val] w (ExRule w er) := by
 obtain ⟨W0, hW⟩ : ∃ W0, w.alloc (.cells #[.slice d.aa d.an d.ac, .int .i64 d.known, .int .i64 d.hours, .slice d.da d.dn d.dc, .slice d.sa d.sn d.sc, .slice d.ba d.bn d.bc] 27) = W0 := ⟨_, rfl⟩
 have hX : PoD w d W0 := by rw [← hW]; exact PoD.new w d
 obtain ⟨q0, q1, q2, q3, q4, q5⟩ := id hX.at'
 have hex := he W0 hX.old
 rcases hne with rfl | rfl
 all_goals
  go_enter Tryz.func25, Tryz.ntmps25
  go_wp2_with (go_at_call 64; (with_reducible refine hex.mono ?_); rintro e w1 ⟨rfl, hb⟩; replace hX := hX.below hb)
  go_ret2
  exact ⟨rfl, hX.old⟩
set_option maxRecDepth 100000 in
set_option maxHeartbeats 4000000 in
theorem strength_ok (d : Drm) (l : List Nat) (hl : CouldTo d d.an l) (w : World) (hd : DIn w d) (hok : d.Ok) (he : ∀ W, Below w.heap.size w W → Calls Tryz.prog 64 #[d.val, .bool true] W (ExOk d W)) :
  Calls Tryz.prog 25 #[d.val] w (StOk d l w) := by
 have hdn : 1 ≤ d.dn ∧ d.dn ≤ 12 := by have := hok.hours; have := hok.adds; omega
 obtain ⟨hdn1, hdn2⟩ := hdn
 have han := hok.acids
 obtain ⟨W0, hW⟩ : ∃ W0, w.alloc (.cells #[.slice d.aa d.an d.ac, .int .i64 d.known, .int .i64 d.hours, .slice d.da d.dn d.dc, .slice d.sa d.sn d.sc, .slice d.ba d.bn d.bc] 27) = W0 := ⟨_, rfl⟩
 have hX : PoD w d W0 := by rw [← hW]; exact PoD.new w d
 obtain ⟨q0, q1, q2, q3, q4, q5⟩ := id hX.at'
 have hex := he W0 hX.old
 -- what is found: at least one acid
 have hex2 : Calls Tryz.prog 64 #[d.val, .bool true] W0 fun e w' => ∃ (x0 : Ch) (xs : List Ch) (g cap : Nat), e = .returned (.tuple #[.slice (some ⟨g, 0, none⟩) (xs.length + 1 : Nat) cap, .int .i64 0]) ∧ xs.length + 1 ≤ cap ∧ (x0 :: xs).map Ch.acid = l ∧ ChIn d W0.heap.size (x0 :: xs) g w' ∧ Below W0.heap.size W0 w' := hex.mono fun e w' h => by
  obtain ⟨xs, g, cap, h1, h2, h3, h4, h5⟩ := h
  cases xs with
  | nil => simp at h2
  | cons x0 xs => exact ⟨x0, xs, g, cap, by simpa using h1, by simpa using h3, CouldTo.same h4.could hl, h4, h5⟩
 clear hex
 have hsm : ∀ j, j < d.an → (d.acid j).small d.dn := fun j hj => hok.small hj
 go_enter Tryz.func25, Tryz.ntmps25
 go_wp2_with (first
  | (go_at_call 64; (with_reducible refine hex2.mono ?_); rintro e w1 ⟨x0, xs, g, cap, rfl, hcap, hxl, hC, hb⟩; have e7 := (hC.cells 0 x0 rfl).k7; have hB0 := hX.old.trans (hb.mono hX.old.size); obtain ⟨⟨hr1, hr2⟩, hr3, hr4⟩ := hC.rows x0 (List.mem_cons_self ..); have hcl := cloneS_any x0.r d.dn x0.cap _ w1 (by omega) hr4 hr2; have hlen0 : (0 : Int) < ((xs.length : Nat) : Int) + 1 := (by omega); have hlen1 : 0 < xs.length + 1 := (by omega))
  | (go_at_call 70; (with_reducible refine hcl.mono ?_); rintro e w2 ⟨v2, rfl, hown, hb2⟩; obtain ⟨gs, cs, rfl, hgs1, hgs2⟩ := row_slice hown hdn1))
 ·have hx0 : xs.length = 0 := by omega
  have hSX : SX w1 gs d.dn (hullTo d.en (l.take 1)) w2 := ⟨hb2, (cat_of_row hown).congr fun j hj => by rw [← hxl]; rfl, hgs1, hgs2⟩
  have hll : l.take 1 = l := by rw [← hxl]; exact List.take_of_length_le (by rw [List.length_map, List.length_cons, hx0]; exact Nat.le_refl _)
  rw [hll] at hSX
  have hn : ¬ (0 : Int) < ((xs.length : Nat) : Int) := by omega
  clear hown e7 hr1 hr2 hr3 hr4 hcl q0 q1 q2 q3 q4 q5 hX hex2 hxl hll
  go_loopw [27] (fun i' wr => i' = .int .i64 0 ∧ wr = w2) (fun _ _ => 0)
  case atStart => exact ⟨rfl, rfl⟩
  case round =>
   obtain ⟨rfl, rfl⟩ := hrel
   have hbf := hB0.trans (hSX.o.mono hB0.size)
   have hlo := hSX.lo
   have hlt := hSX.lt
   have hrow := hSX.row
   have hsz := hB0.size
   clear hSX
   go_wp2
   exact bodyPost_ret (v := .tuple #[.slice (some ⟨gs, 0, none⟩) d.dn cs, .int .i64 0]) (by simp [results, Tryz.results25, go_sem]) rfl ⟨gs, cs, rfl, by omega, hlt, hrow, hbf⟩
 ·have hlen4 : xs.length + 1 ≤ 4 := by have := CouldTo.length_le hl; rw [← hxl] at this; simp at this; omega
  have hSX : SX w1 gs d.dn (hullTo d.en (l.take 1)) w2 := ⟨hb2, (cat_of_row hown).congr fun j hj => by rw [← hxl]; rfl, hgs1, hgs2⟩
  have hxlH : Hdn ((x0 :: xs).map Ch.acid = l) := ⟨hxl⟩
  clear hown e7 hr1 hr2 hr3 hr4 hcl q0 q1 q2 q3 q4 q5 hX hex2 hxl
  go_loopw [27] (fun i' wr => ∃ k : Nat, k ≤ xs.length ∧ i' = .int .i64 k ∧ SX w1 gs d.dn (hullTo d.en (l.take (k + 1))) wr) (fun i' _ => xs.length - (intOf i').toNat)
  case atStart => exact ⟨0, Nat.zero_le _, rfl, hSX⟩
  clear hSX
  case round =>
   obtain ⟨k, hk5, rfl, hS⟩ := hrel
   have hk6 : (0 : Int) ≤ (k : Int) := Int.natCast_nonneg _
   by_cases hlt : k < xs.length
   ·have hk7 : (k : Int) < (xs.length : Int) := by omega
    have hk77 : (k : Int) < 4 := by omega
    have hCw := hC.below hS.o
    obtain ⟨x, hx⟩ : ∃ x, xs[k]? = some x := ⟨_, List.getElem?_eq_getElem hlt⟩
    have hx' : (x0 :: xs)[k + 1]? = some x := by rw [List.getElem?_cons_succ]; exact hx
    have hcs := hCw.cells (k + 1) x hx'
    rw [show (k + 1) * 8 = 8 + k * 8 by omega] at hcs
    obtain ⟨e0, e1, e2, e3, e4, e5, e6, e7⟩ := hcs
    obtain ⟨⟨hr1, hr2⟩, hr3, hr4⟩ := hCw.rows x (List.mem_cons_of_mem _ (List.mem_of_getElem? hx))
    have hrw1 : x.r < w1.heap.size := (hC.rows x (List.mem_cons_of_mem _ (List.mem_of_getElem? hx))).1.2
    have htk : Hdn (l.take (k + 2) = l.take (k + 1) ++ [x.acid] ∧ l.take (k + 1) ≠ []) := ⟨by
     rw [← hxlH.out]
     refine ⟨?_, by simp⟩
     rw [List.take_add_one, List.getElem?_map, hx']; rfl⟩
    have hposs : Hdn ((d.acid x.acid).can d.dn) := ⟨((CouldTo.mem hl x.acid).1 (by rw [← hxlH.out]; exact List.mem_map.2 ⟨x, List.mem_of_getElem? hx', rfl⟩)).2.2⟩
    obtain ⟨W2, hW2⟩ : ∃ W, wr.alloc (.cells #[.slice d.aa d.an d.ac, .int .i64 d.known, .int .i64 d.hours, .slice d.da d.dn d.dc, .slice d.sa d.sn d.sc, .slice d.ba d.bn d.bc, .int .i64 x.acid, .slice (some ⟨x.r, 0, none⟩) d.dn x.cap] 97) = W := ⟨_, rfl⟩
    have p7 : W2.cell? ⟨wr.heap.size, 7, none⟩ = some (.slice (some ⟨x.r, 0, none⟩) d.dn x.cap) := by rw [← hW2]; exact cells_new wr _ _ rfl
    have hb2' : Below wr.heap.size wr W2 := by rw [← hW2]; exact (Below.refl _ _).alloc (Nat.le_refl _) _
    have hS2 := hS.below hb2'
    have hrow1 : CAt w1 x.r d.dn (d.en x.acid) := (hC.rows x (List.mem_cons_of_mem _ (List.mem_of_getElem? hx))).2.2
    clear hx hx' hCw hS hr1 hr2 hr4
    go_wp2_with fail
    clear e0 e1 e2 e3 e4 e5 e6 e7 p7 hW2 hb2'
    go_loopw [34] (fun i' V => ∃ m : Nat, m ≤ d.dn ∧ i' = .int .i64 m ∧ ∃ r, SX w1 gs d.dn r V ∧ Hdn (∀ j, j < m → r j = hullTo d.en (l.take (k + 2)) j) ∧ Hdn (∀ j, m ≤ j → r j = hullTo d.en (l.take (k + 1)) j)) (fun i' _ => d.dn - (intOf i').toNat)
    case atStart => exact ⟨0, Nat.zero_le _, rfl, _, hS2, ⟨fun _ h => absurd h (Nat.not_lt_zero _)⟩, ⟨fun _ _ => rfl⟩⟩
    clear hS2
    case round =>
     obtain ⟨m, hm5, rfl, r, hSm, hlo, hhi⟩ := hrel
     have hm6 : (0 : Int) ≤ (m : Int) := Int.natCast_nonneg _
     by_cases hm : m < d.dn
     ·have hm7 : (m : Int) < (d.dn : Int) := by omega
      have hm8 : (m : Int) < 12 := by omega
      obtain ⟨c0, c1⟩ := (hrow1.below hSm.o hrw1).c m hm
      obtain ⟨hes1, hes2, hes3⟩ := Acid.ends_small (hsm _ hr3) hposs.out hdn2 hm
      obtain ⟨E, hE⟩ : ∃ E, d.en x.acid m = E := ⟨_, rfl⟩
      have hE' : (d.acid x.acid).ends d.dn m = E := hE
      obtain ⟨A, hA⟩ : ∃ A, hullTo d.en (l.take (k + 1)) m = A := ⟨_, rfl⟩
      have hnew : Hdn (hullTo d.en (l.take (k + 2)) m = (min A.1 E.1, max A.2 E.2)) := ⟨by rw [htk.out.1, hullTo_push _ htk.out.2, hA, hE]⟩
      have hrm : Hdn (r m = A) := ⟨by rw [hhi.out m (Nat.le_refl _), hA]⟩
      rw [hE] at c0 c1
      rw [hE'] at hes1 hes2 hes3
      clear hE hE' hA
      obtain ⟨s0, s1⟩ := E
      obtain ⟨a0, a1⟩ := A
      (try dsimp only at c0 c1 hes1 hes2 hes3 hnew)
      have hre0 := fun W => reaching_any a0 a1 s0 W
      have hre1 := fun W => reaching_any (min a0 s0) (max a1 s0) s1 W
      rw [show min (min a0 s0) s1 = min a0 s0 by omega, show max (max a1 s0) s1 = max a1 s1 by omega] at hre1
      obtain ⟨b0, hb0⟩ : ∃ b, min a0 s0 = b := ⟨_, rfl⟩
      obtain ⟨b1, hb1⟩ : ∃ b, max a1 s0 = b := ⟨_, rfl⟩
      obtain ⟨b2, hb2x⟩ : ∃ b, max a1 s1 = b := ⟨_, rfl⟩
      rw [hb0, hb1] at hre0
      rw [hb0, hb1, hb2x] at hre1
      rw [hb0, hb2x] at hnew
      clear hb0 hb1 hb2x hes1 hes2 hes3
      obtain ⟨W5, hW5⟩ : ∃ W, wr.alloc (Obj.cells #[.int .i64 s0, .int .i64 s1] 47) = W := ⟨_, rfl⟩
      have hT : SXT w1 gs d.dn r wr.heap.size s0 s1 W5 := by
       rw [← hW5]
       exact ⟨hSm.below ((Below.refl _ _).alloc (Nat.le_refl _) _), Two.new wr _ _ _, by rw [World.size_alloc]; omega⟩
      clear hSm
      go_wp2_with fail
      refine wp_region_late [13] (fun _ => True) (fun w9 => SXT w1 gs d.dn r wr.heap.size s0 s1 w9) (by kernel_rfl) ?_ (fun hHeld => ?_)
      ·exact ⟨trivial, hT.drew⟩
      have hH := hHeld.2
      generalize W5.drew = V5 at hH hHeld ⊢
      refine tk1 0 rfl hHeld ?_
      refine tk1 1 rfl hHeld ?_
      refine tk1 2 rfl hHeld ?_
      refine tk1 3 rfl hHeld ?_
      refine tk1 4 rfl hHeld ?_
      refine tkT 5 1 rfl (waits_one [] (by kernel_rfl)) (by intro w9 hSw; have hS := hSw.2; clear hSw; (have hq := hS.x.row.c m hm; rw [hrm.out] at hq; have z := hq.1; have z1 := hq.2; clear hq; clear hS; go_simp) <;> with_reducible rfl) hHeld ?_
      refine tk1 6 rfl hHeld ?_
      refine tkT 7 1 rfl (waits_one [] (by kernel_rfl)) (by intro w9 hSw; have hS := hSw.2; clear hSw; (have z := hS.s.k0; clear hS; go_simp) <;> with_reducible rfl) hHeld ?_
      refine tk1 9 rfl hHeld ?_
      refine tkT 10 1 rfl (waits_one [] (by kernel_rfl)) (by intro w9 hSw; have hS := hSw.2; clear hSw; (have z := hS.s.k1; clear hS; go_simp) <;> with_reducible rfl) hHeld ?_
      refine rd1 8 rfl (fun K hK => ?_)
      go_simp
      (go_at_call 71; with_reducible refine (hre0 _).mono ?_; rintro e w3 ⟨rfl, hb3⟩)
      refine hK.out _ _ ?_ (fun hHeld => ?_)
      ·exact ⟨trivial, hH.below hb3⟩
      clear hK K hH
      have hH := hHeld.2
      (try simp only [Act.put, xpA, xpZ, xpS])
      refine rd1 11 rfl (fun K hK => ?_)
      go_simp
      (go_at_call 71; with_reducible refine (hre1 _).mono ?_; rintro e w4 ⟨rfl, hb4⟩)
      refine hK.out _ _ ?_ (fun hHeld => ?_)
      ·exact ⟨trivial, hH.below hb4⟩
      clear hK K hH
      have hH := hHeld.2
      (try simp only [Act.put, xpA, xpZ, xpS])
      refine tk1 12 rfl hHeld ?_
      refine rdL 13 rfl (fun K hK => ?_)
      have c0 := (hH.x.row.c m hm).1
      have c1 := (hH.x.row.c m hm).2
      have z0 := hH.x.row.z (m * 2)
      have z1 := hH.x.row.z (m * 2 + 1)
      go_simp
      clear c0 c1 z0 z1
      refine hK.out _ _ ?_ (fun _ => ?_)
      ·trivial
      clear hK K
      (try simp only [Act.put, xpA, xpZ, xpS])
      refine wpAnyP_done (by kernel_rfl) ?_ _
      (try simp only [Act.put, List.getElem_toArray, List.getElem_cons_zero, List.getElem_cons_succ, xpA, xpZ, xpS])
      have hQ := hH.x.put m hm b0 b2
      generalize (w4.setCell ⟨gs, m * 2, none⟩ (.int .i64 b0)).setCell ⟨gs, m * 2 + 1, none⟩ (.int .i64 b2) = W7 at hQ ⊢
      clear hH hT hre0 hre1 c0 c1
      go_wp2
      go_roundw
      case rel =>
       refine ⟨m + 1, by omega, by go_num, _, hQ, ⟨fun j hj => ?_⟩, ⟨fun j hj => ?_⟩⟩
       ·by_cases hjm : j = m
        ·rw [if_pos hjm, hjm, hnew.out]
        ·rw [if_neg hjm]; exact hlo.out j (by omega)
       ·rw [if_neg (by omega)]; exact hhi.out j (by omega)
      case measure => simp [intOf] <;> omega
     ·obtain rfl : m = d.dn := by omega
      have hm9 : ¬ (d.dn : Int) < (d.dn : Int) := by omega
      have hS3 : SX w1 gs d.dn (hullTo d.en (l.take (k + 1 + 1))) wr := ⟨hSm.o, hSm.row.congr fun j hj => hlo.out j hj, hSm.lo, hSm.lt⟩
      clear hSm hlo hhi
      go_wp2
      go_roundw
      case rel => exact ⟨k + 1, by omega, by go_num, hS3⟩
      case measure => simp [intOf] <;> omega
   ·obtain rfl : k = xs.length := by omega
    have hk8 : ¬ (xs.length : Int) < (xs.length : Int) := by omega
    have hll : l.take (xs.length + 1) = l := by rw [← hxlH.out]; exact List.take_of_length_le (by simp)
    rw [hll] at hS
    clear hll
    have hbf := hB0.trans (hS.o.mono hB0.size)
    have hlo := hS.lo
    have hlt := hS.lt
    have hrow := hS.row
    have hsz := hB0.size
    clear hS
    go_wp2
    exact bodyPost_ret (v := .tuple #[.slice (some ⟨gs, 0, none⟩) d.dn cs, .int .i64 0]) (by simp [results, Tryz.results25, go_sem]) rfl ⟨gs, cs, rfl, by omega, hlt, hrow, hbf⟩
end Go.Proofs.YtlhgkepdoinlnaaGreatDoor
namespace Go.Proofs.YtlhgkepdoinlnaaGreatDoor
open Go.RowKit Go.Gen Go.Drum
/-- the cells of a row of numbers. -/
def zL (x : Nat → Int) : Nat → List Value
 | 0 => []
 | n+1 => zL x n ++ [.int .i64 (x n)]
theorem zL_length (x : Nat → Int) : ∀ n, (zL x n).length = n
 | 0 => rfl
 | n+1 => by unfold zL; rw [List.length_append, zL_length x n]; rfl
theorem zL_at (x : Nat → Int) : ∀ n i, i < n → (zL x n)[i]? = some (.int .i64 (x i))
 | 0, i, h => absurd h (Nat.not_lt_zero i)
 | n+1, i, h => by
  have hl := zL_length x n
  unfold zL
  by_cases hi : i = n
  ·subst hi
   rw [List.getElem?_append_right (by omega), show i - (zL x i).length = 0 by omega]; rfl
  ·rw [List.getElem?_append_left (by omega)]; exact zL_at x n i (by omega)
theorem ksl_of_zrow {w : World} {B : Nat} {e : TypeId} {v : Value} {n : Nat} {x : Nat → Int} (h : w.ownsRow B e 1 v n (zL x n)) : KSl 1 w v n (fun i _ => x i) := by
 have h' := h
 obtain ⟨_, ⟨h1, h2⟩ | ⟨g, cap, cur, rfl, h2, h3, _⟩⟩ := h
 ·exact .inl ⟨none, 0, h1, h2⟩
 ·refine .inr ⟨g, 0, cap, rfl, (Array.getElem?_eq_some_iff.1 h3).1, fun i hi j hj => ?_⟩
  obtain rfl : j = 0 := by omega
  have hc := h'.cellAt i (by omega)
  rw [show 0 + i * 1 + 0 = i by omega, hc]
  exact zL_at x n i hi
theorem one_one (x : Int) : ∀ u ∈ [Value.int .i64 x], u.oneCell' = true := fun u hu => by
 rcases List.mem_cons.1 hu with rfl | hu
 ·rfl
 ·cases hu
/-- one end of a span. -/
def selE (b : Bool) (s : Int × Int) : Int := if b then s.2 else s.1
/-- a row of numbers that is returned. -/
def REn (x : Nat → Int) (n : Nat) (w : World) (e : Ending) (w' : World) : Prop := ∃ a c, e = .returned (.slice a n c) ∧ KSl 1 w' (.slice a n c) n (fun i _ => x i) ∧ Below w.heap.size w w'
set_option maxRecDepth 100000 in
set_option maxHeartbeats 4000000 in
theorem rends_any (g n cap : Nat) (f : Nat → Int × Int) (b : Bool) (w : World) (hn : n ≤ 12) (hrow : CAt w g n f) (hg : g < w.heap.size) :
  Calls Tryz.prog 29 #[.slice (some ⟨g, 0, none⟩) n cap, .bool b] w (REn (fun i => selE b (f i)) n w) := by
 obtain ⟨i0, hinf, hz0, hz1, hz2⟩ := info_parts Tryz.info3
 go_enter Tryz.func29, Tryz.ntmps29
 go_wp2_with fail
 go_loopw [5, 6] (fun u i' wr => ∃ k : Nat, k ≤ n ∧ i' = .int .i64 k ∧ Below w.heap.size w wr ∧ wr.ownsRow w.heap.size 3 1 u k (zL (fun i => selE b (f i)) k)) (fun _ i' _ => n - (intOf i').toNat)
 case atStart => exact ⟨0, Nat.zero_le _, rfl, Below.refl _ _, World.ownsRow_nil _ _ _ _⟩
 case round =>
  obtain ⟨k, hk5, rfl, hbl, hown⟩ := hrel
  have hk6 : (0 : Int) ≤ (k : Int) := Int.natCast_nonneg _
  by_cases hlt : k < n
  ·have hk7 : (k : Int) < (n : Int) := by omega
   have hk8 : (k : Int) < 12 := by omega
   obtain ⟨c0, c1⟩ := (hrow.below hbl hg).c k hlt
   obtain ⟨x, hx⟩ : ∃ x, selE b (f k) = x := ⟨_, rfl⟩
   have hpush : Hdn (zL (fun i => selE b (f i)) (k + 1) = zL (fun i => selE b (f i)) k ++ [.int .i64 x]) := ⟨by rw [← hx]; rfl⟩
   have hsz := hbl.size
   cases b with
   | false =>
    have hx : (f k).1 = x := hx
    rw [hx] at c0
    clear hx
    go_wp2_with (at_builtin; refine wpList_append_own _ rfl _ _ 23 rfl w.heap.size 3 i0 (.int .i64 0) 1 8 Tryz.underlying23 hinf hz0 hz1 hz2 rfl (by decide) _ _ _ rfl (hown.alloc _) ⟨wr.heap.size, 0, none⟩ 1 1 [.int .i64 x] rfl rfl (cells_one _ _ _) (one_one _) (by unfold maxLen; omega) (by omega) (by rw [World.size_alloc]; omega) ?_)
    intro v3 w3 hown3 hgrow _
    have hb3 : Below w.heap.size w w3 := (hbl.alloc hsz _).grown hgrow (by rw [World.size_alloc]; omega) (fun k hk => (hown.lt k hk).1)
    rw [← hpush.out] at hown3
    clear hgrow hown c0 c1
    go_wp2
    go_roundw
    case rel => exact ⟨k + 1, by omega, by go_num, hb3, hown3⟩
    case measure => simp [intOf]; omega
   | true =>
    have hx : (f k).2 = x := hx
    rw [hx] at c1
    clear hx
    go_wp2_with (at_builtin; refine wpList_append_own _ rfl _ _ 23 rfl w.heap.size 3 i0 (.int .i64 0) 1 8 Tryz.underlying23 hinf hz0 hz1 hz2 rfl (by decide) _ _ _ rfl (hown.alloc _) ⟨wr.heap.size, 0, none⟩ 1 1 [.int .i64 x] rfl rfl (cells_one _ _ _) (one_one _) (by unfold maxLen; omega) (by omega) (by rw [World.size_alloc]; omega) ?_)
    intro v3 w3 hown3 hgrow _
    have hb3 : Below w.heap.size w w3 := (hbl.alloc hsz _).grown hgrow (by rw [World.size_alloc]; omega) (fun k hk => (hown.lt k hk).1)
    rw [← hpush.out] at hown3
    clear hgrow hown c0 c1
    go_wp2
    go_roundw
    case rel => exact ⟨k + 1, by omega, by go_num, hb3, hown3⟩
    case measure => simp [intOf]; omega
  ·obtain rfl : k = n := by omega
   have hk9 : ¬ (k : Int) < (k : Int) := by omega
   have hks := ksl_of_zrow hown
   obtain ⟨a, c, rfl⟩ := ksl_slice hks
   clear hown
   go_wp2
   exact bodyPost_ret (v := .slice a _ c) (by simp [results, Tryz.results29, go_sem]) rfl ⟨_, _, rfl, hks, hbl⟩
set_option maxRecDepth 100000 in
set_option maxHeartbeats 4000000 in
theorem plain_yes (d : Drm) (g cap : Nat) (f : Nat → Int × Int) (w : World) (hok : d.Ok) (hrow0 : CAt w g d.dn f) (hg : g < w.heap.size) (hf : ∀ k, k < d.dn → 0 ≤ (f k).1 ∧ (f k).1 ≤ (f k).2 ∧ (f k).2 ≤ 1300) :
  Calls Tryz.prog 26 #[d.val, .slice (some ⟨g, 0, none⟩) d.dn cap] w fun e w' => e = .returned (.bool true) ∧ Below w.heap.size w w' := by
 obtain ⟨W0, hW⟩ : ∃ W0, w.alloc (.cells #[.slice d.aa d.an d.ac, .int .i64 d.known, .int .i64 d.hours, .slice d.da d.dn d.dc, .slice d.sa d.sn d.sc, .slice d.ba d.bn d.bc] 27) = W0 := ⟨_, rfl⟩
 have hX0 : PoD w d W0 := by rw [← hW]; exact PoD.new w d
 have hadds : Hdn ((d.dn : Int) = d.hours) := ⟨hok.adds⟩
 have hh := hok.hours
 obtain ⟨q0, q1, q2, q3, q4, q5⟩ := id hX0.at'
 go_enter Tryz.func26, Tryz.ntmps26
 go_wp2_with fail
 go_loopw [5] (fun i' wr => ∃ k : Nat, k ≤ d.dn ∧ i' = .int .i64 k ∧ PoD w d wr) (fun i' _ => d.dn - (intOf i').toNat)
 case atStart => exact ⟨0, Nat.zero_le _, rfl, hX0⟩
 clear hX0 q0 q1 q2 q3 q4 q5
 case round =>
  obtain ⟨k, hk5, rfl, hX⟩ := hrel
  have hk6 : (0 : Int) ≤ (k : Int) := Int.natCast_nonneg _
  by_cases hlt : k < d.dn
  ·have hk7 : (k : Int) < (d.dn : Int) := by omega
   have hk8 : (k : Int) < 12 := by have := hadds.out; omega
   obtain ⟨h1, h2, h3⟩ := hf k hlt
   obtain ⟨x, hx⟩ : ∃ x, f k = x := ⟨_, rfl⟩
   have hrow : ∀ W, Below w.heap.size w W → W.cell? ⟨g, k * 2, none⟩ = some (.int .i64 x.1) ∧ W.cell? ⟨g, k * 2 + 1, none⟩ = some (.int .i64 x.2) := fun W hB => by rw [← hx]; exact (hrow0.below hB hg).c k hlt
   rw [hx] at h1 h2 h3
   clear hx
   obtain ⟨x0, x1⟩ := x
   (try dsimp only at h1 h2 h3 hrow)
   have e1 : decide (x0 < 0) = false := decide_eq_false (by omega)
   have e2 : decide (x1 < x0) = false := decide_eq_false (by omega)
   have e3 : decide (1300 < x1) = false := decide_eq_false (by omega)
   go_wp2_with fail
   refine wp_region_late [] (fun w9 => PoD w d w9) (fun _ => True) (by kernel_rfl) ?_ (fun hHeld => ?_)
   ·exact ⟨hX.drew, trivial⟩
   have hH := hHeld.1
   generalize wr.drew = V5 at hH hHeld ⊢
   refine tk1 0 rfl hHeld ?_
   refine tk1 1 rfl hHeld ?_
   refine tk1 2 rfl hHeld ?_
   refine tk1 3 rfl hHeld ?_
   refine tk2 4 rfl (by intro w9 hSw; have hS := hSw; clear hSw; (have z := (hrow w9 hS.old).1; clear hS; go_simp) <;> with_reducible rfl) hHeld ?_
   refine tk1 5 rfl hHeld ?_
   refine tk1 6 rfl hHeld ?_
   refine tk3 7 rfl (by (intro w9 hSw; clear hSw; go_simp) <;> with_reducible rfl) hHeld ?_
   refine tk3 8 rfl (by (intro w9 hSw; clear hSw; go_simp) <;> with_reducible rfl) hHeld ?_
   refine tk3 9 rfl (by (intro w9 hSw; clear hSw; go_simp) <;> with_reducible rfl) hHeld ?_
   refine tk3 10 rfl (by (intro w9 hSw; clear hSw; go_simp) <;> with_reducible rfl) hHeld ?_
   refine tk3 11 rfl (by intro w9 hSw; have hS := hSw; clear hSw; (have z := (hrow w9 hS.old).1; clear hS; go_simp) <;> with_reducible rfl) hHeld ?_
   refine tk3 12 rfl (by (intro w9 hSw; clear hSw; go_simp) <;> with_reducible rfl) hHeld ?_
   refine tk3 13 rfl (by (intro w9 hSw; clear hSw; go_simp) <;> with_reducible rfl) hHeld ?_
   refine tk3 14 rfl (by (intro w9 hSw; clear hSw; go_simp) <;> with_reducible rfl) hHeld ?_
   refine tk3 15 rfl (by (intro w9 hSw; clear hSw; go_simp) <;> with_reducible rfl) hHeld ?_
   refine tk3 16 rfl (by intro w9 hSw; have hS := hSw; clear hSw; (have z := (hrow w9 hS.old).2; clear hS; go_simp) <;> with_reducible rfl) hHeld ?_
   refine tk3 17 rfl (by (intro w9 hSw; clear hSw; go_simp) <;> with_reducible rfl) hHeld ?_
   refine tk1 18 rfl hHeld ?_
   refine tk1 19 rfl hHeld ?_
   refine tk3 20 rfl (by (intro w9 hSw; clear hSw; go_simp) <;> with_reducible rfl) hHeld ?_
   refine tk3 21 rfl (by (intro w9 hSw; clear hSw; go_simp) <;> with_reducible rfl) hHeld ?_
   refine tk3 22 rfl (by (intro w9 hSw; clear hSw; go_simp) <;> with_reducible rfl) hHeld ?_
   refine tk3 23 rfl (by (intro w9 hSw; clear hSw; go_simp) <;> with_reducible rfl) hHeld ?_
   refine tk3 24 rfl (by intro w9 hSw; have hS := hSw; clear hSw; (have z := (hrow w9 hS.old).2; clear hS; go_simp) <;> with_reducible rfl) hHeld ?_
   refine tk3 25 rfl (by (intro w9 hSw; clear hSw; go_simp) <;> with_reducible rfl) hHeld ?_
   refine tk1 26 rfl hHeld ?_
   refine wpAnyP_done (by kernel_rfl) ?_ _
   (try simp only [Act.put, List.getElem_toArray, List.getElem_cons_zero, List.getElem_cons_succ, xpA, xpZ, xpS])
   go_wp2
   go_roundw
   case rel => exact ⟨k + 1, by omega, by go_num, hHeld.1⟩
   case measure => simp [intOf] <;> omega

  ·obtain rfl : k = d.dn := by omega
   have hk9 : ¬ (d.dn : Int) < (d.dn : Int) := by omega
   obtain ⟨q0, q1, q2, q3, q4, q5⟩ := id hX.at'
   have hO := hX.old
   have hq := hadds.out
   go_wp2
   go_ret
   exact ⟨by first | rfl | simp, hO⟩
def lstP (l : List Nat) (x : Int) : Prop := ∃ i, i < l.length ∧ natsF l i 0 = x
set_option maxRecDepth 100000 in
set_option maxHeartbeats 4000000 in
theorem listed_says (l : List Nat) (la : Option Addr) (lc : Nat) (x : Int) (w : World) (hl : l.length ≤ 4) (hrow : KSl 1 w (.slice la l.length lc) l.length (natsF l)) :
  Calls Tryz.prog 27 #[.slice la l.length lc, .int .i64 x] w (SaysB (lstP l x) w) := by
 go_enter Tryz.func27, Tryz.ntmps27
 go_wp2_with fail
 go_loopw [5] (fun i' wr => ∃ k : Nat, k ≤ l.length ∧ i' = .int .i64 k ∧ Below w.heap.size w wr ∧ Hdn (∀ j, j < k → natsF l j 0 ≠ x)) (fun i' _ => l.length - (intOf i').toNat)
 case atStart => exact ⟨0, Nat.zero_le _, rfl, Below.refl _ _, ⟨fun _ h => absurd h (Nat.not_lt_zero _)⟩⟩
 case round =>
  obtain ⟨k, hk5, rfl, hbl, hall⟩ := hrel
  have hk6 : (0 : Int) ≤ (k : Int) := Int.natCast_nonneg _
  by_cases hlt : k < l.length
  ·have hk7 : (k : Int) < (l.length : Int) := by omega
   have hk8 : (k : Int) < 4 := by omega
   obtain ⟨b, off, cap, e, hbl', hp⟩ := hrow.pos (by omega)
   obtain ⟨ea, ec⟩ : la = some ⟨b, off, none⟩ ∧ lc = cap := by injection e with e1 e2 e3; exact ⟨e1, e3⟩
   clear e
   have c0 := (hp.below hbl hbl').one hlt
   by_cases heq : natsF l k 0 = x
   ·have hyes : Hdn (lstP l x) := ⟨k, hlt, heq⟩
    rw [heq] at c0
    clear heq
    go_wp2
    go_ret
    exact SaysB.yes hyes.out hbl
   ·have hno : Hdn (natsF l k 0 ≠ x) := ⟨heq⟩
    obtain ⟨y, hy⟩ : ∃ y, natsF l k 0 = y := ⟨_, rfl⟩
    rw [hy] at c0 heq
    clear hy
    have hne : (y == x) = false := beq_false_of_ne heq
    go_wp2
    clear hne
    go_roundw
    case rel => exact ⟨k + 1, by omega, by go_num, hbl, ⟨all_succ (p := fun j => natsF l j 0 ≠ x) hall.out hno.out⟩⟩
    case measure => simp [intOf] <;> omega
  ·obtain rfl : k = l.length := by omega
   have hk9 : ¬ (l.length : Int) < (l.length : Int) := by omega
   have hno : Hdn (¬ lstP l x) := ⟨fun ⟨i, h1, h2⟩ => hall.out i h1 h2⟩
   go_wp2
   go_ret
   exact SaysB.no hno.out hbl
end Go.Proofs.YtlhgkepdoinlnaaGreatDoor
