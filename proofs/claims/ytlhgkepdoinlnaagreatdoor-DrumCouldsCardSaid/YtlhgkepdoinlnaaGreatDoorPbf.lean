/- A part of the proof: see the last file. -/
import Derived.Test.YtlhgkepdoinlnaaGreatDoorPas
import Derived.Test.YtlhgkepdoinlnaaGreatDoorPat
import Derived.Test.YtlhgkepdoinlnaaGreatDoorPau
import Derived.Test.YtlhgkepdoinlnaaGreatDoorPav
import Derived.Test.YtlhgkepdoinlnaaGreatDoorPaw
import Derived.Test.YtlhgkepdoinlnaaGreatDoorPax
import Derived.Test.YtlhgkepdoinlnaaGreatDoorPay
import Derived.Test.YtlhgkepdoinlnaaGreatDoorPaz
import Derived.Test.YtlhgkepdoinlnaaGreatDoorPba
import Derived.Test.YtlhgkepdoinlnaaGreatDoorPbb
import Derived.Test.YtlhgkepdoinlnaaGreatDoorPbc
import Derived.Test.YtlhgkepdoinlnaaGreatDoorPbd
import Derived.Test.YtlhgkepdoinlnaaGreatDoorPbe
import Derived.Test.YtlhgkepdoinlnaaGreatDoorPaa
import Derived.ProofKit
import Derived.LaidMore
import Derived.OpenShut
import Derived.Stop.Joined
import Derived.Deep.Slices
import Derived.Carry
import Derived.Test.YtlhgkepdoinlnaaGreatDoorPal
import Derived.Test.YtlhgkepdoinlnaaGreatDoorPam
set_option linter.unusedVariables false
set_option linter.unusedSimpArgs false
set_option linter.unusedSectionVars false
namespace Go.Proofs.YtlhgkepdoinlnaaGreatDoor
open Go Go.Proofs Go.Can Go.RowKit
/-- the package-level variables hold what the text lays -/
structure KG (w : World) : Prop where
 g0 : ∃ e f, w.heap[5]? = some (.cells cells0.toArray e f)
 g1 : ∃ e f, w.heap[6]? = some (.cells cells1.toArray e f)
 g2 : ∃ e f, w.heap[4]? = some (.cells cells2.toArray e f)
 g3 : ∃ e f, w.heap[0]? = some (.cells cells3.toArray e f)
theorem KG.below {w w' : World} (h : KG w) (hb : Below w.heap.size w w') : KG w' := by
 have lt : ∀ {i : Nat} {o : Obj}, w.heap[i]? = some o → i < w.heap.size := fun h => (Array.getElem?_eq_some_iff.1 h).1
 obtain ⟨⟨e0, f0, h0⟩, ⟨e1, f1, h1⟩, ⟨e2, f2, h2⟩, ⟨e3, f3, h3⟩⟩ := h
 exact ⟨⟨e0, f0, by rw [hb.block _ (lt h0)]; exact h0⟩, ⟨e1, f1, by rw [hb.block _ (lt h1)]; exact h1⟩, ⟨e2, f2, by rw [hb.block _ (lt h2)]; exact h2⟩, ⟨e3, f3, by rw [hb.block _ (lt h3)]; exact h3⟩⟩
theorem KG.num {w : World} (h : KG w) : Glob.num ≤ w.heap.size := by
 obtain ⟨⟨e0, f0, h0⟩, ⟨e1, f1, h1⟩, ⟨e2, f2, h2⟩, ⟨e3, f3, h3⟩⟩ := h
 exact (Array.getElem?_eq_some_iff.1 h1).1
theorem known_ok (w : World) (h : KG w) : Calls Tryz.prog 16 #[] w fun e w' => e = .returned (.bool true) ∧ Below w.heap.size w w' := by
 have hn := h.num
 obtain ⟨⟨e0, f0, h0⟩, ⟨e1, f1, h1⟩, ⟨e2, f2, h2⟩, ⟨e3, f3, h3⟩⟩ := h
 refine runsM_true fair (ms := [memoF0, memoF1, memoF2, memoF3, memoF4, memoF5, memoF6, memoF7, memoF8, memoF9]) (fun m hm => ?_) (known_run e0 e1 e2 e3 f0 f1 f2 f3) w ⟨hn, fun g o hg => ?_⟩
 ·simp only [List.mem_cons, List.not_mem_nil, or_false] at hm
  rcases hm with rfl | rfl | rfl | rfl | rfl | rfl | rfl | rfl | rfl | rfl
  ·exact memoF0_ok
  ·exact memoF1_ok
  ·exact memoF2_ok
  ·exact memoF3_ok
  ·exact memoF4_ok
  ·exact memoF5_ok
  ·exact memoF6_ok
  ·exact memoF7_ok
  ·exact memoF8_ok
  ·exact memoF9_ok
 ·simp only [List.mem_cons, List.not_mem_nil, or_false, Prod.mk.injEq] at hg
  rcases hg with ⟨rfl, rfl⟩ | ⟨rfl, rfl⟩ | ⟨rfl, rfl⟩ | ⟨rfl, rfl⟩
  ·exact ⟨_, h0, .plain (by kernel_rfl)⟩
  ·exact ⟨_, h1, .plain (by kernel_rfl)⟩
  ·exact ⟨_, h2, .plain (by kernel_rfl)⟩
  ·exact ⟨_, h3, .plain (by kernel_rfl)⟩
end Go.Proofs.YtlhgkepdoinlnaaGreatDoor
namespace Go.Proofs.YtlhgkepdoinlnaaGreatDoor
open Go.ChangeShapes Go.WideShapes Go.ChangeAt Go.RowKit
/-! ### What the package-level variables hold -/
section
variable {H : Type} {enc : TypeId × Value → H} {P : Program} {w : World} {base : Nat} {spare : Nat → Bool} {held : Bool}
theorem arr_each {α : Type} {n fuel : Nat} {e t : TypeId} {cs : List Value} {p : List MemPlace} {l : List α} {D : α → DataW H} {V : α → Value} (ht : P.underlying t = some (.array n e)) (hc : P.cellsOf e = 1) (hct : P.cellsOf t = n)
  (hone : ∀ m v y a, DataW.trod enc P w base spare held m e [v] = some y → y.1 = D a → v = V a)
  (h : DataW.trod enc P w base spare held fuel t cs = some (.agg (l.map D), p)) : cs = l.map V := by
 obtain ⟨xs, m, _, hx, hlen, hn, hel⟩ := DataW.trod_array ht h
 simp only [Prod.mk.injEq, DataW.agg.injEq] at hx
 rw [hct] at hlen
 have hll : l.length = n := by
  have := congrArg List.length hx.1
  simp only [List.length_map] at this
  omega
 apply List.ext_getElem (by rw [List.length_map]; omega)
 intro i h1 h2
 rw [List.length_map] at h2
 have hi : i < n := by omega
 have h3 := hel i hi
 rw [hc, Nat.mul_one] at h3
 have h4 : (cs.drop i).take 1 = [cs[i]] := by
  rw [List.drop_eq_getElem_cons h1]; rfl
 rw [h4] at h3
 have h5 : xs[i]? = some (xs[i]'(by omega)) := List.getElem?_eq_getElem (by omega)
 have h6 : (xs[i]'(by omega)).1 = D (l[i]'h2) := by
  have h7 : (l.map D)[i]? = (xs.map (·.1))[i]? := by rw [hx.1]
  rw [List.getElem?_map, List.getElem?_map, h5, List.getElem?_eq_getElem h2] at h7
  simpa using h7.symm
 rw [List.getElem_map]
 exact hone m _ _ _ (h3.trans h5) h6
end
theorem block_of_var {P : Program} {w : World} {name : String} {cs : Array Value} {g : Nat} (hg : P.globalNamed name = some g) (h : w.var? P name = some cs) : ∃ e f, w.heap[g]? = some (.cells cs e f) := by
 unfold World.var? at h
 rw [hg] at h
 simp only [Option.bind_some] at h
 split at h
 ·next c e f hh => cases h; exact ⟨e, f, hh⟩
 ·cases h
theorem int_each {k : IntKind} {e : TypeId} {P : Program} {w : World} {base : Nat} {spare : Nat → Bool} {held : Bool} {H : Type} {enc : TypeId × Value → H} (he : P.underlying e = some (.int k)) :
  ∀ m v (y : DataW H × List MemPlace) a, DataW.trod enc P w base spare held m e [v] = some y → y.1 = .lit (.int k a) → v = .int k a := fun m v y a h h1 => by
 obtain ⟨n, e1, e2, _⟩ := DataW.trod_int he h
 rw [e2] at h1
 simp only [DataW.lit.injEq, Lit.int.injEq, true_and] at h1
 rw [List.cons.injEq] at e1
 rw [e1.1, h1]
theorem str_each {e : TypeId} {P : Program} {w : World} {base : Nat} {spare : Nat → Bool} {held : Bool} {H : Type} {enc : TypeId × Value → H} (he : P.underlying e = some .string) :
  ∀ m v (y : DataW H × List MemPlace) (a : ByteArray), DataW.trod enc P w base spare held m e [v] = some y → y.1 = .lit (.string a.data.toList) → v = .string a := fun m v y a h h1 => by
 obtain ⟨s, e1, e2, _⟩ := DataW.trod_string he h
 rw [e2] at h1
 simp only [DataW.lit.injEq, Lit.string.injEq] at h1
 rw [List.cons.injEq] at e1
 rw [e1.1]
 obtain ⟨s⟩ := s
 obtain ⟨a⟩ := a
 dsimp only at h1
 rw [Array.toList_inj.1 h1]
def list0 : List Int := [0, 1, 28, 2, 29, 14, 24, 3, 30, 22, 20, 15, 25, 17, 4, 8, 31, 27, 13, 23, 21, 19, 16, 7, 26, 12, 18, 6, 11, 5, 10, 9]
theorem gl0 : Tryz.prog.globalNamed "math/bits.deBruijn32tab" = some 5 := by kernel_rfl
theorem ty0 : (Tryz.prog.globals[5]?).map (·.type) = some 214 := by kernel_rfl
def list1 : List Int := [0, 1, 56, 2, 57, 49, 28, 3, 61, 58, 42, 50, 38, 29, 17, 4, 62, 47, 59, 36, 45, 43, 51, 22, 53, 39, 33, 30, 24, 18, 12, 5, 63, 55, 48, 27, 60, 41, 37, 16, 46, 35, 44, 21, 52, 32, 23, 11, 54, 26, 40, 15, 34, 20, 31, 10, 25, 14, 19, 9, 13, 8, 7, 6]
theorem gl1 : Tryz.prog.globalNamed "math/bits.deBruijn64tab" = some 6 := by kernel_rfl
theorem ty1 : (Tryz.prog.globals[6]?).map (·.type) = some 215 := by kernel_rfl
def list2 : List Int := [1, 10, 100, 1000, 10000, 100000, 1000000, 10000000, 100000000, 1000000000, 10000000000, 100000000000, 1000000000000, 10000000000000, 100000000000000, 1000000000000000, 10000000000000000, 100000000000000000, 1000000000000000000, 10000000000000000000]
theorem gl2 : Tryz.prog.globalNamed "internal/strconv.uint64pow10" = some 4 := by kernel_rfl
theorem ty2 : (Tryz.prog.globals[4]?).map (·.type) = some 210 := by kernel_rfl
def list3 : List ByteArray := [⟨#[100, 114, 117, 109, 32, 35, 32, 107, 110, 111, 119, 110, 32, 35]⟩, ⟨#[97, 99, 105, 100, 32, 35, 32, 35, 32, 102, 97, 108, 108, 32, 35, 32, 35]⟩, ⟨#[97, 100, 100]⟩, ⟨#[115, 116, 114, 105, 112, 32, 35, 32, 35, 32, 35]⟩, ⟨#[98, 97, 116, 99, 104, 32, 35, 32, 35, 32, 35, 32, 35, 32, 35, 32, 35]⟩, ⟨#[101, 110, 100]⟩]
theorem gl3 : Tryz.prog.globalNamed "nacre/drum.forms" = some 0 := by kernel_rfl
theorem ty3 : (Tryz.prog.globals[0]?).map (·.type) = some 179 := by kernel_rfl
theorem of_laid {W : World} (h : laidMetH Tryz.prog Rows.drumCouldsRow.laid W) : KG W := by
 rw [MakeChecks.laidMetH_plain _ _ _ (by kernel_rfl)] at h
 obtain ⟨ps, ⟨a0, t0, cs0, f0, p0, q0, hg0, ht0, hv0, hd0, ⟨a1, t1, cs1, f1, p1, q1, hg1, ht1, hv1, hd1, ⟨a2, t2, cs2, f2, p2, q2, hg2, ht2, hv2, hd2, ⟨_, _, _, _, _, _, _, _, _, _, ⟨a3, t3, cs3, f3, p3, q3, hg3, ht3, hv3, hd3, ⟨_, _, _, _, _, _, _, _, _, _, _, _⟩, _⟩, _⟩, _⟩, _⟩, _⟩, _, _⟩ := h
 obtain rfl := Option.some.inj (gl0.symm.trans hg0)
 obtain rfl := Option.some.inj (ty0.symm.trans ht0)
 obtain rfl := Option.some.inj (gl1.symm.trans hg1)
 obtain rfl := Option.some.inj (ty1.symm.trans ht1)
 obtain rfl := Option.some.inj (gl2.symm.trans hg2)
 obtain rfl := Option.some.inj (ty2.symm.trans ht2)
 obtain rfl := Option.some.inj (gl3.symm.trans hg3)
 obtain rfl := Option.some.inj (ty3.symm.trans ht3)
 have z0 := arr_each (l := list0) (V := Value.int .u8) (D := fun z => .lit (.int .u8 z)) (by kernel_rfl : Tryz.prog.underlying 214 = some (.array 32 5)) (by kernel_rfl) (by kernel_rfl) (int_each (by kernel_rfl : Tryz.prog.underlying 5 = some (.int .u8))) hd0
 have z1 := arr_each (l := list1) (V := Value.int .u8) (D := fun z => .lit (.int .u8 z)) (by kernel_rfl : Tryz.prog.underlying 215 = some (.array 64 5)) (by kernel_rfl) (by kernel_rfl) (int_each (by kernel_rfl : Tryz.prog.underlying 5 = some (.int .u8))) hd1
 have z2 := arr_each (l := list2) (V := Value.int .u64) (D := fun z => .lit (.int .u64 z)) (by kernel_rfl : Tryz.prog.underlying 210 = some (.array 20 194)) (by kernel_rfl) (by kernel_rfl) (int_each (by kernel_rfl : Tryz.prog.underlying 194 = some (.int .u64))) hd2
 have z3 := arr_each (l := list3) (V := Value.string) (D := fun z => .lit (.string z.data.toList)) (by kernel_rfl : Tryz.prog.underlying 179 = some (.array 6 9)) (by kernel_rfl) (by kernel_rfl) (str_each (by kernel_rfl : Tryz.prog.underlying 9 = some .string)) hd3
 have w0 : cs0 = cells0.toArray := Array.toList_inj.1 (by rw [z0]; rfl)
 have w1 : cs1 = cells1.toArray := Array.toList_inj.1 (by rw [z1]; rfl)
 have w2 : cs2 = cells2.toArray := Array.toList_inj.1 (by rw [z2]; rfl)
 have w3 : cs3 = cells3.toArray := Array.toList_inj.1 (by rw [z3]; rfl)
 subst w0
 subst w1
 subst w2
 subst w3
 exact ⟨block_of_var gl0 hv0, block_of_var gl1 hv1, block_of_var gl2 hv2, block_of_var gl3 hv3⟩
theorem own : ownKnob Tryz.prog.godebug = none := by kernel_rfl
theorem laidOut : laidOutB Tryz.prog = true := by kernel_rfl
end Go.Proofs.YtlhgkepdoinlnaaGreatDoor
namespace Go.Proofs.YtlhgkepdoinlnaaGreatDoor
open Go.RowKit Go.Gen Go.Drum
theorem could_arg (d : Drm) (w : World) (hd : DIn w d) (hl : d.Len) (h : ¬ d.Ok) : Calls Tryz.prog 19 #[d.val] w (ExRule w 2) :=
 could_err d 2 (.inl rfl) w hd fun W hB => examine_arg d true W (hd.below hB) hl fun hh => h hh.1
theorem could_rule (d : Drm) (w : World) (hd : DIn w d) (hl : d.Len) (hok : d.Ok) (hc : CouldTo d d.an []) : Calls Tryz.prog 19 #[d.val] w (ExRule w 7) :=
 could_err d 7 (.inr rfl) w hd fun W hB => examine_rule d W (hd.below hB) hl hok hc
/-- a list of numbers that is returned with no error. -/
def CoL (l : List Nat) (w : World) (e : Ending) (w' : World) : Prop := ∃ a c, e = .returned (.tuple #[.slice a l.length c, .int .i64 0]) ∧ KSl 1 w' (.slice a l.length c) l.length (natsF l) ∧ Below w.heap.size w w'
theorem could_yes (d : Drm) (l : List Nat) (hc : CouldTo d d.an l) (hne : l ≠ []) (w : World) (hd : DIn w d) (hl : d.Len) (hok : d.Ok) : Calls Tryz.prog 19 #[d.val] w (CoL l w) := by
 refine (could_ok d l hc w hd (fun W hB => examine_ok d W (hd.below hB) hl hok l hc hne) hok.acids.2).mono ?_
 rintro e w' ⟨v, B, rfl, hown, hb⟩
 have hks := ksl_of_row hown
 obtain ⟨a, c, rfl⟩ := ksl_slice hks
 exact ⟨a, c, rfl, hks, hb⟩
theorem fits_is (d : Drm) (i : Nat) (ta : Option Addr) (tc : Nat) (F : Nat → Nat → Int) (w : World) (hd : DIn w d) (hl : d.Len) (hok : d.Ok) (hi : i < d.an) (hF : KSl 1 w (.slice ta d.dn tc) d.dn F) (b : Bool) (hb : b = true ↔ d.fits i F) :
  Calls Tryz.prog 18 #[d.val, .agg #[.int .i64 i, .slice ta d.dn tc]] w fun e w' => e = .returned (.tuple #[.bool b, .int .i64 0]) ∧ Below w.heap.size w w' := by
 refine (fits_ok d i ta tc F w hd hl hok hi hF).mono ?_
 rintro e w' ⟨b', hb', rfl, hbl⟩
 obtain rfl : b' = b := by
  cases b <;> cases b' <;> simp_all
 exact ⟨rfl, hbl⟩
theorem rfits_is (d : Drm) (i : Nat) (ta : Option Addr) (tc : Nat) (F : Nat → Nat → Int) (w : World) (hd : DIn w d) (hl : d.Len) (hok : d.Ok) (hi : i < d.an) (hF : KSl 1 w (.slice ta d.dn tc) d.dn F) (b : Bool) (hb : b = true ↔ d.fits i F) :
  Calls Tryz.prog 22 #[d.val, .agg #[.int .i64 i, .slice ta d.dn tc]] w fun e w' => e = .returned (.bool b) ∧ Below w.heap.size w w' := by
 refine (rfits_says d i ta tc F w hd hl hok hi hF).mono ?_
 rintro e w' ⟨b', hb', rfl, hbl⟩
 rw [rfits_iff d i F hok] at hb'
 obtain rfl : b' = b := by
  cases b <;> cases b' <;> simp_all
 exact ⟨rfl, hbl⟩
theorem ex_bool (P : Prop) : ∃ b : Bool, b = true ↔ P := by
 by_cases h : P
 ·exact ⟨true, by simp [h]⟩
 ·exact ⟨false, by simp [h]⟩
theorem rdrum_yes (d : Drm) (w : World) (hd : DIn w d) (hl : d.Len) (h : d.Ok) : Calls Tryz.prog 20 #[d.val] w fun e w' => e = .returned (.bool true) ∧ Below w.heap.size w w' :=
 (rdrum_says d w hd hl.la hl.ld hl.ls hl.lb).mono fun _ _ hs => SaysB.of_yes h hs
theorem rdrum_no (d : Drm) (w : World) (hd : DIn w d) (hl : d.Len) (h : ¬ d.Ok) : Calls Tryz.prog 20 #[d.val] w fun e w' => e = .returned (.bool false) ∧ Below w.heap.size w w' :=
 (rdrum_says d w hd hl.la hl.ld hl.ls hl.lb).mono fun _ _ hs => SaysB.of_no h hs
theorem rsized_yes (d : Drm) (t : Tru) (w : World) (hl : d.Len) (ht : t.tn ≤ 9223372036854775807) (h : t.sized d) : Calls Tryz.prog 21 #[d.val, t.val] w fun e w' => e = .returned (.bool true) ∧ Below w.heap.size w w' :=
 (rsized_says d t w hl.la ht).mono fun _ _ hs => SaysB.of_yes h hs
theorem rsized_no (d : Drm) (t : Tru) (w : World) (hl : d.Len) (ht : t.tn ≤ 9223372036854775807) (h : ¬ t.sized d) : Calls Tryz.prog 21 #[d.val, t.val] w fun e w' => e = .returned (.bool false) ∧ Below w.heap.size w w' :=
 (rsized_says d t w hl.la ht).mono fun _ _ hs => SaysB.of_no h hs
def Drm.shortP (d : Drm) : Prop := d.an ≤ 6 ∧ d.dn ≤ 15 ∧ d.sn ≤ 9 ∧ d.bn ≤ 7
theorem short_yes (d : Drm) (w : World) (h : d.shortP) : Calls Tryz.prog 15 #[d.val] w fun e w' => e = .returned (.bool true) ∧ Below w.heap.size w w' :=
 (short_says d w).mono fun _ _ hs => SaysB.of_yes h hs
theorem short_no (d : Drm) (w : World) (h : ¬ d.shortP) : Calls Tryz.prog 15 #[d.val] w fun e w' => e = .returned (.bool false) ∧ Below w.heap.size w w' :=
 (short_says d w).mono fun _ _ hs => SaysB.of_no h hs
theorem same_nats (l : List Nat) (aa : Option Addr) (ac : Nat) (ba : Option Addr) (bc : Nat) (w : World) (ha : KSl 1 w (.slice aa l.length ac) l.length (natsF l)) (hb : KSl 1 w (.slice ba l.length bc) l.length (natsF l)) (hl : l.length ≤ 4) :
  Calls Tryz.prog 24 #[.slice aa l.length ac, .slice ba l.length bc] w fun e w' => e = .returned (.bool true) ∧ Below w.heap.size w w' :=
 (same_says aa l.length ac (natsF l) ba l.length bc (natsF l) w ha hb (by omega)).mono fun _ _ hs => SaysB.of_yes ⟨rfl, fun _ _ => rfl⟩ hs
end Go.Proofs.YtlhgkepdoinlnaaGreatDoor
namespace Go.Proofs.YtlhgkepdoinlnaaGreatDoor
open Go.RowKit Go.Gen Go.Drum Go.Can
set_option maxRecDepth 100000 in
set_option maxHeartbeats 4000000 in
theorem coulds_long (d : Drm) (t : Tru) (w : World) (hk : KG w) (hl : d.Len) (ht : t.tn ≤ 9223372036854775807) (h : ¬ d.shortP ∨ (d.shortP ∧ 15 < t.tn)) :
  Calls Tryz.prog 3 #[d.val, t.val] w fun e w' => e = .returned (.bool true) ∧ Below w.heap.size w w' := by
 obtain ⟨W0, hW⟩ : ∃ W0, w.alloc (Obj.cells #[.slice d.aa d.an d.ac, .int .i64 d.known, .int .i64 d.hours, .slice d.da d.dn d.dc, .slice d.sa d.sn d.sc, .slice d.ba d.bn d.bc] 27) = W0 := ⟨_, rfl⟩
 have hX0 : PoD w d W0 := by rw [← hW]; exact PoD.new w d
 have hz : W0.heap.size = w.heap.size + 1 := by rw [← hW, World.size_alloc]
 obtain ⟨W1, hW1⟩ : ∃ W, W0.alloc (.cells #[.int .i64 t.acid, .slice t.ta t.tn t.tc] 29) = W := ⟨_, rfl⟩
 have hX : PoT w d t W1 := by rw [← hW1]; exact PoT.new w d t hX0 hz
 clear hX0
 obtain ⟨⟨⟨q0, q1, q2, q3, q4, q5⟩, _, _⟩, r0, r1, _⟩ := id hX
 (try dsimp only at r0 r1)
 rcases h with h | ⟨h, h15⟩
 ·have hsh := fun (W : World) => short_no d W h
  go_enter Tryz.func3, Tryz.ntmps3
  go_wp2_with (first
   | (go_at_call 15; (with_reducible refine (hsh _).mono ?_); rintro e w1 ⟨rfl, hb⟩; replace hX := hX.below hb; obtain ⟨⟨⟨q0, q1, q2, q3, q4, q5⟩, _, _⟩, r0, r1, _⟩ := id hX)
   | (go_at_call 16; refine (known_ok _ (hk.below hX.d.old)).mono ?_; rintro e w1 ⟨rfl, hb⟩; replace hX := hX.below hb))
  go_ret
  exact ⟨rfl, hX.d.old⟩
 ·have hsh := fun (W : World) => short_yes d W h
  have h16 : (15 : Int) < (t.tn : Int) := by omega
  go_enter Tryz.func3, Tryz.ntmps3
  go_wp2_with (first
   | (go_at_call 15; (with_reducible refine (hsh _).mono ?_); rintro e w1 ⟨rfl, hb⟩; replace hX := hX.below hb; obtain ⟨⟨⟨q0, q1, q2, q3, q4, q5⟩, _, _⟩, r0, r1, _⟩ := id hX)
   | (go_at_call 16; refine (known_ok _ (hk.below hX.d.old)).mono ?_; rintro e w1 ⟨rfl, hb⟩; replace hX := hX.below hb))
  go_ret
  exact ⟨rfl, hX.d.old⟩
set_option maxRecDepth 100000 in
set_option maxHeartbeats 4000000 in
theorem coulds_odd (d : Drm) (t : Tru) (w : World) (hk : KG w) (hd : DIn w d) (hl : d.Len) (hs : d.shortP) (ht : t.tn ≤ 15) (hok : ¬ d.Ok) :
  Calls Tryz.prog 3 #[d.val, t.val] w fun e w' => e = .returned (.bool true) ∧ Below w.heap.size w w' := by
 obtain ⟨W0, hW⟩ : ∃ W0, w.alloc (Obj.cells #[.slice d.aa d.an d.ac, .int .i64 d.known, .int .i64 d.hours, .slice d.da d.dn d.dc, .slice d.sa d.sn d.sc, .slice d.ba d.bn d.bc] 27) = W0 := ⟨_, rfl⟩
 have hX0 : PoD w d W0 := by rw [← hW]; exact PoD.new w d
 have hz : W0.heap.size = w.heap.size + 1 := by rw [← hW, World.size_alloc]
 obtain ⟨W1, hW1⟩ : ∃ W, W0.alloc (.cells #[.int .i64 t.acid, .slice t.ta t.tn t.tc] 29) = W := ⟨_, rfl⟩
 have hX : PoT w d t W1 := by rw [← hW1]; exact PoT.new w d t hX0 hz
 clear hX0
 obtain ⟨⟨⟨q0, q1, q2, q3, q4, q5⟩, _, _⟩, r0, r1, _⟩ := id hX
 (try dsimp only at r0 r1)
 have hsh := fun (W : World) => short_yes d W hs
 have h16 : ¬ (15 : Int) < (t.tn : Int) := by omega
 have hck := fun (W : World) (hB : Below w.heap.size w W) => check_no d W (hd.below hB) hl hok
 have hfi := fun (W : World) (hB : Below w.heap.size w W) => fits_arg d t W (hd.below hB) hl (fun h => hok h.1) (by omega)
 have hco := fun (W : World) (hB : Below w.heap.size w W) => could_arg d W (hd.below hB) hl hok
 have hrd := fun (W : World) (hB : Below w.heap.size w W) => rdrum_no d W (hd.below hB) hl hok
 go_enter Tryz.func3, Tryz.ntmps3
 go_wp2_with (first
  | (go_at_call 15; (with_reducible refine (hsh _).mono ?_); rintro e w1 ⟨rfl, hb⟩; replace hX := hX.below hb; obtain ⟨⟨⟨q0, q1, q2, q3, q4, q5⟩, _, _⟩, r0, r1, _⟩ := id hX)
  | (go_at_call 17; (with_reducible refine (hck _ hX.d.old).mono ?_); rintro e w1 ⟨rfl, hb⟩; replace hX := hX.below hb; obtain ⟨⟨⟨q0, q1, q2, q3, q4, q5⟩, _, _⟩, r0, r1, _⟩ := id hX)
  | (go_at_call 18; (with_reducible refine (hfi _ hX.d.old).mono ?_); rintro e w1 ⟨rfl, hb⟩; replace hX := hX.below hb; obtain ⟨⟨⟨q0, q1, q2, q3, q4, q5⟩, _, _⟩, r0, r1, _⟩ := id hX)
  | (go_at_call 19; (with_reducible refine (hco _ hX.d.old).mono ?_); rintro e w1 ⟨rfl, hb⟩; replace hX := hX.below hb; obtain ⟨⟨⟨q0, q1, q2, q3, q4, q5⟩, _, _⟩, r0, r1, _⟩ := id hX)
  | (go_at_call 20; (with_reducible refine (hrd _ hX.d.old).mono ?_); rintro e w1 ⟨rfl, hb⟩; replace hX := hX.below hb; obtain ⟨⟨⟨q0, q1, q2, q3, q4, q5⟩, _, _⟩, r0, r1, _⟩ := id hX)
  | (go_at_call 16; refine (known_ok _ (hk.below hX.d.old)).mono ?_; rintro e w1 ⟨rfl, hb⟩; replace hX := hX.below hb))
 go_ret
 exact ⟨rfl, hX.d.old⟩
set_option maxRecDepth 100000 in
set_option maxHeartbeats 4000000 in
theorem coulds_unfit (d : Drm) (t : Tru) (w : World) (hk : KG w) (hd : DIn w d) (hl : d.Len) (hs : d.shortP) (ht : t.tn ≤ 15) (hok : d.Ok) (hnz : ¬ t.sized d) :
  Calls Tryz.prog 3 #[d.val, t.val] w fun e w' => e = .returned (.bool true) ∧ Below w.heap.size w w' := by
 obtain ⟨W0, hW⟩ : ∃ W0, w.alloc (Obj.cells #[.slice d.aa d.an d.ac, .int .i64 d.known, .int .i64 d.hours, .slice d.da d.dn d.dc, .slice d.sa d.sn d.sc, .slice d.ba d.bn d.bc] 27) = W0 := ⟨_, rfl⟩
 have hX0 : PoD w d W0 := by rw [← hW]; exact PoD.new w d
 have hz : W0.heap.size = w.heap.size + 1 := by rw [← hW, World.size_alloc]
 obtain ⟨W1, hW1⟩ : ∃ W, W0.alloc (.cells #[.int .i64 t.acid, .slice t.ta t.tn t.tc] 29) = W := ⟨_, rfl⟩
 have hX : PoT w d t W1 := by rw [← hW1]; exact PoT.new w d t hX0 hz
 clear hX0
 obtain ⟨⟨⟨q0, q1, q2, q3, q4, q5⟩, _, _⟩, r0, r1, _⟩ := id hX
 (try dsimp only at r0 r1)
 have hsh := fun (W : World) => short_yes d W hs
 have h16 : ¬ (15 : Int) < (t.tn : Int) := by omega
 have hfi := fun (W : World) (hB : Below w.heap.size w W) => fits_arg d t W (hd.below hB) hl (fun h => hnz h.2) (by omega)
 have hrs := fun (W : World) => rsized_no d t W hl (by omega) hnz
 have hck := fun (W : World) (hB : Below w.heap.size w W) => check_yes d W (hd.below hB) hl hok
 have hrd := fun (W : World) (hB : Below w.heap.size w W) => rdrum_yes d W (hd.below hB) hl hok
 obtain ⟨l, hc⟩ := CouldTo.ex d d.an
 by_cases hnl : l = []
 ·subst hnl
  have hco := fun (W : World) (hB : Below w.heap.size w W) => could_rule d W (hd.below hB) hl hok hc
  have hrc := fun (W : World) (hB : Below w.heap.size w W) => rcould_any d [] hc W (hd.below hB) hok
  go_enter Tryz.func3, Tryz.ntmps3
  go_wp2_with (first
   | (go_at_call 15; (with_reducible refine (hsh _).mono ?_); rintro e w1 ⟨rfl, hb⟩; replace hX := hX.below hb; obtain ⟨⟨⟨q0, q1, q2, q3, q4, q5⟩, _, _⟩, r0, r1, _⟩ := id hX)
   | (go_at_call 17; (with_reducible refine (hck _ hX.d.old).mono ?_); rintro e w1 ⟨rfl, hb⟩; replace hX := hX.below hb; obtain ⟨⟨⟨q0, q1, q2, q3, q4, q5⟩, _, _⟩, r0, r1, _⟩ := id hX)
   | (go_at_call 19; (with_reducible refine (hco _ hX.d.old).mono ?_); rintro e w1 ⟨rfl, hb⟩; replace hX := hX.below hb; obtain ⟨⟨⟨q0, q1, q2, q3, q4, q5⟩, _, _⟩, r0, r1, _⟩ := id hX)
   | (go_at_call 18; (with_reducible refine (hfi _ hX.d.old).mono ?_); rintro e w1 ⟨rfl, hb⟩; replace hX := hX.below hb; obtain ⟨⟨⟨q0, q1, q2, q3, q4, q5⟩, _, _⟩, r0, r1, _⟩ := id hX)
   | (go_at_call 20; (with_reducible refine (hrd _ hX.d.old).mono ?_); rintro e w1 ⟨rfl, hb⟩; replace hX := hX.below hb; obtain ⟨⟨⟨q0, q1, q2, q3, q4, q5⟩, _, _⟩, r0, r1, _⟩ := id hX)
   | (go_at_call 21; (with_reducible refine (hrs _).mono ?_); rintro e w1 ⟨rfl, hb⟩; replace hX := hX.below hb; obtain ⟨⟨⟨q0, q1, q2, q3, q4, q5⟩, _, _⟩, r0, r1, _⟩ := id hX)
   | (go_at_call 22; (with_reducible refine (hrf _ hX.d.old).mono ?_); rintro e w1 ⟨rfl, hb⟩; replace hX := hX.below hb; obtain ⟨⟨⟨q0, q1, q2, q3, q4, q5⟩, _, _⟩, r0, r1, _⟩ := id hX)
   | (go_at_call 23; (with_reducible refine (hrc _ hX.d.old).mono ?_); rintro e w1 ⟨a, c, rfl, hks, hb⟩; replace hX := hX.below hb)
   | (go_at_call 16; refine (known_ok _ (hk.below hX.d.old)).mono ?_; rintro e w1 ⟨rfl, hb⟩; replace hX := hX.below hb))
  go_ret
  exact ⟨rfl, hX.d.old⟩
 ·have hco := fun (W : World) (hB : Below w.heap.size w W) => could_yes d l hc hnl W (hd.below hB) hl hok
  have hrc := fun (W : World) (hB : Below w.heap.size w W) => rcould_any d l hc W (hd.below hB) hok
  have hl4 : l.length ≤ 4 := by have := CouldTo.length_le hc; have := hok.acids; omega
  have hl0 : 0 < l.length := List.length_pos_iff.2 hnl
  have hl1 : ¬ (l.length : Int) = 0 := by omega
  go_enter Tryz.func3, Tryz.ntmps3
  go_wp2_with (first
   | (go_at_call 15; (with_reducible refine (hsh _).mono ?_); rintro e w1 ⟨rfl, hb⟩; replace hX := hX.below hb; obtain ⟨⟨⟨q0, q1, q2, q3, q4, q5⟩, _, _⟩, r0, r1, _⟩ := id hX)
   | (go_at_call 17; (with_reducible refine (hck _ hX.d.old).mono ?_); rintro e w1 ⟨rfl, hb⟩; replace hX := hX.below hb; obtain ⟨⟨⟨q0, q1, q2, q3, q4, q5⟩, _, _⟩, r0, r1, _⟩ := id hX)
   | (go_at_call 19; (with_reducible refine (hco _ hX.d.old).mono ?_); rintro e w1 ⟨a, c, rfl, hks, hb⟩; replace hX := hX.below hb; obtain ⟨⟨⟨q0, q1, q2, q3, q4, q5⟩, _, _⟩, r0, r1, _⟩ := id hX)
   | (go_at_call 18; (with_reducible refine (hfi _ hX.d.old).mono ?_); rintro e w1 ⟨rfl, hb⟩; replace hX := hX.below hb; obtain ⟨⟨⟨q0, q1, q2, q3, q4, q5⟩, _, _⟩, r0, r1, _⟩ := id hX)
   | (go_at_call 20; (with_reducible refine (hrd _ hX.d.old).mono ?_); rintro e w1 ⟨rfl, hb⟩; replace hX := hX.below hb; obtain ⟨⟨⟨q0, q1, q2, q3, q4, q5⟩, _, _⟩, r0, r1, _⟩ := id hX; replace hks := hks.below hb)
   | (go_at_call 21; (with_reducible refine (hrs _).mono ?_); rintro e w1 ⟨rfl, hb⟩; replace hX := hX.below hb; obtain ⟨⟨⟨q0, q1, q2, q3, q4, q5⟩, _, _⟩, r0, r1, _⟩ := id hX; replace hks := hks.below hb)
   | (go_at_call 22; (with_reducible refine (hrf _ hX.d.old).mono ?_); rintro e w1 ⟨rfl, hb⟩; replace hX := hX.below hb; obtain ⟨⟨⟨q0, q1, q2, q3, q4, q5⟩, _, _⟩, r0, r1, _⟩ := id hX; replace hks := hks.below hb)
   | (go_at_call 23; (with_reducible refine (hrc _ hX.d.old).mono ?_); rintro e w1 ⟨a', c', rfl, hks', hb⟩; replace hks := hks.below hb; replace hX := hX.below hb)
   | (go_at_call 24; (with_reducible refine (same_nats l _ _ _ _ _ hks hks' hl4).mono ?_); rintro e w1 ⟨rfl, hb⟩; replace hX := hX.below hb)
   | (go_at_call 16; refine (known_ok _ (hk.below hX.d.old)).mono ?_; rintro e w1 ⟨rfl, hb⟩; replace hX := hX.below hb))
  go_ret
  exact ⟨rfl, hX.d.old⟩
set_option maxRecDepth 100000 in
set_option maxHeartbeats 4000000 in
theorem coulds_fit (d : Drm) (i : Nat) (ta : Option Addr) (tc : Nat) (F : Nat → Nat → Int) (w : World) (hk : KG w) (hd : DIn w d) (hl : d.Len) (hs : d.shortP) (hok : d.Ok) (hi : i < d.an) (hF : KSl 1 w (.slice ta d.dn tc) d.dn F) :
  Calls Tryz.prog 3 #[d.val, .agg #[.int .i64 i, .slice ta d.dn tc]] w fun e w' => e = .returned (.bool true) ∧ Below w.heap.size w w' := by
 obtain ⟨W0, hW⟩ : ∃ W0, w.alloc (Obj.cells #[.slice d.aa d.an d.ac, .int .i64 d.known, .int .i64 d.hours, .slice d.da d.dn d.dc, .slice d.sa d.sn d.sc, .slice d.ba d.bn d.bc] 27) = W0 := ⟨_, rfl⟩
 have hX0 : PoD w d W0 := by rw [← hW]; exact PoD.new w d
 have hz : W0.heap.size = w.heap.size + 1 := by rw [← hW, World.size_alloc]
 obtain ⟨W1, hW1⟩ : ∃ W, W0.alloc (.cells #[.int .i64 i, .slice ta d.dn tc] 29) = W := ⟨_, rfl⟩
 have hX : PoT w d ⟨i, ta, d.dn, tc, F⟩ W1 := by rw [← hW1]; exact PoT.new w d ⟨i, ta, d.dn, tc, F⟩ hX0 hz
 clear hX0
 obtain ⟨⟨⟨q0, q1, q2, q3, q4, q5⟩, _, _⟩, r0, r1, _⟩ := id hX
 (try dsimp only at r0 r1)
 have hsh := fun (W : World) => short_yes d W hs
 have h16 : ¬ (15 : Int) < (d.dn : Int) := by have := hs.2.1; omega
 obtain ⟨b, hb⟩ := ex_bool (d.fits i F)
 have hfi := fun (W : World) (hB : Below w.heap.size w W) => fits_is d i ta tc F W (hd.below hB) hl hok hi (hF.below hB) b hb
 have hrf := fun (W : World) (hB : Below w.heap.size w W) => rfits_is d i ta tc F W (hd.below hB) hl hok hi (hF.below hB) b hb
 have hrs := fun (W : World) => rsized_yes d ⟨i, ta, d.dn, tc, F⟩ W hl (by show d.dn ≤ _; exact hl.ld) ⟨⟨Int.natCast_nonneg _, by show (i : Int) ≤ _; omega⟩, hok.adds⟩
 have hrs : ∀ W : World, Calls Tryz.prog 21 #[d.val, .agg #[.int .i64 i, .slice ta d.dn tc]] W fun e w' => e = .returned (.bool true) ∧ Below W.heap.size W w' := hrs
 clear hb
 have hck := fun (W : World) (hB : Below w.heap.size w W) => check_yes d W (hd.below hB) hl hok
 have hrd := fun (W : World) (hB : Below w.heap.size w W) => rdrum_yes d W (hd.below hB) hl hok
 obtain ⟨l, hc⟩ := CouldTo.ex d d.an
 by_cases hnl : l = []
 ·subst hnl
  have hco := fun (W : World) (hB : Below w.heap.size w W) => could_rule d W (hd.below hB) hl hok hc
  have hrc := fun (W : World) (hB : Below w.heap.size w W) => rcould_any d [] hc W (hd.below hB) hok
  go_enter Tryz.func3, Tryz.ntmps3
  go_wp2_with (first
   | (go_at_call 15; (with_reducible refine (hsh _).mono ?_); rintro e w1 ⟨rfl, hb⟩; replace hX := hX.below hb; obtain ⟨⟨⟨q0, q1, q2, q3, q4, q5⟩, _, _⟩, r0, r1, _⟩ := id hX)
   | (go_at_call 17; (with_reducible refine (hck _ hX.d.old).mono ?_); rintro e w1 ⟨rfl, hb⟩; replace hX := hX.below hb; obtain ⟨⟨⟨q0, q1, q2, q3, q4, q5⟩, _, _⟩, r0, r1, _⟩ := id hX)
   | (go_at_call 19; (with_reducible refine (hco _ hX.d.old).mono ?_); rintro e w1 ⟨rfl, hb⟩; replace hX := hX.below hb; obtain ⟨⟨⟨q0, q1, q2, q3, q4, q5⟩, _, _⟩, r0, r1, _⟩ := id hX)
   | (go_at_call 18; (with_reducible refine (hfi _ hX.d.old).mono ?_); rintro e w1 ⟨rfl, hb⟩; replace hX := hX.below hb; obtain ⟨⟨⟨q0, q1, q2, q3, q4, q5⟩, _, _⟩, r0, r1, _⟩ := id hX)
   | (go_at_call 20; (with_reducible refine (hrd _ hX.d.old).mono ?_); rintro e w1 ⟨rfl, hb⟩; replace hX := hX.below hb; obtain ⟨⟨⟨q0, q1, q2, q3, q4, q5⟩, _, _⟩, r0, r1, _⟩ := id hX)
   | (go_at_call 21; (with_reducible refine (hrs _).mono ?_); rintro e w1 ⟨rfl, hb⟩; replace hX := hX.below hb; obtain ⟨⟨⟨q0, q1, q2, q3, q4, q5⟩, _, _⟩, r0, r1, _⟩ := id hX)
   | (go_at_call 22; (with_reducible refine (hrf _ hX.d.old).mono ?_); rintro e w1 ⟨rfl, hb⟩; replace hX := hX.below hb; obtain ⟨⟨⟨q0, q1, q2, q3, q4, q5⟩, _, _⟩, r0, r1, _⟩ := id hX)
   | (go_at_call 23; (with_reducible refine (hrc _ hX.d.old).mono ?_); rintro e w1 ⟨a, c, rfl, hks, hb⟩; replace hX := hX.below hb)
   | (go_at_call 16; refine (known_ok _ (hk.below hX.d.old)).mono ?_; rintro e w1 ⟨rfl, hb⟩; replace hX := hX.below hb))
  go_ret
  exact ⟨rfl, hX.d.old⟩
 ·have hco := fun (W : World) (hB : Below w.heap.size w W) => could_yes d l hc hnl W (hd.below hB) hl hok
  have hrc := fun (W : World) (hB : Below w.heap.size w W) => rcould_any d l hc W (hd.below hB) hok
  have hl4 : l.length ≤ 4 := by have := CouldTo.length_le hc; have := hok.acids; omega
  have hl0 : 0 < l.length := List.length_pos_iff.2 hnl
  have hl1 : ¬ (l.length : Int) = 0 := by omega
  go_enter Tryz.func3, Tryz.ntmps3
  go_wp2_with (first
   | (go_at_call 15; (with_reducible refine (hsh _).mono ?_); rintro e w1 ⟨rfl, hb⟩; replace hX := hX.below hb; obtain ⟨⟨⟨q0, q1, q2, q3, q4, q5⟩, _, _⟩, r0, r1, _⟩ := id hX)
   | (go_at_call 17; (with_reducible refine (hck _ hX.d.old).mono ?_); rintro e w1 ⟨rfl, hb⟩; replace hX := hX.below hb; obtain ⟨⟨⟨q0, q1, q2, q3, q4, q5⟩, _, _⟩, r0, r1, _⟩ := id hX)
   | (go_at_call 19; (with_reducible refine (hco _ hX.d.old).mono ?_); rintro e w1 ⟨a, c, rfl, hks, hb⟩; replace hX := hX.below hb; obtain ⟨⟨⟨q0, q1, q2, q3, q4, q5⟩, _, _⟩, r0, r1, _⟩ := id hX)
   | (go_at_call 18; (with_reducible refine (hfi _ hX.d.old).mono ?_); rintro e w1 ⟨rfl, hb⟩; replace hX := hX.below hb; obtain ⟨⟨⟨q0, q1, q2, q3, q4, q5⟩, _, _⟩, r0, r1, _⟩ := id hX)
   | (go_at_call 20; (with_reducible refine (hrd _ hX.d.old).mono ?_); rintro e w1 ⟨rfl, hb⟩; replace hX := hX.below hb; obtain ⟨⟨⟨q0, q1, q2, q3, q4, q5⟩, _, _⟩, r0, r1, _⟩ := id hX; replace hks := hks.below hb)
   | (go_at_call 21; (with_reducible refine (hrs _).mono ?_); rintro e w1 ⟨rfl, hb⟩; replace hX := hX.below hb; obtain ⟨⟨⟨q0, q1, q2, q3, q4, q5⟩, _, _⟩, r0, r1, _⟩ := id hX; replace hks := hks.below hb)
   | (go_at_call 22; (with_reducible refine (hrf _ hX.d.old).mono ?_); rintro e w1 ⟨rfl, hb⟩; replace hX := hX.below hb; obtain ⟨⟨⟨q0, q1, q2, q3, q4, q5⟩, _, _⟩, r0, r1, _⟩ := id hX; replace hks := hks.below hb)
   | (go_at_call 23; (with_reducible refine (hrc _ hX.d.old).mono ?_); rintro e w1 ⟨a', c', rfl, hks', hb⟩; replace hks := hks.below hb; replace hX := hX.below hb)
   | (go_at_call 24; (with_reducible refine (same_nats l _ _ _ _ _ hks hks' hl4).mono ?_); rintro e w1 ⟨rfl, hb⟩; replace hX := hX.below hb)
   | (go_at_call 16; refine (known_ok _ (hk.below hX.d.old)).mono ?_; rintro e w1 ⟨rfl, hb⟩; replace hX := hX.below hb))
  go_ret
  exact ⟨rfl, hX.d.old⟩
theorem coulds_all {d : Drm} {t : Tru} {w : World} (hk : KG w) (hd : DIn w d) (hl : d.Len) (ht : t.tn ≤ 9223372036854775807) (hF : KSl 1 w (.slice t.ta t.tn t.tc) t.tn t.F) :
  Calls Tryz.prog 3 #[d.val, t.val] w fun e w' => e = .returned (.bool true) ∧ Below w.heap.size w w' := by
 by_cases hs : d.shortP
 ·by_cases h15 : 15 < t.tn
  ·exact coulds_long d t w hk hl ht (.inr ⟨hs, h15⟩)
  ·by_cases hok : d.Ok
   ·by_cases hz : t.sized d
    ·obtain ⟨acid, ta, tn, tc, F⟩ := t
     obtain ⟨⟨h1, h2⟩, h3⟩ := hz
     (try dsimp only at h1 h2 h3 hF)
     obtain ⟨i, rfl⟩ : ∃ i : Nat, acid = (i : Int) := ⟨acid.toNat, by omega⟩
     obtain rfl : tn = d.dn := by have := hok.adds; omega
     exact coulds_fit d i ta tc F w hk hd hl hs hok (by omega) hF
    ·exact coulds_unfit d t w hk hd hl hs (by omega) hok hz
   ·exact coulds_odd d t w hk hd hl hs (by omega) hok
 ·exact coulds_long d t w hk hl ht (.inl hs)
end Go.Proofs.YtlhgkepdoinlnaaGreatDoor
namespace Go.Proofs.YtlhgkepdoinlnaaGreatDoor
open Go.ChangeShapes Go.WideShapes Go.ChangeAt Go.RowKit Go.Deep Go.Gen
theorem ints_int : IntsOf Tryz.prog 3 1 := IntsOf.int (by kernel_rfl) Tryz.underlying3
theorem ints_span : IntsOf Tryz.prog 47 2 := IntsOf.struct (by kernel_rfl) Tryz.underlying47 fun j hj => by
 match j, hj with
 | 0, _ => exact ⟨0, _, 1, rfl, by decide, by decide, by decide, ints_int⟩
 | 1, _ => exact ⟨1, _, 1, rfl, by decide, by decide, by decide, ints_int⟩
theorem ints_DrumAcid : IntsOf Tryz.prog 106 4 := IntsOf.struct (by kernel_rfl) Tryz.underlying106 fun j hj => by
 match j, hj with
 | 0, _ => exact ⟨0, _, 2, rfl, by decide, by decide, by decide, ints_span⟩
 | 1, _ => exact ⟨0, _, 2, rfl, by decide, by decide, by decide, ints_span⟩
 | 2, _ => exact ⟨1, _, 2, rfl, by decide, by decide, by decide, ints_span⟩
 | 3, _ => exact ⟨1, _, 2, rfl, by decide, by decide, by decide, ints_span⟩
theorem ints_DrumStrip : IntsOf Tryz.prog 60 3 := IntsOf.struct (by kernel_rfl) Tryz.underlying60 fun j hj => by
 match j, hj with
 | 0, _ => exact ⟨0, _, 1, rfl, by decide, by decide, by decide, ints_int⟩
 | 1, _ => exact ⟨1, _, 1, rfl, by decide, by decide, by decide, ints_int⟩
 | 2, _ => exact ⟨2, _, 1, rfl, by decide, by decide, by decide, ints_int⟩
theorem ints_DrumBatch : IntsOf Tryz.prog 79 6 := IntsOf.struct (by kernel_rfl) Tryz.underlying79 fun j hj => by
 match j, hj with
 | 0, _ => exact ⟨0, _, 1, rfl, by decide, by decide, by decide, ints_int⟩
 | 1, _ => exact ⟨1, _, 1, rfl, by decide, by decide, by decide, ints_int⟩
 | 2, _ => exact ⟨2, _, 1, rfl, by decide, by decide, by decide, ints_int⟩
 | 3, _ => exact ⟨3, _, 1, rfl, by decide, by decide, by decide, ints_int⟩
 | 4, _ => exact ⟨4, _, 1, rfl, by decide, by decide, by decide, ints_int⟩
 | 5, _ => exact ⟨5, _, 1, rfl, by decide, by decide, by decide, ints_int⟩
theorem cons_of {α : Type} : ∀ {l : List α} {k : Nat}, l.length = k + 1 → ∃ u l', l = u :: l' ∧ l'.length = k
 | u :: l, k, h => ⟨u, l, rfl, by simpa using h⟩
theorem some_at {α : Type} {l : List α} {n i : Nat} (h : l.length = n) (hi : i < n) : ∃ y, l[i]? = some y := ⟨l[i]'(by omega), List.getElem?_eq_getElem (by omega)⟩
set_option maxRecDepth 100000 in
set_option maxHeartbeats 1000000 in
theorem open_drum {H : Type} {enc : TypeId × Value → H} {W : World} {base : Nat} {v : Value} {d : DataW H} {p : List MemPlace} (hval : Value.okWide Tryz.prog W .any base 27 v) (h0 : DataW.Trod enc Tryz.prog W 0 (fun _ => true) true 27 v d p) :
  ∃ (a0 : Option Addr) (n0 c0 : Nat) (F0 : Nat → Nat → Int) (x1 : Int) (x2 : Int) (a3 : Option Addr) (n3 c3 : Nat) (F3 : Nat → Nat → Int) (a4 : Option Addr) (n4 c4 : Nat) (F4 : Nat → Nat → Int) (a5 : Option Addr) (n5 c5 : Nat) (F5 : Nat → Nat → Int), v = .agg #[.slice a0 n0 c0, .int .i64 x1, .int .i64 x2, .slice a3 n3 c3, .slice a4 n4 c4, .slice a5 n5 c5] ∧ (n0 ≤ 9223372036854775807 ∧ n0 ≤ c0 ∧ KSl 4 W (.slice a0 n0 c0) n0 F0) ∧ (n3 ≤ 9223372036854775807 ∧ n3 ≤ c3 ∧ KSl 1 W (.slice a3 n3 c3) n3 F3) ∧ (n4 ≤ 9223372036854775807 ∧ n4 ≤ c4 ∧ KSl 3 W (.slice a4 n4 c4) n4 F4) ∧ (n5 ≤ 9223372036854775807 ∧ n5 ≤ c5 ∧ KSl 6 W (.slice a5 n5 c5) n5 F5) := by
 obtain ⟨cs, rfl, hsz⟩ := okWide_struct Tryz.underlying27 hval
 obtain ⟨fuel, hf⟩ := h0
 rw [show Tryz.prog.cellsOf 27 = 6 from by kernel_rfl] at hsz
 obtain ⟨ys, n2, _, _, _, hyl, hff⟩ := DataW.trod_struct Tryz.underlying27 hf
 obtain ⟨l0⟩ := cs
 have g0 : l0.length = 6 := by simpa using hsz
 obtain ⟨u0, l1', rfl, g1⟩ := cons_of g0
 obtain ⟨u1, l2', rfl, g2⟩ := cons_of g1
 obtain ⟨u2, l3', rfl, g3⟩ := cons_of g2
 obtain ⟨u3, l4', rfl, g4⟩ := cons_of g3
 obtain ⟨u4, l5', rfl, g5⟩ := cons_of g4
 obtain ⟨u5, l6', rfl, g6⟩ := cons_of g5
 obtain rfl := List.eq_nil_of_length_eq_zero g6
 have hyl : ys.length = 6 := hyl
 clear hsz hval hf
 have k0 : DataW.trod enc Tryz.prog W 0 (fun _ => true) true n2 22 (([u0, u1, u2, u3, u4, u5].drop 0).take (Tryz.prog.cellsOf 22)) = ys[0]? := hff 0 _ rfl
 rw [show Tryz.prog.cellsOf 22 = 1 from by kernel_rfl] at k0
 obtain ⟨y0, hy0⟩ := some_at (i := 0) hyl (by decide)
 have k1 : DataW.trod enc Tryz.prog W 0 (fun _ => true) true n2 3 (([u0, u1, u2, u3, u4, u5].drop 1).take (Tryz.prog.cellsOf 3)) = ys[1]? := hff 1 _ rfl
 rw [show Tryz.prog.cellsOf 3 = 1 from by kernel_rfl] at k1
 obtain ⟨y1, hy1⟩ := some_at (i := 1) hyl (by decide)
 have k2 : DataW.trod enc Tryz.prog W 0 (fun _ => true) true n2 3 (([u0, u1, u2, u3, u4, u5].drop 2).take (Tryz.prog.cellsOf 3)) = ys[2]? := hff 2 _ rfl
 rw [show Tryz.prog.cellsOf 3 = 1 from by kernel_rfl] at k2
 obtain ⟨y2, hy2⟩ := some_at (i := 2) hyl (by decide)
 have k3 : DataW.trod enc Tryz.prog W 0 (fun _ => true) true n2 23 (([u0, u1, u2, u3, u4, u5].drop 3).take (Tryz.prog.cellsOf 23)) = ys[3]? := hff 3 _ rfl
 rw [show Tryz.prog.cellsOf 23 = 1 from by kernel_rfl] at k3
 obtain ⟨y3, hy3⟩ := some_at (i := 3) hyl (by decide)
 have k4 : DataW.trod enc Tryz.prog W 0 (fun _ => true) true n2 24 (([u0, u1, u2, u3, u4, u5].drop 4).take (Tryz.prog.cellsOf 24)) = ys[4]? := hff 4 _ rfl
 rw [show Tryz.prog.cellsOf 24 = 1 from by kernel_rfl] at k4
 obtain ⟨y4, hy4⟩ := some_at (i := 4) hyl (by decide)
 have k5 : DataW.trod enc Tryz.prog W 0 (fun _ => true) true n2 25 (([u0, u1, u2, u3, u4, u5].drop 5).take (Tryz.prog.cellsOf 25)) = ys[5]? := hff 5 _ rfl
 rw [show Tryz.prog.cellsOf 25 = 1 from by kernel_rfl] at k5
 obtain ⟨y5, hy5⟩ := some_at (i := 5) hyl (by decide)
 obtain ⟨a0, n0, c0, F0, e0, m0, l0, s0⟩ := ksl_trod Tryz.underlying22 ints_DrumAcid (by decide) (k0.trans hy0)
 have e0 : [u0] = [Value.slice a0 n0 c0] := e0
 obtain rfl : u0 = Value.slice a0 n0 c0 := (List.cons.inj e0).1
 obtain ⟨x1, e1, _⟩ := DataW.trod_int Tryz.underlying3 (k1.trans hy1)
 have e1 : [u1] = [Value.int .i64 x1] := e1
 obtain rfl : u1 = Value.int .i64 x1 := (List.cons.inj e1).1
 obtain ⟨x2, e2, _⟩ := DataW.trod_int Tryz.underlying3 (k2.trans hy2)
 have e2 : [u2] = [Value.int .i64 x2] := e2
 obtain rfl : u2 = Value.int .i64 x2 := (List.cons.inj e2).1
 obtain ⟨a3, n3, c3, F3, e3, m3, l3, s3⟩ := ksl_trod Tryz.underlying23 ints_int (by decide) (k3.trans hy3)
 have e3 : [u3] = [Value.slice a3 n3 c3] := e3
 obtain rfl : u3 = Value.slice a3 n3 c3 := (List.cons.inj e3).1
 obtain ⟨a4, n4, c4, F4, e4, m4, l4, s4⟩ := ksl_trod Tryz.underlying24 ints_DrumStrip (by decide) (k4.trans hy4)
 have e4 : [u4] = [Value.slice a4 n4 c4] := e4
 obtain rfl : u4 = Value.slice a4 n4 c4 := (List.cons.inj e4).1
 obtain ⟨a5, n5, c5, F5, e5, m5, l5, s5⟩ := ksl_trod Tryz.underlying25 ints_DrumBatch (by decide) (k5.trans hy5)
 have e5 : [u5] = [Value.slice a5 n5 c5] := e5
 obtain rfl : u5 = Value.slice a5 n5 c5 := (List.cons.inj e5).1
 exact ⟨a0, n0, c0, F0, x1, x2, a3, n3, c3, F3, a4, n4, c4, F4, a5, n5, c5, F5, rfl, ⟨m0, l0, s0⟩, ⟨m3, l3, s3⟩, ⟨m4, l4, s4⟩, ⟨m5, l5, s5⟩⟩
set_option maxRecDepth 100000 in
set_option maxHeartbeats 1000000 in
theorem open_truth {H : Type} {enc : TypeId × Value → H} {W : World} {base : Nat} {v : Value} {d : DataW H} {p : List MemPlace} (hval : Value.okWide Tryz.prog W .any base 29 v) (h0 : DataW.Trod enc Tryz.prog W 0 (fun _ => true) true 29 v d p) :
  ∃ (x0 : Int) (a1 : Option Addr) (n1 c1 : Nat) (F1 : Nat → Nat → Int), v = .agg #[.int .i64 x0, .slice a1 n1 c1] ∧ (n1 ≤ 9223372036854775807 ∧ n1 ≤ c1 ∧ KSl 1 W (.slice a1 n1 c1) n1 F1) := by
 obtain ⟨cs, rfl, hsz⟩ := okWide_struct Tryz.underlying29 hval
 obtain ⟨fuel, hf⟩ := h0
 rw [show Tryz.prog.cellsOf 29 = 2 from by kernel_rfl] at hsz
 obtain ⟨ys, n2, _, _, _, hyl, hff⟩ := DataW.trod_struct Tryz.underlying29 hf
 obtain ⟨l0⟩ := cs
 have g0 : l0.length = 2 := by simpa using hsz
 obtain ⟨u0, l1', rfl, g1⟩ := cons_of g0
 obtain ⟨u1, l2', rfl, g2⟩ := cons_of g1
 obtain rfl := List.eq_nil_of_length_eq_zero g2
 have hyl : ys.length = 2 := hyl
 clear hsz hval hf
 have k0 : DataW.trod enc Tryz.prog W 0 (fun _ => true) true n2 3 (([u0, u1].drop 0).take (Tryz.prog.cellsOf 3)) = ys[0]? := hff 0 _ rfl
 rw [show Tryz.prog.cellsOf 3 = 1 from by kernel_rfl] at k0
 obtain ⟨y0, hy0⟩ := some_at (i := 0) hyl (by decide)
 have k1 : DataW.trod enc Tryz.prog W 0 (fun _ => true) true n2 23 (([u0, u1].drop 1).take (Tryz.prog.cellsOf 23)) = ys[1]? := hff 1 _ rfl
 rw [show Tryz.prog.cellsOf 23 = 1 from by kernel_rfl] at k1
 obtain ⟨y1, hy1⟩ := some_at (i := 1) hyl (by decide)
 obtain ⟨x0, e0, _⟩ := DataW.trod_int Tryz.underlying3 (k0.trans hy0)
 have e0 : [u0] = [Value.int .i64 x0] := e0
 obtain rfl : u0 = Value.int .i64 x0 := (List.cons.inj e0).1
 obtain ⟨a1, n1, c1, F1, e1, m1, l1, s1⟩ := ksl_trod Tryz.underlying23 ints_int (by decide) (k1.trans hy1)
 have e1 : [u1] = [Value.slice a1 n1 c1] := e1
 obtain rfl : u1 = Value.slice a1 n1 c1 := (List.cons.inj e1).1
 exact ⟨x0, a1, n1, c1, F1, rfl, ⟨m1, l1, s1⟩⟩
end Go.Proofs.YtlhgkepdoinlnaaGreatDoor
