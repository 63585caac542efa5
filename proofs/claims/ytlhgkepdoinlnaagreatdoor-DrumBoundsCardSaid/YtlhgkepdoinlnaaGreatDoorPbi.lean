/- A part of the proof: see the last file. -/
import Derived.Test.YtlhgkepdoinlnaaGreatDoorPbf
import Derived.Test.YtlhgkepdoinlnaaGreatDoorPbh
set_option linter.unusedVariables false
set_option linter.unusedSimpArgs false
set_option linter.unusedSectionVars false
namespace Go.Proofs.YtlhgkepdoinlnaaGreatDoor
open Go.RowKit Go.Gen Go.Drum Go.Can
theorem hd_small {d : Drm} (h : d.Ok) : 1 ≤ d.dn ∧ d.dn ≤ 12 := by have := h.hours; have := h.adds; omega
theorem fits_truth {d : Drm} {i : Nat} {F : Nat → Nat → Int} (hok : d.Ok) (h : d.fits i F) : (d.acid i).truth d.dn fun k => F k 0 := (Acid.holds_iff (hd_small hok).1).1 h.2
theorem fits_poss {d : Drm} {i : Nat} {F : Nat → Nat → Int} (hok : d.Ok) (h : d.fits i F) : d.poss i := ⟨h.1, Acid.can_of (fits_truth hok h)⟩
theorem poss_en {d : Drm} {i : Nat} (hok : d.Ok) (hi : i < d.an) (h : (d.acid i).can d.dn) : ∀ k, k < d.dn → 0 ≤ (d.en i k).1 ∧ (d.en i k).1 ≤ (d.en i k).2 ∧ (d.en i k).2 ≤ 1300 :=
 fun _ hk => Acid.ends_small1 (hok.small hi) h (hd_small hok).2 hk
/-- the drum of which just one acid is known. -/
@[reducible] def Drm.just (d : Drm) (a : Nat) : Drm := { d with known := 2 ^ a }
structure TX (w : World) (d : Drm) (g : Nat) (f : Nat → Int × Int) (W : World) : Prop where
 o : PoD w d W
 row : CAt W g d.dn f
 lt : g < W.heap.size
theorem TX.below {w : World} {d : Drm} {g : Nat} {f : Nat → Int × Int} {W W' : World} (h : TX w d g f W) (hb : Below W.heap.size W W') : TX w d g f W' :=
 ⟨h.o.below hb, h.row.below hb h.lt, Nat.lt_of_lt_of_le h.lt hb.size⟩
theorem TX.drew {w : World} {d : Drm} {g : Nat} {f : Nat → Int × Int} {W : World} (h : TX w d g f W) : TX w d g f W.drew := h.below (Below.refl _ _).drew
end Go.Proofs.YtlhgkepdoinlnaaGreatDoor
