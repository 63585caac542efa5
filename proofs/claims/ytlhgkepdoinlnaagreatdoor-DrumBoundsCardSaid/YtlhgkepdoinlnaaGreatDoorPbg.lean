/- A part of the proof: see the last file. -/
import Derived.Test.YtlhgkepdoinlnaaGreatDoorPal
import Derived.Lib.LazyBuf
import Derived.Test.YtlhgkepdoinlnaaGreatDoorPak
set_option linter.unusedVariables false
set_option linter.unusedSimpArgs false
set_option linter.unusedSectionVars false
namespace Go.Proofs.YtlhgkepdoinlnaaGreatDoor
open Go.RowKit Go.Gen Go.Drum
/-- a row that is this call's own. -/
structure SX (w1 : World) (gs n : Nat) (r : Nat → Int × Int) (W : World) : Prop where
 o : Below w1.heap.size w1 W
 row : CAt W gs n r
 lo : w1.heap.size ≤ gs
 lt : gs < W.heap.size
theorem SX.below {w1 : World} {gs n : Nat} {r : Nat → Int × Int} {W W' : World} (h : SX w1 gs n r W) (hb : Below W.heap.size W W') : SX w1 gs n r W' :=
 ⟨h.o.trans (hb.mono h.o.size), h.row.below hb h.lt, h.lo, Nat.lt_of_lt_of_le h.lt hb.size⟩
theorem SX.put {w1 : World} {gs n : Nat} {r : Nat → Int × Int} {W : World} (h : SX w1 gs n r W) (k : Nat) (hk : k < n) (x y : Int) :
  SX w1 gs n (fun j => if j = k then (x, y) else r j) ((W.setCell ⟨gs, k * 2, none⟩ (.int .i64 x)).setCell ⟨gs, k * 2 + 1, none⟩ (.int .i64 y)) :=
 ⟨(h.o.setCell (p := ⟨gs, k * 2, none⟩) h.lo _).setCell (p := ⟨gs, k * 2 + 1, none⟩) h.lo _, h.row.store k hk x y, h.lo, by rw [World.size_setCell, World.size_setCell]; exact h.lt⟩
structure SXT (w1 : World) (gs n : Nat) (r : Nat → Int × Int) (T : Nat) (s0 s1 : Int) (W : World) : Prop where
 x : SX w1 gs n r W
 s : Two W T s0 s1
 lt : T < W.heap.size
theorem SXT.below {w1 : World} {gs n : Nat} {r : Nat → Int × Int} {T : Nat} {s0 s1 : Int} {W W' : World} (h : SXT w1 gs n r T s0 s1 W) (hb : Below W.heap.size W W') : SXT w1 gs n r T s0 s1 W' :=
 ⟨h.x.below hb, h.s.below hb h.lt, Nat.lt_of_lt_of_le h.lt hb.size⟩
theorem SXT.drew {w1 : World} {gs n : Nat} {r : Nat → Int × Int} {T : Nat} {s0 s1 : Int} {W : World} (h : SXT w1 gs n r T s0 s1 W) : SXT w1 gs n r T s0 s1 W.drew := h.below (Below.refl _ _).drew
/-- the ends of an acid by its number. -/
def Drm.en (d : Drm) : Nat → Nat → Int × Int := fun j h => (d.acid j).ends d.dn h
end Go.Proofs.YtlhgkepdoinlnaaGreatDoor
