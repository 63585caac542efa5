/- A part of the proof: see the last file. -/
import Derived.Test.YtlhgkepdoinlnaaGreatDoorPah
set_option linter.unusedVariables false
set_option linter.unusedSimpArgs false
set_option linter.unusedSectionVars false
namespace Go.Proofs.YtlhgkepdoinlnaaGreatDoor
open Go.RowKit Go.Gen Go.Drum
/-- the reference's blocks: the drum's, the truth's, the acid's. -/
structure YX (w : World) (d : Drm) (t : Tru) (i : Nat) (W : World) : Prop where
  t : PoT w d t W
  a0 : W.cell? ⟨w.heap.size + 1 + 1, 0, none⟩ = some (.int .i64 (d.A i 0))
  a1 : W.cell? ⟨w.heap.size + 1 + 1, 1, none⟩ = some (.int .i64 (d.A i 1))
  a2 : W.cell? ⟨w.heap.size + 1 + 1, 2, none⟩ = some (.int .i64 (d.A i 2))
  a3 : W.cell? ⟨w.heap.size + 1 + 1, 3, none⟩ = some (.int .i64 (d.A i 3))
  lt : w.heap.size + 1 + 1 < W.heap.size
theorem YX.below {w : World} {d : Drm} {t : Tru} {i : Nat} {W W' : World} (h : YX w d t i W) (hb : Below W.heap.size W W') : YX w d t i W' := by
  have hl := h.lt
  exact ⟨h.t.below hb, (hb.cell (p := ⟨w.heap.size + 1 + 1, 0, none⟩) hl).trans h.a0, (hb.cell (p := ⟨w.heap.size + 1 + 1, 1, none⟩) hl).trans h.a1, (hb.cell (p := ⟨w.heap.size + 1 + 1, 2, none⟩) hl).trans h.a2, (hb.cell (p := ⟨w.heap.size + 1 + 1, 3, none⟩) hl).trans h.a3, Nat.lt_of_lt_of_le hl hb.size⟩
theorem YX.drew {w : World} {d : Drm} {t : Tru} {i : Nat} {W : World} (h : YX w d t i W) : YX w d t i W.drew := h.below (Below.refl _ _).drew
theorem YX.alloc {w : World} {d : Drm} {t : Tru} {i : Nat} {W : World} (h : YX w d t i W) (o : Obj) : YX w d t i (W.alloc o) := h.below ((Below.refl _ _).alloc (Nat.le_refl _) o)
/-- a span's block beside. -/
structure YXS (w : World) (d : Drm) (t : Tru) (i : Nat) (Z : Nat) (s0 s1 : Int) (W : World) : Prop where
  x : YX w d t i W
  s : Two W Z s0 s1
  lz : Z < W.heap.size
  zl : w.heap.size + 1 + 1 < Z
theorem YXS.below {w : World} {d : Drm} {t : Tru} {i Z : Nat} {s0 s1 : Int} {W W' : World} (h : YXS w d t i Z s0 s1 W) (hb : Below W.heap.size W W') : YXS w d t i Z s0 s1 W' :=
  ⟨h.x.below hb, h.s.below hb h.lz, Nat.lt_of_lt_of_le h.lz hb.size, h.zl⟩
theorem YXS.drew {w : World} {d : Drm} {t : Tru} {i Z : Nat} {s0 s1 : Int} {W : World} (h : YXS w d t i Z s0 s1 W) : YXS w d t i Z s0 s1 W.drew := h.below (Below.refl _ _).drew
theorem YX.far {w : World} {d : Drm} {t : Tru} {i : Nat} {W W' : World} {Z : Nat} (h : YX w d t i W) (hz : w.heap.size + 1 + 1 < Z) (hb : Below Z W W') (hs : W.heap.size ≤ W'.heap.size) : YX w d t i W' :=
  ⟨⟨⟨h.t.d.at'.below hb (by omega), h.t.d.old.trans (hb.mono (by omega)), Nat.lt_of_lt_of_le h.t.d.lt hs⟩, (hb.cell (p := ⟨w.heap.size + 1, 0, none⟩) (by show w.heap.size + 1 < _; omega)).trans h.t.k0, (hb.cell (p := ⟨w.heap.size + 1, 1, none⟩) (by show w.heap.size + 1 < _; omega)).trans h.t.k1, Nat.lt_of_lt_of_le h.t.lt hs⟩,
   (hb.cell (p := ⟨w.heap.size + 1 + 1, 0, none⟩) hz).trans h.a0, (hb.cell (p := ⟨w.heap.size + 1 + 1, 1, none⟩) hz).trans h.a1, (hb.cell (p := ⟨w.heap.size + 1 + 1, 2, none⟩) hz).trans h.a2, (hb.cell (p := ⟨w.heap.size + 1 + 1, 3, none⟩) hz).trans h.a3, Nat.lt_of_lt_of_le h.lt hs⟩
theorem YXS.set {w : World} {d : Drm} {t : Tru} {i Z : Nat} {s0 s1 : Int} {W : World} (h : YXS w d t i Z s0 s1 W) (u0 u1 : Int) :
    YXS w d t i Z u0 u1 ((W.setCell ⟨Z, 0, none⟩ (.int .i64 u0)).setCell ⟨Z, 1, none⟩ (.int .i64 u1)) :=
  ⟨h.x.far h.zl (((Below.refl _ W).setCell (p := ⟨Z, 0, none⟩) (Nat.le_refl _) _).setCell (p := ⟨Z, 1, none⟩) (Nat.le_refl _) _) (by rw [World.size_setCell, World.size_setCell]; exact Nat.le_refl _), h.s.set01 u0 u1, by rw [World.size_setCell, World.size_setCell]; exact h.lz, h.zl⟩
structure YXT (w : World) (d : Drm) (t : Tru) (i : Nat) (T : Nat) (c0 c1 c2 : Int) (W : World) : Prop where
  x : YX w d t i W
  t0 : W.cell? ⟨T, 0, none⟩ = some (.int .i64 c0)
  t1 : W.cell? ⟨T, 1, none⟩ = some (.int .i64 c1)
  t2 : W.cell? ⟨T, 2, none⟩ = some (.int .i64 c2)
  tl : T < W.heap.size
theorem YXT.below {w : World} {d : Drm} {t : Tru} {i T : Nat} {c0 c1 c2 : Int} {W W' : World} (h : YXT w d t i T c0 c1 c2 W) (hb : Below W.heap.size W W') : YXT w d t i T c0 c1 c2 W' :=
  ⟨h.x.below hb, (hb.cell (p := ⟨T, 0, none⟩) h.tl).trans h.t0, (hb.cell (p := ⟨T, 1, none⟩) h.tl).trans h.t1, (hb.cell (p := ⟨T, 2, none⟩) h.tl).trans h.t2, Nat.lt_of_lt_of_le h.tl hb.size⟩
theorem YXT.drew {w : World} {d : Drm} {t : Tru} {i T : Nat} {c0 c1 c2 : Int} {W : World} (h : YXT w d t i T c0 c1 c2 W) : YXT w d t i T c0 c1 c2 W.drew := h.below (Below.refl _ _).drew
end Go.Proofs.YtlhgkepdoinlnaaGreatDoor
