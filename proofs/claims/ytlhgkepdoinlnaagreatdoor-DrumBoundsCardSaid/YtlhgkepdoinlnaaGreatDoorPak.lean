/- A part of the proof: see the last file. -/
import Derived.Test.YtlhgkepdoinlnaaGreatDoorPai
import Derived.Test.YtlhgkepdoinlnaaGreatDoorPag
import Derived.Test.YtlhgkepdoinlnaaGreatDoorPaj
set_option linter.unusedVariables false
set_option linter.unusedSimpArgs false
set_option linter.unusedSectionVars false
namespace Go.Proofs.YtlhgkepdoinlnaaGreatDoor
open Go.RowKit Go.Gen Go.Drum
/-- the reference's blocks: the drum's, the acid's. -/
structure BY (w : World) (d : Drm) (i : Nat) (W : World) : Prop where
 o : PoD w d W
 a0 : W.cell? ⟨w.heap.size + 1, 0, none⟩ = some (.int .i64 (d.A i 0))
 a1 : W.cell? ⟨w.heap.size + 1, 1, none⟩ = some (.int .i64 (d.A i 1))
 a2 : W.cell? ⟨w.heap.size + 1, 2, none⟩ = some (.int .i64 (d.A i 2))
 a3 : W.cell? ⟨w.heap.size + 1, 3, none⟩ = some (.int .i64 (d.A i 3))
 lt : w.heap.size + 1 < W.heap.size
theorem BY.beyond {w : World} {d : Drm} {i : Nat} {W W' : World} (h : BY w d i W) (hb : Below (w.heap.size + 2) W W') : BY w d i W' := by
 have hl := h.lt
 have c : ∀ j, W'.cell? ⟨w.heap.size + 1, j, none⟩ = W.cell? ⟨w.heap.size + 1, j, none⟩ := fun j => hb.cell (p := ⟨w.heap.size + 1, j, none⟩) (by show w.heap.size + 1 < _; omega)
 exact ⟨⟨h.o.at'.below hb (by omega), h.o.old.trans (hb.mono (by omega)), Nat.lt_of_lt_of_le h.o.lt hb.size⟩, (c 0).trans h.a0, (c 1).trans h.a1, (c 2).trans h.a2, (c 3).trans h.a3, Nat.lt_of_lt_of_le hl hb.size⟩
theorem BY.below {w : World} {d : Drm} {i : Nat} {W W' : World} (h : BY w d i W) (hb : Below W.heap.size W W') : BY w d i W' := h.beyond (hb.mono h.lt)
theorem BY.drew {w : World} {d : Drm} {i : Nat} {W : World} (h : BY w d i W) : BY w d i W.drew := h.below (Below.refl _ _).drew
/-- a span's block behind a world. -/
structure IX (W0 : World) (Z : Nat) (s0 s1 : Int) (W : World) : Prop where
 o : Below W0.heap.size W0 W
 s : Two W Z s0 s1
 zl : W0.heap.size ≤ Z
 lz : Z < W.heap.size
theorem IX.below {W0 : World} {Z : Nat} {s0 s1 : Int} {W W' : World} (h : IX W0 Z s0 s1 W) (hb : Below W.heap.size W W') : IX W0 Z s0 s1 W' :=
 ⟨h.o.trans (hb.mono h.o.size), h.s.below hb h.lz, h.zl, Nat.lt_of_lt_of_le h.lz hb.size⟩
theorem IX.drew {W0 : World} {Z : Nat} {s0 s1 : Int} {W : World} (h : IX W0 Z s0 s1 W) : IX W0 Z s0 s1 W.drew := h.below (Below.refl _ _).drew
theorem IX.alloc {W0 : World} {Z : Nat} {s0 s1 : Int} {W : World} (h : IX W0 Z s0 s1 W) (o : Obj) : IX W0 Z s0 s1 (W.alloc o) := h.below ((Below.refl _ _).alloc (Nat.le_refl _) o)
theorem IX.set {W0 : World} {Z : Nat} {s0 s1 : Int} {W : World} (h : IX W0 Z s0 s1 W) (u0 u1 : Int) : IX W0 Z u0 u1 ((W.setCell ⟨Z, 0, none⟩ (.int .i64 u0)).setCell ⟨Z, 1, none⟩ (.int .i64 u1)) :=
 ⟨(h.o.setCell (p := ⟨Z, 0, none⟩) h.zl _).setCell (p := ⟨Z, 1, none⟩) h.zl _, h.s.set01 u0 u1, h.zl, by rw [World.size_setCell, World.size_setCell]; exact h.lz⟩
/-- the reference's blocks and a row. -/
structure RY (w : World) (d : Drm) (i : Nat) (g n : Nat) (r : Nat → Int × Int) (W : World) : Prop where
 f : BY w d i W
 row : CAt W g n r
 lt : g < W.heap.size
theorem RY.below {w : World} {d : Drm} {i : Nat} {g n : Nat} {r : Nat → Int × Int} {W W' : World} (h : RY w d i g n r W) (hb : Below W.heap.size W W') : RY w d i g n r W' :=
 ⟨h.f.below hb, h.row.below hb h.lt, Nat.lt_of_lt_of_le h.lt hb.size⟩
theorem RY.drew {w : World} {d : Drm} {i : Nat} {g n : Nat} {r : Nat → Int × Int} {W : World} (h : RY w d i g n r W) : RY w d i g n r W.drew := h.below (Below.refl _ _).drew
theorem RY.put {w : World} {d : Drm} {i : Nat} {g n : Nat} {r : Nat → Int × Int} {W : World} (h : RY w d i g n r W) (hg : w.heap.size + 2 ≤ g) (k : Nat) (hk : k < n) (x y : Int) :
  RY w d i g n (fun j => if j = k then (x, y) else r j) ((W.setCell ⟨g, k * 2, none⟩ (.int .i64 x)).setCell ⟨g, k * 2 + 1, none⟩ (.int .i64 y)) :=
 ⟨h.f.beyond (((Below.refl _ W).setCell (p := ⟨g, k * 2, none⟩) (by show _ ≤ g; omega) _).setCell (p := ⟨g, k * 2 + 1, none⟩) (by show _ ≤ g; omega) _), h.row.store k hk x y, by rw [World.size_setCell, World.size_setCell]; exact h.lt⟩
theorem two_one (x y : Int) : ∀ u ∈ [Value.int .i64 x, Value.int .i64 y], u.oneCell' = true := fun u hu => by
 rcases List.mem_cons.1 hu with rfl | hu
 ·rfl
 ·rcases List.mem_cons.1 hu with rfl | hu
  ·rfl
  ·cases hu
end Go.Proofs.YtlhgkepdoinlnaaGreatDoor
