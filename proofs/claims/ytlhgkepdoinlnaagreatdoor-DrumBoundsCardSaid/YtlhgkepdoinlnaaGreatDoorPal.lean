/- A part of the proof: see the last file. -/
import Derived.Test.YtlhgkepdoinlnaaGreatDoorPah
import Derived.Test.YtlhgkepdoinlnaaGreatDoorPak
import Derived.Test.YtlhgkepdoinlnaaGreatDoorPai
set_option linter.unusedVariables false
set_option linter.unusedSimpArgs false
set_option linter.unusedSectionVars false
namespace Go.Proofs.YtlhgkepdoinlnaaGreatDoor
open Go.RowKit Go.Gen Go.Drum
theorem Tryz.info3 : (Tryz.prog.info? 3).map (fun i => (i.zero, i.size, i.bytes)) = some (some (.int .i64 0), 1, 8) := by kernel_rfl
theorem cells_one (w : World) (a : Value) (e : TypeId) : ∀ (j : Nat) (u : Value), [a][j]? = some u → (w.alloc (Obj.cells #[a] e)).cell? ((⟨w.heap.size, 0, none⟩ : Addr).add j) = some u := by
 intro j u h
 match j, h with
 | 0, h => simp at h; subst h; simp [go_sem, Addr.add]
 | n+1, h => simp at h
end Go.Proofs.YtlhgkepdoinlnaaGreatDoor
namespace Go.Proofs.YtlhgkepdoinlnaaGreatDoor
open Go.RowKit Go.Gen Go.Drum
theorem PoD.beyond {w W W' : World} {d : Drm} (h : PoD w d W) (hb : Below (w.heap.size + 1) W W') : PoD w d W' :=
 ⟨h.at'.below hb (Nat.lt_succ_self _), h.old.trans (hb.mono (Nat.le_succ _)), Nat.lt_of_lt_of_le h.lt hb.size⟩
theorem ksl_slice {k : Nat} {w : World} {v : Value} {n : Nat} {F : Nat → Nat → Int} (h : KSl k w v n F) : ∃ a c, v = .slice a n c := by
 rcases h with ⟨a, c, rfl, rfl⟩ | ⟨b, off, cap, rfl, _⟩
 ·exact ⟨a, c, rfl⟩
 ·exact ⟨_, _, rfl⟩
end Go.Proofs.YtlhgkepdoinlnaaGreatDoor
namespace Go.Proofs.YtlhgkepdoinlnaaGreatDoor
open Go.RowKit Go.Gen Go.Drum
end Go.Proofs.YtlhgkepdoinlnaaGreatDoor
