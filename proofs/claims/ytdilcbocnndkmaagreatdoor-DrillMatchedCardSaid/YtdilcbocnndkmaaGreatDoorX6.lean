/- A part of the proof: see the last file. -/
import Derived.Test.YtdilcbocnndkmaaGreatDoorX2
import Derived.Test.YtdilcbocnndkmaaGreatDoorWc
set_option linter.unusedVariables false
set_option linter.unusedSimpArgs false
set_option linter.unusedSectionVars false
namespace Go.Proofs.YtdilcbocnndkmaaGreatDoor
open Go.RowKit
set_option maxRecDepth 100000 in
set_option maxHeartbeats 2000000 in
theorem fits_any (i j t hb pb tb yb b1 o1 n1 k1 b2 o2 n2 k2 : Nat) (tv : Value) (HX HY PX PY : Nat → Int) (r : Int) (w : World) (hr0 : 0 ≤ r) (hr1 : r ≤ 500) (hi : i < n1) (hj : j < n2) (hn1 : n1 ≤ 1000) (hn2 : n2 ≤ 1000)
    (hT : ∀ W, Calls Tryz.prog 72 #[.agg #[.int .i64 (PX j), .int .i64 (PY j)], tv] W fun e w' => e = .returned (.agg #[.int .i64 (trn t (PX j, PY j)).1, .int .i64 (trn t (PX j, PY j)).2]) ∧ Below W.heap.size W w')
    (c1 : w.cell? ⟨hb, 0, none⟩ = some (.slice (some ⟨b1, o1, none⟩) n1 k1)) (c2 : w.cell? ⟨pb, 0, none⟩ = some (.slice (some ⟨b2, o2, none⟩) n2 k2)) (c3 : w.cell? ⟨tb, 0, none⟩ = some tv) (c4 : w.cell? ⟨yb, 0, none⟩ = some (.int .i64 r))
    (l1 : hb < w.heap.size) (l2 : pb < w.heap.size) (l3 : tb < w.heap.size) (l4 : yb < w.heap.size) (hp1 : Pts w b1 o1 n1 HX HY) (hp2 : Pts w b2 o2 n2 PX PY) (m1 : b1 < w.heap.size) (m2 : b2 < w.heap.size) (s1 : small (HX i, HY i)) :
    Calls Tryz.prog 98 #[.int .i64 i, .int .i64 j, .pointer (some ⟨hb, 0, none⟩), .pointer (some ⟨pb, 0, none⟩), .pointer (some ⟨tb, 0, none⟩), .pointer (some ⟨yb, 0, none⟩)] w
      fun e w' => e = .returned (.bool (nearB (HX i) (HY i) (trn t (PX j, PY j)).1 (trn t (PX j, PY j)).2 r)) ∧ Below w.heap.size w w' := by
  obtain ⟨d1, d2⟩ := hp1 i hi
  obtain ⟨d3, d4⟩ := hp2 j hj
  obtain ⟨⟨s2, s3⟩, s4, s5⟩ := s1
  dsimp only at s2 s3 s4 s5
  have hi0 : (0 : Int) ≤ (i : Int) := Int.natCast_nonneg _
  have hi1 : (i : Int) < (n1 : Int) := by omega
  have hj0 : (0 : Int) ≤ (j : Int) := Int.natCast_nonneg _
  have hj1 : (j : Int) < (n2 : Int) := by omega
  generalize (trn t (PX j, PY j)).1 = qx at hT ⊢
  generalize (trn t (PX j, PY j)).2 = qy at hT ⊢
  go_enter Tryz.func98, Tryz.ntmps98
  go_wp2_with fail
  go_region_held3 (fun w' => w'.cell? ⟨hb, 0, none⟩ = some (.slice (some ⟨b1, o1, none⟩) n1 k1) ∧ w'.cell? ⟨pb, 0, none⟩ = some (.slice (some ⟨b2, o2, none⟩) n2 k2) ∧ w'.cell? ⟨tb, 0, none⟩ = some tv ∧ w'.cell? ⟨yb, 0, none⟩ = some (.int .i64 r)
      ∧ w'.cell? ⟨b1, o1 + i * 2, none⟩ = some (.int .i64 (HX i)) ∧ w'.cell? ⟨b1, o1 + i * 2 + 1, none⟩ = some (.int .i64 (HY i)) ∧ w'.cell? ⟨b2, o2 + j * 2, none⟩ = some (.int .i64 (PX j)) ∧ w'.cell? ⟨b2, o2 + j * 2 + 1, none⟩ = some (.int .i64 (PY j)))
    (first
      | go_keep
      | (go_split_ands
         refine ⟨?_, ?_, ?_, ?_, ?_, ?_, ?_, ?_⟩ <;> (rw [hbb.cell (by first | omega | (simp; omega) | simp)]; assumption)))
    (first
      | (go_at_call 72; refine (hT _).mono ?_; rintro e w' ⟨rfl, hbb⟩; have hs := hbb.size; try simp only [World.size_alloc, World.size_drew] at hs)
      | (go_at_call 99; refine (near_any _ _ _ _ _ (by omega) (by omega) (by omega) (by omega) (by omega) (by omega) _).mono ?_; rintro e w' ⟨rfl, hbb⟩; have hs := hbb.size; try simp only [World.size_alloc, World.size_drew] at hs))
  rename_i wA hA hsA _
  go_wp2
  go_ret
  exact ⟨rfl, (Below.refl _ _).drew.trans ((hA.mono (by simp)).trans (hbb.mono (by simpa using hsA)))⟩
end Go.Proofs.YtdilcbocnndkmaaGreatDoor
