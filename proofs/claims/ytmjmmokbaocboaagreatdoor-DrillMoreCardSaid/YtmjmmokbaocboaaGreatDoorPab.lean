/- A part of the proof: see the last file. -/
import Derived.Test.YtmjmmokbaocboaaGreatDoorPaa
import Derived.DeepKeys4
import Derived.StillTactics
import Derived.OwnWalk
import Derived.Laws.Pointers
import Derived.Deep.RegionHeld3
import Derived.Deep.RegionWith
import Derived.Deep.QuietTactic
import Derived.BigQuiet
import Derived.Deep.AppendLies
set_option linter.unusedVariables false
set_option linter.unusedSimpArgs false
set_option linter.unusedSectionVars false
namespace Go.Proofs
open Go.Maps
/-- what a point reads as, as a key. -/
theorem ptKey_gen {P : Program} {k i : TypeId} {n0 n1 t0 t1 : String} {e0 e1 : Bool} {x0 x1 : String} {z0 z1 : Nat} (hu : P.underlying k = some (.struct #[⟨n0, i, 0, e0, t0, x0, z0⟩, ⟨n1, i, 1, e1, t1, x1, z1⟩])) (hi : P.underlying i = some (.int .i64)) (hn0 : n0 ≠ "_") (hn1 : n1 ≠ "_")
    (hc : P.cellsOf k = 2) (hc1 : P.cellsOf i = 1) (hk : P.keyType k = true) (hz : 0 < P.types.size) {x y : Int} (hx : (Lit.int .i64 x).wf = true) (hy : (Lit.int .i64 y).wf = true) :
    ∃ kl, keyOf P k (ptV x y) = some kl := by
  obtain ⟨d, hd⟩ : ∃ d, P.types.size = d + 1 := ⟨P.types.size - 1, by omega⟩
  refine ⟨.string (keyBytes [.int .i64 x, .int .i64 y]), ?_⟩
  simp [keyOf, hd, hk, hc, hc1, Program.keyLits, hu, hi, Value.formed, Value.cells, hx, hy, hn0, hn1]
end Go.Proofs
namespace Go.Proofs.YtmjmmokbaocboaaGreatDoor
open Go.RowKit Go.Maps
theorem laidOutM : laidOutB Tryz.prog = true := by kernel_rfl
theorem ptkU : (Tryz.prog.underlying 74) = some (.struct #[⟨"X", 3, 0, false, "", "", 0⟩, ⟨"Y", 3, 1, false, "", "", 8⟩]) := by kernel_rfl
theorem ptkS : 0 < Tryz.prog.types.size := of_decide_eq_true (by kernel_rfl)
theorem ptkK : Tryz.prog.keyType 74 = true := by kernel_rfl
theorem ptkC : Tryz.prog.cellsOf 74 = 2 := by kernel_rfl
theorem ptkI : Tryz.prog.cellsOf 3 = 1 := by kernel_rfl
theorem ptkR : (74 : TypeId) < Tryz.prog.types.size := of_decide_eq_true (by kernel_rfl)
theorem ptkA : Tryz.prog.keyTypeAt 2 74 = true := by kernel_rfl
theorem ptkZ (w : World) : (zeroValue 4).run Tryz.prog w = .ok (.bool false) w := by kernel_rfl
theorem ptm : PtMap Tryz.prog 99 74 4 where
  K := Keyed.of_law (deep_law_laid laidOutM (m := 2) (by omega) ptkR ptkA (by rw [ptkU]))
  ht := Tryz.underlying99
  he := Tryz.underlying4
  hz := ptkZ
  key := fun _ _ hx hy => ptKey_gen ptkU Tryz.underlying3 (by decide) (by decide) ptkC ptkI ptkK ptkS hx hy
end Go.Proofs.YtmjmmokbaocboaaGreatDoor
namespace Go.Proofs.YtmjmmokbaocboaaGreatDoor
open Go.RowKit
set_option maxRecDepth 100000 in
set_option maxHeartbeats 400000 in
theorem around_any (n by_ : Int) (h1 : -1000 ≤ n) (h2 : n ≤ 1000) (h3 : 0 ≤ by_) (h4 : by_ ≤ 1000) (w : World) :
    Calls Tryz.prog 82 #[.int .i64 n, .int .i64 by_] w fun e w' => e = .returned (.agg #[.int .i64 (n - by_), .int .i64 (n + by_)]) ∧ Below w.heap.size w w' := by
  go_enter Tryz.func82, Tryz.ntmps82
  go_wp2
  refine bodyPost_ret (v := .agg #[.int .i64 (n - by_), .int .i64 (n + by_)]) (by simp [results, Tryz.results82, go_sem]) rfl ⟨rfl, ?_⟩
  exact (Below.refl _ _).alloc (Nat.le_refl _) _
set_option maxRecDepth 100000 in
set_option maxHeartbeats 400000 in
theorem lies_any (n lo hi : Int) (w : World) :
    Calls Tryz.prog 145 #[.int .i64 n, .agg #[.int .i64 lo, .int .i64 hi]] w fun e w' => e = .returned (.bool (inB n lo hi)) ∧ Below w.heap.size w w' := by
  go_enter Tryz.func145, Tryz.ntmps145
  go_wp2_with (go_at_call 49; refine (within_any _ _ _ _).mono ?_; rintro e w' ⟨rfl, rfl⟩)
  go_ret
  exact ⟨rfl, (Below.refl _ _).alloc (Nat.le_refl _) _⟩
def nearB (px py qx qy b : Int) : Bool := inB qx (px - b) (px + b) && inB qy (py - b) (py + b)
theorem nearB_no {px py qx qy b : Int} (h : inB qx (px - b) (px + b) = false) : nearB px py qx qy b = false := by unfold nearB; rw [h]; rfl
theorem nearB_yes {px py qx qy b : Int} (h : inB qx (px - b) (px + b) = true) : nearB px py qx qy b = inB qy (py - b) (py + b) := by unfold nearB; rw [h]; rfl
set_option maxRecDepth 100000 in
set_option maxHeartbeats 1000000 in
theorem near_yes (px py qx qy b : Int) (h1 : -500 ≤ px) (h2 : px ≤ 500) (h3 : -500 ≤ py) (h4 : py ≤ 500) (h5 : 0 ≤ b) (h6 : b ≤ 500) (w : World) (hx : inB qx (px - b) (px + b) = true) :
    Calls Tryz.prog 112 #[.agg #[.int .i64 px, .int .i64 py], .agg #[.int .i64 qx, .int .i64 qy], .int .i64 b] w fun e w' => e = .returned (.bool (nearB px py qx qy b)) ∧ Below w.heap.size w w' := by
  go_enter Tryz.func112, Tryz.ntmps112
  go_wp2_with fail
  go_region_held3 (fun w' => w'.cell? ⟨w.heap.size, 0, none⟩ = some (.int .i64 px) ∧ w'.cell? ⟨w.heap.size, 1, none⟩ = some (.int .i64 py) ∧ w'.cell? ⟨w.heap.size + 1, 0, none⟩ = some (.int .i64 qx) ∧ w'.cell? ⟨w.heap.size + 1, 1, none⟩ = some (.int .i64 qy))
    (first
      | go_keep
      | (go_split_ands
         refine ⟨?_, ?_, ?_, ?_⟩ <;> (rw [hb.cell (by first | omega | (simp; omega) | simp)]; assumption)))
    (first
      | (go_at_call 82; refine (around_any _ _ (by omega) (by omega) (by omega) (by omega) _).mono ?_; rintro e w' ⟨rfl, hb⟩; have hs := hb.size; try simp only [World.size_alloc, World.size_drew] at hs)
      | (go_at_call 145; refine (lies_any _ _ _ _).mono ?_; rintro e w' ⟨rfl, hb⟩; have hs := hb.size; try simp only [World.size_alloc, World.size_drew] at hs))
  rename_i wA hA _ wB hB _ wC hC _ _
  go_wp2
  go_ret
  refine ⟨ret_bool (nearB_yes hx).symm, ?_⟩
  have k := hA.size; have k2 := hB.size; have k3 := hC.size
  simp only [World.size_alloc, World.size_drew] at k
  have h0 : Below w.heap.size w ((w.alloc (Obj.cells #[Value.int IntKind.i64 px, Value.int IntKind.i64 py] 74)).alloc (Obj.cells #[Value.int IntKind.i64 qx, Value.int IntKind.i64 qy] 74)).drew := (((Below.refl _ _).alloc (Nat.le_refl _) _).alloc (by rw [World.size_alloc]; omega) _).drew
  exact h0.trans ((hA.mono (by simp only [World.size_alloc, World.size_drew]; omega)).trans ((hB.mono (by omega)).trans ((hC.mono (by omega)).trans (hb.mono (by omega)))))
set_option maxRecDepth 100000 in
set_option maxHeartbeats 1000000 in
theorem near_no (px py qx qy b : Int) (h1 : -500 ≤ px) (h2 : px ≤ 500) (h5 : 0 ≤ b) (h6 : b ≤ 500) (w : World) (hx : inB qx (px - b) (px + b) = false) :
    Calls Tryz.prog 112 #[.agg #[.int .i64 px, .int .i64 py], .agg #[.int .i64 qx, .int .i64 qy], .int .i64 b] w fun e w' => e = .returned (.bool (nearB px py qx qy b)) ∧ Below w.heap.size w w' := by
  go_enter Tryz.func112, Tryz.ntmps112
  go_wp2_with fail
  refine wp_region_held_drew (S := (fun w' => w'.cell? ⟨w.heap.size, 0, none⟩ = some (.int .i64 px) ∧ w'.cell? ⟨w.heap.size, 1, none⟩ = some (.int .i64 py) ∧ w'.cell? ⟨w.heap.size + 1, 0, none⟩ = some (.int .i64 qx) ∧ w'.cell? ⟨w.heap.size + 1, 1, none⟩ = some (.int .i64 qy))) (by kernel_rfl) ?_ (fun hHeld => ?_)
  · (try dsimp only); (first | (go_keep; done) | fail)
  refine wpAnyH_take (i := 0) (v := ?_) rfl (by kernel_rfl) (by kernel_rfl) (by kernel_rfl) (fun _ _ _ h => h) (Or.inl ⟨by rfl, ?_⟩) (by assumption) ?_
  rotate_left 1
  · ((intro w hSw; (try dsimp only at hSw); go_simp) <;> with_reducible rfl)
  (try simp only [Act.put, List.setIfInBounds_toArray, List.set_cons_zero, List.set_cons_succ])
  refine wpAnyH_take (i := 1) (v := ?_) rfl (by kernel_rfl) (by kernel_rfl) (by kernel_rfl) (fun _ _ _ h => h) (Or.inl ⟨by rfl, ?_⟩) (by assumption) ?_
  rotate_left 1
  · ((intro w hSw; (try dsimp only at hSw); go_simp) <;> with_reducible rfl)
  (try simp only [Act.put, List.setIfInBounds_toArray, List.set_cons_zero, List.set_cons_succ])
  refine wpAnyH_take (i := 2) (v := ?_) rfl (by kernel_rfl) (by kernel_rfl) (by kernel_rfl) (fun _ _ _ h => h) (Or.inl ⟨by rfl, ?_⟩) (by assumption) ?_
  rotate_left 1
  · ((intro w hSw; (try dsimp only at hSw); go_simp) <;> with_reducible rfl)
  (try simp only [Act.put, List.setIfInBounds_toArray, List.set_cons_zero, List.set_cons_succ])
  refine wpAnyH_take (i := 3) (v := ?_) rfl (by kernel_rfl) (by kernel_rfl) (by kernel_rfl) (fun _ _ _ h => h) (Or.inl ⟨by rfl, ?_⟩) (by assumption) ?_
  rotate_left 1
  · ((intro w hSw; (try dsimp only at hSw); go_simp) <;> with_reducible rfl)
  (try simp only [Act.put, List.setIfInBounds_toArray, List.set_cons_zero, List.set_cons_succ])
  refine wpAnyH_take (i := 4) (v := ?_) rfl (by kernel_rfl) (by kernel_rfl) (by kernel_rfl) (fun _ _ _ h => h) (Or.inl ⟨by rfl, ?_⟩) (by assumption) ?_
  rotate_left 1
  · ((intro w hSw; (try dsimp only at hSw); go_simp) <;> with_reducible rfl)
  (try simp only [Act.put, List.setIfInBounds_toArray, List.set_cons_zero, List.set_cons_succ])
  refine wpAnyH_ready (rs := [5]) (by kernel_rfl) (by simp) ?_
  refine AllReadyH.cons (o := _) rfl (fun K hK => ?_) AllReadyH.nil
  go_simp
  (go_at_call 82; refine (around_any _ _ (by omega) (by omega) (by omega) (by omega) _).mono ?_; rintro e w1 ⟨rfl, hb⟩; have hA := hb; have hs := hb.size; try simp only [World.size_alloc, World.size_drew] at hs)
  refine hK.out _ _ ?_ (fun hHeld => ?_)
  · (first | (go_keep; done) | (go_split_ands; refine ⟨?_, ?_, ?_, ?_⟩ <;> (rw [hb.cell (by first | omega | (simp; omega) | simp)]; assumption)) | assumption)
  clear hK K
  (try simp only [Act.put, List.setIfInBounds_toArray, List.set_cons_zero, List.set_cons_succ])
  refine wpAnyH_ready (rs := [6]) (by kernel_rfl) (by simp) ?_
  refine AllReadyH.cons (o := _) rfl (fun K hK => ?_) AllReadyH.nil
  go_simp
  (go_at_call 145; refine (lies_any _ _ _ _).mono ?_; rw [hx]; rintro e w' ⟨rfl, hb⟩; have hs := hb.size; try simp only [World.size_alloc, World.size_drew] at hs)
  refine hK.out _ _ ?_ (fun hHeld => ?_)
  · (first | (go_keep; done) | (go_split_ands; refine ⟨?_, ?_, ?_, ?_⟩ <;> (rw [hb.cell (by first | omega | (simp; omega) | simp)]; assumption)) | assumption)
  clear hK K
  (try simp only [Act.put, List.setIfInBounds_toArray, List.set_cons_zero, List.set_cons_succ])
  refine wpAnyH_take (i := 7) (v := ?_) rfl (by kernel_rfl) (by kernel_rfl) (by kernel_rfl) (fun _ _ _ h => h) (Or.inl ⟨by rfl, ?_⟩) (by assumption) ?_
  rotate_left 1
  · ((intro w hSw; (try dsimp only at hSw); go_simp) <;> with_reducible rfl)
  (try simp only [Act.put, List.setIfInBounds_toArray, List.set_cons_zero, List.set_cons_succ])
  refine wpAnyH_take (i := 8) (v := undef) rfl (by kernel_rfl) (by kernel_rfl) (by kernel_rfl) (fun _ _ _ h => h) (Or.inr ⟨by rfl, rfl⟩) (by assumption) ?_
  (try simp only [Act.put, List.setIfInBounds_toArray, List.set_cons_zero, List.set_cons_succ])
  refine wpAnyH_take (i := 9) (v := undef) rfl (by kernel_rfl) (by kernel_rfl) (by kernel_rfl) (fun _ _ _ h => h) (Or.inr ⟨by rfl, rfl⟩) (by assumption) ?_
  (try simp only [Act.put, List.setIfInBounds_toArray, List.set_cons_zero, List.set_cons_succ])
  refine wpAnyH_take (i := 10) (v := undef) rfl (by kernel_rfl) (by kernel_rfl) (by kernel_rfl) (fun _ _ _ h => h) (Or.inr ⟨by rfl, rfl⟩) (by assumption) ?_
  (try simp only [Act.put, List.setIfInBounds_toArray, List.set_cons_zero, List.set_cons_succ])
  refine wpAnyH_take (i := 11) (v := undef) rfl (by kernel_rfl) (by kernel_rfl) (by kernel_rfl) (fun _ _ _ h => h) (Or.inr ⟨by rfl, rfl⟩) (by assumption) ?_
  (try simp only [Act.put, List.setIfInBounds_toArray, List.set_cons_zero, List.set_cons_succ])
  refine wpAnyH_take (i := 12) (v := undef) rfl (by kernel_rfl) (by kernel_rfl) (by kernel_rfl) (fun _ _ _ h => h) (Or.inr ⟨by rfl, rfl⟩) (by assumption) ?_
  (try simp only [Act.put, List.setIfInBounds_toArray, List.set_cons_zero, List.set_cons_succ])
  refine wpAnyH_ready (rs := [13]) (by kernel_rfl) (by simp) ?_
  refine AllReadyH.cons (o := _) rfl (fun K hK => ?_) AllReadyH.nil
  go_simp
  refine hK.out _ _ ?_ (fun hHeld => ?_)
  · (first | (go_keep; done) | (go_split_ands; refine ⟨?_, ?_, ?_, ?_⟩ <;> (rw [hb.cell (by first | omega | (simp; omega) | simp)]; assumption)) | assumption)
  clear hK K
  (try simp only [Act.put, List.setIfInBounds_toArray, List.set_cons_zero, List.set_cons_succ])
  refine wpAnyH_ready (rs := [14]) (by kernel_rfl) (by simp) ?_
  refine AllReadyH.cons (o := _) rfl (fun K hK => ?_) AllReadyH.nil
  go_simp
  refine hK.out _ _ ?_ (fun hHeld => ?_)
  · (first | (go_keep; done) | (go_split_ands; refine ⟨?_, ?_, ?_, ?_⟩ <;> (rw [hb.cell (by first | omega | (simp; omega) | simp)]; assumption)) | assumption)
  clear hK K
  (try simp only [Act.put, List.setIfInBounds_toArray, List.set_cons_zero, List.set_cons_succ])
  refine wpAnyH_take (i := 15) (v := ?_) rfl (by kernel_rfl) (by kernel_rfl) (by kernel_rfl) (fun _ _ _ h => h) (Or.inl ⟨by rfl, ?_⟩) (by assumption) ?_
  rotate_left 1
  · ((intro w hSw; (try dsimp only at hSw); go_simp) <;> with_reducible rfl)
  (try simp only [Act.put, List.setIfInBounds_toArray, List.set_cons_zero, List.set_cons_succ])
  refine wpAnyH_take (i := 16) (v := ?_) rfl (by kernel_rfl) (by kernel_rfl) (by kernel_rfl) (fun _ _ _ h => h) (Or.inl ⟨by rfl, ?_⟩) (by assumption) ?_
  rotate_left 1
  · ((intro w hSw; (try dsimp only at hSw); go_simp) <;> with_reducible rfl)
  (try simp only [Act.put, List.setIfInBounds_toArray, List.set_cons_zero, List.set_cons_succ])
  refine wpAnyH_done (by kernel_rfl) ?_ _
  simp only [Act.put, List.getElem_toArray, List.getElem_cons_zero, List.getElem_cons_succ, List.setIfInBounds_toArray, List.set_cons_zero, List.set_cons_succ]
  go_wp2
  go_ret
  refine ⟨ret_bool (nearB_no hx).symm, ?_⟩
  have k := hA.size
  simp only [World.size_alloc, World.size_drew] at k
  have h0 : Below w.heap.size w ((w.alloc (Obj.cells #[Value.int IntKind.i64 px, Value.int IntKind.i64 py] 74)).alloc (Obj.cells #[Value.int IntKind.i64 qx, Value.int IntKind.i64 qy] 74)).drew := (((Below.refl _ _).alloc (Nat.le_refl _) _).alloc (by rw [World.size_alloc]; omega) _).drew
  exact h0.trans ((hA.mono (by simp only [World.size_alloc, World.size_drew]; omega)).trans (hb.mono (by omega)))
theorem near_any (px py qx qy b : Int) (h1 : -500 ≤ px) (h2 : px ≤ 500) (h3 : -500 ≤ py) (h4 : py ≤ 500) (h5 : 0 ≤ b) (h6 : b ≤ 500) (w : World) :
    Calls Tryz.prog 112 #[.agg #[.int .i64 px, .int .i64 py], .agg #[.int .i64 qx, .int .i64 qy], .int .i64 b] w fun e w' => e = .returned (.bool (nearB px py qx qy b)) ∧ Below w.heap.size w w' := by
  cases hx : inB qx (px - b) (px + b) with
  | true => exact near_yes px py qx qy b h1 h2 h3 h4 h5 h6 w hx
  | false => exact near_no px py qx qy b h1 h2 h5 h6 w hx
end Go.Proofs.YtmjmmokbaocboaaGreatDoor
namespace Go.Proofs.YtmjmmokbaocboaaGreatDoor
open Go.RowKit
set_option maxRecDepth 100000 in
set_option maxHeartbeats 2000000 in
theorem fits_any (i j t hb pb tb yb b1 o1 n1 k1 b2 o2 n2 k2 : Nat) (tv : Value) (HX HY PX PY : Nat → Int) (r : Int) (w : World) (hr0 : 0 ≤ r) (hr1 : r ≤ 500) (hi : i < n1) (hj : j < n2) (hn1 : n1 ≤ 1000) (hn2 : n2 ≤ 1000)
    (hT : ∀ W, Calls Tryz.prog 75 #[.agg #[.int .i64 (PX j), .int .i64 (PY j)], tv] W fun e w' => e = .returned (.agg #[.int .i64 (trn t (PX j, PY j)).1, .int .i64 (trn t (PX j, PY j)).2]) ∧ Below W.heap.size W w')
    (c1 : w.cell? ⟨hb, 0, none⟩ = some (.slice (some ⟨b1, o1, none⟩) n1 k1)) (c2 : w.cell? ⟨pb, 0, none⟩ = some (.slice (some ⟨b2, o2, none⟩) n2 k2)) (c3 : w.cell? ⟨tb, 0, none⟩ = some tv) (c4 : w.cell? ⟨yb, 0, none⟩ = some (.int .i64 r))
    (l1 : hb < w.heap.size) (l2 : pb < w.heap.size) (l3 : tb < w.heap.size) (l4 : yb < w.heap.size) (hp1 : Pts w b1 o1 n1 HX HY) (hp2 : Pts w b2 o2 n2 PX PY) (m1 : b1 < w.heap.size) (m2 : b2 < w.heap.size) (s1 : small (HX i, HY i)) :
    Calls Tryz.prog 111 #[.int .i64 i, .int .i64 j, .pointer (some ⟨hb, 0, none⟩), .pointer (some ⟨pb, 0, none⟩), .pointer (some ⟨tb, 0, none⟩), .pointer (some ⟨yb, 0, none⟩)] w
      fun e w' => e = .returned (.bool (nearB (HX i) (HY i) (trn t (PX j, PY j)).1 (trn t (PX j, PY j)).2 r)) ∧ Below w.heap.size w w' := by
  obtain ⟨d1, d2⟩ := hp1 i hi
  obtain ⟨d3, d4⟩ := hp2 j hj
  obtain ⟨⟨s2, s3⟩, s4, s5⟩ := s1
  dsimp only at s2 s3 s4 s5
  have hi0 : (0 : Int) ≤ (i : Int) := Int.natCast_nonneg _
  have hi1 : (i : Int) < (n1 : Int) := by omega
  have hj0 : (0 : Int) ≤ (j : Int) := Int.natCast_nonneg _
  have hj1 : (j : Int) < (n2 : Int) := by omega
  generalize (trn t (PX j, PY j)).1 = qx at hT ⊢
  generalize (trn t (PX j, PY j)).2 = qy at hT ⊢
  go_enter Tryz.func111, Tryz.ntmps111
  go_wp2_with fail
  go_region_held3 (fun w' => w'.cell? ⟨hb, 0, none⟩ = some (.slice (some ⟨b1, o1, none⟩) n1 k1) ∧ w'.cell? ⟨pb, 0, none⟩ = some (.slice (some ⟨b2, o2, none⟩) n2 k2) ∧ w'.cell? ⟨tb, 0, none⟩ = some tv ∧ w'.cell? ⟨yb, 0, none⟩ = some (.int .i64 r)
      ∧ w'.cell? ⟨b1, o1 + i * 2, none⟩ = some (.int .i64 (HX i)) ∧ w'.cell? ⟨b1, o1 + i * 2 + 1, none⟩ = some (.int .i64 (HY i)) ∧ w'.cell? ⟨b2, o2 + j * 2, none⟩ = some (.int .i64 (PX j)) ∧ w'.cell? ⟨b2, o2 + j * 2 + 1, none⟩ = some (.int .i64 (PY j)))
    (first
      | go_keep
      | (go_split_ands
         refine ⟨?_, ?_, ?_, ?_, ?_, ?_, ?_, ?_⟩ <;> (rw [hbb.cell (by first | omega | (simp; omega) | simp)]; assumption)))
    (first
      | (go_at_call 75; refine (hT _).mono ?_; rintro e w' ⟨rfl, hbb⟩; have hs := hbb.size; try simp only [World.size_alloc, World.size_drew] at hs)
      | (go_at_call 112; refine (near_any _ _ _ _ _ (by omega) (by omega) (by omega) (by omega) (by omega) (by omega) _).mono ?_; rintro e w' ⟨rfl, hbb⟩; have hs := hbb.size; try simp only [World.size_alloc, World.size_drew] at hs))
  rename_i wA hA hsA _
  go_wp2
  go_ret
  exact ⟨rfl, (Below.refl _ _).drew.trans ((hA.mono (by simp)).trans (hbb.mono (by simpa using hsA)))⟩
end Go.Proofs.YtmjmmokbaocboaaGreatDoor
namespace Go.Proofs.YtmjmmokbaocboaaGreatDoor
end Go.Proofs.YtmjmmokbaocboaaGreatDoor
namespace Go.Proofs.YtmjmmokbaocboaaGreatDoor
open Go.RowKit
end Go.Proofs.YtmjmmokbaocboaaGreatDoor
namespace Go.Proofs.YtmjmmokbaocboaaGreatDoor
open Go.RowKit
def ponB (n : Nat) (least most : Int) (X Y : Nat → Int) (r : Int) : Bool := allB n X Y r && inB n least most
theorem ponB_yes {n : Nat} {least most : Int} {X Y : Nat → Int} {r : Int} (h : ∀ i, i < n → ptB (X i) (Y i) r = true) : ponB n least most X Y r = inB n least most := by unfold ponB; rw [allB_yes h]; rfl
theorem ponB_no {n i : Nat} {least most : Int} {X Y : Nat → Int} {r : Int} (hi : i < n) (h : ptB (X i) (Y i) r = false) : ponB n least most X Y r = false := by unfold ponB; rw [allB_no hi h]; rfl
theorem ptB_f1 {x y r : Int} (h1 : inB x (-r) r = false) : ptB x y r = false := by unfold ptB; rw [h1]; rfl
theorem ptB_f2 {x y r : Int} (h1 : inB x (-r) r = true) (h2 : inB y (-r) r = false) : ptB x y r = false := by unfold ptB; rw [h1, h2]; rfl
theorem ptB_t {x y r : Int} (h1 : inB x (-r) r = true) (h2 : inB y (-r) r = true) : ptB x y r = true := by unfold ptB; rw [h1, h2]; rfl
set_option maxRecDepth 100000 in
set_option maxHeartbeats 400000 in
theorem points_some (b off n cap : Nat) (least most : Int) (X Y : Nat → Int) (r : Int) (h0 : 0 ≤ r) (h1 : r ≤ 1000) (w : World) (hn : n ≤ 1000) (hp : Pts w b off n X Y) :
    Calls Tryz.prog 56 #[.slice (some ⟨b, off, none⟩) n cap, .int .i64 least, .int .i64 most, .int .i64 r] w fun e w' => e = .returned (.bool (ponB n least most X Y r)) ∧ w = w' := by
  go_enter Tryz.func56, Tryz.ntmps56
  go_wp2
  go_loop [9] (fun i => ∃ k : Nat, k ≤ n ∧ i = .int .i64 k ∧ ∀ m, m < k → ptB (X m) (Y m) r = true) (fun i => n - (intOf i).toNat)
  case atStart => exact ⟨0, Nat.zero_le _, rfl, fun _ h => absurd h (Nat.not_lt_zero _)⟩
  case round =>
    obtain ⟨k, hk, rfl, hall⟩ := hrel
    by_cases hlt : k < n
    · obtain ⟨hx, hy⟩ := hp k hlt
      cases hbx : inB (X k) (-r) r with
      | false =>
        have hpt := ptB_f1 (y := Y k) hbx
        go_wp2_with (go_at_call 57; refine (in_any _ _ _ _).mono ?_; rintro e w' ⟨rfl, rfl⟩)
        go_ret
        exact ⟨ret_bool (ponB_no hlt hpt).symm, rfl⟩
      | true =>
        cases hby : inB (Y k) (-r) r with
        | false =>
          have hpt := ptB_f2 hbx hby
          go_wp2_with (go_at_call 57; refine (in_any _ _ _ _).mono ?_; rintro e w' ⟨rfl, rfl⟩)
          go_ret
          exact ⟨ret_bool (ponB_no hlt hpt).symm, rfl⟩
        | true =>
          have hpt := ptB_t hbx hby
          go_wp2_with (go_at_call 57; refine (in_any _ _ _ _).mono ?_; rintro e w' ⟨rfl, rfl⟩)
          go_round
          case rel => exact ⟨k + 1, by omega, by go_num, all_succ hall hpt⟩
          case measure => simp [intOf]; omega
    · obtain rfl : n = k := by omega
      go_wp2_with (go_at_call 57; refine (in_any _ _ _ _).mono ?_; rintro e w' ⟨rfl, rfl⟩)
      go_ret
      exact ⟨ret_bool (ponB_yes fun i hi => hall i (by omega)).symm, rfl⟩
set_option maxRecDepth 100000 in
set_option maxHeartbeats 400000 in
theorem points_nil (a : Option Addr) (c : Nat) (least most : Int) (X Y : Nat → Int) (r : Int) (w : World) :
    Calls Tryz.prog 56 #[.slice a 0 c, .int .i64 least, .int .i64 most, .int .i64 r] w fun e w' => e = .returned (.bool (ponB 0 least most X Y r)) ∧ w = w' := by
  go_enter Tryz.func56, Tryz.ntmps56
  go_wp2
  refine wp_loop_rounds 1 ?_
  rw [rounds_succ]
  go_wp2_with (go_at_call 57; refine (in_any _ _ _ _).mono ?_; rintro e w' ⟨rfl, rfl⟩)
  go_ret
  exact ⟨ret_bool (ponB_yes fun i hi => absurd hi (Nat.not_lt_zero i)).symm, rfl⟩
theorem points_any (v : Value) (n : Nat) (least most : Int) (X Y : Nat → Int) (r : Int) (h0 : 0 ≤ r) (h1 : r ≤ 1000) (w : World) (hn : n ≤ 1000) (hp : PSl w v n X Y) :
    Calls Tryz.prog 56 #[v, .int .i64 least, .int .i64 most, .int .i64 r] w fun e w' => e = .returned (.bool (ponB n least most X Y r)) ∧ w = w' := by
  rcases hp with ⟨a, c, rfl, rfl⟩ | ⟨b, off, cap, rfl, hb, hp⟩
  · exact points_nil a c least most X Y r w
  · exact points_some b off n cap least most X Y r h0 h1 w hn hp
end Go.Proofs.YtmjmmokbaocboaaGreatDoor
namespace Go.Proofs.YtmjmmokbaocboaaGreatDoor
open Go.RowKit
theorem Tryz.info3 : (Tryz.prog.info? 3).map (fun i => (i.zero, i.size, i.bytes)) = some (some (.int .i64 0), 1, 8) := by kernel_rfl
/-- what a list of cells holds at a place -/
def Ints (w : World) (b off n : Nat) (F : Nat → Int) : Prop := ∀ i, i < n → w.cell? ⟨b, off + i, none⟩ = some (.int .i64 (F i))
theorem ownsRow_lt {w : World} {B : Nat} {e : TypeId} {size : Nat} {v : Value} {n : Nat} {xs : List Value} (h : w.ownsRow B e size v n xs) :
    (v = .slice none 0 0 ∧ n = 0) ∨ ∃ g cap, v = .slice (some ⟨g, 0, none⟩) n cap ∧ g < w.heap.size ∧ ∀ j x, xs[j]? = some x → w.cell? ⟨g, j, none⟩ = some x := by
  obtain ⟨h1, h2 | ⟨g, cap, cur, a1, a2, a3, a4, a5, a6, a7⟩⟩ := h
  · exact .inl h2
  · refine .inr ⟨g, cap, a1, (Array.getElem?_eq_some_iff.1 a3).1, fun j x hx => ?_⟩
    have : w.cell? ⟨g, j, none⟩ = cur[j]? := by simp [World.cell?, a3]
    rw [this, ← Array.getElem?_toList]
    rw [← a7, List.getElem?_take] at hx
    split at hx
    · exact hx
    · cases hx
end Go.Proofs.YtmjmmokbaocboaaGreatDoor
namespace Go.Proofs.YtmjmmokbaocboaaGreatDoor
open Go.RowKit
/-- the first place of r among the first n, from k on; -1 if there is none. -/
def idxI (F : Nat → Int) (r : Int) (k : Nat) : Nat → Int
  | 0 => -1
  | m+1 => if F k = r then (k : Int) else idxI F r (k+1) m
theorem idxI_no {F : Nat → Int} {r : Int} : ∀ {m k : Nat}, (∀ j, k ≤ j → j < k + m → F j ≠ r) → idxI F r k m = -1
  | 0, k, _ => rfl
  | m+1, k, h => by
    unfold idxI
    rw [if_neg (h k (by omega) (by omega))]
    exact idxI_no fun j h1 h2 => h j (by omega) (by omega)
theorem idxI_yes {F : Nat → Int} {r : Int} : ∀ {m k j : Nat}, k ≤ j → j < k + m → F j = r → 0 ≤ idxI F r k m
  | 0, k, j, h1, h2, _ => absurd h2 (by omega)
  | m+1, k, j, h1, h2, h => by
    unfold idxI
    by_cases h3 : F k = r
    · rw [if_pos h3]; omega
    · rw [if_neg h3]
      have : j ≠ k := fun e => h3 (e ▸ h)
      exact idxI_yes (m := m) (k := k+1) (j := j) (by omega) (by omega) h
theorem idxI_hit {F : Nat → Int} {r : Int} {n k : Nat} (hk : k < n) (h : F k = r) : idxI F r k (n - k) = k := by
  obtain ⟨m, hm⟩ : ∃ m, n - k = m + 1 := ⟨n - k - 1, by omega⟩
  rw [hm]; unfold idxI; rw [if_pos h]
theorem idxI_miss {F : Nat → Int} {r : Int} {n k : Nat} (hk : k < n) (h : F k ≠ r) : idxI F r k (n - k) = idxI F r (k+1) (n - (k+1)) := by
  obtain ⟨m, hm⟩ : ∃ m, n - k = m + 1 := ⟨n - k - 1, by omega⟩
  rw [hm, show n - (k+1) = m by omega]; conv => lhs; unfold idxI
  rw [if_neg h]
/-- r is among the first n. -/
def hasB (F : Nat → Int) (r : Int) (n : Nat) : Bool := decide (0 ≤ idxI F r 0 n)
theorem hasB_iff {F : Nat → Int} {r : Int} {n : Nat} : hasB F r n = true ↔ ∃ j, j < n ∧ F j = r := by
  unfold hasB
  rw [decide_eq_true_iff]
  constructor
  · intro h
    exact Classical.byContradiction fun h2 => by
      rw [idxI_no fun j _ hj e => h2 ⟨j, by omega, e⟩] at h; omega
  · rintro ⟨j, hj, e⟩; exact idxI_yes (by omega) (by omega) e
set_option maxRecDepth 100000 in
set_option maxHeartbeats 1000000 in
theorem intIndex_some (b off n cap : Nat) (F : Nat → Int) (r : Int) (w : World) (hn : n ≤ 1000) (hp : Ints w b off n F) (hb : b < w.heap.size) :
    Calls Tryz.prog 166 #[.slice (some ⟨b, off, none⟩) n cap, .int .i64 r] w fun e w' => e = .returned (.int .i64 (idxI F r 0 n)) ∧ Below w.heap.size w w' := by
  go_enter Tryz.func166, Tryz.ntmps166
  go_wp2
  go_loopw [8] (fun i wr => ∃ k : Nat, k ≤ n ∧ i = .int .i64 k ∧ Below w.heap.size w wr ∧ idxI F r 0 n = idxI F r k (n - k)) (fun i _ => n - (intOf i).toNat)
  case atStart => exact ⟨0, Nat.zero_le _, rfl, Below.refl _ _, rfl⟩
  case round =>
    obtain ⟨k, hk, rfl, hbl, hix⟩ := hrel
    by_cases hlt : k < n
    · have hc : wr.cell? ⟨b, off + k, none⟩ = some (.int .i64 (F k)) := (hbl.cell (p := ⟨b, off + k, none⟩) hb).trans (hp k hlt)
      by_cases he : r = F k
      · go_wp2
        go_ret
        rw [idxI_hit hlt he.symm] at hix
        exact ⟨(by rw [hix]; rfl), hbl⟩
      · go_wp2
        go_roundw
        case rel => exact ⟨k + 1, by omega, by go_num, hbl, hix.trans (idxI_miss hlt fun e => he e.symm)⟩
        case measure => simp [intOf]; omega
    · obtain rfl : n = k := by omega
      go_wp2
      go_ret
      rw [Nat.sub_self] at hix
      exact ⟨by rw [hix]; rfl, hbl⟩
set_option maxRecDepth 100000 in
set_option maxHeartbeats 1000000 in
theorem intIndex_nil (a : Option Addr) (c : Nat) (F : Nat → Int) (r : Int) (w : World) :
    Calls Tryz.prog 166 #[.slice a 0 c, .int .i64 r] w fun e w' => e = .returned (.int .i64 (idxI F r 0 0)) ∧ Below w.heap.size w w' := by
  go_enter Tryz.func166, Tryz.ntmps166
  go_wp2
  refine wp_loop_rounds 1 ?_
  rw [rounds_succ]
  go_wp2
  go_ret
  exact ⟨rfl, Below.refl _ _⟩
/-- a slice of numbers. -/
def IntsSl (w : World) (v : Value) (n : Nat) (F : Nat → Int) : Prop :=
  (∃ a c, v = .slice a 0 c ∧ n = 0) ∨ ∃ b off cap, v = .slice (some ⟨b, off, none⟩) n cap ∧ b < w.heap.size ∧ Ints w b off n F
theorem intIndex_any (v : Value) (n : Nat) (F : Nat → Int) (r : Int) (w : World) (hn : n ≤ 1000) (h : IntsSl w v n F) :
    Calls Tryz.prog 166 #[v, .int .i64 r] w fun e w' => e = .returned (.int .i64 (idxI F r 0 n)) ∧ Below w.heap.size w w' := by
  rcases h with ⟨a, c, rfl, rfl⟩ | ⟨b, off, cap, rfl, hb, hp⟩
  · exact intIndex_nil a c F r w
  · exact intIndex_some b off n cap F r w hn hp hb
set_option maxRecDepth 100000 in
set_option maxHeartbeats 1000000 in
theorem intHas_any (v : Value) (n : Nat) (F : Nat → Int) (r : Int) (w : World) (hn : n ≤ 1000) (h : IntsSl w v n F) :
    Calls Tryz.prog 152 #[v, .int .i64 r] w fun e w' => e = .returned (.bool (hasB F r n)) ∧ Below w.heap.size w w' := by
  unfold hasB
  have hi := intIndex_any v n F r w hn h
  generalize idxI F r 0 n = x at hi ⊢
  go_enter Tryz.func152, Tryz.ntmps152
  go_wp2_with (go_at_call 166; refine hi.mono ?_; rintro e w' ⟨rfl, hb⟩)
  go_ret
  exact ⟨rfl, hb⟩
end Go.Proofs.YtmjmmokbaocboaaGreatDoor
