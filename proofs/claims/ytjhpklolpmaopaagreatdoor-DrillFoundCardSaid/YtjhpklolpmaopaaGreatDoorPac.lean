/- A part of the proof: see the last file. -/
import Derived.Test.YtjhpklolpmaopaaGreatDoorPab
import Derived.StillTactics
import Derived.OwnWalk
import Derived.Laws.Pointers
import Derived.Deep.RegionHeld3
import Derived.Deep.RegionWith
import Derived.Deep.QuietTactic
import Derived.BigQuiet
import Derived.RangeFuncNested
import Derived.RangeFuncBound
import Derived.RangeFuncCalls
import Derived.RangeFuncLeaves
import Derived.Shelf.Abstract
import Derived.Shelf.RegionOpen
import Derived.OwnWalkIn
import Derived.TacticsInMore
import Derived.LoopNIn
import Derived.LoopIn
import Derived.Maps.AppendAt
import Derived.Laws.EntriesVeiled
import Derived.Lib.LazyBuf
import Derived.RangeFuncFrom
import Derived.Scope
set_option linter.unusedVariables false
set_option linter.unusedSimpArgs false
set_option linter.unusedSectionVars false
namespace Go.Proofs.YtjhpklolpmaopaaGreatDoor
open Go.RowKit
set_option maxRecDepth 100000 in
set_option maxHeartbeats 400000 in
theorem around_any (n by_ : Int) (h1 : -1000 ≤ n) (h2 : n ≤ 1000) (h3 : 0 ≤ by_) (h4 : by_ ≤ 1000) (w : World) :
    Calls Tryz.prog 54 #[.int .i64 n, .int .i64 by_] w fun e w' => e = .returned (.agg #[.int .i64 (n - by_), .int .i64 (n + by_)]) ∧ Below w.heap.size w w' := by
  go_enter Tryz.func54, Tryz.ntmps54
  go_wp2
  refine bodyPost_ret (v := .agg #[.int .i64 (n - by_), .int .i64 (n + by_)]) (by simp [results, Tryz.results54, go_sem]) rfl ⟨rfl, ?_⟩
  exact (Below.refl _ _).alloc (Nat.le_refl _) _
set_option maxRecDepth 100000 in
set_option maxHeartbeats 400000 in
theorem lies_any (n lo hi : Int) (w : World) :
    Calls Tryz.prog 129 #[.int .i64 n, .agg #[.int .i64 lo, .int .i64 hi]] w fun e w' => e = .returned (.bool (inB n lo hi)) ∧ Below w.heap.size w w' := by
  go_enter Tryz.func129, Tryz.ntmps129
  go_wp2_with (go_at_call 49; refine (within_any _ _ _ _).mono ?_; rintro e w' ⟨rfl, rfl⟩)
  go_ret
  exact ⟨rfl, (Below.refl _ _).alloc (Nat.le_refl _) _⟩
def nearB (px py qx qy b : Int) : Bool := inB qx (px - b) (px + b) && inB qy (py - b) (py + b)
theorem nearB_no {px py qx qy b : Int} (h : inB qx (px - b) (px + b) = false) : nearB px py qx qy b = false := by unfold nearB; rw [h]; rfl
theorem nearB_yes {px py qx qy b : Int} (h : inB qx (px - b) (px + b) = true) : nearB px py qx qy b = inB qy (py - b) (py + b) := by unfold nearB; rw [h]; rfl
set_option maxRecDepth 100000 in
set_option maxHeartbeats 1000000 in
theorem near_yes (px py qx qy b : Int) (h1 : -500 ≤ px) (h2 : px ≤ 500) (h3 : -500 ≤ py) (h4 : py ≤ 500) (h5 : 0 ≤ b) (h6 : b ≤ 500) (w : World) (hx : inB qx (px - b) (px + b) = true) :
    Calls Tryz.prog 108 #[.agg #[.int .i64 px, .int .i64 py], .agg #[.int .i64 qx, .int .i64 qy], .int .i64 b] w fun e w' => e = .returned (.bool (nearB px py qx qy b)) ∧ Below w.heap.size w w' := by
  go_enter Tryz.func108, Tryz.ntmps108
  go_wp2_with fail
  go_region_held3 (fun w' => w'.cell? ⟨w.heap.size, 0, none⟩ = some (.int .i64 px) ∧ w'.cell? ⟨w.heap.size, 1, none⟩ = some (.int .i64 py) ∧ w'.cell? ⟨w.heap.size + 1, 0, none⟩ = some (.int .i64 qx) ∧ w'.cell? ⟨w.heap.size + 1, 1, none⟩ = some (.int .i64 qy))
    (first
      | go_keep
      | (go_split_ands
         refine ⟨?_, ?_, ?_, ?_⟩ <;> (rw [hb.cell (by first | omega | (simp; omega) | simp)]; assumption)))
    (first
      | (go_at_call 54; refine (around_any _ _ (by omega) (by omega) (by omega) (by omega) _).mono ?_; rintro e w' ⟨rfl, hb⟩; have hs := hb.size; try simp only [World.size_alloc, World.size_drew] at hs)
      | (go_at_call 129; refine (lies_any _ _ _ _).mono ?_; rintro e w' ⟨rfl, hb⟩; have hs := hb.size; try simp only [World.size_alloc, World.size_drew] at hs))
  rename_i wA hA _ wB hB _ wC hC _ _
  go_wp2
  go_ret
  refine ⟨ret_bool (nearB_yes hx).symm, ?_⟩
  have k := hA.size; have k2 := hB.size; have k3 := hC.size
  simp only [World.size_alloc, World.size_drew] at k
  have h0 : Below w.heap.size w ((w.alloc (Obj.cells #[Value.int IntKind.i64 px, Value.int IntKind.i64 py] 43)).alloc (Obj.cells #[Value.int IntKind.i64 qx, Value.int IntKind.i64 qy] 43)).drew := (((Below.refl _ _).alloc (Nat.le_refl _) _).alloc (by rw [World.size_alloc]; omega) _).drew
  exact h0.trans ((hA.mono (by simp only [World.size_alloc, World.size_drew]; omega)).trans ((hB.mono (by omega)).trans ((hC.mono (by omega)).trans (hb.mono (by omega)))))
set_option maxRecDepth 100000 in
set_option maxHeartbeats 1000000 in
theorem near_no (px py qx qy b : Int) (h1 : -500 ≤ px) (h2 : px ≤ 500) (h5 : 0 ≤ b) (h6 : b ≤ 500) (w : World) (hx : inB qx (px - b) (px + b) = false) :
    Calls Tryz.prog 108 #[.agg #[.int .i64 px, .int .i64 py], .agg #[.int .i64 qx, .int .i64 qy], .int .i64 b] w fun e w' => e = .returned (.bool (nearB px py qx qy b)) ∧ Below w.heap.size w w' := by
  go_enter Tryz.func108, Tryz.ntmps108
  go_wp2_with fail
  refine wp_region_held_drew (S := (fun w' => w'.cell? ⟨w.heap.size, 0, none⟩ = some (.int .i64 px) ∧ w'.cell? ⟨w.heap.size, 1, none⟩ = some (.int .i64 py) ∧ w'.cell? ⟨w.heap.size + 1, 0, none⟩ = some (.int .i64 qx) ∧ w'.cell? ⟨w.heap.size + 1, 1, none⟩ = some (.int .i64 qy))) (by kernel_rfl) ?_ (fun hHeld => ?_)
  · (try dsimp only); (first | (go_keep; done) | fail)
  refine wpAnyH_take (i := 0) (v := ?_) rfl (by kernel_rfl) (by kernel_rfl) (by kernel_rfl) (fun _ _ _ h => h) (Or.inl ⟨by rfl, ?_⟩) (by assumption) ?_
  rotate_left 1
  · ((intro w hSw; (try dsimp only at hSw); go_simp) <;> with_reducible rfl)
  (try simp only [Act.put, List.setIfInBounds_toArray, List.set_cons_zero, List.set_cons_succ])
  refine wpAnyH_take (i := 1) (v := ?_) rfl (by kernel_rfl) (by kernel_rfl) (by kernel_rfl) (fun _ _ _ h => h) (Or.inl ⟨by rfl, ?_⟩) (by assumption) ?_
  rotate_left 1
  · ((intro w hSw; (try dsimp only at hSw); go_simp) <;> with_reducible rfl)
  (try simp only [Act.put, List.setIfInBounds_toArray, List.set_cons_zero, List.set_cons_succ])
  refine wpAnyH_take (i := 2) (v := ?_) rfl (by kernel_rfl) (by kernel_rfl) (by kernel_rfl) (fun _ _ _ h => h) (Or.inl ⟨by rfl, ?_⟩) (by assumption) ?_
  rotate_left 1
  · ((intro w hSw; (try dsimp only at hSw); go_simp) <;> with_reducible rfl)
  (try simp only [Act.put, List.setIfInBounds_toArray, List.set_cons_zero, List.set_cons_succ])
  refine wpAnyH_take (i := 3) (v := ?_) rfl (by kernel_rfl) (by kernel_rfl) (by kernel_rfl) (fun _ _ _ h => h) (Or.inl ⟨by rfl, ?_⟩) (by assumption) ?_
  rotate_left 1
  · ((intro w hSw; (try dsimp only at hSw); go_simp) <;> with_reducible rfl)
  (try simp only [Act.put, List.setIfInBounds_toArray, List.set_cons_zero, List.set_cons_succ])
  refine wpAnyH_take (i := 4) (v := ?_) rfl (by kernel_rfl) (by kernel_rfl) (by kernel_rfl) (fun _ _ _ h => h) (Or.inl ⟨by rfl, ?_⟩) (by assumption) ?_
  rotate_left 1
  · ((intro w hSw; (try dsimp only at hSw); go_simp) <;> with_reducible rfl)
  (try simp only [Act.put, List.setIfInBounds_toArray, List.set_cons_zero, List.set_cons_succ])
  refine wpAnyH_ready (rs := [5]) (by kernel_rfl) (by simp) ?_
  refine AllReadyH.cons (o := _) rfl (fun K hK => ?_) AllReadyH.nil
  go_simp
  (go_at_call 54; refine (around_any _ _ (by omega) (by omega) (by omega) (by omega) _).mono ?_; rintro e w1 ⟨rfl, hb⟩; have hA := hb; have hs := hb.size; try simp only [World.size_alloc, World.size_drew] at hs)
  refine hK.out _ _ ?_ (fun hHeld => ?_)
  · (first | (go_keep; done) | (go_split_ands; refine ⟨?_, ?_, ?_, ?_⟩ <;> (rw [hb.cell (by first | omega | (simp; omega) | simp)]; assumption)) | assumption)
  clear hK K
  (try simp only [Act.put, List.setIfInBounds_toArray, List.set_cons_zero, List.set_cons_succ])
  refine wpAnyH_ready (rs := [6]) (by kernel_rfl) (by simp) ?_
  refine AllReadyH.cons (o := _) rfl (fun K hK => ?_) AllReadyH.nil
  go_simp
  (go_at_call 129; refine (lies_any _ _ _ _).mono ?_; rw [hx]; rintro e w' ⟨rfl, hb⟩; have hs := hb.size; try simp only [World.size_alloc, World.size_drew] at hs)
  refine hK.out _ _ ?_ (fun hHeld => ?_)
  · (first | (go_keep; done) | (go_split_ands; refine ⟨?_, ?_, ?_, ?_⟩ <;> (rw [hb.cell (by first | omega | (simp; omega) | simp)]; assumption)) | assumption)
  clear hK K
  (try simp only [Act.put, List.setIfInBounds_toArray, List.set_cons_zero, List.set_cons_succ])
  refine wpAnyH_take (i := 7) (v := ?_) rfl (by kernel_rfl) (by kernel_rfl) (by kernel_rfl) (fun _ _ _ h => h) (Or.inl ⟨by rfl, ?_⟩) (by assumption) ?_
  rotate_left 1
  · ((intro w hSw; (try dsimp only at hSw); go_simp) <;> with_reducible rfl)
  (try simp only [Act.put, List.setIfInBounds_toArray, List.set_cons_zero, List.set_cons_succ])
  refine wpAnyH_take (i := 8) (v := undef) rfl (by kernel_rfl) (by kernel_rfl) (by kernel_rfl) (fun _ _ _ h => h) (Or.inr ⟨by rfl, rfl⟩) (by assumption) ?_
  (try simp only [Act.put, List.setIfInBounds_toArray, List.set_cons_zero, List.set_cons_succ])
  refine wpAnyH_take (i := 9) (v := undef) rfl (by kernel_rfl) (by kernel_rfl) (by kernel_rfl) (fun _ _ _ h => h) (Or.inr ⟨by rfl, rfl⟩) (by assumption) ?_
  (try simp only [Act.put, List.setIfInBounds_toArray, List.set_cons_zero, List.set_cons_succ])
  refine wpAnyH_take (i := 10) (v := undef) rfl (by kernel_rfl) (by kernel_rfl) (by kernel_rfl) (fun _ _ _ h => h) (Or.inr ⟨by rfl, rfl⟩) (by assumption) ?_
  (try simp only [Act.put, List.setIfInBounds_toArray, List.set_cons_zero, List.set_cons_succ])
  refine wpAnyH_take (i := 11) (v := undef) rfl (by kernel_rfl) (by kernel_rfl) (by kernel_rfl) (fun _ _ _ h => h) (Or.inr ⟨by rfl, rfl⟩) (by assumption) ?_
  (try simp only [Act.put, List.setIfInBounds_toArray, List.set_cons_zero, List.set_cons_succ])
  refine wpAnyH_take (i := 12) (v := undef) rfl (by kernel_rfl) (by kernel_rfl) (by kernel_rfl) (fun _ _ _ h => h) (Or.inr ⟨by rfl, rfl⟩) (by assumption) ?_
  (try simp only [Act.put, List.setIfInBounds_toArray, List.set_cons_zero, List.set_cons_succ])
  refine wpAnyH_ready (rs := [13]) (by kernel_rfl) (by simp) ?_
  refine AllReadyH.cons (o := _) rfl (fun K hK => ?_) AllReadyH.nil
  go_simp
  refine hK.out _ _ ?_ (fun hHeld => ?_)
  · (first | (go_keep; done) | (go_split_ands; refine ⟨?_, ?_, ?_, ?_⟩ <;> (rw [hb.cell (by first | omega | (simp; omega) | simp)]; assumption)) | assumption)
  clear hK K
  (try simp only [Act.put, List.setIfInBounds_toArray, List.set_cons_zero, List.set_cons_succ])
  refine wpAnyH_ready (rs := [14]) (by kernel_rfl) (by simp) ?_
  refine AllReadyH.cons (o := _) rfl (fun K hK => ?_) AllReadyH.nil
  go_simp
  refine hK.out _ _ ?_ (fun hHeld => ?_)
  · (first | (go_keep; done) | (go_split_ands; refine ⟨?_, ?_, ?_, ?_⟩ <;> (rw [hb.cell (by first | omega | (simp; omega) | simp)]; assumption)) | assumption)
  clear hK K
  (try simp only [Act.put, List.setIfInBounds_toArray, List.set_cons_zero, List.set_cons_succ])
  refine wpAnyH_take (i := 15) (v := ?_) rfl (by kernel_rfl) (by kernel_rfl) (by kernel_rfl) (fun _ _ _ h => h) (Or.inl ⟨by rfl, ?_⟩) (by assumption) ?_
  rotate_left 1
  · ((intro w hSw; (try dsimp only at hSw); go_simp) <;> with_reducible rfl)
  (try simp only [Act.put, List.setIfInBounds_toArray, List.set_cons_zero, List.set_cons_succ])
  refine wpAnyH_take (i := 16) (v := ?_) rfl (by kernel_rfl) (by kernel_rfl) (by kernel_rfl) (fun _ _ _ h => h) (Or.inl ⟨by rfl, ?_⟩) (by assumption) ?_
  rotate_left 1
  · ((intro w hSw; (try dsimp only at hSw); go_simp) <;> with_reducible rfl)
  (try simp only [Act.put, List.setIfInBounds_toArray, List.set_cons_zero, List.set_cons_succ])
  refine wpAnyH_done (by kernel_rfl) ?_ _
  simp only [Act.put, List.getElem_toArray, List.getElem_cons_zero, List.getElem_cons_succ, List.setIfInBounds_toArray, List.set_cons_zero, List.set_cons_succ]
  go_wp2
  go_ret
  refine ⟨ret_bool (nearB_no hx).symm, ?_⟩
  have k := hA.size
  simp only [World.size_alloc, World.size_drew] at k
  have h0 : Below w.heap.size w ((w.alloc (Obj.cells #[Value.int IntKind.i64 px, Value.int IntKind.i64 py] 43)).alloc (Obj.cells #[Value.int IntKind.i64 qx, Value.int IntKind.i64 qy] 43)).drew := (((Below.refl _ _).alloc (Nat.le_refl _) _).alloc (by rw [World.size_alloc]; omega) _).drew
  exact h0.trans ((hA.mono (by simp only [World.size_alloc, World.size_drew]; omega)).trans (hb.mono (by omega)))
theorem near_any (px py qx qy b : Int) (h1 : -500 ≤ px) (h2 : px ≤ 500) (h3 : -500 ≤ py) (h4 : py ≤ 500) (h5 : 0 ≤ b) (h6 : b ≤ 500) (w : World) :
    Calls Tryz.prog 108 #[.agg #[.int .i64 px, .int .i64 py], .agg #[.int .i64 qx, .int .i64 qy], .int .i64 b] w fun e w' => e = .returned (.bool (nearB px py qx qy b)) ∧ Below w.heap.size w w' := by
  cases hx : inB qx (px - b) (px + b) with
  | true => exact near_yes px py qx qy b h1 h2 h3 h4 h5 h6 w hx
  | false => exact near_no px py qx qy b h1 h2 h5 h6 w hx
end Go.Proofs.YtjhpklolpmaopaaGreatDoor
namespace Go.Proofs.YtjhpklolpmaopaaGreatDoor
open Go.RowKit
set_option maxRecDepth 100000 in
set_option maxHeartbeats 2000000 in
theorem fits_any (i j t hb pb tb yb b1 o1 n1 k1 b2 o2 n2 k2 : Nat) (tv : Value) (HX HY PX PY : Nat → Int) (r : Int) (w : World) (hr0 : 0 ≤ r) (hr1 : r ≤ 500) (hi : i < n1) (hj : j < n2) (hn1 : n1 ≤ 1000) (hn2 : n2 ≤ 1000)
    (hT : ∀ W, Calls Tryz.prog 66 #[.agg #[.int .i64 (PX j), .int .i64 (PY j)], tv] W fun e w' => e = .returned (.agg #[.int .i64 (trn t (PX j, PY j)).1, .int .i64 (trn t (PX j, PY j)).2]) ∧ Below W.heap.size W w')
    (c1 : w.cell? ⟨hb, 0, none⟩ = some (.slice (some ⟨b1, o1, none⟩) n1 k1)) (c2 : w.cell? ⟨pb, 0, none⟩ = some (.slice (some ⟨b2, o2, none⟩) n2 k2)) (c3 : w.cell? ⟨tb, 0, none⟩ = some tv) (c4 : w.cell? ⟨yb, 0, none⟩ = some (.int .i64 r))
    (l1 : hb < w.heap.size) (l2 : pb < w.heap.size) (l3 : tb < w.heap.size) (l4 : yb < w.heap.size) (hp1 : Pts w b1 o1 n1 HX HY) (hp2 : Pts w b2 o2 n2 PX PY) (m1 : b1 < w.heap.size) (m2 : b2 < w.heap.size) (s1 : small (HX i, HY i)) :
    Calls Tryz.prog 107 #[.int .i64 i, .int .i64 j, .pointer (some ⟨hb, 0, none⟩), .pointer (some ⟨pb, 0, none⟩), .pointer (some ⟨tb, 0, none⟩), .pointer (some ⟨yb, 0, none⟩)] w
      fun e w' => e = .returned (.bool (nearB (HX i) (HY i) (trn t (PX j, PY j)).1 (trn t (PX j, PY j)).2 r)) ∧ Below w.heap.size w w' := by
  obtain ⟨d1, d2⟩ := hp1 i hi
  obtain ⟨d3, d4⟩ := hp2 j hj
  obtain ⟨⟨s2, s3⟩, s4, s5⟩ := s1
  dsimp only at s2 s3 s4 s5
  have hi0 : (0 : Int) ≤ (i : Int) := Int.natCast_nonneg _
  have hi1 : (i : Int) < (n1 : Int) := by omega
  have hj0 : (0 : Int) ≤ (j : Int) := Int.natCast_nonneg _
  have hj1 : (j : Int) < (n2 : Int) := by omega
  generalize (trn t (PX j, PY j)).1 = qx at hT ⊢
  generalize (trn t (PX j, PY j)).2 = qy at hT ⊢
  go_enter Tryz.func107, Tryz.ntmps107
  go_wp2_with fail
  go_region_held3 (fun w' => w'.cell? ⟨hb, 0, none⟩ = some (.slice (some ⟨b1, o1, none⟩) n1 k1) ∧ w'.cell? ⟨pb, 0, none⟩ = some (.slice (some ⟨b2, o2, none⟩) n2 k2) ∧ w'.cell? ⟨tb, 0, none⟩ = some tv ∧ w'.cell? ⟨yb, 0, none⟩ = some (.int .i64 r)
      ∧ w'.cell? ⟨b1, o1 + i * 2, none⟩ = some (.int .i64 (HX i)) ∧ w'.cell? ⟨b1, o1 + i * 2 + 1, none⟩ = some (.int .i64 (HY i)) ∧ w'.cell? ⟨b2, o2 + j * 2, none⟩ = some (.int .i64 (PX j)) ∧ w'.cell? ⟨b2, o2 + j * 2 + 1, none⟩ = some (.int .i64 (PY j)))
    (first
      | go_keep
      | (go_split_ands
         refine ⟨?_, ?_, ?_, ?_, ?_, ?_, ?_, ?_⟩ <;> (rw [hbb.cell (by first | omega | (simp; omega) | simp)]; assumption)))
    (first
      | (go_at_call 66; refine (hT _).mono ?_; rintro e w' ⟨rfl, hbb⟩; have hs := hbb.size; try simp only [World.size_alloc, World.size_drew] at hs)
      | (go_at_call 108; refine (near_any _ _ _ _ _ (by omega) (by omega) (by omega) (by omega) (by omega) (by omega) _).mono ?_; rintro e w' ⟨rfl, hbb⟩; have hs := hbb.size; try simp only [World.size_alloc, World.size_drew] at hs))
  rename_i wA hA hsA _
  go_wp2
  go_ret
  exact ⟨rfl, (Below.refl _ _).drew.trans ((hA.mono (by simp)).trans (hbb.mono (by simpa using hsA)))⟩
end Go.Proofs.YtjhpklolpmaopaaGreatDoor
namespace Go.Proofs.YtjhpklolpmaopaaGreatDoor
end Go.Proofs.YtjhpklolpmaopaaGreatDoor
namespace Go.Proofs.YtjhpklolpmaopaaGreatDoor
open Go.RowKit Go.Shelf
attribute [local go_sem] Oper.semAt_some
def scan (f : Nat → Option (List Nat)) : Nat → Nat → Option (List Nat)
  | _, 0 => none
  | j, m+1 => match f j with
    | some q => some q
    | none => scan f (j+1) m
/-- the first order that goes on from p, if d places are still free. -/
def firstC (fit : Nat → Nat → Bool) (many : Nat) : Nat → List Nat → Option (List Nat)
  | 0, p => some p
  | d+1, p => scan (fun j => if p.contains j || !fit p.length j then none else firstC fit many d (p ++ [j])) 0 many
def cellsN (p : List Nat) : List Value := p.map fun (j : Nat) => Value.int .i64 (j : Int)
/-- what the search has of its own: the box of the order with p in it, the box of yield, the box of extend. -/
structure Own4 (B l bo bm by_ bf be : Nat) (p : List Nat) (W : World) : Prop where
  ord : ∃ v, W.cell? ⟨bo, 0, none⟩ = some v ∧ W.ownsRow (be + 1) 3 1 v p.length (cellsN p)
  fro : W.frozen? ⟨bo, 0, none⟩ = false
  yie : W.cell? ⟨by_, 0, none⟩ = some (.func (.yield l) #[] #[])
  ext : W.cell? ⟨be, 0, none⟩ = some (.func (.func 138) #[] #[.pointer (some ⟨bo, 0, none⟩), .pointer (some ⟨bm, 0, none⟩), .pointer (some ⟨by_, 0, none⟩), .pointer (some ⟨bf, 0, none⟩), .pointer (some ⟨be, 0, none⟩)])
  lto : B ≤ bo ∧ bo < be
  lty : B ≤ by_ ∧ by_ < be
  lte : be < W.heap.size
  neq : bo ≠ by_
/-- Stop: a block that is the caller's (below B) may have been turned; the search's own blocks lie as they lay. -/
def KeptFrom (B : Nat) (W W' : World) : Prop := W.heap.size ≤ W'.heap.size ∧ ∀ k, B ≤ k → k < W.heap.size → W'.heap[k]? = W.heap[k]?
theorem KeptFrom.cell {B : Nat} {W W' : World} (h : KeptFrom B W W') {k o : Nat} (hk : B ≤ k) (hl : k < W.heap.size) : W'.cell? ⟨k, o, none⟩ = W.cell? ⟨k, o, none⟩ := World.cell?_of_block (w := W) (h.2 k hk hl)
theorem KeptFrom.frozen {B : Nat} {W W' : World} (h : KeptFrom B W W') {k o : Nat} (hk : B ≤ k) (hl : k < W.heap.size) : W'.frozen? ⟨k, o, none⟩ = W.frozen? ⟨k, o, none⟩ := World.frozen?_of_block (w := W) (h.2 k hk hl)
theorem Own4.kept {B l bo bm by_ bf be : Nat} {p : List Nat} {W W' : World} (h : Own4 B l bo bm by_ bf be p W) (hk : KeptFrom B W W') : Own4 B l bo bm by_ bf be p W' := by
  have h1 := h.lto; have h2 := h.lty; have h3 := h.lte
  refine ⟨?_, (hk.frozen h1.1 (by omega)).trans h.fro, (hk.cell h2.1 (by omega)).trans h.yie, (hk.cell (by omega) h3).trans h.ext, h1, h2, Nat.lt_of_lt_of_le h3 hk.1, h.neq⟩
  obtain ⟨v, a, r1, r2⟩ := h.ord
  refine ⟨v, (hk.cell h1.1 (by omega)).trans a, r1, ?_⟩
  rcases r2 with r2 | ⟨g, cap, cur, a1, a2, a3, a4⟩
  · exact .inl r2
  · have hg : g < W.heap.size := (Array.getElem?_eq_some_iff.1 a3).1
    exact .inr ⟨g, cap, cur, a1, a2, by rw [hk.2 g (by omega) hg]; exact a3, a4⟩
theorem ownsRow_slice {w : World} {B : Nat} {e : TypeId} {size : Nat} {v : Value} {n : Nat} {xs : List Value} (h : w.ownsRow B e size v n xs) : ∃ a c, v = .slice a n c := by
  obtain ⟨h1, ⟨h2, rfl⟩ | ⟨g, cap, cur, a1, a2, a3, a4, a5, a6, a7⟩⟩ := h
  · exact ⟨none, 0, h2⟩
  · exact ⟨_, cap, a1⟩
theorem scan_no {f : Nat → Option (List Nat)} {j n : Nat} (h : j < n) (hf : f j = none) : scan f j (n - j) = scan f (j+1) (n - (j+1)) := by
  obtain ⟨m, hm⟩ : ∃ m, n - j = m + 1 := ⟨n - j - 1, by omega⟩
  rw [hm, show n - (j+1) = m by omega]; conv => lhs; unfold scan
  rw [hf]
theorem scan_yes {f : Nat → Option (List Nat)} {j n : Nat} {q : List Nat} (h : j < n) (hf : f j = some q) : scan f j (n - j) = some q := by
  obtain ⟨m, hm⟩ : ∃ m, n - j = m + 1 := ⟨n - j - 1, by omega⟩
  rw [hm]; unfold scan
  rw [hf]
theorem KeptFrom.of_below {B : Nat} {W W' : World} (h : Below W.heap.size W W') : KeptFrom B W W' := ⟨h.size, fun k _ hk => h.block k hk⟩
theorem cellsN_has {p : List Nat} {w : World} {B : Nat} {v : Value} (h : w.ownsRow B 3 1 v p.length (cellsN p)) : IntsSl w v p.length fun i => (p.getD i 0 : Int) := by
  rcases ownsRow_lt h with ⟨e1, e2⟩ | ⟨g, c, e1, e2, e3⟩
  · exact .inl ⟨none, 0, e1, e2⟩
  · refine .inr ⟨g, 0, c, e1, e2, fun i hi => ?_⟩
    rw [Nat.zero_add]
    refine e3 i _ ?_
    unfold cellsN
    rw [List.getElem?_map, List.getElem?_eq_getElem hi]
    show _ = some (Value.int IntKind.i64 (p.getD i 0 : Nat))
    rw [List.getD_eq_getElem?_getD, List.getElem?_eq_getElem hi]; rfl
theorem hasB_list {p : List Nat} {j : Nat} : hasB (fun i => (p.getD i 0 : Int)) j p.length = p.contains j := by
  rw [Bool.eq_iff_iff, hasB_iff, List.contains_iff_mem, List.mem_iff_getElem]
  constructor
  · rintro ⟨i, hi, e⟩
    refine ⟨i, hi, ?_⟩
    rw [List.getD_eq_getElem?_getD, List.getElem?_eq_getElem hi] at e
    exact Int.ofNat_inj.1 e
  · rintro ⟨i, hi, e⟩
    refine ⟨i, hi, ?_⟩
    rw [List.getD_eq_getElem?_getD, List.getElem?_eq_getElem hi, ← e]; rfl
theorem ownsRow_cut {w : World} {B k : Nat} {e : TypeId} {a : Option Addr} {c : Nat} {x : Value} {xs : List Value} (hx : xs.length = k) (h : w.ownsRow B e 1 (.slice a (k+1) c) (k+1) (xs ++ [x])) : w.ownsRow B e 1 (.slice a k c) k xs := by
  obtain ⟨h1, ⟨h2, h3⟩ | ⟨g, cap, cur, a1, a2, a3, a4, a5, a6, a7⟩⟩ := h
  · exact absurd h3 (by omega)
  · cases a1
    refine ⟨by omega, .inr ⟨g, c, cur, rfl, a2, a3, by omega, a5, a6, ?_⟩⟩
    have : (cur.toList.take ((k+1) * 1)).take k = xs := by rw [a7, ← hx]; simp
    rw [← this, List.take_take]; congr 1; omega
theorem ownsRow_room {w : World} {B n : Nat} {e : TypeId} {size : Nat} {a : Option Addr} {k c : Nat} {xs : List Value} (h : w.ownsRow B e size (.slice a (k+1) c) n xs) : k + 1 ≤ c ∧ ∃ g, a = some ⟨g, 0, none⟩ := by
  obtain ⟨h1, ⟨h2, h3⟩ | ⟨g, cap, cur, a1, a2, a3, a4, a5, a6, a7⟩⟩ := h
  · cases h2
  · cases a1; exact ⟨a4, g, rfl⟩
theorem KeptFrom.set {B : Nat} {W : World} {a : Addr} (h : a.block < B) (v : Value) : KeptFrom B W (W.setCell a v) :=
  ⟨((Below.refl 0 W).setCell (Nat.zero_le _) v).size, fun k hk _ => Below.heap_setCell W a v k (by omega)⟩
theorem ownsRow_kept {w w' : World} {B : Nat} {e : TypeId} {size : Nat} {v : Value} {n : Nat} {xs : List Value} (h : w.ownsRow B e size v n xs) (hb : KeptFrom B w w') : w'.ownsRow B e size v n xs := by
  obtain ⟨h1, h2⟩ := h
  refine ⟨h1, ?_⟩
  rcases h2 with h2 | ⟨g, cap, cur, a1, a2, a3, a4⟩
  · exact .inl h2
  · have hg : g < w.heap.size := (Array.getElem?_eq_some_iff.1 a3).1
    exact .inr ⟨g, cap, cur, a1, a2, by rw [hb.2 g a2 hg]; exact a3, a4⟩
theorem own4_store {B l bo bm by_ bf be : Nat} {q : List Nat} {W : World} {u v : Value} (hold : W.cell? ⟨bo, 0, none⟩ = some u) (fro : W.frozen? ⟨bo, 0, none⟩ = false) (yie : W.cell? ⟨by_, 0, none⟩ = some (.func (.yield l) #[] #[]))
    (ext : W.cell? ⟨be, 0, none⟩ = some (.func (.func 138) #[] #[.pointer (some ⟨bo, 0, none⟩), .pointer (some ⟨bm, 0, none⟩), .pointer (some ⟨by_, 0, none⟩), .pointer (some ⟨bf, 0, none⟩), .pointer (some ⟨be, 0, none⟩)]))
    (lto : B ≤ bo ∧ bo < be) (lty : B ≤ by_ ∧ by_ < be) (lte : be < W.heap.size) (neq : bo ≠ by_) (hrow : W.ownsRow (be + 1) 3 1 v q.length (cellsN q)) : Own4 B l bo bm by_ bf be q (W.setCell ⟨bo, 0, none⟩ v) := by
  have hs := ((Below.refl 0 W).setCell (p := ⟨bo, 0, none⟩) (Nat.zero_le _) v).size
  refine ⟨⟨v, World.cell?_setCell_same' _ _ _ (by rw [hold]; rfl), ownsRow_kept hrow (KeptFrom.set (show bo < be + 1 by omega) v)⟩, by rw [World.frozen?_setCell]; exact fro, ?_, ?_, lto, lty, Nat.lt_of_lt_of_le lte hs, neq⟩
  · exact (World.cell?_of_block (Below.heap_setCell W _ v by_ (Ne.symm neq))).trans yie
  · exact (World.cell?_of_block (Below.heap_setCell W _ v be (by show be ≠ bo; omega))).trans ext
set_option maxRecDepth 100000 in
set_option maxHeartbeats 2000000 in
theorem extend_in (many B l bo bm by_ bf be : Nat) (c1 c2 c3 c4 : Value) (fit : Nat → Nat → Bool) (W1 : World) (R : List Nat → World → Prop)
    (hm : W1.cell? ⟨bm, 0, none⟩ = some (.int .i64 many)) (hbm : bm < B) (hf : W1.cell? ⟨bf, 0, none⟩ = some (.func (.func 107) #[] #[c1, c2, c3, c4])) (hbf : bf < B) (hmany : many ≤ 6)
    (hfit : ∀ (i j : Nat) (W : World), i < many → j < many → Below B W1 W → Calls Tryz.prog 107 #[.int .i64 i, .int .i64 j, c1, c2, c3, c4] W fun e W' => e = .returned (.bool (fit i j)) ∧ Below W.heap.size W W')
    (hY : ∀ m q v W, Below B W1 W → q.length = many → be < W.heap.size → W.ownsRow (be + 1) 3 1 v many (cellsN q) → YieldAt Fence.wide m Tryz.prog l #[v] W fun e W' => e = .returned (.bool false) ∧ R q W' ∧ KeptFrom B W W')
    (hR : ∀ q W v, R q W → R q (W.setCell ⟨bo, 0, none⟩ v)) :
    ∀ (d n : Nat) (p : List Nat) (W : World), p.length + d = many → Below B W1 W → Own4 B l bo bm by_ bf be p W →
      CallsIn Fence.wide n Tryz.prog 138 #[.pointer (some ⟨bo, 0, none⟩), .pointer (some ⟨bm, 0, none⟩), .pointer (some ⟨by_, 0, none⟩), .pointer (some ⟨bf, 0, none⟩), .pointer (some ⟨be, 0, none⟩)] W fun e W' =>
        (e = .returned (.bool true) ∧ firstC fit many d p = none ∧ Below B W1 W' ∧ Own4 B l bo bm by_ bf be p W') ∨
        (e = .returned (.bool false) ∧ ∃ q, firstC fit many d p = some q ∧ R q W' ∧ Own4 B l bo bm by_ bf be p W') := by
  intro d
  induction d with
  | zero =>
    intro n p W hp hB hO
    have hO' := hO
    obtain ⟨⟨v, ho, hrow⟩, hfro, hyie, hext, hlo, hly, hle, hne⟩ := hO
    have hmW := (hB.cell (p := ⟨bm, 0, none⟩) hbm).trans hm
    have hl : p.length = many := by omega
    refine callsIn_of_wp Tryz.func138 rfl trivial ?_ rfl
    simp only [Tryz.ntmps138, List.size_toArray, List.length_cons, List.length_nil, Nat.reduceAdd, Nat.reduceSub, Array.replicate_succ, Array.replicate_zero, List.push_toArray, List.append_toArray, List.nil_append, List.cons_append]
    obtain ⟨fn, tmps, assign, body, hy, hRd⟩ := hY (n - 1) p v W hB hl hle (by rw [← hl]; exact hrow)
    obtain ⟨a, c, rfl⟩ := ownsRow_slice hrow
    rw [hl] at ho hy
    gi_wp2
    refine ⟨fun h => (by cases h), hRd.mono ?_⟩
    rintro e W2 ⟨rfl, hR2, hk2⟩
    gi_wp2
    go_ret
    exact .inr ⟨rfl, p, rfl, hR2, hO'.kept hk2⟩
  | succ d ih =>
    intro n p W hp hB hO
    have hO' := hO
    obtain ⟨⟨v, ho, hrow⟩, hfro, hyie, hext, hlo, hly, hle, hne⟩ := hO
    have hmW := (hB.cell (p := ⟨bm, 0, none⟩) hbm).trans hm
    have hl : p.length < many := by omega
    refine callsIn_of_wp Tryz.func138 rfl trivial ?_ rfl
    simp only [Tryz.ntmps138, List.size_toArray, List.length_cons, List.length_nil, Nat.reduceAdd, Nat.reduceSub, Array.replicate_succ, Array.replicate_zero, List.push_toArray, List.append_toArray, List.nil_append, List.cons_append]
    obtain ⟨a, c, rfl⟩ := ownsRow_slice hrow
    have hnm : ((p.length : Int) == (many : Int)) = false := by simp; omega
    gi_wp2
    gi_loopw [18] (fun i wr => ∃ j : Nat, j ≤ many ∧ i = .int .i64 j ∧ Below B W1 wr ∧ Own4 B l bo bm by_ bf be p wr ∧ firstC fit many (d+1) p = scan (fun j => if p.contains j || !fit p.length j then none else firstC fit many d (p ++ [j])) j (many - j)) (fun i _ => many - (intOf i).toNat)
    case atStart => exact ⟨0, Nat.zero_le _, rfl, hB, hO', rfl⟩
    case round =>
      obtain ⟨j, hj, rfl, hBr, hOr, hsc⟩ := hrel
      clear hO' hrow ho hfro hyie hext hlo hly hle hne hmW hB
      have hO' := hOr
      obtain ⟨⟨v, ho, hrow⟩, hfro, hyie, hext, hlo, hly, hle, hne⟩ := hOr
      obtain ⟨a2, c2, rfl⟩ := ownsRow_slice hrow
      by_cases hlt : j < many
      · cases hc : p.contains j with
        | true =>
          have hh := (intHas_any _ _ _ (j : Int) wr (by omega) (cellsN_has hrow))
          rw [hasB_list, hc] at hh
          gi_wp2_with (refine ⟨trivial, fun h => (by cases h), ?_⟩; gi_at_call 139; refine (callsIn_wide.2 hh).mono ?_; rintro e w2 ⟨rfl, hb2⟩)
          refine ⟨fun _ h => (by cases h), ?_⟩
          gi_wp2
          go_roundw
          case rel =>
            exact ⟨j + 1, by omega, by go_num, hBr.trans (hb2.mono (by omega)), hO'.kept (KeptFrom.of_below hb2), hsc.trans (scan_no hlt (by rw [hc]; rfl))⟩
          case measure => simp [intOf]; omega
        | false =>
          have hh := (intHas_any _ _ _ (j : Int) wr (by omega) (cellsN_has hrow))
          rw [hasB_list, hc] at hh
          have hfr := (hBr.cell (p := ⟨bf, 0, none⟩) hbf).trans hf
          cases hft : fit p.length j with
          | false =>
            gi_wp2_with (first
              | (refine ⟨trivial, fun h => (by cases h), ?_⟩; gi_at_call 139; refine (callsIn_wide.2 hh).mono ?_; rintro e w2 ⟨rfl, hb2⟩; have hf2 := (hb2.cell (p := ⟨bf, 0, none⟩) (by show bf < _; omega)).trans hfr)
              | (refine ⟨trivial, fun h => (by cases h), ?_⟩; gi_at_call 107; refine (callsIn_wide.2 (hfit p.length j w2 hl hlt (hBr.trans (hb2.mono (by omega))))).mono ?_; rw [hft]; rintro e w3 ⟨rfl, hb3⟩))
            have hb23 := hb2.trans (hb3.mono hb2.size)
            go_roundw
            case rel =>
              exact ⟨j + 1, by omega, by go_num, hBr.trans (hb23.mono (by omega)), hO'.kept (KeptFrom.of_below hb23), hsc.trans (scan_no hlt (by rw [hc, hft]; rfl))⟩
            case measure => simp [intOf]; omega
          | true =>
            obtain ⟨i0, hi, hz0, hz1, hz2⟩ := info_parts Tryz.info3
            have hpl : (p ++ [j]).length = p.length + 1 := by simp
            gi_wp2_with (first
              | (refine ⟨trivial, fun h => (by cases h), ?_⟩; gi_at_call 139; refine (callsIn_wide.2 hh).mono ?_; rintro e w2 ⟨rfl, hb2⟩; have hf2 := (hb2.cell (p := ⟨bf, 0, none⟩) (by show bf < _; omega)).trans hfr)
              | (refine ⟨trivial, fun h => (by cases h), ?_⟩; gi_at_call 107; refine (callsIn_wide.2 (hfit p.length j w2 hl hlt (hBr.trans (hb2.mono (by omega))))).mono ?_; rw [hft]; rintro e w3 ⟨rfl, hb3⟩; have hb23 := hb2.trans (hb3.mono hb2.size); have ho3 := (hb23.cell (p := ⟨bo, 0, none⟩) (by show bo < _; omega)).trans ho)
              | (gi_at_builtin; refine wpListIn_append_own _ rfl _ _ 28 rfl (be + 1) 3 i0 (.int .i64 0) 1 8 Tryz.underlying28 hi hz0 hz1 hz2 rfl (by decide) _ _ _ rfl ((ownsRow_below hrow hb23).alloc _) ⟨w3.heap.size, 0, none⟩ 1 1 [.int .i64 (j : Int)] rfl rfl (cell_one_new _ _ _) (by simp [Value.oneCell']) (by unfold maxLen; omega) (by omega) (by have := hb23.size; simp; omega) ?_; intro v4 w4 hown4 hgrow _
                 have hs3 := hb23.size
                 have hb4 : Below (be + 1) (w3.alloc (.cells #[.int .i64 (j : Int)] 3)) w4 := (Below.refl _ _).grown hgrow (by simp; omega) fun k hk => (hrow.lt k hk).1
                 have hb34 : Below (be + 1) wr w4 := ((hb23.mono (by omega)).alloc (by omega) _).trans hb4
                 have ho4 := (hb34.cell (p := ⟨bo, 0, none⟩) (by show bo < _; omega)).trans ho
                 have hfro4 := (hb34.frozen (p := ⟨bo, 0, none⟩) (by show bo < _; omega)).trans hfro
                 have hO5 := own4_store (q := p ++ [j]) (v := v4) ho4 hfro4 ((hb34.cell (p := ⟨by_, 0, none⟩) (by show by_ < _; omega)).trans hyie) ((hb34.cell (p := ⟨be, 0, none⟩) (by show be < _; omega)).trans hext) hlo hly (Nat.lt_of_lt_of_le hle hb34.size) hne (by rw [hpl]; unfold cellsN; rw [List.map_append]; exact hown4)
                 obtain ⟨g4, c4', rfl⟩ := ownsRow_succ hown4
                 have hext5 := hO5.ext
                 have hb5 : Below B W1 (w4.setCell ⟨bo, 0, none⟩ (.slice (some ⟨g4, 0, none⟩) (p.length + 1) c4')) := (hBr.trans (hb34.mono (by omega))).setCell hlo.1 _)
              | (refine ⟨trivial, fun h => (by cases h), ?_⟩; gi_at_call 138; refine (ih (n - 1) (p ++ [j]) _ (by rw [hpl]; omega) hb5 hO5).mono ?_; clear hO5 hext5 hb5
                 rintro e w6 (⟨rfl, hn6, hB6, hO6⟩ | ⟨rfl, q, hq6, hR6, hO6⟩) <;>
                 (obtain ⟨⟨v6, ho6, hrow6⟩, hfro6, hyie6, hext6, _, _, hle6, _⟩ := hO6
                  rw [hpl] at hrow6
                  unfold cellsN at hrow6
                  rw [List.map_append] at hrow6
                  obtain ⟨g6, c6, rfl⟩ := ownsRow_succ hrow6
                  have hroom := (ownsRow_room hrow6).1
                  have hrow7 := ownsRow_cut (xs := p.map fun (j : Nat) => Value.int .i64 (j : Int)) (by simp) hrow6
                  have hO7 := own4_store (q := p) ho6 hfro6 hyie6 hext6 hlo hly hle6 hne hrow7)))
            · go_roundw
              case rel => exact ⟨j + 1, by omega, by go_num, hB6.setCell hlo.1 _, hO7, hsc.trans (scan_no hlt (by rw [hc, hft]; exact hn6))⟩
              case measure => simp [intOf]; omega
            · go_ret
              exact .inr ⟨rfl, q, hsc.trans (scan_yes hlt (by rw [hc, hft]; exact hq6)), hR q _ _ hR6, hO7⟩
      · obtain rfl : many = j := by omega
        gi_wp2
        go_ret
        rw [Nat.sub_self] at hsc
        exact .inl ⟨rfl, hsc, hBr, hO'⟩
end Go.Proofs.YtjhpklolpmaopaaGreatDoor
namespace Go.Proofs.YtjhpklolpmaopaaGreatDoor
open Go.RowKit Go.Shelf
attribute [local go_sem] Oper.semAt_some
theorem cell_of_box {W : World} {B : Nat} {v : Value} {t : TypeId} (h : W.heap[B]? = some (.cells #[v] t (0, 0))) : W.cell? ⟨B, 0, none⟩ = some v ∧ W.frozen? ⟨B, 0, none⟩ = false := by
 constructor <;> simp [World.cell?, World.frozen?, h]
theorem new_cell (W : World) (v : Value) (t : TypeId) : (W.alloc (.cells #[v] t)).cell? ⟨W.heap.size, 0, none⟩ = some v ∧ (W.alloc (.cells #[v] t)).frozen? ⟨W.heap.size, 0, none⟩ = false := cell_of_box (World.alloc_heap_new W _)
set_option maxRecDepth 100000 in
set_option maxHeartbeats 2000000 in
theorem seq_in (many l bm bf n : Nat) (c1 c2 c3 c4 : Value) (fit : Nat → Nat → Bool) (W1 : World) (R : List Nat → Nat → World → Prop)
  (hm : W1.cell? ⟨bm, 0, none⟩ = some (.int .i64 many)) (hbm : bm < W1.heap.size) (hf : W1.cell? ⟨bf, 0, none⟩ = some (.func (.func 107) #[] #[c1, c2, c3, c4])) (hbf : bf < W1.heap.size) (hmany : many ≤ 6)
  (hfit : ∀ (i j : Nat) (W : World), i < many → j < many → Below W1.heap.size W1 W → Calls Tryz.prog 107 #[.int .i64 i, .int .i64 j, c1, c2, c3, c4] W fun e W' => e = .returned (.bool (fit i j)) ∧ Below W.heap.size W W')
  (hY : ∀ m q v W b0, Below W1.heap.size W1 W → q.length = many → W1.heap.size < b0 → b0 ≤ W.heap.size → W.ownsRow b0 3 1 v many (cellsN q) → YieldAt Fence.wide m Tryz.prog l #[v] W fun e W' => e = .returned (.bool false) ∧ R q W.heap.size W' ∧ KeptFrom W1.heap.size W W')
  (hR : ∀ bo s q W v, W1.heap.size ≤ bo → bo < s → R q s W → R q s (W.setCell ⟨bo, 0, none⟩ v)) :
  CallsIn Fence.wide n Tryz.prog 137 #[.func (.yield l) #[] #[], .pointer (some ⟨bm, 0, none⟩), .pointer (some ⟨bf, 0, none⟩)] W1 fun e W' => (∃ v, e = .returned v) ∧
   ((firstC fit many many [] = none ∧ Below W1.heap.size W1 W') ∨ (∃ q s, firstC fit many many [] = some q ∧ W1.heap.size ≤ s ∧ R q s W')) := by
 refine callsIn_of_wp Tryz.func137 rfl trivial ?_ rfl
 simp only [Tryz.ntmps137, List.size_toArray, List.length_cons, List.length_nil, Nat.reduceAdd, Nat.reduceSub, Array.replicate_succ, Array.replicate_zero, List.push_toArray, List.append_toArray, List.nil_append, List.cons_append]
 obtain ⟨A1, hA1⟩ : ∃ A, A = W1.alloc (.cells #[.func (.yield l) #[] #[]] 87) := ⟨_, rfl⟩
 obtain ⟨A2, hA2⟩ : ∃ A, A = A1.alloc (.cells #[.slice none 0 0] 28) := ⟨_, rfl⟩
 obtain ⟨A3, hA3⟩ : ∃ A, A = A2.alloc (.cells #[(.func (.func 138) #[] #[.pointer (some ⟨W1.heap.size + 1, 0, none⟩), .pointer (some ⟨bm, 0, none⟩), .pointer (some ⟨W1.heap.size, 0, none⟩), .pointer (some ⟨bf, 0, none⟩), .pointer (some ⟨W1.heap.size + 1 + 1, 0, none⟩)])] 36) := ⟨_, rfl⟩
 have s1 : A1.heap.size = W1.heap.size + 1 := by rw [hA1, World.size_alloc]
 have s2 : A2.heap.size = W1.heap.size + 1 + 1 := by rw [hA2, World.size_alloc, s1]
 have s3 : A3.heap.size = W1.heap.size + 1 + 1 + 1 := by rw [hA3, World.size_alloc, s2]
 have e1 := new_cell W1 (.func (.yield l) #[] #[]) 87
 have e2 := new_cell A1 (.slice none 0 0) 28
 have e3 := new_cell A2 (.func (.func 138) #[] #[.pointer (some ⟨W1.heap.size + 1, 0, none⟩), .pointer (some ⟨bm, 0, none⟩), .pointer (some ⟨W1.heap.size, 0, none⟩), .pointer (some ⟨bf, 0, none⟩), .pointer (some ⟨W1.heap.size + 1 + 1, 0, none⟩)]) 36
 rw [← hA1] at e1
 rw [← hA2, s1] at e2
 rw [← hA3, s2] at e3
 have b12 : Below A1.heap.size A1 A2 := by rw [hA2]; exact (Below.refl _ _).alloc (Nat.le_refl _) _
 have b23 : Below A2.heap.size A2 A3 := by rw [hA3]; exact (Below.refl _ _).alloc (Nat.le_refl _) _
 have b13 := b12.trans (b23.mono b12.size)
 have b01 : Below W1.heap.size W1 A1 := by rw [hA1]; exact (Below.refl _ _).alloc (Nat.le_refl _) _
 have b03 : Below W1.heap.size W1 A3 := b01.trans (b13.mono (by omega))
 have y3 := (b13.cell (p := ⟨W1.heap.size, 0, none⟩) (by show W1.heap.size < _; omega)).trans e1.1
 have o3 := (b23.cell (p := ⟨W1.heap.size + 1, 0, none⟩) (by show W1.heap.size + 1 < _; omega)).trans e2.1
 have f3 := (b23.frozen (p := ⟨W1.heap.size + 1, 0, none⟩) (by show W1.heap.size + 1 < _; omega)).trans e2.2
 have hO : Own4 W1.heap.size l (W1.heap.size + 1) bm W1.heap.size bf (W1.heap.size + 1 + 1) [] A3 :=
  ⟨⟨_, o3, rfl, .inl ⟨rfl, rfl⟩⟩, f3, y3, e3.1, ⟨by omega, by omega⟩, ⟨by omega, by omega⟩, by omega, by omega⟩
 have hx := extend_in many W1.heap.size l (W1.heap.size + 1) bm W1.heap.size bf (W1.heap.size + 1 + 1) c1 c2 c3 c4 fit W1 (fun q W' => ∃ s, W1.heap.size + 1 + 1 < s ∧ R q s W') hm hbm hf hbf hmany hfit
  (fun m q v W hB hq hlt hrow => (hY m q v W (W1.heap.size + 1 + 1 + 1) hB hq (by omega) (by omega) hrow).mono fun e W' ⟨h1, h2, h3⟩ => ⟨h1, ⟨_, hlt, h2⟩, h3⟩)
  (fun q W v ⟨s, h1, h2⟩ => ⟨s, h1, hR _ s q W v (by omega) (by omega) h2⟩) many (n - 1) [] A3 (by simp) b03 hO
 rw [hA3, hA2, hA1] at hx
 gi_wp2_with (refine ⟨trivial, fun h => (by cases h), ?_⟩; gi_at_call 138; refine hx.mono ?_; rintro e W' (⟨rfl, h1, h2, _⟩ | ⟨rfl, q, h1, ⟨s, h2, h3⟩, _⟩))
 ·go_end0
  exact ⟨⟨_, rfl⟩, .inl ⟨h1, h2⟩⟩
 ·go_end0
  exact ⟨⟨_, rfl⟩, .inr ⟨q, s, h1, by omega, h3⟩⟩
end Go.Proofs.YtjhpklolpmaopaaGreatDoor
namespace Go.Proofs.YtjhpklolpmaopaaGreatDoor
open Go.RowKit
set_option maxRecDepth 100000 in
set_option maxHeartbeats 1000000 in
theorem orders_any (many : Nat) (c1 c2 c3 c4 : Value) (w : World) :
  Calls Tryz.prog 109 #[.int .i64 many, .func (.func 107) #[] #[c1, c2, c3, c4]] w fun e w' => e = .returned (.func (.func 137) #[] #[.pointer (some ⟨w.heap.size, 0, none⟩), .pointer (some ⟨w.heap.size + 1, 0, none⟩)]) ∧ w' = (w.alloc (.cells #[.int .i64 many] 3)).alloc (.cells #[.func (.func 107) #[] #[c1, c2, c3, c4]] 33) := by
 go_enter Tryz.func109, Tryz.ntmps109
 go_wp2
 go_ret
 exact ⟨rfl, rfl⟩
set_option maxRecDepth 100000 in
set_option maxHeartbeats 1000000 in
theorem clone_any (g n cap b0 : Nat) (q : List Nat) (w : World) (hn : n ≤ 1000) (hrow : w.ownsRow b0 3 1 (.slice (some ⟨g, 0, none⟩) n cap) n (cellsN q)) :
  Calls Tryz.prog 110 #[.slice (some ⟨g, 0, none⟩) n cap] w fun e w' => ∃ v', e = .returned v' ∧ w'.ownsRow w.heap.size 3 1 v' n (cellsN q) ∧ Below w.heap.size w w' := by
 obtain ⟨i0, hi, hz0, hz1, hz2⟩ := info_parts Tryz.info3
 have he : ∀ w, (binOp .eql 28 (.slice (some ⟨g, 0, none⟩) n cap) (.slice none 0 0)).run Tryz.prog w = .ok (.bool false) w := fun w => run_eql_slice_nil w 28 3 _ n cap Tryz.underlying28
 have hl : (cellsN q).length = n * 1 := hrow.1
 have hk : ∀ j x, (cellsN q)[j]? = some x → w.cell? ⟨g, j, none⟩ = some x := by
  rcases ownsRow_lt hrow with ⟨h1, h2⟩ | ⟨g', c', h1, h2, h3⟩
  ·cases h1
  ·cases h1; exact h3
 have hg : g < w.heap.size := by
  rcases ownsRow_lt hrow with ⟨h1, h2⟩ | ⟨g', c', h1, h2, h3⟩
  ·cases h1
  ·cases h1; exact h2
 have hb1 : Below w.heap.size w (w.alloc (.cells #[] 3)) := (Below.refl _ _).alloc (Nat.le_refl _) _
 have hown : (w.alloc (.cells #[] 3)).ownsRow w.heap.size 3 1 (.slice (some ⟨w.heap.size, 0, none⟩) 0 0) 0 [] :=
  ⟨rfl, .inr ⟨w.heap.size, 0, #[], rfl, Nat.le_refl _, World.alloc_heap_new w _, Nat.le_refl _, by unfold maxLen; omega, rfl, rfl⟩⟩
 go_enter Tryz.func110, Tryz.ntmps110
 go_wp2_with (at_builtin; refine wpList_append_own _ rfl _ _ 28 rfl w.heap.size 3 i0 (.int .i64 0) 1 8 Tryz.underlying28 hi hz0 hz1 hz2 rfl (by decide) _ 0 [] rfl hown ⟨g, 0, none⟩ n cap (cellsN q) rfl hl ?c1 ?c2 ?c3 ?c4 ?c5 ?_)
 case c1 =>
  intro j u hu
  have : (⟨g, 0, none⟩ : Addr).add j = ⟨g, j, none⟩ := by simp [Addr.add]; omega
  rw [this, hb1.cell (p := ⟨g, j, none⟩) hg]
  exact hk j u hu
 case c2 =>
  intro u hu
  unfold cellsN at hu
  obtain ⟨j, _, rfl⟩ := List.mem_map.1 hu
  rfl
 case c3 => unfold maxLen; omega
 case c4 => omega
 case c5 => simp
 intro v3 w3 hown3 hgrow _
 have hb3 : Below w.heap.size w w3 := hb1.grown hgrow hb1.size fun k hk => by
  have := (hown.lt k hk).1; exact this
 go_wp2
 go_ret
 exact ⟨_, rfl, hown3, hb3⟩
end Go.Proofs.YtjhpklolpmaopaaGreatDoor
namespace Go.Proofs.YtjhpklolpmaopaaGreatDoor
open Go.RowKit Go.Shelf
theorem below_put {n₀ l : Nat} {W : World} {o o' : Obj} (h : n₀ ≤ l) (ho : W.heap[l]? = some o) : Below n₀ W (W.putObj l o') :=
 (Below.refl n₀ W).grown (grownBy_putObj' W l o') (by have := (Array.getElem?_eq_some_iff.1 ho).1; omega) (fun k e => by cases e; omega)
/-- what lies from lo up to s may have changed, nothing else that was there. -/
def Apart (lo s : Nat) (W W' : World) : Prop := Below 0 W W' ∧ ∀ k, (k < lo ∨ s ≤ k) → W'.heap[k]? = W.heap[k]?
theorem Apart.putObj {lo s l : Nat} {W : World} {o o' : Obj} (h1 : lo ≤ l) (h2 : l < s) (ho : W.heap[l]? = some o) : Apart lo s W (W.putObj l o') :=
 ⟨below_put (Nat.zero_le _) ho, fun k hk => World.putObj_heap_other (by omega)⟩
theorem Apart.setCell {lo s bo : Nat} {W : World} {v : Value} (h1 : lo ≤ bo) (h2 : bo < s) : Apart lo s W (W.setCell ⟨bo, 0, none⟩ v) :=
 ⟨(Below.refl 0 W).setCell (Nat.zero_le _) _, fun k hk => Below.heap_setCell W _ v k (by show k ≠ bo; omega)⟩
set_option maxHeartbeats 1000000 in
/-- a range over a function whose body leaves it in its first round, and reads what lies in memory at what it is handed. -/
theorem wpIn_rangeFunc_once {β : Type} {F : Fence} {n : Nat} {P : Program} {g : Operand} {p : Tmp} {assign body : Code} {Q : Exit → Act → World → Prop} {a : Act} {w : World}
  (hro : F.round = none) (hd : F.depth = none) {gf : Nat} {lb : Array Value} (hg : a.eval g = .func (.func gf) #[] lb) (hFg : F.fn gf) (eg : ∀ args w, (callFunc gf args).run P w = .ok (.enter gf args) w)
  (C : β → Value → World → Prop) (S : Option β → Prop) (Ix : Nat → β → Nat → World → Prop)
  (hiter : ∀ (l : Nat) (W1 : World) (R : β → Nat → World → Prop), Below w.heap.size w W1 → w.heap.size + 2 ≤ W1.heap.size →
   (∀ bo s x W v, W1.heap.size ≤ bo → bo < s → R x s W → R x s (W.setCell ⟨bo, 0, none⟩ v)) →
   (∀ m x v W, Below W1.heap.size W1 W → C x v W → YieldAt F m P l #[v] W fun e W' => e = .returned (.bool false) ∧ R x W.heap.size W' ∧ KeptFrom W1.heap.size W W') →
   CallsIn F (n - 1) P gf (#[.func (.yield l) #[] #[]] ++ lb) W1 fun e W' => (∃ v, e = .returned v) ∧ ((S none ∧ Below W1.heap.size W1 W') ∨ ∃ x s, S (some x) ∧ W1.heap.size ≤ s ∧ R x s W'))
  (hC : ∀ x v W W', C x v W → KeptFrom (w.heap.size + 2) W W' → C x v W')
  (hIx : ∀ id x s W W', w.heap.size + 2 ≤ s → Ix id x s W → Apart w.heap.size s W W' → Ix id x s W')
  (a₁ : Value → Act)
  (hassign : ∀ (l m : Nat) (v : Value) (W : World) (K : Act → World → Prop), K (a₁ v) W →
   assign.wpIn (F.inRound l) m P (Exit.then K (fun _ _ _ => False)) { tmps := a.tmps.setIfInBounds p v, defers := [] } W)
  (hbody : ∀ (l m : Nat) (x : β) (v : Value) (W : World), Below w.heap.size w W → w.heap.size + 2 ≤ W.heap.size → C x v W →
   body.wpIn (F.inRound l) m P (fun e _ W3 => ∃ id, e = .exit id ∧ KeptFrom w.heap.size W W3 ∧ Ix id x W.heap.size W3) (a₁ v) W)
  (hdone : ∀ (D : Nat) (W : World), w.heap.size ≤ D → S none → Below w.heap.size w W → W.heap[D]? = some (.deferred (some [])) → Q .normal { a with defers := { target := .collected D, args := #[] } :: a.defers } W)
  (hstop : ∀ (D id : Nat) (x : β) (s : Nat) (W : World), w.heap.size ≤ D → S (some x) → D < s → Ix id x s W → W.heap[D]? = some (.deferred (some [])) → (Code.exit id).wpIn F n P Q { a with defers := { target := .collected D, args := #[] } :: a.defers } W) :
  (Code.rangeFunc g #[p] assign body).wpIn F n P Q a w := by
 refine wpIn_rangeFunc ?_
 intro fn hfn
 rw [hro]
 obtain ⟨rec, hrec⟩ : ∃ rec : LoopState → Option Code → Loop, rec = fun st pe => { state := st, pending := pe, fn, tmps := a.tmps, params := #[p], assign, body, defers := w.heap.size } := ⟨_, rfl⟩
 obtain ⟨W1, hW1⟩ : ∃ W1, (w.alloc (.deferred (some []))).alloc (.loop (rec .ready none)) = W1 := ⟨_, rfl⟩
 have hz1 : W1.heap.size = w.heap.size + 2 := by rw [← hW1, World.size_alloc, World.size_alloc]
 have hL1 : W1.heap[w.heap.size + 1]? = some (.loop (rec .ready none)) := by
  rw [← hW1]; have := World.alloc_heap_new (w.alloc (.deferred (some []))) (.loop (rec .ready none)); rwa [World.size_alloc] at this
 have hK1 : W1.heap[w.heap.size]? = some (.deferred (some [])) := by
  rw [← hW1]; exact (Below.heap_alloc _ _ _ (by simp)).trans (World.alloc_heap_new w _)
 have hb1 : Below w.heap.size w W1 := by
  rw [← hW1]; exact ((Below.refl _ w).alloc (Nat.le_refl _) _).alloc (by simp) _
 refine ⟨w.heap.size + 1, [{ target := .collected w.heap.size, args := #[] }], W1, { target := .fn (.func gf) lb, args := #[.func (.yield (w.heap.size + 1)) #[] #[]] }, W1, gf,
  #[.func (.yield (w.heap.size + 1)) #[] #[]] ++ lb, W1, ?_, ?_, ?_, ?_, (fun h => by rw [hd] at h; cases h), ?_⟩
 ·rw [← hW1, hrec]; exact run_enterLoop_outer _ _ _ _ _
 ·simp only [resolve, hg]
  simp [go_sem]
 ·intro f' hf'; simp [Target.leads] at hf'; subst hf'; exact hFg
 ·simp [invoke, go_sem, eg]
 ·refine (hiter (w.heap.size + 1) W1 (fun x s W => w.heap.size + 2 ≤ s ∧ ∃ id, Ix id x s W ∧ W.heap[w.heap.size + 1]? = some (.loop (rec .done (some (.exit id)))) ∧ W.heap[w.heap.size]? = some (.deferred (some [])))
   hb1 (by omega) ?_ ?_).mono ?_
  ·rintro bo s x W v h1 h2 ⟨h3, id, h4, h5, h6⟩
   exact ⟨h3, id, hIx id x s W _ h3 h4 (Apart.setCell (by omega) h2), (Below.heap_setCell W _ v _ (by show w.heap.size + 1 ≠ bo; omega)).trans h5, (Below.heap_setCell W _ v _ (by show w.heap.size ≠ bo; omega)).trans h6⟩
  ·intro m x v W hB hc
   have hl : W.heap[w.heap.size + 1]? = some (.loop (rec .ready none)) := (hB.block _ (by omega)).trans hL1
   have hk : W.heap[w.heap.size]? = some (.deferred (some [])) := (hB.block _ (by omega)).trans hK1
   have hlt : w.heap.size + 1 < W.heap.size := (Array.getElem?_eq_some_iff.1 hl).1
   have hy := run_yield (P := P) (args := #[v]) hl (by rw [hrec]; rfl)
   rw [hrec] at hy
   have hz : ((#[p] : Array Tmp).zip #[v]).foldl (fun (tmps : Array Value) (x : Tmp × Value) => tmps.setIfInBounds x.1 x.2) a.tmps = a.tmps.setIfInBounds p v := by simp
   refine ⟨fn, a.tmps.setIfInBounds p v, assign, body, hy.trans (by rw [← hz]), roundIn_of_wpIn hfn ?_⟩
   refine hassign _ m v W _ ?_
   refine ⟨_, run_beginRound hl (by rw [hrec]), ?_⟩
   obtain ⟨W2, hW2⟩ : ∃ W2, W.putObj (w.heap.size + 1) (.loop { rec .ready none with state := .busy }) = W2 := ⟨_, rfl⟩
   rw [hW2]
   have hz2 : W2.heap.size = W.heap.size := by rw [← hW2]; exact World.putObj_size
   have hl2 : W2.heap[w.heap.size + 1]? = some (.loop { rec .ready none with state := .busy }) := by rw [← hW2]; exact World.putObj_heap_same hlt
   have ho2 : ∀ k, k ≠ w.heap.size + 1 → W2.heap[k]? = W.heap[k]? := fun k hk => by rw [← hW2]; exact World.putObj_heap_other hk
   have hb2 : Below w.heap.size W W2 := by rw [← hW2]; exact below_put (by omega) hl
   refine wpIn_mono (hbody _ m x v W2 ((hb1.trans (hB.mono (by omega))).trans hb2) (by omega) (hC x v W W2 hc ⟨by omega, fun k hk _ => ho2 k (by omega)⟩)) ?_
   rintro e a3 W3 ⟨id, rfl, hk3, hi3⟩
   have hl3 : W3.heap[w.heap.size + 1]? = some (.loop { rec .ready none with state := .busy }) := (hk3.2 _ (by omega) (by omega)).trans hl2
   have hd3 : W3.heap[w.heap.size]? = some (.deferred (some [])) := ((hk3.2 _ (by omega) (by omega)).trans (ho2 _ (by omega))).trans hk
   have hr := run_endRound (P := P) (some (.exit id)) hl3
   refine ⟨_, _, hr, rfl, ⟨by omega, id, ?_, ?_, (World.putObj_heap_other (by omega)).trans hd3⟩, ?_⟩
   ·rw [hz2] at hi3
    exact hIx id x W.heap.size W3 _ (by omega) hi3 (Apart.putObj (by omega) hlt hl3)
   ·rw [hrec]; exact World.putObj_heap_same (Array.getElem?_eq_some_iff.1 hl3).1
   ·have := hk3.1
    exact ⟨by rw [World.putObj_size]; omega, fun k h1 h2 => ((World.putObj_heap_other (by omega)).trans (hk3.2 k (by omega) (by omega))).trans (ho2 k (by omega))⟩
  ·rintro e W2 ⟨⟨v, rfl⟩, (⟨hS, hB⟩ | ⟨x, s, hS, hs, _, id, hi, hl, hk⟩)⟩
   ·have hl : W2.heap[w.heap.size + 1]? = some (.loop (rec .ready none)) := (hB.block _ (by omega)).trans hL1
    have hk : W2.heap[w.heap.size]? = some (.deferred (some [])) := (hB.block _ (by omega)).trans hK1
    refine ⟨none, _, by have := run_endLoop (P := P) hl (by rw [hrec]; simp); rw [hrec] at this; exact this, hdone _ _ (Nat.le_refl _) hS ((hb1.trans (hB.mono (by omega))).trans (below_put (by omega) hl)) ((World.putObj_heap_other (by omega)).trans hk)⟩
   ·exact ⟨some (.exit id), _, by have := run_endLoop (P := P) hl (by rw [hrec]; simp); rw [hrec] at this; exact this, hstop _ id x s _ (Nat.le_refl _) hS (by omega) (hIx id x s W2 _ (by omega) hi (Apart.putObj (by omega) (by omega) hl)) ((World.putObj_heap_other (by omega)).trans hk)⟩
end Go.Proofs.YtjhpklolpmaopaaGreatDoor
namespace Go.Proofs.YtjhpklolpmaopaaGreatDoor
open Go.RowKit
section
variable {P : Program} {F : Fence} {n : Nat} {b : Frame} {a : Act} {k : List Item} {cs : List Frame} {w : World} {Q : Exit → Act → World → Prop}
theorem stepR_scope {c : Code} : step P (lone (b.atR a (.code (.scope c) :: k)) cs w) = .next (lone (b.atR a (.code c :: .inScope c :: k)) cs w) :=
 step_lone_go (by simp [stepG, stepG.exec, Frame.atR])
theorem stepR_inScope {c : Code} : step P (lone (b.atR a (.inScope c :: k)) cs w) = .next (lone (b.atR a k) cs w) :=
 step_lone_go (by simp [stepG, stepG.exec, Frame.atR])
/-- a scope out of which nothing jumps by goto. -/
theorem wpIn_scope_straight {c : Code} (h : c.wpIn F n P (Exit.noGoto Q) a w) : (Code.scope c).wpIn F n P Q a w := by
 intro b k cs hro hb hr
 have h0 : (lone (b.atR a (.code (.scope c) :: k)) cs w).fenced P F := fenced_calm hb hr rfl
 obtain ⟨e, a₁, w₁, hq, harr⟩ := h b (.inScope c :: k) cs hro hb hr
 cases e with
 | normal => exact ⟨.normal, a₁, w₁, hq, .head h0 stepR_scope (StepsIn.trans harr (.one (fenced_calm hb hr rfl) stepR_inScope))⟩
 | exit id =>
  have hx : exitTo id (.inScope c :: k) = exitTo id k := by simp [exitTo]
  exact ⟨.exit id, a₁, w₁, hq, fun k' hk => .head h0 stepR_scope (harr.1 k' (by rw [hx]; exact hk)),
   fun hr' hk => let ⟨k₁, h1, h2⟩ := harr.2 hr' (by rw [hx]; exact hk); ⟨k₁, h1, .head h0 stepR_scope h2⟩⟩
 | goto l => exact hq.elim
 | ret => exact ⟨_, a₁, w₁, hq, .of_steps (.one h0 stepR_scope) harr⟩
 | panic ch => exact ⟨_, a₁, w₁, hq, .of_steps (.one h0 stepR_scope) harr⟩
 | outgrown => exact ⟨_, a₁, w₁, hq, .of_steps (.one h0 stepR_scope) harr⟩
end
end Go.Proofs.YtjhpklolpmaopaaGreatDoor
