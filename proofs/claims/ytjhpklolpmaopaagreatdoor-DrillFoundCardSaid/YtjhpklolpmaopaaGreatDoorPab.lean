/- A part of the proof: see the last file. -/
import Derived.Test.YtjhpklolpmaopaaGreatDoorPaa
import Derived.StillTactics
import Derived.OwnWalk
import Derived.Laws.Pointers
import Derived.Deep.RegionHeld3
import Derived.Deep.AppendLies
import Derived.Deep.QuietTactic
import Derived.BigQuiet
set_option linter.unusedVariables false
set_option linter.unusedSimpArgs false
set_option linter.unusedSectionVars false
namespace Go.Proofs.YtjhpklolpmaopaaGreatDoor
open Go.RowKit
/-- a point turned by the turn of that number -/
def trn (t : Nat) (p : Int × Int) : Int × Int := if t < 4 then rot t p else rot (t - 4) (-p.1, p.2)
set_option maxRecDepth 100000 in
set_option maxHeartbeats 400000 in
theorem rturn0 (x y : Int) (hx1 : -80 ≤ x) (hx2 : x ≤ 80) (hy1 : -80 ≤ y) (hy2 : y ≤ 80) (w : World) :
  Calls Tryz.prog 14 #[.agg #[.int .i64 x, .int .i64 y], .int .i64 0] w fun e w' => e = .returned (.agg #[.int .i64 (trn 0 (x, y)).1, .int .i64 (trn 0 (x, y)).2]) ∧ Below w.heap.size w w' := by
 go_enter Tryz.func14, Tryz.ntmps14
 go_wp2
 refine wp_loop_rounds 1 ?_
 rw [rounds_succ]
 go_wp2
 refine bodyPost_ret (v := .agg #[.int .i64 (x), .int .i64 (y)]) (by simp [results, Tryz.results14, go_sem]) rfl ⟨ret_agg (by simp [trn, rot]) (by simp [trn, rot]), ?_⟩
 exact ((Below.refl _ _).alloc (Nat.le_refl _) _).alloc (by simp) _
set_option maxRecDepth 100000 in
set_option maxHeartbeats 400000 in
theorem rturn1 (x y : Int) (hx1 : -80 ≤ x) (hx2 : x ≤ 80) (hy1 : -80 ≤ y) (hy2 : y ≤ 80) (w : World) :
  Calls Tryz.prog 14 #[.agg #[.int .i64 x, .int .i64 y], .int .i64 1] w fun e w' => e = .returned (.agg #[.int .i64 (trn 1 (x, y)).1, .int .i64 (trn 1 (x, y)).2]) ∧ Below w.heap.size w w' := by
 go_enter Tryz.func14, Tryz.ntmps14
 go_wp2
 refine wp_loop_rounds 2 ?_
 rw [rounds_succ]
 go_wp2
 rw [rounds_succ]
 go_wp2
 refine bodyPost_ret (v := .agg #[.int .i64 (-y), .int .i64 (x)]) (by simp [results, Tryz.results14, go_sem]) rfl ⟨ret_agg (by simp [trn, rot]) (by simp [trn, rot]), ?_⟩
 exact ((Below.refl _ _).alloc (Nat.le_refl _) _).alloc (by simp) _
set_option maxRecDepth 100000 in
set_option maxHeartbeats 400000 in
theorem rturn2 (x y : Int) (hx1 : -80 ≤ x) (hx2 : x ≤ 80) (hy1 : -80 ≤ y) (hy2 : y ≤ 80) (w : World) :
  Calls Tryz.prog 14 #[.agg #[.int .i64 x, .int .i64 y], .int .i64 2] w fun e w' => e = .returned (.agg #[.int .i64 (trn 2 (x, y)).1, .int .i64 (trn 2 (x, y)).2]) ∧ Below w.heap.size w w' := by
 go_enter Tryz.func14, Tryz.ntmps14
 go_wp2
 refine wp_loop_rounds 3 ?_
 rw [rounds_succ]
 go_wp2
 rw [rounds_succ]
 go_wp2
 rw [rounds_succ]
 go_wp2
 refine bodyPost_ret (v := .agg #[.int .i64 (-x), .int .i64 (-y)]) (by simp [results, Tryz.results14, go_sem]) rfl ⟨ret_agg (by simp [trn, rot]) (by simp [trn, rot]), ?_⟩
 exact ((Below.refl _ _).alloc (Nat.le_refl _) _).alloc (by simp) _
set_option maxRecDepth 100000 in
set_option maxHeartbeats 400000 in
theorem rturn3 (x y : Int) (hx1 : -80 ≤ x) (hx2 : x ≤ 80) (hy1 : -80 ≤ y) (hy2 : y ≤ 80) (w : World) :
  Calls Tryz.prog 14 #[.agg #[.int .i64 x, .int .i64 y], .int .i64 3] w fun e w' => e = .returned (.agg #[.int .i64 (trn 3 (x, y)).1, .int .i64 (trn 3 (x, y)).2]) ∧ Below w.heap.size w w' := by
 go_enter Tryz.func14, Tryz.ntmps14
 go_wp2
 refine wp_loop_rounds 4 ?_
 rw [rounds_succ]
 go_wp2
 rw [rounds_succ]
 go_wp2
 rw [rounds_succ]
 go_wp2
 rw [rounds_succ]
 go_wp2
 refine bodyPost_ret (v := .agg #[.int .i64 (y), .int .i64 (-x)]) (by simp [results, Tryz.results14, go_sem]) rfl ⟨ret_agg (by simp [trn, rot]) (by simp [trn, rot]), ?_⟩
 exact ((Below.refl _ _).alloc (Nat.le_refl _) _).alloc (by simp) _
set_option maxRecDepth 100000 in
set_option maxHeartbeats 400000 in
theorem rturn4 (x y : Int) (hx1 : -80 ≤ x) (hx2 : x ≤ 80) (hy1 : -80 ≤ y) (hy2 : y ≤ 80) (w : World) :
  Calls Tryz.prog 14 #[.agg #[.int .i64 x, .int .i64 y], .int .i64 4] w fun e w' => e = .returned (.agg #[.int .i64 (trn 4 (x, y)).1, .int .i64 (trn 4 (x, y)).2]) ∧ Below w.heap.size w w' := by
 go_enter Tryz.func14, Tryz.ntmps14
 go_wp2
 refine wp_loop_rounds 1 ?_
 rw [rounds_succ]
 go_wp2
 refine bodyPost_ret (v := .agg #[.int .i64 (-x), .int .i64 (y)]) (by simp [results, Tryz.results14, go_sem]) rfl ⟨ret_agg (by simp [trn, rot]) (by simp [trn, rot]), ?_⟩
 exact ((Below.refl _ _).alloc (Nat.le_refl _) _).alloc (by simp) _
set_option maxRecDepth 100000 in
set_option maxHeartbeats 400000 in
theorem rturn5 (x y : Int) (hx1 : -80 ≤ x) (hx2 : x ≤ 80) (hy1 : -80 ≤ y) (hy2 : y ≤ 80) (w : World) :
  Calls Tryz.prog 14 #[.agg #[.int .i64 x, .int .i64 y], .int .i64 5] w fun e w' => e = .returned (.agg #[.int .i64 (trn 5 (x, y)).1, .int .i64 (trn 5 (x, y)).2]) ∧ Below w.heap.size w w' := by
 go_enter Tryz.func14, Tryz.ntmps14
 go_wp2
 refine wp_loop_rounds 2 ?_
 rw [rounds_succ]
 go_wp2
 rw [rounds_succ]
 go_wp2
 refine bodyPost_ret (v := .agg #[.int .i64 (-y), .int .i64 (-x)]) (by simp [results, Tryz.results14, go_sem]) rfl ⟨ret_agg (by simp [trn, rot]) (by simp [trn, rot]), ?_⟩
 exact ((Below.refl _ _).alloc (Nat.le_refl _) _).alloc (by simp) _
set_option maxRecDepth 100000 in
set_option maxHeartbeats 400000 in
theorem rturn6 (x y : Int) (hx1 : -80 ≤ x) (hx2 : x ≤ 80) (hy1 : -80 ≤ y) (hy2 : y ≤ 80) (w : World) :
  Calls Tryz.prog 14 #[.agg #[.int .i64 x, .int .i64 y], .int .i64 6] w fun e w' => e = .returned (.agg #[.int .i64 (trn 6 (x, y)).1, .int .i64 (trn 6 (x, y)).2]) ∧ Below w.heap.size w w' := by
 go_enter Tryz.func14, Tryz.ntmps14
 go_wp2
 refine wp_loop_rounds 3 ?_
 rw [rounds_succ]
 go_wp2
 rw [rounds_succ]
 go_wp2
 rw [rounds_succ]
 go_wp2
 refine bodyPost_ret (v := .agg #[.int .i64 (x), .int .i64 (-y)]) (by simp [results, Tryz.results14, go_sem]) rfl ⟨ret_agg (by simp [trn, rot]) (by simp [trn, rot]), ?_⟩
 exact ((Below.refl _ _).alloc (Nat.le_refl _) _).alloc (by simp) _
set_option maxRecDepth 100000 in
set_option maxHeartbeats 400000 in
theorem rturn7 (x y : Int) (hx1 : -80 ≤ x) (hx2 : x ≤ 80) (hy1 : -80 ≤ y) (hy2 : y ≤ 80) (w : World) :
  Calls Tryz.prog 14 #[.agg #[.int .i64 x, .int .i64 y], .int .i64 7] w fun e w' => e = .returned (.agg #[.int .i64 (trn 7 (x, y)).1, .int .i64 (trn 7 (x, y)).2]) ∧ Below w.heap.size w w' := by
 go_enter Tryz.func14, Tryz.ntmps14
 go_wp2
 refine wp_loop_rounds 4 ?_
 rw [rounds_succ]
 go_wp2
 rw [rounds_succ]
 go_wp2
 rw [rounds_succ]
 go_wp2
 rw [rounds_succ]
 go_wp2
 refine bodyPost_ret (v := .agg #[.int .i64 (y), .int .i64 (x)]) (by simp [results, Tryz.results14, go_sem]) rfl ⟨ret_agg (by simp [trn, rot]) (by simp [trn, rot]), ?_⟩
 exact ((Below.refl _ _).alloc (Nat.le_refl _) _).alloc (by simp) _
theorem rturn_any (t : Nat) (ht : t < 8) (x y : Int) (hx1 : -80 ≤ x) (hx2 : x ≤ 80) (hy1 : -80 ≤ y) (hy2 : y ≤ 80) (w : World) :
  Calls Tryz.prog 14 #[.agg #[.int .i64 x, .int .i64 y], .int .i64 t] w fun e w' => e = .returned (.agg #[.int .i64 (trn t (x, y)).1, .int .i64 (trn t (x, y)).2]) ∧ Below w.heap.size w w' := by
 match t, ht with
 | 0, _ => exact rturn0 x y hx1 hx2 hy1 hy2 w
 | 1, _ => exact rturn1 x y hx1 hx2 hy1 hy2 w
 | 2, _ => exact rturn2 x y hx1 hx2 hy1 hy2 w
 | 3, _ => exact rturn3 x y hx1 hx2 hy1 hy2 w
 | 4, _ => exact rturn4 x y hx1 hx2 hy1 hy2 w
 | 5, _ => exact rturn5 x y hx1 hx2 hy1 hy2 w
 | 6, _ => exact rturn6 x y hx1 hx2 hy1 hy2 w
 | 7, _ => exact rturn7 x y hx1 hx2 hy1 hy2 w
 | n+8, h => omega
/-- the value of the turn of that number -/
def tval (t : Nat) : Value := if t < 4 then .iface 182 (.int .i64 t) else .iface 183 (.int .i64 (t - 4))
theorem turned_any (t : Nat) (ht : t < 8) (x y : Int) (hx1 : -80 ≤ x) (hx2 : x ≤ 80) (hy1 : -80 ≤ y) (hy2 : y ≤ 80) (w : World) :
  Calls Tryz.prog 66 #[.agg #[.int .i64 x, .int .i64 y], tval t] w fun e w' => e = .returned (.agg #[.int .i64 (trn t (x, y)).1, .int .i64 (trn t (x, y)).2]) ∧ Below w.heap.size w w' := by
 match t, ht with
 | 0, _ => exact turned_plain0 x y hx1 hx2 hy1 hy2 w
 | 1, _ => exact turned_plain1 x y hx1 hx2 hy1 hy2 w
 | 2, _ => exact turned_plain2 x y hx1 hx2 hy1 hy2 w
 | 3, _ => exact turned_plain3 x y hx1 hx2 hy1 hy2 w
 | 4, _ => exact turned_mirrored0 x y hx1 hx2 hy1 hy2 w
 | 5, _ => exact turned_mirrored1 x y hx1 hx2 hy1 hy2 w
 | 6, _ => exact turned_mirrored2 x y hx1 hx2 hy1 hy2 w
 | 7, _ => exact turned_mirrored3 x y hx1 hx2 hy1 hy2 w
 | n+8, h => omega
theorem turnOf_any (t : Nat) (ht : t < 8) (w : World) :
  Calls Tryz.prog 65 #[.int .i64 t] w fun e w' => e = .returned (tval t) ∧ w = w' := by
 by_cases h : t < 4
 ·unfold tval; rw [if_pos h]; exact turnOf_lo _ (by omega) (by omega) w
 ·unfold tval; rw [if_neg h]; exact turnOf_hi _ (by omega) (by omega) w
theorem trn_small {t : Nat} {p : Int × Int} (h : small p) : small (trn t p) := by
 unfold trn
 split
 ·exact rot_small _ h
 ·refine rot_small _ ?_
  obtain ⟨⟨h1, h2⟩, h3, h4⟩ := h
  simp only [small]; omega
end Go.Proofs.YtjhpklolpmaopaaGreatDoor
namespace Go.Proofs.YtjhpklolpmaopaaGreatDoor
open Go.RowKit
def ptsCells (f : Nat → Int × Int) : Nat → List Value
 | 0 => []
 | k+1 => ptsCells f k ++ [.int .i64 (f k).1, .int .i64 (f k).2]
theorem ownsRow_below {w w' : World} {B : Nat} {e : TypeId} {size : Nat} {v : Value} {n : Nat} {xs : List Value} (h : w.ownsRow B e size v n xs) (hb : Below w.heap.size w w') : w'.ownsRow B e size v n xs := by
 obtain ⟨h1, h2⟩ := h
 refine ⟨h1, ?_⟩
 rcases h2 with h2 | ⟨g, cap, cur, a1, a2, a3, a4⟩
 ·exact .inl h2
 ·have hg : g < w.heap.size := (Array.getElem?_eq_some_iff.1 a3).1
  exact .inr ⟨g, cap, cur, a1, a2, by rw [hb.block g hg]; exact a3, a4⟩
theorem cells_two (w : World) (a b : Value) (e : TypeId) : ∀ (j : Nat) (u : Value), [a, b][j]? = some u → (w.alloc (Obj.cells #[a, b] e)).cell? ((⟨w.heap.size, 0, none⟩ : Addr).add j) = some u := by
 intro j u h
 match j, h with
 | 0, h => simp at h; subst h; simp [go_sem, Addr.add]
 | 1, h => simp at h; subst h; simp [go_sem, Addr.add]
 | n+2, h => simp at h
theorem Tryz.info43 : (Tryz.prog.info? 43).map (fun i => (i.zero, i.size, i.bytes)) = some (some (.agg #[.int .i64 0, .int .i64 0]), 2, 16) := by kernel_rfl
end Go.Proofs.YtjhpklolpmaopaaGreatDoor
namespace Go.Proofs.YtjhpklolpmaopaaGreatDoor
open Go.RowKit
end Go.Proofs.YtjhpklolpmaopaaGreatDoor
namespace Go.Proofs.YtjhpklolpmaopaaGreatDoor
open Go.RowKit
def ponB (n : Nat) (least most : Int) (X Y : Nat → Int) (r : Int) : Bool := allB n X Y r && inB n least most
theorem ponB_yes {n : Nat} {least most : Int} {X Y : Nat → Int} {r : Int} (h : ∀ i, i < n → ptB (X i) (Y i) r = true) : ponB n least most X Y r = inB n least most := by unfold ponB; rw [allB_yes h]; rfl
theorem ponB_no {n i : Nat} {least most : Int} {X Y : Nat → Int} {r : Int} (hi : i < n) (h : ptB (X i) (Y i) r = false) : ponB n least most X Y r = false := by unfold ponB; rw [allB_no hi h]; rfl
theorem ptB_f1 {x y r : Int} (h1 : inB x (-r) r = false) : ptB x y r = false := by unfold ptB; rw [h1]; rfl
theorem ptB_f2 {x y r : Int} (h1 : inB x (-r) r = true) (h2 : inB y (-r) r = false) : ptB x y r = false := by unfold ptB; rw [h1, h2]; rfl
theorem ptB_t {x y r : Int} (h1 : inB x (-r) r = true) (h2 : inB y (-r) r = true) : ptB x y r = true := by unfold ptB; rw [h1, h2]; rfl
set_option maxRecDepth 100000 in
set_option maxHeartbeats 400000 in
theorem points_some (b off n cap : Nat) (least most : Int) (X Y : Nat → Int) (r : Int) (h0 : 0 ≤ r) (h1 : r ≤ 1000) (w : World) (hn : n ≤ 1000) (hp : Pts w b off n X Y) :
  Calls Tryz.prog 27 #[.slice (some ⟨b, off, none⟩) n cap, .int .i64 least, .int .i64 most, .int .i64 r] w fun e w' => e = .returned (.bool (ponB n least most X Y r)) ∧ w = w' := by
 go_enter Tryz.func27, Tryz.ntmps27
 go_wp2
 go_loop [9] (fun i => ∃ k : Nat, k ≤ n ∧ i = .int .i64 k ∧ ∀ m, m < k → ptB (X m) (Y m) r = true) (fun i => n - (intOf i).toNat)
 case atStart => exact ⟨0, Nat.zero_le _, rfl, fun _ h => absurd h (Nat.not_lt_zero _)⟩
 case round =>
  obtain ⟨k, hk, rfl, hall⟩ := hrel
  by_cases hlt : k < n
  ·obtain ⟨hx, hy⟩ := hp k hlt
   cases hbx : inB (X k) (-r) r with
   | false =>
    have hpt := ptB_f1 (y := Y k) hbx
    go_wp2_with (go_at_call 25; refine (in_any _ _ _ _).mono ?_; rintro e w' ⟨rfl, rfl⟩)
    go_ret
    exact ⟨ret_bool (ponB_no hlt hpt).symm, rfl⟩
   | true =>
    cases hby : inB (Y k) (-r) r with
    | false =>
     have hpt := ptB_f2 hbx hby
     go_wp2_with (go_at_call 25; refine (in_any _ _ _ _).mono ?_; rintro e w' ⟨rfl, rfl⟩)
     go_ret
     exact ⟨ret_bool (ponB_no hlt hpt).symm, rfl⟩
    | true =>
     have hpt := ptB_t hbx hby
     go_wp2_with (go_at_call 25; refine (in_any _ _ _ _).mono ?_; rintro e w' ⟨rfl, rfl⟩)
     go_round
     case rel => exact ⟨k + 1, by omega, by go_num, all_succ hall hpt⟩
     case measure => simp [intOf]; omega
  ·obtain rfl : n = k := by omega
   go_wp2_with (go_at_call 25; refine (in_any _ _ _ _).mono ?_; rintro e w' ⟨rfl, rfl⟩)
   go_ret
   exact ⟨ret_bool (ponB_yes fun i hi => hall i (by omega)).symm, rfl⟩
set_option maxRecDepth 100000 in
set_option maxHeartbeats 400000 in
theorem points_nil (a : Option Addr) (c : Nat) (least most : Int) (X Y : Nat → Int) (r : Int) (w : World) :
  Calls Tryz.prog 27 #[.slice a 0 c, .int .i64 least, .int .i64 most, .int .i64 r] w fun e w' => e = .returned (.bool (ponB 0 least most X Y r)) ∧ w = w' := by
 go_enter Tryz.func27, Tryz.ntmps27
 go_wp2
 refine wp_loop_rounds 1 ?_
 rw [rounds_succ]
 go_wp2_with (go_at_call 25; refine (in_any _ _ _ _).mono ?_; rintro e w' ⟨rfl, rfl⟩)
 go_ret
 exact ⟨ret_bool (ponB_yes fun i hi => absurd hi (Nat.not_lt_zero i)).symm, rfl⟩
theorem points_any (v : Value) (n : Nat) (least most : Int) (X Y : Nat → Int) (r : Int) (h0 : 0 ≤ r) (h1 : r ≤ 1000) (w : World) (hn : n ≤ 1000) (hp : PSl w v n X Y) :
  Calls Tryz.prog 27 #[v, .int .i64 least, .int .i64 most, .int .i64 r] w fun e w' => e = .returned (.bool (ponB n least most X Y r)) ∧ w = w' := by
 rcases hp with ⟨a, c, rfl, rfl⟩ | ⟨b, off, cap, rfl, hb, hp⟩
 ·exact points_nil a c least most X Y r w
 ·exact points_some b off n cap least most X Y r h0 h1 w hn hp
end Go.Proofs.YtjhpklolpmaopaaGreatDoor
namespace Go.Proofs.YtjhpklolpmaopaaGreatDoor
open Go.RowKit
theorem Tryz.info3 : (Tryz.prog.info? 3).map (fun i => (i.zero, i.size, i.bytes)) = some (some (.int .i64 0), 1, 8) := by kernel_rfl
/-- what a list of cells holds at a place -/
def Ints (w : World) (b off n : Nat) (F : Nat → Int) : Prop := ∀ i, i < n → w.cell? ⟨b, off + i, none⟩ = some (.int .i64 (F i))
set_option maxRecDepth 100000 in
set_option maxHeartbeats 400000 in
theorem same_some (b off n cap b2 off2 cap2 : Nat) (F : Nat → Int) (w : World) (hn : n ≤ 10000) (hp : Ints w b off n F) (hp2 : Ints w b2 off2 n F) :
  Calls Tryz.prog 21 #[.slice (some ⟨b, off, none⟩) n cap, .slice (some ⟨b2, off2, none⟩) n cap2] w fun e w' => e = .returned (.bool true) ∧ Below w.heap.size w w' := by
 go_enter Tryz.func21, Tryz.ntmps21
 go_wp2
 go_loopw [5] (fun i wr => ∃ k : Nat, k ≤ n ∧ i = .int .i64 k ∧ Below w.heap.size w wr ∧ Ints wr b off n F ∧ Ints wr b2 off2 n F) (fun i _ => n - (intOf i).toNat)
 case atStart => exact ⟨0, Nat.zero_le _, rfl, Below.refl _ _, hp, hp2⟩
 case round =>
  obtain ⟨k, hk, rfl, hbl, h1, h2⟩ := hrel
  by_cases hlt : k < n
  ·have hx := h1 k hlt
   have hy := h2 k hlt
   have hk0 : (0 : Int) ≤ (k : Int) := Int.natCast_nonneg _
   have hk1 : (k : Int) < (n : Int) := by omega
   go_wp2
   go_quiet (fail)
   have hb3 : Below w.heap.size w (wr.drewN nq) := ⟨hbl.os, hbl.tape, hbl.output, hbl.size, hbl.block⟩
   have h3 : Ints (wr.drewN nq) b off n F := fun i hi => h1 i hi
   have h4 : Ints (wr.drewN nq) b2 off2 n F := fun i hi => h2 i hi
   clear hx hy h1 h2 hbl
   go_wp2
   go_roundw
   case rel => exact ⟨k + 1, by omega, by go_num, hb3, h3, h4⟩
   case measure => simp [intOf]; omega
  ·obtain rfl : n = k := by omega
   go_wp2
   go_ret
   exact ⟨rfl, hbl⟩
theorem ownsRow_lt {w : World} {B : Nat} {e : TypeId} {size : Nat} {v : Value} {n : Nat} {xs : List Value} (h : w.ownsRow B e size v n xs) :
  (v = .slice none 0 0 ∧ n = 0) ∨ ∃ g cap, v = .slice (some ⟨g, 0, none⟩) n cap ∧ g < w.heap.size ∧ ∀ j x, xs[j]? = some x → w.cell? ⟨g, j, none⟩ = some x := by
 obtain ⟨h1, h2 | ⟨g, cap, cur, a1, a2, a3, a4, a5, a6, a7⟩⟩ := h
 ·exact .inl h2
 ·refine .inr ⟨g, cap, a1, (Array.getElem?_eq_some_iff.1 a3).1, fun j x hx => ?_⟩
  have : w.cell? ⟨g, j, none⟩ = cur[j]? := by simp [World.cell?, a3]
  rw [this, ← Array.getElem?_toList]
  rw [← a7, List.getElem?_take] at hx
  split at hx
  ·exact hx
  ·cases hx
end Go.Proofs.YtjhpklolpmaopaaGreatDoor
namespace Go.Proofs.YtjhpklolpmaopaaGreatDoor
open Go.RowKit
/-- the first place of r among the first n, from k on; -1 if there is none. -/
def idxI (F : Nat → Int) (r : Int) (k : Nat) : Nat → Int
 | 0 => -1
 | m+1 => if F k = r then (k : Int) else idxI F r (k+1) m
theorem idxI_no {F : Nat → Int} {r : Int} : ∀ {m k : Nat}, (∀ j, k ≤ j → j < k + m → F j ≠ r) → idxI F r k m = -1
 | 0, k, _ => rfl
 | m+1, k, h => by
  unfold idxI
  rw [if_neg (h k (by omega) (by omega))]
  exact idxI_no fun j h1 h2 => h j (by omega) (by omega)
theorem idxI_yes {F : Nat → Int} {r : Int} : ∀ {m k j : Nat}, k ≤ j → j < k + m → F j = r → 0 ≤ idxI F r k m
 | 0, k, j, h1, h2, _ => absurd h2 (by omega)
 | m+1, k, j, h1, h2, h => by
  unfold idxI
  by_cases h3 : F k = r
  ·rw [if_pos h3]; omega
  ·rw [if_neg h3]
   have : j ≠ k := fun e => h3 (e ▸ h)
   exact idxI_yes (m := m) (k := k+1) (j := j) (by omega) (by omega) h
theorem idxI_hit {F : Nat → Int} {r : Int} {n k : Nat} (hk : k < n) (h : F k = r) : idxI F r k (n - k) = k := by
 obtain ⟨m, hm⟩ : ∃ m, n - k = m + 1 := ⟨n - k - 1, by omega⟩
 rw [hm]; unfold idxI; rw [if_pos h]
theorem idxI_miss {F : Nat → Int} {r : Int} {n k : Nat} (hk : k < n) (h : F k ≠ r) : idxI F r k (n - k) = idxI F r (k+1) (n - (k+1)) := by
 obtain ⟨m, hm⟩ : ∃ m, n - k = m + 1 := ⟨n - k - 1, by omega⟩
 rw [hm, show n - (k+1) = m by omega]; conv => lhs; unfold idxI
 rw [if_neg h]
/-- r is among the first n. -/
def hasB (F : Nat → Int) (r : Int) (n : Nat) : Bool := decide (0 ≤ idxI F r 0 n)
theorem hasB_iff {F : Nat → Int} {r : Int} {n : Nat} : hasB F r n = true ↔ ∃ j, j < n ∧ F j = r := by
 unfold hasB
 rw [decide_eq_true_iff]
 constructor
 ·intro h
  exact Classical.byContradiction fun h2 => by
   rw [idxI_no fun j _ hj e => h2 ⟨j, by omega, e⟩] at h; omega
 ·rintro ⟨j, hj, e⟩; exact idxI_yes (by omega) (by omega) e
set_option maxRecDepth 100000 in
set_option maxHeartbeats 1000000 in
theorem intIndex_some (b off n cap : Nat) (F : Nat → Int) (r : Int) (w : World) (hn : n ≤ 1000) (hp : Ints w b off n F) (hb : b < w.heap.size) :
  Calls Tryz.prog 152 #[.slice (some ⟨b, off, none⟩) n cap, .int .i64 r] w fun e w' => e = .returned (.int .i64 (idxI F r 0 n)) ∧ Below w.heap.size w w' := by
 go_enter Tryz.func152, Tryz.ntmps152
 go_wp2
 go_loopw [8] (fun i wr => ∃ k : Nat, k ≤ n ∧ i = .int .i64 k ∧ Below w.heap.size w wr ∧ idxI F r 0 n = idxI F r k (n - k)) (fun i _ => n - (intOf i).toNat)
 case atStart => exact ⟨0, Nat.zero_le _, rfl, Below.refl _ _, rfl⟩
 case round =>
  obtain ⟨k, hk, rfl, hbl, hix⟩ := hrel
  by_cases hlt : k < n
  ·have hc : wr.cell? ⟨b, off + k, none⟩ = some (.int .i64 (F k)) := (hbl.cell (p := ⟨b, off + k, none⟩) hb).trans (hp k hlt)
   by_cases he : r = F k
   ·go_wp2
    go_ret
    rw [idxI_hit hlt he.symm] at hix
    exact ⟨(by rw [hix]; rfl), hbl⟩
   ·go_wp2
    go_roundw
    case rel => exact ⟨k + 1, by omega, by go_num, hbl, hix.trans (idxI_miss hlt fun e => he e.symm)⟩
    case measure => simp [intOf]; omega
  ·obtain rfl : n = k := by omega
   go_wp2
   go_ret
   rw [Nat.sub_self] at hix
   exact ⟨by rw [hix]; rfl, hbl⟩
set_option maxRecDepth 100000 in
set_option maxHeartbeats 1000000 in
theorem intIndex_nil (a : Option Addr) (c : Nat) (F : Nat → Int) (r : Int) (w : World) :
  Calls Tryz.prog 152 #[.slice a 0 c, .int .i64 r] w fun e w' => e = .returned (.int .i64 (idxI F r 0 0)) ∧ Below w.heap.size w w' := by
 go_enter Tryz.func152, Tryz.ntmps152
 go_wp2
 refine wp_loop_rounds 1 ?_
 rw [rounds_succ]
 go_wp2
 go_ret
 exact ⟨rfl, Below.refl _ _⟩
/-- a slice of numbers. -/
def IntsSl (w : World) (v : Value) (n : Nat) (F : Nat → Int) : Prop :=
 (∃ a c, v = .slice a 0 c ∧ n = 0) ∨ ∃ b off cap, v = .slice (some ⟨b, off, none⟩) n cap ∧ b < w.heap.size ∧ Ints w b off n F
theorem intIndex_any (v : Value) (n : Nat) (F : Nat → Int) (r : Int) (w : World) (hn : n ≤ 1000) (h : IntsSl w v n F) :
  Calls Tryz.prog 152 #[v, .int .i64 r] w fun e w' => e = .returned (.int .i64 (idxI F r 0 n)) ∧ Below w.heap.size w w' := by
 rcases h with ⟨a, c, rfl, rfl⟩ | ⟨b, off, cap, rfl, hb, hp⟩
 ·exact intIndex_nil a c F r w
 ·exact intIndex_some b off n cap F r w hn hp hb
set_option maxRecDepth 100000 in
set_option maxHeartbeats 1000000 in
theorem intHas_any (v : Value) (n : Nat) (F : Nat → Int) (r : Int) (w : World) (hn : n ≤ 1000) (h : IntsSl w v n F) :
  Calls Tryz.prog 139 #[v, .int .i64 r] w fun e w' => e = .returned (.bool (hasB F r n)) ∧ Below w.heap.size w w' := by
 unfold hasB
 have hi := intIndex_any v n F r w hn h
 generalize idxI F r 0 n = x at hi ⊢
 go_enter Tryz.func139, Tryz.ntmps139
 go_wp2_with (go_at_call 152; refine hi.mono ?_; rintro e w' ⟨rfl, hb⟩)
 go_ret
 exact ⟨rfl, hb⟩
end Go.Proofs.YtjhpklolpmaopaaGreatDoor
namespace Go.Proofs.YtjhpklolpmaopaaGreatDoor
open Go.RowKit
/-- the first place, from k on, among the first n at which f is so; -1 if there is none. -/
def idxQ (f : Nat → Bool) (k : Nat) : Nat → Int
 | 0 => -1
 | m+1 => if f k = true then (k : Int) else idxQ f (k+1) m
theorem idxQ_hit {f : Nat → Bool} {n k : Nat} (hk : k < n) (h : f k = true) : idxQ f k (n - k) = k := by
 obtain ⟨m, hm⟩ : ∃ m, n - k = m + 1 := ⟨n - k - 1, by omega⟩
 rw [hm]; unfold idxQ; rw [if_pos h]
theorem idxQ_miss {f : Nat → Bool} {n k : Nat} (hk : k < n) (h : f k = false) : idxQ f k (n - k) = idxQ f (k+1) (n - (k+1)) := by
 obtain ⟨m, hm⟩ : ∃ m, n - k = m + 1 := ⟨n - k - 1, by omega⟩
 rw [hm, show n - (k+1) = m by omega]; conv => lhs; unfold idxQ
 rw [if_neg (by rw [h]; simp)]
end Go.Proofs.YtjhpklolpmaopaaGreatDoor
namespace Go.Proofs.YtjhpklolpmaopaaGreatDoor
open Go.RowKit
end Go.Proofs.YtjhpklolpmaopaaGreatDoor
namespace Go.Proofs.YtjhpklolpmaopaaGreatDoor
open Go.RowKit
theorem ptsCells_len (f : Nat → Int × Int) : ∀ n, (ptsCells f n).length = 2 * n
 | 0 => rfl
 | n+1 => by simp [ptsCells, ptsCells_len f n]; omega
/-- a list of points that the call made reads as points -/
theorem PSl_of_own {w : World} {B : Nat} {v : Value} : ∀ {n : Nat} {f : Nat → Int × Int}, w.ownsRow B 43 2 v n (ptsCells f n) → PSl w v n (fun i => (f i).1) (fun i => (f i).2) := by
 intro n f h
 rcases ownsRow_lt h with h1 | ⟨g, c, h1, h2, h3⟩
 ·exact .inl ⟨none, 0, h1.1, h1.2⟩
 ·refine .inr ⟨g, 0, c, h1, h2, fun i hi => ?_⟩
  have key : ∀ n, i < n → (ptsCells f n)[i * 2]? = some (.int .i64 (f i).1) ∧ (ptsCells f n)[i * 2 + 1]? = some (.int .i64 (f i).2) := by
   intro n
   induction n with
   | zero => intro h; omega
   | succ n ih =>
    intro h
    have hl := ptsCells_len f n
    by_cases e : i = n
    ·subst e
     simp only [ptsCells]
     constructor
     ·rw [List.getElem?_append_right (by omega), hl, show i * 2 - 2 * i = 0 from by omega]; rfl
     ·rw [List.getElem?_append_right (by omega), hl, show i * 2 + 1 - 2 * i = 1 from by omega]; rfl
    ·simp only [ptsCells]
     obtain ⟨q1, q2⟩ := ih (by omega)
     exact ⟨by rw [List.getElem?_append_left (by omega)]; exact q1, by rw [List.getElem?_append_left (by omega)]; exact q2⟩
  obtain ⟨q1, q2⟩ := key n hi
  simp only [Nat.zero_add]
  exact ⟨h3 _ _ q1, h3 _ _ q2⟩
end Go.Proofs.YtjhpklolpmaopaaGreatDoor
