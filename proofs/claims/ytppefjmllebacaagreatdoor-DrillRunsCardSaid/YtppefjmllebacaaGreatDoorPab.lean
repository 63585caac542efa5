/- A part of the proof: see the last file. -/
import Derived.Test.YtppefjmllebacaaGreatDoorPaa
import Derived.StillTactics
import Derived.OwnWalk
import Derived.Laws.Pointers
import Derived.Deep.RegionHeld3
import Derived.Deep.AppendLies
import Derived.Deep.QuietTactic
import Derived.BigQuiet
import Derived.Deep.RegionWith
set_option linter.unusedVariables false
set_option linter.unusedSimpArgs false
set_option linter.unusedSectionVars false
namespace Go.Proofs.YtppefjmllebacaaGreatDoor
open Go.RowKit
def ponB (n : Nat) (least most : Int) (X Y : Nat → Int) (r : Int) : Bool := allB n X Y r && inB n least most
theorem ponB_yes {n : Nat} {least most : Int} {X Y : Nat → Int} {r : Int} (h : ∀ i, i < n → ptB (X i) (Y i) r = true) : ponB n least most X Y r = inB n least most := by unfold ponB; rw [allB_yes h]; rfl
theorem ponB_no {n i : Nat} {least most : Int} {X Y : Nat → Int} {r : Int} (hi : i < n) (h : ptB (X i) (Y i) r = false) : ponB n least most X Y r = false := by unfold ponB; rw [allB_no hi h]; rfl
theorem ptB_f1 {x y r : Int} (h1 : inB x (-r) r = false) : ptB x y r = false := by unfold ptB; rw [h1]; rfl
theorem ptB_f2 {x y r : Int} (h1 : inB x (-r) r = true) (h2 : inB y (-r) r = false) : ptB x y r = false := by unfold ptB; rw [h1, h2]; rfl
theorem ptB_t {x y r : Int} (h1 : inB x (-r) r = true) (h2 : inB y (-r) r = true) : ptB x y r = true := by unfold ptB; rw [h1, h2]; rfl
set_option maxRecDepth 100000 in
set_option maxHeartbeats 400000 in
theorem points_some (b off n cap : Nat) (least most : Int) (X Y : Nat → Int) (r : Int) (h0 : 0 ≤ r) (h1 : r ≤ 1000) (w : World) (hn : n ≤ 1000) (hp : Pts w b off n X Y) :
    Calls Tryz.prog 46 #[.slice (some ⟨b, off, none⟩) n cap, .int .i64 least, .int .i64 most, .int .i64 r] w fun e w' => e = .returned (.bool (ponB n least most X Y r)) ∧ w = w' := by
  go_enter Tryz.func46, Tryz.ntmps46
  go_wp2
  go_loop [9] (fun i => ∃ k : Nat, k ≤ n ∧ i = .int .i64 k ∧ ∀ m, m < k → ptB (X m) (Y m) r = true) (fun i => n - (intOf i).toNat)
  case atStart => exact ⟨0, Nat.zero_le _, rfl, fun _ h => absurd h (Nat.not_lt_zero _)⟩
  case round =>
    obtain ⟨k, hk, rfl, hall⟩ := hrel
    by_cases hlt : k < n
    · obtain ⟨hx, hy⟩ := hp k hlt
      cases hbx : inB (X k) (-r) r with
      | false =>
        have hpt := ptB_f1 (y := Y k) hbx
        go_wp2_with (go_at_call 44; refine (in_any _ _ _ _).mono ?_; rintro e w' ⟨rfl, rfl⟩)
        go_ret
        exact ⟨ret_bool (ponB_no hlt hpt).symm, rfl⟩
      | true =>
        cases hby : inB (Y k) (-r) r with
        | false =>
          have hpt := ptB_f2 hbx hby
          go_wp2_with (go_at_call 44; refine (in_any _ _ _ _).mono ?_; rintro e w' ⟨rfl, rfl⟩)
          go_ret
          exact ⟨ret_bool (ponB_no hlt hpt).symm, rfl⟩
        | true =>
          have hpt := ptB_t hbx hby
          go_wp2_with (go_at_call 44; refine (in_any _ _ _ _).mono ?_; rintro e w' ⟨rfl, rfl⟩)
          go_round
          case rel => exact ⟨k + 1, by omega, by go_num, all_succ hall hpt⟩
          case measure => simp [intOf]; omega
    · obtain rfl : n = k := by omega
      go_wp2_with (go_at_call 44; refine (in_any _ _ _ _).mono ?_; rintro e w' ⟨rfl, rfl⟩)
      go_ret
      exact ⟨ret_bool (ponB_yes fun i hi => hall i (by omega)).symm, rfl⟩
set_option maxRecDepth 100000 in
set_option maxHeartbeats 400000 in
theorem points_nil (a : Option Addr) (c : Nat) (least most : Int) (X Y : Nat → Int) (r : Int) (w : World) :
    Calls Tryz.prog 46 #[.slice a 0 c, .int .i64 least, .int .i64 most, .int .i64 r] w fun e w' => e = .returned (.bool (ponB 0 least most X Y r)) ∧ w = w' := by
  go_enter Tryz.func46, Tryz.ntmps46
  go_wp2
  refine wp_loop_rounds 1 ?_
  rw [rounds_succ]
  go_wp2_with (go_at_call 44; refine (in_any _ _ _ _).mono ?_; rintro e w' ⟨rfl, rfl⟩)
  go_ret
  exact ⟨ret_bool (ponB_yes fun i hi => absurd hi (Nat.not_lt_zero i)).symm, rfl⟩
theorem points_any (v : Value) (n : Nat) (least most : Int) (X Y : Nat → Int) (r : Int) (h0 : 0 ≤ r) (h1 : r ≤ 1000) (w : World) (hn : n ≤ 1000) (hp : PSl w v n X Y) :
    Calls Tryz.prog 46 #[v, .int .i64 least, .int .i64 most, .int .i64 r] w fun e w' => e = .returned (.bool (ponB n least most X Y r)) ∧ w = w' := by
  rcases hp with ⟨a, c, rfl, rfl⟩ | ⟨b, off, cap, rfl, hb, hp⟩
  · exact points_nil a c least most X Y r w
  · exact points_some b off n cap least most X Y r h0 h1 w hn hp
end Go.Proofs.YtppefjmllebacaaGreatDoor
namespace Go.Proofs.YtppefjmllebacaaGreatDoor
open Go.RowKit
theorem Tryz.info3 : (Tryz.prog.info? 3).map (fun i => (i.zero, i.size, i.bytes)) = some (some (.int .i64 0), 1, 8) := by kernel_rfl
set_option maxRecDepth 100000 in
set_option maxHeartbeats 400000 in
theorem flat_some (b off n cap : Nat) (X Y : Nat → Int) (w : World) (hn : n ≤ 1000) (hp : Pts w b off n X Y) (hb : b < w.heap.size) :
    Calls Tryz.prog 48 #[.slice (some ⟨b, off, none⟩) n cap] w fun e w' => ∃ v', e = .returned v' ∧ w'.ownsRow w.heap.size 3 1 v' (2 * n) (ptsCells (fun i => (X i, Y i)) n) ∧ Below w.heap.size w w' := by
  obtain ⟨i0, hi, hz0, hz1, hz2⟩ := info_parts Tryz.info3
  go_enter Tryz.func48, Tryz.ntmps48
  go_wp2
  go_loopw [3, 4] (fun v i wr => ∃ k : Nat, k ≤ n ∧ i = .int .i64 k ∧ wr.ownsRow w.heap.size 3 1 v (2 * k) (ptsCells (fun i => (X i, Y i)) k) ∧ Below w.heap.size w wr) (fun _ i _ => n - (intOf i).toNat)
  case atStart => exact ⟨0, Nat.zero_le _, rfl, ⟨rfl, .inl ⟨rfl, rfl⟩⟩, Below.refl _ _⟩
  case round =>
    obtain ⟨k, hk, rfl, hown, hbl⟩ := hrel
    by_cases hlt : k < n
    · obtain ⟨hx, hy⟩ := hp.below hbl hb k hlt
      have ak : u3.ownBlock ≠ some b := fun e => by have := (hown.lt b e).1; omega
      have hbw : b < wr.heap.size := Nat.lt_of_lt_of_le hb hbl.size
      have hk0 : (0 : Int) ≤ (k : Int) := Int.natCast_nonneg _
      have hk1 : (k : Int) < (n : Int) := by omega
      have hbs := hbl.size
      go_wp2_with fail
      go_region_held3 (fun w' => w'.cell? ⟨b, off + k * 2, none⟩ = some (.int .i64 (X k)) ∧ w'.cell? ⟨b, off + k * 2 + 1, none⟩ = some (.int .i64 (Y k)))
        (first
          | go_keep
          | (go_split_ands
             refine ⟨?_, ?_⟩
             · (rw [hgrow.cell_far _ (by simp; omega) (Ne.symm ak)]; assumption)
             · (rw [hgrow.cell_far _ (by simp; omega) (Ne.symm ak)]; assumption)))
        ((refine step_append_lies _ (by rfl) _ _ _ (by rfl) w.heap.size 3 i0 _ 1 8 Tryz.underlying28 hi hz0 hz1 hz2 rfl (by omega) u3 (2 * k) (ptsCells (fun i => (X i, Y i)) k) (by rfl) ((hown.alloc _).drew)
            ⟨wr.heap.size, 0, none⟩ 2 2 [.int .i64 (X k), .int .i64 (Y k)] (by rfl) (by rfl) (World.news_of_block (cs := #[.int .i64 (X k), .int .i64 (Y k)]) (t := 3) (fr := (0, 0)) (heap_alloc_new wr _)) (by simp [Value.oneCell'])
            (by omega) (by unfold maxLen; omega) (by omega) (by simp; omega) (wr.heap.size + 1) (by simp) ?_; intro gg cap w1 hown1 hgrow hat hlt))
      have hb3 : Below w.heap.size w w1 := ((hbl.alloc hbl.size _).drew).grown hgrow ((hbl.alloc hbl.size _).drew).size fun k hk => (hown.lt k hk).1
      clear hgrow hat hlt
      go_wp2
      go_roundw
      case rel => exact ⟨k + 1, by omega, by go_num, hown1, hb3⟩
      case measure => simp [intOf]; omega
    · obtain rfl : n = k := by omega
      go_wp2
      go_ret
      exact ⟨_, rfl, hown, hbl⟩
set_option maxRecDepth 100000 in
set_option maxHeartbeats 400000 in
theorem flat_nil (a : Option Addr) (c : Nat) (X Y : Nat → Int) (w : World) :
    Calls Tryz.prog 48 #[.slice a 0 c] w fun e w' => ∃ v', e = .returned v' ∧ w'.ownsRow w.heap.size 3 1 v' (2 * 0) (ptsCells (fun i => (X i, Y i)) 0) ∧ Below w.heap.size w w' := by
  go_enter Tryz.func48, Tryz.ntmps48
  go_wp2
  refine wp_loop_rounds 1 ?_
  rw [rounds_succ]
  go_wp2
  go_ret
  exact ⟨_, rfl, ⟨rfl, .inl ⟨rfl, rfl⟩⟩, Below.refl _ _⟩
theorem flat_any (v : Value) (n : Nat) (X Y : Nat → Int) (w : World) (hn : n ≤ 1000) (hp : PSl w v n X Y) :
    Calls Tryz.prog 48 #[v] w fun e w' => ∃ v', e = .returned v' ∧ w'.ownsRow w.heap.size 3 1 v' (2 * n) (ptsCells (fun i => (X i, Y i)) n) ∧ Below w.heap.size w w' := by
  rcases hp with ⟨a, c, rfl, rfl⟩ | ⟨b, off, cap, rfl, hb, hp⟩
  · exact flat_nil a c X Y w
  · exact flat_some b off n cap X Y w hn hp hb
/-- what a list of cells holds at a place -/
def Ints (w : World) (b off n : Nat) (F : Nat → Int) : Prop := ∀ i, i < n → w.cell? ⟨b, off + i, none⟩ = some (.int .i64 (F i))
def ISl (w : World) (v : Value) (n : Nat) (F : Nat → Int) : Prop := (v = .slice none 0 0 ∧ n = 0) ∨ ∃ b off cap, v = .slice (some ⟨b, off, none⟩) n cap ∧ b < w.heap.size ∧ Ints w b off n F
set_option maxRecDepth 100000 in
set_option maxHeartbeats 400000 in
theorem same_some (b off n cap b2 off2 cap2 : Nat) (F : Nat → Int) (w : World) (hn : n ≤ 10000) (hp : Ints w b off n F) (hp2 : Ints w b2 off2 n F) :
    Calls Tryz.prog 35 #[.slice (some ⟨b, off, none⟩) n cap, .slice (some ⟨b2, off2, none⟩) n cap2] w fun e w' => e = .returned (.bool true) ∧ Below w.heap.size w w' := by
  go_enter Tryz.func35, Tryz.ntmps35
  go_wp2
  go_loopw [5] (fun i wr => ∃ k : Nat, k ≤ n ∧ i = .int .i64 k ∧ Below w.heap.size w wr ∧ Ints wr b off n F ∧ Ints wr b2 off2 n F) (fun i _ => n - (intOf i).toNat)
  case atStart => exact ⟨0, Nat.zero_le _, rfl, Below.refl _ _, hp, hp2⟩
  case round =>
    obtain ⟨k, hk, rfl, hbl, h1, h2⟩ := hrel
    by_cases hlt : k < n
    · have hx := h1 k hlt
      have hy := h2 k hlt
      have hk0 : (0 : Int) ≤ (k : Int) := Int.natCast_nonneg _
      have hk1 : (k : Int) < (n : Int) := by omega
      go_wp2
      go_quiet (fail)
      have hb3 : Below w.heap.size w (wr.drewN nq) := ⟨hbl.os, hbl.tape, hbl.output, hbl.size, hbl.block⟩
      have h3 : Ints (wr.drewN nq) b off n F := fun i hi => h1 i hi
      have h4 : Ints (wr.drewN nq) b2 off2 n F := fun i hi => h2 i hi
      clear hx hy h1 h2 hbl
      go_wp2
      go_roundw
      case rel => exact ⟨k + 1, by omega, by go_num, hb3, h3, h4⟩
      case measure => simp [intOf]; omega
    · obtain rfl : n = k := by omega
      go_wp2
      go_ret
      exact ⟨rfl, hbl⟩
set_option maxRecDepth 100000 in
set_option maxHeartbeats 400000 in
theorem same_none (w : World) :
    Calls Tryz.prog 35 #[.slice none 0 0, .slice none 0 0] w fun e w' => e = .returned (.bool true) ∧ w = w' := by
  go_enter Tryz.func35, Tryz.ntmps35
  go_wp2
  refine wp_loop_rounds 1 ?_
  rw [rounds_succ]
  go_wp2
  go_ret
  exact ⟨rfl, rfl⟩
theorem ownsRow_lt {w : World} {B : Nat} {e : TypeId} {size : Nat} {v : Value} {n : Nat} {xs : List Value} (h : w.ownsRow B e size v n xs) :
    (v = .slice none 0 0 ∧ n = 0) ∨ ∃ g cap, v = .slice (some ⟨g, 0, none⟩) n cap ∧ g < w.heap.size ∧ ∀ j x, xs[j]? = some x → w.cell? ⟨g, j, none⟩ = some x := by
  obtain ⟨h1, h2 | ⟨g, cap, cur, a1, a2, a3, a4, a5, a6, a7⟩⟩ := h
  · exact .inl h2
  · refine .inr ⟨g, cap, a1, (Array.getElem?_eq_some_iff.1 a3).1, fun j x hx => ?_⟩
    have : w.cell? ⟨g, j, none⟩ = cur[j]? := by simp [World.cell?, a3]
    rw [this, ← Array.getElem?_toList]
    rw [← a7, List.getElem?_take] at hx
    split at hx
    · exact hx
    · cases hx
end Go.Proofs.YtppefjmllebacaaGreatDoor
namespace Go.Proofs.YtppefjmllebacaaGreatDoor
open Go.RowKit
/-- the first place of r among the first n, from k on; -1 if there is none. -/
def idxI (F : Nat → Int) (r : Int) (k : Nat) : Nat → Int
  | 0 => -1
  | m+1 => if F k = r then (k : Int) else idxI F r (k+1) m
theorem idxI_no {F : Nat → Int} {r : Int} : ∀ {m k : Nat}, (∀ j, k ≤ j → j < k + m → F j ≠ r) → idxI F r k m = -1
  | 0, k, _ => rfl
  | m+1, k, h => by
    unfold idxI
    rw [if_neg (h k (by omega) (by omega))]
    exact idxI_no fun j h1 h2 => h j (by omega) (by omega)
theorem idxI_yes {F : Nat → Int} {r : Int} : ∀ {m k j : Nat}, k ≤ j → j < k + m → F j = r → 0 ≤ idxI F r k m
  | 0, k, j, h1, h2, _ => absurd h2 (by omega)
  | m+1, k, j, h1, h2, h => by
    unfold idxI
    by_cases h3 : F k = r
    · rw [if_pos h3]; omega
    · rw [if_neg h3]
      have : j ≠ k := fun e => h3 (e ▸ h)
      exact idxI_yes (m := m) (k := k+1) (j := j) (by omega) (by omega) h
theorem idxI_bound {F : Nat → Int} {r : Int} : ∀ {m k : Nat}, -1 ≤ idxI F r k m
  | 0, k => by unfold idxI; omega
  | m+1, k => by unfold idxI; split; omega; exact idxI_bound
theorem idxI_hit {F : Nat → Int} {r : Int} {n k : Nat} (hk : k < n) (h : F k = r) : idxI F r k (n - k) = k := by
  obtain ⟨m, hm⟩ : ∃ m, n - k = m + 1 := ⟨n - k - 1, by omega⟩
  rw [hm]; unfold idxI; rw [if_pos h]
theorem idxI_miss {F : Nat → Int} {r : Int} {n k : Nat} (hk : k < n) (h : F k ≠ r) : idxI F r k (n - k) = idxI F r (k+1) (n - (k+1)) := by
  obtain ⟨m, hm⟩ : ∃ m, n - k = m + 1 := ⟨n - k - 1, by omega⟩
  rw [hm, show n - (k+1) = m by omega]; conv => lhs; unfold idxI
  rw [if_neg h]
/-- r is among the first n. -/
def hasB (F : Nat → Int) (r : Int) (n : Nat) : Bool := decide (0 ≤ idxI F r 0 n)
theorem hasB_iff {F : Nat → Int} {r : Int} {n : Nat} : hasB F r n = true ↔ ∃ j, j < n ∧ F j = r := by
  unfold hasB
  rw [decide_eq_true_iff]
  constructor
  · intro h
    exact Classical.byContradiction fun h2 => by
      rw [idxI_no fun j _ hj e => h2 ⟨j, by omega, e⟩] at h; omega
  · rintro ⟨j, hj, e⟩; exact idxI_yes (by omega) (by omega) e
set_option maxRecDepth 100000 in
set_option maxHeartbeats 1000000 in
theorem intIndex_some (b off n cap : Nat) (F : Nat → Int) (r : Int) (w : World) (hn : n ≤ 1000) (hp : Ints w b off n F) (hb : b < w.heap.size) :
    Calls Tryz.prog 147 #[.slice (some ⟨b, off, none⟩) n cap, .int .i64 r] w fun e w' => e = .returned (.int .i64 (idxI F r 0 n)) ∧ Below w.heap.size w w' := by
  go_enter Tryz.func147, Tryz.ntmps147
  go_wp2
  go_loopw [8] (fun i wr => ∃ k : Nat, k ≤ n ∧ i = .int .i64 k ∧ Below w.heap.size w wr ∧ idxI F r 0 n = idxI F r k (n - k)) (fun i _ => n - (intOf i).toNat)
  case atStart => exact ⟨0, Nat.zero_le _, rfl, Below.refl _ _, rfl⟩
  case round =>
    obtain ⟨k, hk, rfl, hbl, hix⟩ := hrel
    by_cases hlt : k < n
    · have hc : wr.cell? ⟨b, off + k, none⟩ = some (.int .i64 (F k)) := (hbl.cell (p := ⟨b, off + k, none⟩) hb).trans (hp k hlt)
      by_cases he : r = F k
      · go_wp2
        go_ret
        rw [idxI_hit hlt he.symm] at hix
        exact ⟨(by rw [hix]; rfl), hbl⟩
      · go_wp2
        go_roundw
        case rel => exact ⟨k + 1, by omega, by go_num, hbl, hix.trans (idxI_miss hlt fun e => he e.symm)⟩
        case measure => simp [intOf]; omega
    · obtain rfl : n = k := by omega
      go_wp2
      go_ret
      rw [Nat.sub_self] at hix
      exact ⟨by rw [hix]; rfl, hbl⟩
set_option maxRecDepth 100000 in
set_option maxHeartbeats 1000000 in
theorem intIndex_nil (a : Option Addr) (c : Nat) (F : Nat → Int) (r : Int) (w : World) :
    Calls Tryz.prog 147 #[.slice a 0 c, .int .i64 r] w fun e w' => e = .returned (.int .i64 (idxI F r 0 0)) ∧ Below w.heap.size w w' := by
  go_enter Tryz.func147, Tryz.ntmps147
  go_wp2
  refine wp_loop_rounds 1 ?_
  rw [rounds_succ]
  go_wp2
  go_ret
  exact ⟨rfl, Below.refl _ _⟩
/-- a slice of numbers. -/
def IntsSl (w : World) (v : Value) (n : Nat) (F : Nat → Int) : Prop :=
  (∃ a c, v = .slice a 0 c ∧ n = 0) ∨ ∃ b off cap, v = .slice (some ⟨b, off, none⟩) n cap ∧ b < w.heap.size ∧ Ints w b off n F
theorem intIndex_any (v : Value) (n : Nat) (F : Nat → Int) (r : Int) (w : World) (hn : n ≤ 1000) (h : IntsSl w v n F) :
    Calls Tryz.prog 147 #[v, .int .i64 r] w fun e w' => e = .returned (.int .i64 (idxI F r 0 n)) ∧ Below w.heap.size w w' := by
  rcases h with ⟨a, c, rfl, rfl⟩ | ⟨b, off, cap, rfl, hb, hp⟩
  · exact intIndex_nil a c F r w
  · exact intIndex_some b off n cap F r w hn hp hb
set_option maxRecDepth 100000 in
set_option maxHeartbeats 1000000 in
theorem intHas_any (v : Value) (n : Nat) (F : Nat → Int) (r : Int) (w : World) (hn : n ≤ 1000) (h : IntsSl w v n F) :
    Calls Tryz.prog 132 #[v, .int .i64 r] w fun e w' => e = .returned (.bool (hasB F r n)) ∧ Below w.heap.size w w' := by
  unfold hasB
  have hi := intIndex_any v n F r w hn h
  generalize idxI F r 0 n = x at hi ⊢
  go_enter Tryz.func132, Tryz.ntmps132
  go_wp2_with (go_at_call 147; refine hi.mono ?_; rintro e w' ⟨rfl, hb⟩)
  go_ret
  exact ⟨rfl, hb⟩
end Go.Proofs.YtppefjmllebacaaGreatDoor
namespace Go.Proofs.YtppefjmllebacaaGreatDoor
open Go.RowKit
/-- the first place, from k on, among the first n at which f is so; -1 if there is none. -/
def idxQ (f : Nat → Bool) (k : Nat) : Nat → Int
  | 0 => -1
  | m+1 => if f k = true then (k : Int) else idxQ f (k+1) m
theorem idxQ_hit {f : Nat → Bool} {n k : Nat} (hk : k < n) (h : f k = true) : idxQ f k (n - k) = k := by
  obtain ⟨m, hm⟩ : ∃ m, n - k = m + 1 := ⟨n - k - 1, by omega⟩
  rw [hm]; unfold idxQ; rw [if_pos h]
theorem idxQ_miss {f : Nat → Bool} {n k : Nat} (hk : k < n) (h : f k = false) : idxQ f k (n - k) = idxQ f (k+1) (n - (k+1)) := by
  obtain ⟨m, hm⟩ : ∃ m, n - k = m + 1 := ⟨n - k - 1, by omega⟩
  rw [hm, show n - (k+1) = m by omega]; conv => lhs; unfold idxQ
  rw [if_neg (by rw [h]; simp)]
def ptEq (x y : Int) (X Y : Nat → Int) (i : Nat) : Bool := decide (x = X i) && decide (y = Y i)
set_option maxRecDepth 100000 in
set_option maxHeartbeats 1000000 in
theorem ptIndex_some (b off n cap : Nat) (X Y : Nat → Int) (x y : Int) (w : World) (hn : n ≤ 1000) (hp : Pts w b off n X Y) (hb : b < w.heap.size) :
    Calls Tryz.prog 129 #[.slice (some ⟨b, off, none⟩) n cap, .agg #[.int .i64 x, .int .i64 y]] w fun e w' => e = .returned (.int .i64 (idxQ (ptEq x y X Y) 0 n)) ∧ Below w.heap.size w w' := by
  go_enter Tryz.func129, Tryz.ntmps129
  go_wp2
  have h1 : Below w.heap.size w (w.alloc (.cells #[.int .i64 x, .int .i64 y] 52)) := (Below.refl _ _).alloc (Nat.le_refl _) _
  have c0 : (w.alloc (.cells #[.int .i64 x, .int .i64 y] 52)).cell? ⟨w.heap.size, 0, none⟩ = some (.int .i64 x) := by have := cells_two w (.int .i64 x) (.int .i64 y) 52 0 _ rfl; simp [Addr.add]
  have c1 : (w.alloc (.cells #[.int .i64 x, .int .i64 y] 52)).cell? ⟨w.heap.size, 1, none⟩ = some (.int .i64 y) := by have := cells_two w (.int .i64 x) (.int .i64 y) 52 1 _ rfl; simp [Addr.add]
  have hsz : (w.alloc (.cells #[.int .i64 x, .int .i64 y] 52)).heap.size = w.heap.size + 1 := World.size_alloc _ _
  go_loopw [8] (fun i wr => ∃ k : Nat, k ≤ n ∧ i = .int .i64 k ∧ Below (w.heap.size + 1) (w.alloc (.cells #[.int .i64 x, .int .i64 y] 52)) wr ∧ idxQ (ptEq x y X Y) 0 n = idxQ (ptEq x y X Y) k (n - k)) (fun i _ => n - (intOf i).toNat)
  case atStart => exact ⟨0, Nat.zero_le _, rfl, Below.refl _ _, rfl⟩
  case round =>
    obtain ⟨k, hk, rfl, hbl, hix⟩ := hrel
    have hbw : Below w.heap.size w wr := h1.trans (hbl.mono (by omega))
    have d0 := (hbl.cell (p := ⟨w.heap.size, 0, none⟩) (by show w.heap.size < _; omega)).trans c0
    have d1 := (hbl.cell (p := ⟨w.heap.size, 1, none⟩) (by show w.heap.size < _; omega)).trans c1
    by_cases hlt : k < n
    · obtain ⟨hx, hy⟩ := hp.below hbw hb k hlt
      have hk0 : (0 : Int) ≤ (k : Int) := Int.natCast_nonneg _
      have hk1 : (k : Int) < (n : Int) := by omega
      by_cases hxe : x = X k
      · by_cases hye : y = Y k
        · have hq : ptEq x y X Y k = true := by simp [ptEq, hxe, hye]
          go_wp2_with fail
          go_region_held3 (fun w' => w'.cell? ⟨w.heap.size, 0, none⟩ = some (.int .i64 x) ∧ w'.cell? ⟨w.heap.size, 1, none⟩ = some (.int .i64 y) ∧ w'.cell? ⟨b, off + k * 2, none⟩ = some (.int .i64 (X k)) ∧ w'.cell? ⟨b, off + k * 2 + 1, none⟩ = some (.int .i64 (Y k)))
            (go_keep) (fail)
          go_wp2
          go_ret
          rw [idxQ_hit hlt hq] at hix
          exact ⟨(by rw [hix]; rfl), hbw.drew⟩
        · have hq : ptEq x y X Y k = false := by simp [ptEq, hye]
          go_wp2_with fail
          go_region_held3 (fun w' => w'.cell? ⟨w.heap.size, 0, none⟩ = some (.int .i64 x) ∧ w'.cell? ⟨w.heap.size, 1, none⟩ = some (.int .i64 y) ∧ w'.cell? ⟨b, off + k * 2, none⟩ = some (.int .i64 (X k)) ∧ w'.cell? ⟨b, off + k * 2 + 1, none⟩ = some (.int .i64 (Y k)))
            (go_keep) (fail)
          go_wp2
          go_roundw
          case rel => exact ⟨k + 1, by omega, by go_num, hbl.drew, hix.trans (idxQ_miss hlt hq)⟩
          case measure => simp [intOf]; omega
      · have hq : ptEq x y X Y k = false := by simp [ptEq, hxe]
        go_wp2_with fail
        go_region_held3 (fun w' => w'.cell? ⟨w.heap.size, 0, none⟩ = some (.int .i64 x) ∧ w'.cell? ⟨w.heap.size, 1, none⟩ = some (.int .i64 y) ∧ w'.cell? ⟨b, off + k * 2, none⟩ = some (.int .i64 (X k)) ∧ w'.cell? ⟨b, off + k * 2 + 1, none⟩ = some (.int .i64 (Y k)))
          (go_keep) (fail)
        go_wp2
        go_roundw
        case rel => exact ⟨k + 1, by omega, by go_num, hbl.drew, hix.trans (idxQ_miss hlt hq)⟩
        case measure => simp [intOf]; omega
    · obtain rfl : n = k := by omega
      go_wp2
      go_ret
      rw [Nat.sub_self] at hix
      exact ⟨by rw [hix]; rfl, hbw⟩
end Go.Proofs.YtppefjmllebacaaGreatDoor
namespace Go.Proofs.YtppefjmllebacaaGreatDoor
open Go.RowKit
def hasP (x y : Int) (X Y : Nat → Int) (n : Nat) : Bool := decide (0 ≤ idxQ (ptEq x y X Y) 0 n)
set_option maxRecDepth 100000 in
set_option maxHeartbeats 1000000 in
theorem ptHas_some (b off n cap : Nat) (X Y : Nat → Int) (x y : Int) (w : World) (hn : n ≤ 1000) (hp : Pts w b off n X Y) (hb : b < w.heap.size) :
    Calls Tryz.prog 92 #[.slice (some ⟨b, off, none⟩) n cap, .agg #[.int .i64 x, .int .i64 y]] w fun e w' => e = .returned (.bool (hasP x y X Y n)) ∧ Below w.heap.size w w' := by
  unfold hasP
  have h1 : Below w.heap.size w (w.alloc (.cells #[.int .i64 x, .int .i64 y] 52)) := (Below.refl _ _).alloc (Nat.le_refl _) _
  have hi := ptIndex_some b off n cap X Y x y (w.alloc (.cells #[.int .i64 x, .int .i64 y] 52)) hn (hp.below h1 hb) (by rw [World.size_alloc]; omega)
  have c0 : (w.alloc (.cells #[.int .i64 x, .int .i64 y] 52)).cell? ⟨w.heap.size, 0, none⟩ = some (.int .i64 x) := by have := cells_two w (.int .i64 x) (.int .i64 y) 52 0 _ rfl; simp [Addr.add]
  have c1 : (w.alloc (.cells #[.int .i64 x, .int .i64 y] 52)).cell? ⟨w.heap.size, 1, none⟩ = some (.int .i64 y) := by have := cells_two w (.int .i64 x) (.int .i64 y) 52 1 _ rfl; simp [Addr.add]
  generalize idxQ (ptEq x y X Y) 0 n = r at hi ⊢
  go_enter Tryz.func92, Tryz.ntmps92
  go_wp2_with (go_at_call 129; refine hi.mono ?_; rintro e w' ⟨rfl, hb⟩)
  go_ret
  exact ⟨rfl, h1.trans (hb.mono (by rw [World.size_alloc]; omega))⟩
def dupI (X Y : Nat → Int) (n : Nat) : Int := idxQ (fun i => hasP (X i) (Y i) X Y i) 0 n
def chkE (n : Nat) (X Y : Nat → Int) (off : Int) : Int := if arB n 2 X Y 20 = true then if inB off 0 6 = true then if dupI X Y n = -1 then 0 else 2 else 2 else 2
set_option maxRecDepth 100000 in
set_option maxHeartbeats 1000000 in
theorem check_some (b off n cap : Nat) (X Y : Nat → Int) (r : Int) (w : World) (hn : n ≤ 1000) (hcap : n ≤ cap) (hp : Pts w b off n X Y) (hb : b < w.heap.size) (h : arB n 2 X Y 20 = true) (hr : inB r 0 6 = true) :
    Calls Tryz.prog 55 #[.agg #[.slice (some ⟨b, off, none⟩) n cap, .int .i64 r]] w fun e w' => e = .returned (.int .i64 (if dupI X Y n = -1 then 0 else 2)) ∧ Below w.heap.size w w' := by
  unfold dupI
  generalize hd : (fun i => hasP (X i) (Y i) X Y i) = d
  generalize hres : (if idxQ d 0 n = -1 then (0 : Int) else 2) = res
  go_enter Tryz.func55, Tryz.ntmps55
  have h1 : Below w.heap.size w (w.alloc (.cells #[.slice (some ⟨b, off, none⟩) n cap, .int .i64 r] 57)) := (Below.refl _ _).alloc (Nat.le_refl _) _
  have c0 : (w.alloc (.cells #[.slice (some ⟨b, off, none⟩) n cap, .int .i64 r] 57)).cell? ⟨w.heap.size, 0, none⟩ = some (.slice (some ⟨b, off, none⟩) n cap) := by have := cells_two w (.slice (some ⟨b, off, none⟩) n cap) (.int .i64 r) 57 0 _ rfl; simp [Addr.add]
  have c1 : (w.alloc (.cells #[.slice (some ⟨b, off, none⟩) n cap, .int .i64 r] 57)).cell? ⟨w.heap.size, 1, none⟩ = some (.int .i64 r) := by have := cells_two w (.slice (some ⟨b, off, none⟩) n cap) (.int .i64 r) 57 1 _ rfl; simp [Addr.add]
  have hsz : (w.alloc (.cells #[.slice (some ⟨b, off, none⟩) n cap, .int .i64 r] 57)).heap.size = w.heap.size + 1 := World.size_alloc _ _
  have hca := are_some b off n cap 2 X Y 20 (by omega) (by omega) (w.alloc (.cells #[.slice (some ⟨b, off, none⟩) n cap, .int .i64 r] 57)) hn (hp.below h1 hb) (by omega)
  rw [h] at hca
  go_wp2_with (first
    | (go_at_call 52; refine hca.mono ?_; rintro e w1 ⟨rfl, hb1⟩; have d0 := (hb1.cell (p := ⟨w.heap.size, 0, none⟩) (by show w.heap.size < _; omega)).trans c0; have d1 := (hb1.cell (p := ⟨w.heap.size, 1, none⟩) (by show w.heap.size < _; omega)).trans c1)
    | (go_at_call 42; refine (within_any _ _ _ _).mono ?_; rw [hr]; rintro e w' ⟨rfl, rfl⟩))
  have hz1 := hb1.size
  have hw1 : Below w.heap.size w w1 := h1.trans (hb1.mono (by omega))
  go_loopw [18] (fun i wr => ∃ k : Nat, k ≤ n ∧ i = .int .i64 k ∧ Below w1.heap.size w1 wr ∧ idxQ d 0 n = idxQ d k (n - k)) (fun i _ => n - (intOf i).toNat)
  case atStart => exact ⟨0, Nat.zero_le _, rfl, Below.refl _ _, rfl⟩
  case round =>
    obtain ⟨k, hk, rfl, hbl, hix⟩ := hrel
    have hzl := hbl.size
    have hbw : Below w.heap.size w wr := hw1.trans (hbl.mono (by omega))
    by_cases hlt : k < n
    · obtain ⟨hx, hy⟩ := hp.below hbw hb k hlt
      have hk0 : (0 : Int) ≤ (k : Int) := Int.natCast_nonneg _
      have hk1 : (k : Int) < (n : Int) := by omega
      have hk2 : (k : Int) ≤ (cap : Int) := by omega
      have hk3 : k ≤ cap := by omega
      have hdk : d k = hasP (X k) (Y k) X Y k := by rw [← hd]
      obtain ⟨wp, hwp⟩ : ∃ wp, wr.alloc (.cells #[.int .i64 (X k), .int .i64 (Y k)] 52) = wp := ⟨_, rfl⟩
      have bp : Below wr.heap.size wr wp := by rw [← hwp]; exact (Below.refl _ _).alloc (Nat.le_refl _) _
      have hzq : wp.heap.size = wr.heap.size + 1 := by rw [← hwp, World.size_alloc]
      have hpk : Pts wp b off k X Y := fun i hi => (hp.below (hbw.trans (bp.mono (by omega))) hb) i (by omega)
      have q0 := (bp.cell (p := ⟨w.heap.size, 0, none⟩) (by show w.heap.size < _; omega)).trans ((hbl.cell (p := ⟨w.heap.size, 0, none⟩) (by show w.heap.size < _; omega)).trans d0)
      have r0 : wp.cell? ⟨wr.heap.size, 0, none⟩ = some (.int .i64 (X k)) := by rw [← hwp]; have := cells_two wr (.int .i64 (X k)) (.int .i64 (Y k)) 52 0 _ rfl; simp [Addr.add]
      have r1 : wp.cell? ⟨wr.heap.size, 1, none⟩ = some (.int .i64 (Y k)) := by rw [← hwp]; have := cells_two wr (.int .i64 (X k)) (.int .i64 (Y k)) 52 1 _ rfl; simp [Addr.add]
      have hzp := bp.size
      have hcon := ptHas_some b off k cap X Y (X k) (Y k) wp.drew (by omega) hpk (show b < wp.heap.size by omega)
      rw [← hdk] at hcon
      go_wp2_with fail
      cases hdd : d k with
      | true =>
        rw [hdd] at hcon
        go_region_held3 (fun w' => w'.cell? ⟨w.heap.size, 0, none⟩ = some (.slice (some ⟨b, off, none⟩) n cap) ∧ w'.cell? ⟨wr.heap.size, 0, none⟩ = some (.int .i64 (X k)) ∧ w'.cell? ⟨wr.heap.size, 1, none⟩ = some (.int .i64 (Y k)))
          (first | (go_keep; done) | (go_split_ands; refine ⟨?_, ?_, ?_⟩ <;> (rw [hbb.cell (by first | omega | (simp; omega) | simp)]; assumption)))
          ((go_at_call 92; refine hcon.mono ?_; rintro e w6 ⟨rfl, hbb⟩; have hs := hbb.size))
        have hb6 : Below wr.heap.size wr w6 := bp.trans ((Below.refl _ _).drew.trans (hbb.mono (by simpa using hzp)))
        go_wp2
        go_ret
        rw [idxQ_hit hlt hdd] at hix
        exact ⟨(by rw [← hres, if_neg (by omega)]; rfl), hbw.trans (hb6.mono hbw.size)⟩
      | false =>
        rw [hdd] at hcon
        go_region_held3 (fun w' => w'.cell? ⟨w.heap.size, 0, none⟩ = some (.slice (some ⟨b, off, none⟩) n cap) ∧ w'.cell? ⟨wr.heap.size, 0, none⟩ = some (.int .i64 (X k)) ∧ w'.cell? ⟨wr.heap.size, 1, none⟩ = some (.int .i64 (Y k)))
          (first | (go_keep; done) | (go_split_ands; refine ⟨?_, ?_, ?_⟩ <;> (rw [hbb.cell (by first | omega | (simp; omega) | simp)]; assumption)))
          ((go_at_call 92; refine hcon.mono ?_; rintro e w6 ⟨rfl, hbb⟩; have hs := hbb.size))
        have hb6 : Below wr.heap.size wr w6 := bp.trans ((Below.refl _ _).drew.trans (hbb.mono (by simpa using hzp)))
        go_wp2
        go_roundw
        case rel => exact ⟨k + 1, by omega, by go_num, hbl.trans (hb6.mono hbl.size), hix.trans (idxQ_miss hlt hdd)⟩
        case measure => simp [intOf]; omega
    · obtain rfl : n = k := by omega
      go_wp2
      go_ret
      rw [Nat.sub_self] at hix
      exact ⟨(by rw [← hres, if_pos (by rw [hix]; rfl)]; rfl), hbw⟩
set_option maxRecDepth 100000 in
set_option maxHeartbeats 1000000 in
theorem check_far (a : Option Addr) (c n : Nat) (X Y : Nat → Int) (r : Int) (w : World) (hn : n ≤ 1000) (hp : PSl w (.slice a n c) n X Y) (h : arB n 2 X Y 20 = false) :
    Calls Tryz.prog 55 #[.agg #[.slice a n c, .int .i64 r]] w fun e w' => e = .returned (.int .i64 2) ∧ Below w.heap.size w w' := by
  have h1 : Below w.heap.size w (w.alloc (.cells #[.slice a n c, .int .i64 r] 57)) := (Below.refl _ _).alloc (Nat.le_refl _) _
  have hca := are_any (.slice a n c) n 2 X Y 20 (by omega) (by omega) (w.alloc (.cells #[.slice a n c, .int .i64 r] 57)) hn (hp.below h1)
  rw [h] at hca
  go_enter Tryz.func55, Tryz.ntmps55
  go_wp2_with (first | (go_at_call 52; refine hca.mono ?_; rintro e w1 ⟨rfl, hb1⟩))
  go_ret
  exact ⟨rfl, h1.trans (hb1.mono (by rw [World.size_alloc]; omega))⟩
set_option maxRecDepth 100000 in
set_option maxHeartbeats 1000000 in
theorem check_off (a : Option Addr) (c n : Nat) (X Y : Nat → Int) (r : Int) (w : World) (hn : n ≤ 1000) (hp : PSl w (.slice a n c) n X Y) (h : arB n 2 X Y 20 = true) (hr : inB r 0 6 = false) :
    Calls Tryz.prog 55 #[.agg #[.slice a n c, .int .i64 r]] w fun e w' => e = .returned (.int .i64 2) ∧ Below w.heap.size w w' := by
  have h1 : Below w.heap.size w (w.alloc (.cells #[.slice a n c, .int .i64 r] 57)) := (Below.refl _ _).alloc (Nat.le_refl _) _
  have c1 : (w.alloc (.cells #[.slice a n c, .int .i64 r] 57)).cell? ⟨w.heap.size, 1, none⟩ = some (.int .i64 r) := by have := cells_two w (.slice a n c) (.int .i64 r) 57 1 _ rfl; simp [Addr.add]
  have hsz : (w.alloc (.cells #[.slice a n c, .int .i64 r] 57)).heap.size = w.heap.size + 1 := World.size_alloc _ _
  have hca := are_any (.slice a n c) n 2 X Y 20 (by omega) (by omega) (w.alloc (.cells #[.slice a n c, .int .i64 r] 57)) hn (hp.below h1)
  rw [h] at hca
  go_enter Tryz.func55, Tryz.ntmps55
  go_wp2_with (first
    | (go_at_call 52; refine hca.mono ?_; rintro e w1 ⟨rfl, hb1⟩; have d1 := (hb1.cell (p := ⟨w.heap.size, 1, none⟩) (by show w.heap.size < _; omega)).trans c1)
    | (go_at_call 42; refine (within_any _ _ _ _).mono ?_; rw [hr]; rintro e w' ⟨rfl, rfl⟩))
  go_ret
  exact ⟨rfl, h1.trans (hb1.mono (by rw [World.size_alloc]; omega))⟩
/-- a slice of points whose capacity is no less than its length. -/
def PSc (w : World) (v : Value) (n : Nat) (X Y : Nat → Int) : Prop := PSl w v n X Y ∧ ∃ a c, v = .slice a n c ∧ n ≤ c
theorem check_any (v : Value) (n : Nat) (X Y : Nat → Int) (r : Int) (w : World) (hn : n ≤ 1000) (hp : PSc w v n X Y) :
    Calls Tryz.prog 55 #[.agg #[v, .int .i64 r]] w fun e w' => e = .returned (.int .i64 (chkE n X Y r)) ∧ Below w.heap.size w w' := by
  obtain ⟨hp, a, c, rfl, hc⟩ := hp
  unfold chkE
  cases h : arB n 2 X Y 20 with
  | false => rw [if_neg (by simp)]; exact check_far a c n X Y r w hn hp h
  | true =>
    rw [if_pos rfl]
    cases hr : inB r 0 6 with
    | false => rw [if_neg (by simp)]; exact check_off a c n X Y r w hn hp h hr
    | true =>
      rw [if_pos rfl]
      rcases hp with ⟨a', c', h1, h2⟩ | ⟨b, off, cap, h1, h2, h3⟩
      · subst h2
        exact absurd h (by unfold arB; rw [inB_no1 (by omega)]; simp)
      · cases h1
        exact check_some b off n c X Y r w hn hc h3 h2 h hr
end Go.Proofs.YtppefjmllebacaaGreatDoor
namespace Go.Proofs.YtppefjmllebacaaGreatDoor
open Go.RowKit
set_option maxRecDepth 100000 in
set_option maxHeartbeats 400000 in
theorem same_l (a : Addr) (cap : Nat) (w : World) :
    Calls Tryz.prog 35 #[.slice none 0 0, .slice (some a) 0 cap] w fun e w' => e = .returned (.bool true) ∧ w = w' := by
  go_enter Tryz.func35, Tryz.ntmps35
  go_wp2
  refine wp_loop_rounds 1 ?_
  rw [rounds_succ]
  go_wp2
  go_ret
  exact ⟨rfl, rfl⟩
set_option maxRecDepth 100000 in
set_option maxHeartbeats 400000 in
theorem same_r (a : Addr) (cap : Nat) (w : World) :
    Calls Tryz.prog 35 #[.slice (some a) 0 cap, .slice none 0 0] w fun e w' => e = .returned (.bool true) ∧ w = w' := by
  go_enter Tryz.func35, Tryz.ntmps35
  go_wp2
  refine wp_loop_rounds 1 ?_
  rw [rounds_succ]
  go_wp2
  go_ret
  exact ⟨rfl, rfl⟩
theorem ptsCells_len (f : Nat → Int × Int) : ∀ n, (ptsCells f n).length = 2 * n
  | 0 => rfl
  | n+1 => by simp [ptsCells, ptsCells_len f n]; omega
theorem ptsCells_int (f : Nat → Int × Int) : ∀ n, ∀ x ∈ ptsCells f n, x = .int .i64 (intOf x)
  | 0, x, h => by cases h
  | n+1, x, h => by
    simp only [ptsCells, List.mem_append] at h
    rcases h with h | h
    · exact ptsCells_int f n x h
    · rcases List.mem_cons.1 h with rfl | h
      · rfl
      · rcases List.mem_cons.1 h with rfl | h
        · rfl
        · cases h
theorem ints_of {w : World} {g n : Nat} {f : Nat → Int × Int} (h : ∀ j x, (ptsCells f n)[j]? = some x → w.cell? ⟨g, j, none⟩ = some x) : Ints w g 0 (2 * n) (fun j => intOf ((ptsCells f n).getD j undef)) := fun i hi => by
  have hl : i < (ptsCells f n).length := by rw [ptsCells_len]; exact hi
  have h1 : (ptsCells f n)[i]? = some (ptsCells f n)[i] := List.getElem?_eq_getElem hl
  have h2 := ptsCells_int f n _ (List.getElem_mem hl)
  have h3 : (ptsCells f n).getD i undef = (ptsCells f n)[i] := by rw [List.getD_eq_getElem?_getD, h1]; rfl
  rw [Nat.zero_add, h i _ h1]
  show _ = some (Value.int .i64 (intOf ((ptsCells f n).getD i undef)))
  rw [h3]
  exact congrArg some h2
theorem same_own {w : World} {B1 B2 : Nat} {v1 v2 : Value} {n : Nat} {f : Nat → Int × Int} (hn : n ≤ 1000) (h1 : w.ownsRow B1 3 1 v1 (2 * n) (ptsCells f n)) (h2 : w.ownsRow B2 3 1 v2 (2 * n) (ptsCells f n)) :
    Calls Tryz.prog 35 #[v1, v2] w fun e w' => e = .returned (.bool true) ∧ Below w.heap.size w w' := by
  rcases ownsRow_lt h1 with ⟨rfl, e1⟩ | ⟨g1, c1, rfl, l1, k1⟩ <;> rcases ownsRow_lt h2 with ⟨rfl, e2⟩ | ⟨g2, c2, rfl, l2, k2⟩
  · exact (same_none w).mono fun e w' ⟨he, hw⟩ => ⟨he, hw ▸ Below.refl _ _⟩
  · rw [e1]; exact (same_l _ _ w).mono fun e w' ⟨he, hw⟩ => ⟨he, hw ▸ Below.refl _ _⟩
  · rw [e2]; exact (same_r _ _ w).mono fun e w' ⟨he, hw⟩ => ⟨he, hw ▸ Below.refl _ _⟩
  · exact same_some g1 0 (2 * n) c1 g2 0 c2 _ w (by omega) (ints_of k1) (ints_of k2)
set_option maxRecDepth 100000 in
set_option maxHeartbeats 400000 in
theorem samePts_any (v1 v2 : Value) (n : Nat) (X Y : Nat → Int) (w : World) (hn : n ≤ 1000) (h1 : PSl w v1 n X Y) (h2 : PSl w v2 n X Y) :
    Calls Tryz.prog 16 #[v1, v2] w fun e w' => e = .returned (.bool true) ∧ Below w.heap.size w w' := by
  go_enter Tryz.func16, Tryz.ntmps16
  go_wp2_with fail
  refine (flat_any v1 n X Y _ hn h1).mono ?_
  rintro e w1 ⟨u1, rfl, ho1, hb1⟩
  have h2' := h2.below hb1
  go_wp2_with fail
  refine (flat_any v2 n X Y _ hn h2').mono ?_
  rintro e w2 ⟨u2, rfl, ho2, hb2⟩
  have ho1' := ownsRow_below ho1 hb2
  go_wp2_with fail
  refine (same_own hn ho1' ho2).mono ?_
  rintro e w3 ⟨rfl, hb3⟩
  have hbb := (hb1.trans (hb2.mono hb1.size)).trans (hb3.mono (Nat.le_trans hb1.size hb2.size))
  clear hb1 hb2 hb3 ho1 ho2 ho1' h1 h2 h2'
  go_wp2
  go_ret
  exact ⟨rfl, hbb⟩
/-- a list of points that the call made reads as points -/
theorem PSl_of_own {w : World} {B : Nat} {v : Value} : ∀ {n : Nat} {f : Nat → Int × Int}, w.ownsRow B 52 2 v n (ptsCells f n) → PSl w v n (fun i => (f i).1) (fun i => (f i).2) := by
  intro n f h
  rcases ownsRow_lt h with h1 | ⟨g, c, h1, h2, h3⟩
  · exact .inl ⟨none, 0, h1.1, h1.2⟩
  · refine .inr ⟨g, 0, c, h1, h2, fun i hi => ?_⟩
    have key : ∀ n, i < n → (ptsCells f n)[i * 2]? = some (.int .i64 (f i).1) ∧ (ptsCells f n)[i * 2 + 1]? = some (.int .i64 (f i).2) := by
      intro n
      induction n with
      | zero => intro h; omega
      | succ n ih =>
        intro h
        have hl := ptsCells_len f n
        by_cases e : i = n
        · subst e
          simp only [ptsCells]
          constructor
          · rw [List.getElem?_append_right (by omega), hl, show i * 2 - 2 * i = 0 from by omega]; rfl
          · rw [List.getElem?_append_right (by omega), hl, show i * 2 + 1 - 2 * i = 1 from by omega]; rfl
        · simp only [ptsCells]
          obtain ⟨q1, q2⟩ := ih (by omega)
          exact ⟨by rw [List.getElem?_append_left (by omega)]; exact q1, by rw [List.getElem?_append_left (by omega)]; exact q2⟩
    obtain ⟨q1, q2⟩ := key n hi
    simp only [Nat.zero_add]
    exact ⟨h3 _ _ q1, h3 _ _ q2⟩
end Go.Proofs.YtppefjmllebacaaGreatDoor
namespace Go.Proofs.YtppefjmllebacaaGreatDoor
open Go.RowKit
set_option maxRecDepth 100000 in
set_option maxHeartbeats 400000 in
theorem around_any (n by_ : Int) (h1 : -1000 ≤ n) (h2 : n ≤ 1000) (h3 : 0 ≤ by_) (h4 : by_ ≤ 1000) (w : World) :
    Calls Tryz.prog 68 #[.int .i64 n, .int .i64 by_] w fun e w' => e = .returned (.agg #[.int .i64 (n - by_), .int .i64 (n + by_)]) ∧ Below w.heap.size w w' := by
  go_enter Tryz.func68, Tryz.ntmps68
  go_wp2
  refine bodyPost_ret (v := .agg #[.int .i64 (n - by_), .int .i64 (n + by_)]) (by simp [results, Tryz.results68, go_sem]) rfl ⟨rfl, ?_⟩
  exact (Below.refl _ _).alloc (Nat.le_refl _) _
set_option maxRecDepth 100000 in
set_option maxHeartbeats 400000 in
theorem lies_any (n lo hi : Int) (w : World) :
    Calls Tryz.prog 125 #[.int .i64 n, .agg #[.int .i64 lo, .int .i64 hi]] w fun e w' => e = .returned (.bool (inB n lo hi)) ∧ Below w.heap.size w w' := by
  go_enter Tryz.func125, Tryz.ntmps125
  go_wp2_with (go_at_call 42; refine (within_any _ _ _ _).mono ?_; rintro e w' ⟨rfl, rfl⟩)
  go_ret
  exact ⟨rfl, (Below.refl _ _).alloc (Nat.le_refl _) _⟩
def nearB (px py qx qy b : Int) : Bool := inB qx (px - b) (px + b) && inB qy (py - b) (py + b)
theorem nearB_no {px py qx qy b : Int} (h : inB qx (px - b) (px + b) = false) : nearB px py qx qy b = false := by unfold nearB; rw [h]; rfl
theorem nearB_yes {px py qx qy b : Int} (h : inB qx (px - b) (px + b) = true) : nearB px py qx qy b = inB qy (py - b) (py + b) := by unfold nearB; rw [h]; rfl
set_option maxRecDepth 100000 in
set_option maxHeartbeats 1000000 in
theorem near_yes (px py qx qy b : Int) (h1 : -500 ≤ px) (h2 : px ≤ 500) (h3 : -500 ≤ py) (h4 : py ≤ 500) (h5 : 0 ≤ b) (h6 : b ≤ 500) (w : World) (hx : inB qx (px - b) (px + b) = true) :
    Calls Tryz.prog 94 #[.agg #[.int .i64 px, .int .i64 py], .agg #[.int .i64 qx, .int .i64 qy], .int .i64 b] w fun e w' => e = .returned (.bool (nearB px py qx qy b)) ∧ Below w.heap.size w w' := by
  go_enter Tryz.func94, Tryz.ntmps94
  go_wp2_with fail
  go_region_held3 (fun w' => w'.cell? ⟨w.heap.size, 0, none⟩ = some (.int .i64 px) ∧ w'.cell? ⟨w.heap.size, 1, none⟩ = some (.int .i64 py) ∧ w'.cell? ⟨w.heap.size + 1, 0, none⟩ = some (.int .i64 qx) ∧ w'.cell? ⟨w.heap.size + 1, 1, none⟩ = some (.int .i64 qy))
    (first
      | go_keep
      | (go_split_ands
         refine ⟨?_, ?_, ?_, ?_⟩ <;> (rw [hb.cell (by first | omega | (simp; omega) | simp)]; assumption)))
    (first
      | (go_at_call 68; refine (around_any _ _ (by omega) (by omega) (by omega) (by omega) _).mono ?_; rintro e w' ⟨rfl, hb⟩; have hs := hb.size; try simp only [World.size_alloc, World.size_drew] at hs)
      | (go_at_call 125; refine (lies_any _ _ _ _).mono ?_; rintro e w' ⟨rfl, hb⟩; have hs := hb.size; try simp only [World.size_alloc, World.size_drew] at hs))
  rename_i wA hA _ wB hB _ wC hC _ _
  go_wp2
  go_ret
  refine ⟨ret_bool (nearB_yes hx).symm, ?_⟩
  have k := hA.size; have k2 := hB.size; have k3 := hC.size
  simp only [World.size_alloc, World.size_drew] at k
  have h0 : Below w.heap.size w ((w.alloc (Obj.cells #[Value.int IntKind.i64 px, Value.int IntKind.i64 py] 52)).alloc (Obj.cells #[Value.int IntKind.i64 qx, Value.int IntKind.i64 qy] 52)).drew := (((Below.refl _ _).alloc (Nat.le_refl _) _).alloc (by rw [World.size_alloc]; omega) _).drew
  exact h0.trans ((hA.mono (by simp only [World.size_alloc, World.size_drew]; omega)).trans ((hB.mono (by omega)).trans ((hC.mono (by omega)).trans (hb.mono (by omega)))))
set_option maxRecDepth 100000 in
set_option maxHeartbeats 1000000 in
theorem near_no (px py qx qy b : Int) (h1 : -500 ≤ px) (h2 : px ≤ 500) (h5 : 0 ≤ b) (h6 : b ≤ 500) (w : World) (hx : inB qx (px - b) (px + b) = false) :
    Calls Tryz.prog 94 #[.agg #[.int .i64 px, .int .i64 py], .agg #[.int .i64 qx, .int .i64 qy], .int .i64 b] w fun e w' => e = .returned (.bool (nearB px py qx qy b)) ∧ Below w.heap.size w w' := by
  go_enter Tryz.func94, Tryz.ntmps94
  go_wp2_with fail
  refine wp_region_held_drew (S := (fun w' => w'.cell? ⟨w.heap.size, 0, none⟩ = some (.int .i64 px) ∧ w'.cell? ⟨w.heap.size, 1, none⟩ = some (.int .i64 py) ∧ w'.cell? ⟨w.heap.size + 1, 0, none⟩ = some (.int .i64 qx) ∧ w'.cell? ⟨w.heap.size + 1, 1, none⟩ = some (.int .i64 qy))) (by kernel_rfl) ?_ (fun hHeld => ?_)
  · (try dsimp only); (first | (go_keep; done) | fail)
  refine wpAnyH_take (i := 0) (v := ?_) rfl (by kernel_rfl) (by kernel_rfl) (by kernel_rfl) (fun _ _ _ h => h) (Or.inl ⟨by rfl, ?_⟩) (by assumption) ?_
  rotate_left 1
  · ((intro w hSw; (try dsimp only at hSw); go_simp) <;> with_reducible rfl)
  (try simp only [Act.put, List.setIfInBounds_toArray, List.set_cons_zero, List.set_cons_succ])
  refine wpAnyH_take (i := 1) (v := ?_) rfl (by kernel_rfl) (by kernel_rfl) (by kernel_rfl) (fun _ _ _ h => h) (Or.inl ⟨by rfl, ?_⟩) (by assumption) ?_
  rotate_left 1
  · ((intro w hSw; (try dsimp only at hSw); go_simp) <;> with_reducible rfl)
  (try simp only [Act.put, List.setIfInBounds_toArray, List.set_cons_zero, List.set_cons_succ])
  refine wpAnyH_take (i := 2) (v := ?_) rfl (by kernel_rfl) (by kernel_rfl) (by kernel_rfl) (fun _ _ _ h => h) (Or.inl ⟨by rfl, ?_⟩) (by assumption) ?_
  rotate_left 1
  · ((intro w hSw; (try dsimp only at hSw); go_simp) <;> with_reducible rfl)
  (try simp only [Act.put, List.setIfInBounds_toArray, List.set_cons_zero, List.set_cons_succ])
  refine wpAnyH_take (i := 3) (v := ?_) rfl (by kernel_rfl) (by kernel_rfl) (by kernel_rfl) (fun _ _ _ h => h) (Or.inl ⟨by rfl, ?_⟩) (by assumption) ?_
  rotate_left 1
  · ((intro w hSw; (try dsimp only at hSw); go_simp) <;> with_reducible rfl)
  (try simp only [Act.put, List.setIfInBounds_toArray, List.set_cons_zero, List.set_cons_succ])
  refine wpAnyH_take (i := 4) (v := ?_) rfl (by kernel_rfl) (by kernel_rfl) (by kernel_rfl) (fun _ _ _ h => h) (Or.inl ⟨by rfl, ?_⟩) (by assumption) ?_
  rotate_left 1
  · ((intro w hSw; (try dsimp only at hSw); go_simp) <;> with_reducible rfl)
  (try simp only [Act.put, List.setIfInBounds_toArray, List.set_cons_zero, List.set_cons_succ])
  refine wpAnyH_ready (rs := [5]) (by kernel_rfl) (by simp) ?_
  refine AllReadyH.cons (o := _) rfl (fun K hK => ?_) AllReadyH.nil
  go_simp
  (go_at_call 68; refine (around_any _ _ (by omega) (by omega) (by omega) (by omega) _).mono ?_; rintro e w1 ⟨rfl, hb⟩; have hA := hb; have hs := hb.size; try simp only [World.size_alloc, World.size_drew] at hs)
  refine hK.out _ _ ?_ (fun hHeld => ?_)
  · (first | (go_keep; done) | (go_split_ands; refine ⟨?_, ?_, ?_, ?_⟩ <;> (rw [hb.cell (by first | omega | (simp; omega) | simp)]; assumption)) | assumption)
  clear hK K
  (try simp only [Act.put, List.setIfInBounds_toArray, List.set_cons_zero, List.set_cons_succ])
  refine wpAnyH_ready (rs := [6]) (by kernel_rfl) (by simp) ?_
  refine AllReadyH.cons (o := _) rfl (fun K hK => ?_) AllReadyH.nil
  go_simp
  (go_at_call 125; refine (lies_any _ _ _ _).mono ?_; rw [hx]; rintro e w' ⟨rfl, hb⟩; have hs := hb.size; try simp only [World.size_alloc, World.size_drew] at hs)
  refine hK.out _ _ ?_ (fun hHeld => ?_)
  · (first | (go_keep; done) | (go_split_ands; refine ⟨?_, ?_, ?_, ?_⟩ <;> (rw [hb.cell (by first | omega | (simp; omega) | simp)]; assumption)) | assumption)
  clear hK K
  (try simp only [Act.put, List.setIfInBounds_toArray, List.set_cons_zero, List.set_cons_succ])
  refine wpAnyH_take (i := 7) (v := ?_) rfl (by kernel_rfl) (by kernel_rfl) (by kernel_rfl) (fun _ _ _ h => h) (Or.inl ⟨by rfl, ?_⟩) (by assumption) ?_
  rotate_left 1
  · ((intro w hSw; (try dsimp only at hSw); go_simp) <;> with_reducible rfl)
  (try simp only [Act.put, List.setIfInBounds_toArray, List.set_cons_zero, List.set_cons_succ])
  refine wpAnyH_take (i := 8) (v := undef) rfl (by kernel_rfl) (by kernel_rfl) (by kernel_rfl) (fun _ _ _ h => h) (Or.inr ⟨by rfl, rfl⟩) (by assumption) ?_
  (try simp only [Act.put, List.setIfInBounds_toArray, List.set_cons_zero, List.set_cons_succ])
  refine wpAnyH_take (i := 9) (v := undef) rfl (by kernel_rfl) (by kernel_rfl) (by kernel_rfl) (fun _ _ _ h => h) (Or.inr ⟨by rfl, rfl⟩) (by assumption) ?_
  (try simp only [Act.put, List.setIfInBounds_toArray, List.set_cons_zero, List.set_cons_succ])
  refine wpAnyH_take (i := 10) (v := undef) rfl (by kernel_rfl) (by kernel_rfl) (by kernel_rfl) (fun _ _ _ h => h) (Or.inr ⟨by rfl, rfl⟩) (by assumption) ?_
  (try simp only [Act.put, List.setIfInBounds_toArray, List.set_cons_zero, List.set_cons_succ])
  refine wpAnyH_take (i := 11) (v := undef) rfl (by kernel_rfl) (by kernel_rfl) (by kernel_rfl) (fun _ _ _ h => h) (Or.inr ⟨by rfl, rfl⟩) (by assumption) ?_
  (try simp only [Act.put, List.setIfInBounds_toArray, List.set_cons_zero, List.set_cons_succ])
  refine wpAnyH_take (i := 12) (v := undef) rfl (by kernel_rfl) (by kernel_rfl) (by kernel_rfl) (fun _ _ _ h => h) (Or.inr ⟨by rfl, rfl⟩) (by assumption) ?_
  (try simp only [Act.put, List.setIfInBounds_toArray, List.set_cons_zero, List.set_cons_succ])
  refine wpAnyH_ready (rs := [13]) (by kernel_rfl) (by simp) ?_
  refine AllReadyH.cons (o := _) rfl (fun K hK => ?_) AllReadyH.nil
  go_simp
  refine hK.out _ _ ?_ (fun hHeld => ?_)
  · (first | (go_keep; done) | (go_split_ands; refine ⟨?_, ?_, ?_, ?_⟩ <;> (rw [hb.cell (by first | omega | (simp; omega) | simp)]; assumption)) | assumption)
  clear hK K
  (try simp only [Act.put, List.setIfInBounds_toArray, List.set_cons_zero, List.set_cons_succ])
  refine wpAnyH_ready (rs := [14]) (by kernel_rfl) (by simp) ?_
  refine AllReadyH.cons (o := _) rfl (fun K hK => ?_) AllReadyH.nil
  go_simp
  refine hK.out _ _ ?_ (fun hHeld => ?_)
  · (first | (go_keep; done) | (go_split_ands; refine ⟨?_, ?_, ?_, ?_⟩ <;> (rw [hb.cell (by first | omega | (simp; omega) | simp)]; assumption)) | assumption)
  clear hK K
  (try simp only [Act.put, List.setIfInBounds_toArray, List.set_cons_zero, List.set_cons_succ])
  refine wpAnyH_take (i := 15) (v := ?_) rfl (by kernel_rfl) (by kernel_rfl) (by kernel_rfl) (fun _ _ _ h => h) (Or.inl ⟨by rfl, ?_⟩) (by assumption) ?_
  rotate_left 1
  · ((intro w hSw; (try dsimp only at hSw); go_simp) <;> with_reducible rfl)
  (try simp only [Act.put, List.setIfInBounds_toArray, List.set_cons_zero, List.set_cons_succ])
  refine wpAnyH_take (i := 16) (v := ?_) rfl (by kernel_rfl) (by kernel_rfl) (by kernel_rfl) (fun _ _ _ h => h) (Or.inl ⟨by rfl, ?_⟩) (by assumption) ?_
  rotate_left 1
  · ((intro w hSw; (try dsimp only at hSw); go_simp) <;> with_reducible rfl)
  (try simp only [Act.put, List.setIfInBounds_toArray, List.set_cons_zero, List.set_cons_succ])
  refine wpAnyH_done (by kernel_rfl) ?_ _
  simp only [Act.put, List.getElem_toArray, List.getElem_cons_zero, List.getElem_cons_succ, List.setIfInBounds_toArray, List.set_cons_zero, List.set_cons_succ]
  go_wp2
  go_ret
  refine ⟨ret_bool (nearB_no hx).symm, ?_⟩
  have k := hA.size
  simp only [World.size_alloc, World.size_drew] at k
  have h0 : Below w.heap.size w ((w.alloc (Obj.cells #[Value.int IntKind.i64 px, Value.int IntKind.i64 py] 52)).alloc (Obj.cells #[Value.int IntKind.i64 qx, Value.int IntKind.i64 qy] 52)).drew := (((Below.refl _ _).alloc (Nat.le_refl _) _).alloc (by rw [World.size_alloc]; omega) _).drew
  exact h0.trans ((hA.mono (by simp only [World.size_alloc, World.size_drew]; omega)).trans (hb.mono (by omega)))
theorem near_any (px py qx qy b : Int) (h1 : -500 ≤ px) (h2 : px ≤ 500) (h3 : -500 ≤ py) (h4 : py ≤ 500) (h5 : 0 ≤ b) (h6 : b ≤ 500) (w : World) :
    Calls Tryz.prog 94 #[.agg #[.int .i64 px, .int .i64 py], .agg #[.int .i64 qx, .int .i64 qy], .int .i64 b] w fun e w' => e = .returned (.bool (nearB px py qx qy b)) ∧ Below w.heap.size w w' := by
  cases hx : inB qx (px - b) (px + b) with
  | true => exact near_yes px py qx qy b h1 h2 h3 h4 h5 h6 w hx
  | false => exact near_no px py qx qy b h1 h2 h5 h6 w hx
end Go.Proofs.YtppefjmllebacaaGreatDoor
namespace Go.Proofs.YtppefjmllebacaaGreatDoor
open Go.RowKit
set_option maxRecDepth 100000 in
set_option maxHeartbeats 2000000 in
theorem fits_any (i j t hb pb tb yb b1 o1 n1 k1 b2 o2 n2 k2 : Nat) (tv : Value) (HX HY PX PY : Nat → Int) (r : Int) (w : World) (hr0 : 0 ≤ r) (hr1 : r ≤ 500) (hi : i < n1) (hj : j < n2) (hn1 : n1 ≤ 1000) (hn2 : n2 ≤ 1000)
    (hT : ∀ W, Calls Tryz.prog 54 #[.agg #[.int .i64 (PX j), .int .i64 (PY j)], tv] W fun e w' => e = .returned (.agg #[.int .i64 (trn t (PX j, PY j)).1, .int .i64 (trn t (PX j, PY j)).2]) ∧ Below W.heap.size W w')
    (c1 : w.cell? ⟨hb, 0, none⟩ = some (.slice (some ⟨b1, o1, none⟩) n1 k1)) (c2 : w.cell? ⟨pb, 0, none⟩ = some (.slice (some ⟨b2, o2, none⟩) n2 k2)) (c3 : w.cell? ⟨tb, 0, none⟩ = some tv) (c4 : w.cell? ⟨yb, 0, none⟩ = some (.int .i64 r))
    (l1 : hb < w.heap.size) (l2 : pb < w.heap.size) (l3 : tb < w.heap.size) (l4 : yb < w.heap.size) (hp1 : Pts w b1 o1 n1 HX HY) (hp2 : Pts w b2 o2 n2 PX PY) (m1 : b1 < w.heap.size) (m2 : b2 < w.heap.size) (s1 : small (HX i, HY i)) :
    Calls Tryz.prog 93 #[.int .i64 i, .int .i64 j, .pointer (some ⟨hb, 0, none⟩), .pointer (some ⟨pb, 0, none⟩), .pointer (some ⟨tb, 0, none⟩), .pointer (some ⟨yb, 0, none⟩)] w
      fun e w' => e = .returned (.bool (nearB (HX i) (HY i) (trn t (PX j, PY j)).1 (trn t (PX j, PY j)).2 r)) ∧ Below w.heap.size w w' := by
  obtain ⟨d1, d2⟩ := hp1 i hi
  obtain ⟨d3, d4⟩ := hp2 j hj
  obtain ⟨⟨s2, s3⟩, s4, s5⟩ := s1
  dsimp only at s2 s3 s4 s5
  have hi0 : (0 : Int) ≤ (i : Int) := Int.natCast_nonneg _
  have hi1 : (i : Int) < (n1 : Int) := by omega
  have hj0 : (0 : Int) ≤ (j : Int) := Int.natCast_nonneg _
  have hj1 : (j : Int) < (n2 : Int) := by omega
  generalize (trn t (PX j, PY j)).1 = qx at hT ⊢
  generalize (trn t (PX j, PY j)).2 = qy at hT ⊢
  go_enter Tryz.func93, Tryz.ntmps93
  go_wp2_with fail
  go_region_held3 (fun w' => w'.cell? ⟨hb, 0, none⟩ = some (.slice (some ⟨b1, o1, none⟩) n1 k1) ∧ w'.cell? ⟨pb, 0, none⟩ = some (.slice (some ⟨b2, o2, none⟩) n2 k2) ∧ w'.cell? ⟨tb, 0, none⟩ = some tv ∧ w'.cell? ⟨yb, 0, none⟩ = some (.int .i64 r)
      ∧ w'.cell? ⟨b1, o1 + i * 2, none⟩ = some (.int .i64 (HX i)) ∧ w'.cell? ⟨b1, o1 + i * 2 + 1, none⟩ = some (.int .i64 (HY i)) ∧ w'.cell? ⟨b2, o2 + j * 2, none⟩ = some (.int .i64 (PX j)) ∧ w'.cell? ⟨b2, o2 + j * 2 + 1, none⟩ = some (.int .i64 (PY j)))
    (first
      | go_keep
      | (go_split_ands
         refine ⟨?_, ?_, ?_, ?_, ?_, ?_, ?_, ?_⟩ <;> (rw [hbb.cell (by first | omega | (simp; omega) | simp)]; assumption)))
    (first
      | (go_at_call 54; refine (hT _).mono ?_; rintro e w' ⟨rfl, hbb⟩; have hs := hbb.size; try simp only [World.size_alloc, World.size_drew] at hs)
      | (go_at_call 94; refine (near_any _ _ _ _ _ (by omega) (by omega) (by omega) (by omega) (by omega) (by omega) _).mono ?_; rintro e w' ⟨rfl, hbb⟩; have hs := hbb.size; try simp only [World.size_alloc, World.size_drew] at hs))
  rename_i wA hA hsA _
  go_wp2
  go_ret
  exact ⟨rfl, (Below.refl _ _).drew.trans ((hA.mono (by simp)).trans (hbb.mono (by simpa using hsA)))⟩
end Go.Proofs.YtppefjmllebacaaGreatDoor
namespace Go.Proofs.YtppefjmllebacaaGreatDoor
end Go.Proofs.YtppefjmllebacaaGreatDoor
