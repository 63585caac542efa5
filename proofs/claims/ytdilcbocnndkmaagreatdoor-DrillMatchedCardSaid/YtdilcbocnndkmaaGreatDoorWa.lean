/- A part of the proof: see the last file. -/
import Derived.Test.YtdilcbocnndkmaaGreatDoorRows
import Derived.WalkKit
import Derived.WalkSpells
import Derived.WalkLawsBesides
set_option linter.unusedVariables false
set_option linter.unusedSimpArgs false
set_option linter.unusedSectionVars false
namespace Go.Proofs.YtdilcbocnndkmaaGreatDoor
open Go.RowKit
def inB (n lo hi : Int) : Bool := decide (lo ≤ n ∧ n ≤ hi)
theorem ret_bool {a b : Bool} (h : a = b) : Ending.returned (.bool a) = .returned (.bool b) := by rw [h]
theorem inB_yes {n lo hi : Int} (h1 : lo ≤ n) (h2 : n ≤ hi) : inB n lo hi = true := by unfold inB; exact decide_eq_true ⟨h1, h2⟩
theorem inB_no1 {n lo hi : Int} (h1 : ¬ lo ≤ n) : inB n lo hi = false := by unfold inB; exact decide_eq_false (fun h => h1 h.1)
theorem inB_no2 {n lo hi : Int} (h2 : ¬ n ≤ hi) : inB n lo hi = false := by unfold inB; exact decide_eq_false (fun h => h2 h.2)
theorem inB_iff {n lo hi : Int} : inB n lo hi = true ↔ lo ≤ n ∧ n ≤ hi := by unfold inB; exact decide_eq_true_iff
set_option maxHeartbeats 400000 in
theorem within_any (n lo hi : Int) (w : World) :
    Calls Tryz.prog 56 #[.int .i64 n, .int .i64 lo, .int .i64 hi] w fun e w' => e = .returned (.bool (inB n lo hi)) ∧ w = w' := by
  by_cases h1 : lo ≤ n
  · by_cases h2 : n ≤ hi
    · go_enter Tryz.func56, Tryz.ntmps56
      go_wp2
      go_ret
      exact ⟨ret_bool (by first | exact (inB_yes h1 h2).symm | exact (inB_no2 (by omega)).symm), rfl⟩
    · go_enter Tryz.func56, Tryz.ntmps56
      go_wp2
      go_ret
      exact ⟨ret_bool (by first | exact (inB_yes h1 h2).symm | exact (inB_no2 (by omega)).symm), rfl⟩
  · go_enter Tryz.func56, Tryz.ntmps56
    go_wp2
    go_ret
    exact ⟨ret_bool (inB_no1 (by omega)).symm, rfl⟩
set_option maxHeartbeats 400000 in
theorem in_any (n lo hi : Int) (w : World) :
    Calls Tryz.prog 38 #[.int .i64 n, .int .i64 lo, .int .i64 hi] w fun e w' => e = .returned (.bool (inB n lo hi)) ∧ w = w' := by
  by_cases h1 : lo ≤ n
  · by_cases h2 : n ≤ hi
    · go_enter Tryz.func38, Tryz.ntmps38
      go_wp2
      go_ret
      exact ⟨ret_bool (by first | exact (inB_yes h1 h2).symm | exact (inB_no2 (by omega)).symm), rfl⟩
    · go_enter Tryz.func38, Tryz.ntmps38
      go_wp2
      go_ret
      exact ⟨ret_bool (by first | exact (inB_yes h1 h2).symm | exact (inB_no2 (by omega)).symm), rfl⟩
  · go_enter Tryz.func38, Tryz.ntmps38
    go_wp2
    go_ret
    exact ⟨ret_bool (inB_no1 (by omega)).symm, rfl⟩
set_option maxHeartbeats 400000 in
theorem turns_any (n : Int) (w : World) :
    Calls Tryz.prog 11 #[.int .i64 n] w fun e w' => e = .returned (.bool (inB n 0 7)) ∧ w = w' := by
  go_enter Tryz.func11, Tryz.ntmps11
  go_wp2_with (go_at_call 38; refine (in_any _ _ _ _).mono ?_; rintro e w' ⟨rfl, rfl⟩)
  go_ret
  exact ⟨rfl, rfl⟩
set_option maxHeartbeats 400000 in
theorem turnOf_lo (n : Int) (h0 : 0 ≤ n) (h : n < 4) (w : World) :
    Calls Tryz.prog 71 #[.int .i64 n] w fun e w' => e = .returned (.iface 182 (.int .i64 n)) ∧ w = w' := by
  go_enter Tryz.func71, Tryz.ntmps71
  go_wp2
  go_ret
  exact ⟨rfl, rfl⟩
set_option maxHeartbeats 400000 in
theorem turnOf_hi (n : Int) (h0 : 4 ≤ n) (h : n < 8) (w : World) :
    Calls Tryz.prog 71 #[.int .i64 n] w fun e w' => e = .returned (.iface 183 (.int .i64 (n - 4))) ∧ w = w' := by
  go_enter Tryz.func71, Tryz.ntmps71
  go_wp2
  go_ret
  exact ⟨rfl, rfl⟩
set_option maxHeartbeats 400000 in
theorem plain_any (n : Int) (w : World) :
    Calls Tryz.prog 217 #[.int .i64 n] w fun e w' => e = .returned (.int .i64 n) ∧ w = w' := by
  go_enter Tryz.func217, Tryz.ntmps217
  go_wp2
  go_ret
  exact ⟨rfl, rfl⟩
set_option maxHeartbeats 400000 in
theorem mirrored_any (n : Int) (w : World) :
    Calls Tryz.prog 218 #[.int .i64 n] w fun e w' => e = .returned (.int .i64 n) ∧ w = w' := by
  go_enter Tryz.func218, Tryz.ntmps218
  go_wp2
  go_ret
  exact ⟨rfl, rfl⟩
end Go.Proofs.YtdilcbocnndkmaaGreatDoor
namespace Go.Proofs.YtdilcbocnndkmaaGreatDoor
open Go.RowKit
def ptB (x y r : Int) : Bool := inB x (-r) r && inB y (-r) r
theorem ptB_yes {x y r : Int} (h1 : inB x (-r) r = true) : ptB x y r = inB y (-r) r := by unfold ptB; rw [h1]; rfl
theorem ptB_no {x y r : Int} (h1 : inB x (-r) r = false) : ptB x y r = false := by unfold ptB; rw [h1]; rfl
theorem bcell {W w1 : World} (hb : Below W.heap.size W w1) : (∀ b o, b < W.heap.size → w1.cell? ⟨b, o, none⟩ = W.cell? ⟨b, o, none⟩) ∧ (∀ b o, b < W.heap.size → w1.frozen? ⟨b, o, none⟩ = W.frozen? ⟨b, o, none⟩) :=
  ⟨fun b o h => hb.cell (p := ⟨b, o, none⟩) h, fun b o h => hb.frozen (p := ⟨b, o, none⟩) h⟩
set_option maxHeartbeats 400000 in
theorem isPoint_any (x y r : Int) (h0 : 0 ≤ r) (h1 : r ≤ 1000) (w : World) :
    Calls Tryz.prog 97 #[.agg #[.int .i64 x, .int .i64 y], .int .i64 r] w fun e w' => e = .returned (.bool (ptB x y r)) ∧ Below w.heap.size w w' := by
  cases hx : inB x (-r) r with
  | true =>
    go_enter Tryz.func97, Tryz.ntmps97
    go_wp2_with (go_at_call 56; refine (within_any _ _ _ _).mono ?_; rintro e w' ⟨rfl, rfl⟩)
    go_ret
    exact ⟨ret_bool (ptB_yes hx).symm, (Below.refl _ _).alloc (Nat.le_refl _) _⟩
  | false =>
    go_enter Tryz.func97, Tryz.ntmps97
    go_wp2_with (go_at_call 56; refine (within_any _ _ _ _).mono ?_; rintro e w' ⟨rfl, rfl⟩)
    go_ret
    exact ⟨ret_bool (ptB_no hx).symm, (Below.refl _ _).alloc (Nat.le_refl _) _⟩
set_option maxHeartbeats 400000 in
theorem arePoints1_any (x y r : Int) (h0 : 0 ≤ r) (h1 : r ≤ 1000) (a : Addr) (w : World) (hc : w.cell? a = some (.int .i64 r)) (ha : a.block < w.heap.size) :
    Calls Tryz.prog 96 #[.agg #[.int .i64 x, .int .i64 y], .pointer (some a)] w fun e w' => e = .returned (.bool (!ptB x y r)) ∧ Below w.heap.size w w' := by
  go_enter Tryz.func96, Tryz.ntmps96
  go_wp2_with (go_at_call 97; refine (isPoint_any _ _ _ (by omega) (by omega) _).mono ?_; rintro e w' ⟨rfl, hb⟩)
  go_ret
  exact ⟨rfl, ((Below.refl _ _).alloc (Nat.le_refl _) _).trans (hb.mono (by simp))⟩
end Go.Proofs.YtdilcbocnndkmaaGreatDoor
namespace Go.Proofs.YtdilcbocnndkmaaGreatDoor
open Go.RowKit
/-- n points at a place in memory -/
def Pts (w : World) (b off n : Nat) (X Y : Nat → Int) : Prop := ∀ i, i < n → w.cell? ⟨b, off + i * 2, none⟩ = some (.int .i64 (X i)) ∧ w.cell? ⟨b, off + i * 2 + 1, none⟩ = some (.int .i64 (Y i))
theorem Pts.below {w w' : World} {b off n : Nat} {X Y : Nat → Int} (h : Pts w b off n X Y) (hb : Below w.heap.size w w') (hl : b < w.heap.size) : Pts w' b off n X Y := fun i hi => by
  obtain ⟨h1, h2⟩ := h i hi
  have e := (bcell hb).1
  exact ⟨by rw [e _ _ hl]; exact h1, by rw [e _ _ hl]; exact h2⟩
theorem all_succ {p : Nat → Prop} {k : Nat} (h : ∀ m, m < k → p m) (hk : p k) : ∀ m, m < k + 1 → p m := fun m hm => by
  rcases Nat.lt_succ_iff_lt_or_eq.1 hm with e | rfl
  · exact h m e
  · exact hk
def Found (n : Nat) (X Y : Nat → Int) (r : Int) (w : World) (e : Ending) (w' : World) : Prop :=
  ((e = .returned (.int .i64 (-1)) ∧ ∀ i, i < n → ptB (X i) (Y i) r = true) ∨ ∃ i : Nat, i < n ∧ e = .returned (.int .i64 i) ∧ ptB (X i) (Y i) r = false) ∧ Below w.heap.size w w'
set_option maxHeartbeats 400000 in
theorem index_any (b off n cap : Nat) (X Y : Nat → Int) (r : Int) (h0 : 0 ≤ r) (h1 : r ≤ 1000) (a : Addr) (w : World) (hn : n ≤ 1000) (hc : w.cell? a = some (.int .i64 r)) (ha : a.block < w.heap.size) (hp : Pts w b off n X Y) (hb : b < w.heap.size) :
    Calls Tryz.prog 141 #[.slice (some ⟨b, off, none⟩) n cap, .func (.func 96) #[] #[.pointer (some a)]] w (Found n X Y r w) := by
  go_enter Tryz.func141, Tryz.ntmps141
  go_wp2
  go_loopw [8] (fun i wr => ∃ k : Nat, k ≤ n ∧ i = .int .i64 k ∧ (∀ m, m < k → ptB (X m) (Y m) r = true) ∧ Below w.heap.size w wr) (fun i _ => n - (intOf i).toNat)
  case atStart => exact ⟨0, Nat.zero_le _, rfl, fun _ h => absurd h (Nat.not_lt_zero _), Below.refl _ _⟩
  case round =>
    obtain ⟨k, hk, rfl, hall, hbl⟩ := hrel
    by_cases hlt : k < n
    · obtain ⟨hx, hy⟩ := hp.below hbl hb k hlt
      have hc' : wr.cell? a = some (.int .i64 r) := by rw [hbl.cell ha]; exact hc
      cases hpt : ptB (X k) (Y k) r with
      | true =>
        go_wp2_with (go_at_call 96; refine (arePoints1_any _ _ _ (by omega) (by omega) _ _ (by assumption) (by have := hbl.size; omega)).mono ?_; rintro e w' ⟨rfl, hb2⟩)
        go_roundw
        case rel => exact ⟨k + 1, by omega, by go_num, all_succ hall hpt, hbl.trans (hb2.mono hbl.size)⟩
        case measure => simp [intOf]; omega
      | false =>
        go_wp2_with (go_at_call 96; refine (arePoints1_any _ _ _ (by omega) (by omega) _ _ (by assumption) (by have := hbl.size; omega)).mono ?_; rintro e w' ⟨rfl, hb2⟩)
        go_ret
        exact ⟨.inr ⟨k, hlt, rfl, hpt⟩, hbl.trans (hb2.mono hbl.size)⟩
    · go_wp2
      go_ret
      exact ⟨.inl ⟨rfl, fun i hi => hall i (by omega)⟩, hbl⟩
end Go.Proofs.YtdilcbocnndkmaaGreatDoor
namespace Go.Proofs.YtdilcbocnndkmaaGreatDoor
open Go.RowKit
def allB (n : Nat) (X Y : Nat → Int) (r : Int) : Bool := decide (∀ i, i < n → ptB (X i) (Y i) r = true)
theorem allB_yes {n : Nat} {X Y : Nat → Int} {r : Int} (h : ∀ i, i < n → ptB (X i) (Y i) r = true) : allB n X Y r = true := by unfold allB; exact decide_eq_true h
theorem allB_no {n i : Nat} {X Y : Nat → Int} {r : Int} (hi : i < n) (h : ptB (X i) (Y i) r = false) : allB n X Y r = false := by
  unfold allB; exact decide_eq_false fun hh => by have := hh i hi; rw [h] at this; cases this
theorem allB_iff {n : Nat} {X Y : Nat → Int} {r : Int} : allB n X Y r = true ↔ ∀ i, i < n → ptB (X i) (Y i) r = true := by unfold allB; exact decide_eq_true_iff
set_option maxHeartbeats 400000 in
theorem contains_any (b off n cap : Nat) (X Y : Nat → Int) (r : Int) (h0 : 0 ≤ r) (h1 : r ≤ 1000) (a : Addr) (w : World) (hn : n ≤ 1000) (hc : w.cell? a = some (.int .i64 r)) (ha : a.block < w.heap.size) (hp : Pts w b off n X Y) (hb : b < w.heap.size) :
    Calls Tryz.prog 95 #[.slice (some ⟨b, off, none⟩) n cap, .func (.func 96) #[] #[.pointer (some a)]] w fun e w' => e = .returned (.bool (!allB n X Y r)) ∧ Below w.heap.size w w' := by
  go_enter Tryz.func95, Tryz.ntmps95
  go_wp2_with (go_at_call 141; refine (index_any _ _ _ _ _ _ _ h0 h1 _ _ hn hc ha hp hb).mono ?_; rintro e w' ⟨⟨rfl, hall⟩ | ⟨i, hi, rfl, hf⟩, hb2⟩)
  · go_ret
    exact ⟨ret_bool (by rw [allB_yes hall]; rfl), hb2⟩
  · go_wp2
    go_ret
    exact ⟨ret_bool (by rw [allB_no hi hf]; rfl), hb2⟩
set_option maxHeartbeats 400000 in
theorem index_nil (a : Option Addr) (c : Nat) (v : Value) (w : World) :
    Calls Tryz.prog 141 #[.slice a 0 c, v] w fun e w' => e = .returned (.int .i64 (-1)) ∧ w' = w := by
  go_enter Tryz.func141, Tryz.ntmps141
  go_wp2
  refine wp_loop_rounds 1 ?_
  rw [rounds_succ]
  go_wp2
  go_ret
  exact ⟨rfl, rfl⟩
set_option maxHeartbeats 400000 in
theorem contains_nil (a : Option Addr) (c : Nat) (v : Value) (w : World) :
    Calls Tryz.prog 95 #[.slice a 0 c, v] w fun e w' => e = .returned (.bool false) ∧ w' = w := by
  go_enter Tryz.func95, Tryz.ntmps95
  go_wp2_with (go_at_call 141; refine (index_nil _ _ _ _).mono ?_; rintro e w' ⟨rfl, rfl⟩)
  go_ret
  exact ⟨rfl, rfl⟩
end Go.Proofs.YtdilcbocnndkmaaGreatDoor
namespace Go.Proofs.YtdilcbocnndkmaaGreatDoor
open Go.RowKit
/-- a slice of n points -/
def PSl (w : World) (v : Value) (n : Nat) (X Y : Nat → Int) : Prop := (∃ a c, v = .slice a 0 c ∧ n = 0) ∨ ∃ b off cap, v = .slice (some ⟨b, off, none⟩) n cap ∧ b < w.heap.size ∧ Pts w b off n X Y
theorem PSl.below {w w' : World} {v : Value} {n : Nat} {X Y : Nat → Int} (h : PSl w v n X Y) (hb : Below w.heap.size w w') : PSl w' v n X Y := by
  rcases h with h | ⟨b, off, cap, h1, h2, h3⟩
  · exact .inl h
  · exact .inr ⟨b, off, cap, h1, Nat.lt_of_lt_of_le h2 hb.size, h3.below hb h2⟩
def arB (n : Nat) (least : Int) (X Y : Nat → Int) (r : Int) : Bool := inB n least 4 && allB n X Y r
theorem arB_no {n : Nat} {least : Int} {X Y : Nat → Int} {r : Int} (h : inB n least 4 = false) : arB n least X Y r = false := by unfold arB; rw [h]; rfl
theorem arB_yes {n : Nat} {least : Int} {X Y : Nat → Int} {r : Int} (h : inB n least 4 = true) : arB n least X Y r = allB n X Y r := by unfold arB; rw [h]; rfl
set_option maxHeartbeats 400000 in
theorem are_some (b off n cap : Nat) (least : Int) (X Y : Nat → Int) (r : Int) (h0 : 0 ≤ r) (h1 : r ≤ 1000) (w : World) (hn : n ≤ 1000) (hp : Pts w b off n X Y) (hb : b < w.heap.size) :
    Calls Tryz.prog 54 #[.slice (some ⟨b, off, none⟩) n cap, .int .i64 least, .int .i64 r] w fun e w' => e = .returned (.bool (arB n least X Y r)) ∧ Below w.heap.size w w' := by
  cases hi : inB n least 4 with
  | true =>
    go_enter Tryz.func54, Tryz.ntmps54
    go_wp2_with (first | (go_at_call 56; refine (within_any _ _ _ _).mono ?_; rintro e w' ⟨rfl, rfl⟩) | (go_at_call 95; refine (contains_any _ _ _ _ X Y r h0 h1 ⟨w.heap.size, 0, none⟩ _ hn (by simp [go_sem]) (by simp) (hp.below ((Below.refl _ _).alloc (Nat.le_refl _) _) hb) (by simp; omega)).mono ?_; rintro e w' ⟨rfl, hb2⟩))
    go_ret
    exact ⟨ret_bool (arB_yes hi).symm, ((Below.refl _ _).alloc (Nat.le_refl _) _).trans (hb2.mono (by simp))⟩
  | false =>
    go_enter Tryz.func54, Tryz.ntmps54
    go_wp2_with (first | (go_at_call 56; refine (within_any _ _ _ _).mono ?_; rintro e w' ⟨rfl, rfl⟩))
    go_ret
    exact ⟨ret_bool (arB_no hi).symm, (Below.refl _ _).alloc (Nat.le_refl _) _⟩
set_option maxHeartbeats 400000 in
theorem are_nil (a : Option Addr) (c : Nat) (least : Int) (X Y : Nat → Int) (r : Int) (w : World) :
    Calls Tryz.prog 54 #[.slice a 0 c, .int .i64 least, .int .i64 r] w fun e w' => e = .returned (.bool (arB 0 least X Y r)) ∧ Below w.heap.size w w' := by
  have h0 : allB 0 X Y r = true := allB_yes fun i hi => absurd hi (Nat.not_lt_zero i)
  cases hi : inB ((0 : Nat) : Int) least 4 with
  | true =>
    have hi' : inB 0 least 4 = true := hi
    go_enter Tryz.func54, Tryz.ntmps54
    go_wp2_with (first | (go_at_call 56; refine (within_any _ _ _ _).mono ?_; rintro e w' ⟨rfl, rfl⟩) | (go_at_call 95; refine (contains_nil _ _ _ _).mono ?_; rintro e w' ⟨rfl, rfl⟩))
    go_ret
    exact ⟨ret_bool (by rw [arB_yes hi, h0]), (Below.refl _ _).alloc (Nat.le_refl _) _⟩
  | false =>
    have hi' : inB 0 least 4 = false := hi
    go_enter Tryz.func54, Tryz.ntmps54
    go_wp2_with (first | (go_at_call 56; refine (within_any _ _ _ _).mono ?_; rintro e w' ⟨rfl, rfl⟩))
    go_ret
    exact ⟨ret_bool (arB_no hi).symm, (Below.refl _ _).alloc (Nat.le_refl _) _⟩
theorem are_any (v : Value) (n : Nat) (least : Int) (X Y : Nat → Int) (r : Int) (h0 : 0 ≤ r) (h1 : r ≤ 1000) (w : World) (hn : n ≤ 1000) (hp : PSl w v n X Y) :
    Calls Tryz.prog 54 #[v, .int .i64 least, .int .i64 r] w fun e w' => e = .returned (.bool (arB n least X Y r)) ∧ Below w.heap.size w w' := by
  rcases hp with ⟨a, c, rfl, rfl⟩ | ⟨b, off, cap, rfl, hb, hp⟩
  · exact are_nil a c least X Y r w
  · exact are_some b off n cap least X Y r h0 h1 w hn hp hb
end Go.Proofs.YtdilcbocnndkmaaGreatDoor
