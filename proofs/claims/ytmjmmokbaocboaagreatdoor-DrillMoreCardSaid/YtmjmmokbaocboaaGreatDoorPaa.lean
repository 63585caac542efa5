/- A part of the proof: see the last file. -/
import Derived.Test.YtmjmmokbaocboaaGreatDoorRows
import Derived.WalkKit
import Derived.WalkSpells
import Derived.WalkLawsBesides
import Derived.Maps.OwnSet
import Derived.Below
set_option linter.unusedVariables false
set_option linter.unusedSimpArgs false
set_option linter.unusedSectionVars false
namespace Go.Proofs.YtmjmmokbaocboaaGreatDoor
open Go.RowKit
def inB (n lo hi : Int) : Bool := decide (lo ≤ n ∧ n ≤ hi)
theorem ret_bool {a b : Bool} (h : a = b) : Ending.returned (.bool a) = .returned (.bool b) := by rw [h]
theorem inB_yes {n lo hi : Int} (h1 : lo ≤ n) (h2 : n ≤ hi) : inB n lo hi = true := by unfold inB; exact decide_eq_true ⟨h1, h2⟩
theorem inB_no1 {n lo hi : Int} (h1 : ¬ lo ≤ n) : inB n lo hi = false := by unfold inB; exact decide_eq_false (fun h => h1 h.1)
theorem inB_no2 {n lo hi : Int} (h2 : ¬ n ≤ hi) : inB n lo hi = false := by unfold inB; exact decide_eq_false (fun h => h2 h.2)
theorem inB_iff {n lo hi : Int} : inB n lo hi = true ↔ lo ≤ n ∧ n ≤ hi := by unfold inB; exact decide_eq_true_iff
set_option maxHeartbeats 400000 in
theorem within_any (n lo hi : Int) (w : World) :
    Calls Tryz.prog 49 #[.int .i64 n, .int .i64 lo, .int .i64 hi] w fun e w' => e = .returned (.bool (inB n lo hi)) ∧ w = w' := by
  by_cases h1 : lo ≤ n
  · by_cases h2 : n ≤ hi
    · go_enter Tryz.func49, Tryz.ntmps49
      go_wp2
      go_ret
      exact ⟨ret_bool (by first | exact (inB_yes h1 h2).symm | exact (inB_no2 (by omega)).symm), rfl⟩
    · go_enter Tryz.func49, Tryz.ntmps49
      go_wp2
      go_ret
      exact ⟨ret_bool (by first | exact (inB_yes h1 h2).symm | exact (inB_no2 (by omega)).symm), rfl⟩
  · go_enter Tryz.func49, Tryz.ntmps49
    go_wp2
    go_ret
    exact ⟨ret_bool (inB_no1 (by omega)).symm, rfl⟩
set_option maxHeartbeats 400000 in
theorem in_any (n lo hi : Int) (w : World) :
    Calls Tryz.prog 57 #[.int .i64 n, .int .i64 lo, .int .i64 hi] w fun e w' => e = .returned (.bool (inB n lo hi)) ∧ w = w' := by
  by_cases h1 : lo ≤ n
  · by_cases h2 : n ≤ hi
    · go_enter Tryz.func57, Tryz.ntmps57
      go_wp2
      go_ret
      exact ⟨ret_bool (by first | exact (inB_yes h1 h2).symm | exact (inB_no2 (by omega)).symm), rfl⟩
    · go_enter Tryz.func57, Tryz.ntmps57
      go_wp2
      go_ret
      exact ⟨ret_bool (by first | exact (inB_yes h1 h2).symm | exact (inB_no2 (by omega)).symm), rfl⟩
  · go_enter Tryz.func57, Tryz.ntmps57
    go_wp2
    go_ret
    exact ⟨ret_bool (inB_no1 (by omega)).symm, rfl⟩
set_option maxHeartbeats 400000 in
theorem turnOf_lo (n : Int) (h0 : 0 ≤ n) (h : n < 4) (w : World) :
    Calls Tryz.prog 74 #[.int .i64 n] w fun e w' => e = .returned (.iface 195 (.int .i64 n)) ∧ w = w' := by
  go_enter Tryz.func74, Tryz.ntmps74
  go_wp2
  go_ret
  exact ⟨rfl, rfl⟩
set_option maxHeartbeats 400000 in
theorem turnOf_hi (n : Int) (h0 : 4 ≤ n) (h : n < 8) (w : World) :
    Calls Tryz.prog 74 #[.int .i64 n] w fun e w' => e = .returned (.iface 196 (.int .i64 (n - 4))) ∧ w = w' := by
  go_enter Tryz.func74, Tryz.ntmps74
  go_wp2
  go_ret
  exact ⟨rfl, rfl⟩
set_option maxHeartbeats 400000 in
theorem plain_any (n : Int) (w : World) :
    Calls Tryz.prog 219 #[.int .i64 n] w fun e w' => e = .returned (.int .i64 n) ∧ w = w' := by
  go_enter Tryz.func219, Tryz.ntmps219
  go_wp2
  go_ret
  exact ⟨rfl, rfl⟩
set_option maxHeartbeats 400000 in
theorem mirrored_any (n : Int) (w : World) :
    Calls Tryz.prog 220 #[.int .i64 n] w fun e w' => e = .returned (.int .i64 n) ∧ w = w' := by
  go_enter Tryz.func220, Tryz.ntmps220
  go_wp2
  go_ret
  exact ⟨rfl, rfl⟩
end Go.Proofs.YtmjmmokbaocboaaGreatDoor
namespace Go.Proofs.YtmjmmokbaocboaaGreatDoor
open Go.RowKit
def ptB (x y r : Int) : Bool := inB x (-r) r && inB y (-r) r
theorem ptB_yes {x y r : Int} (h1 : inB x (-r) r = true) : ptB x y r = inB y (-r) r := by unfold ptB; rw [h1]; rfl
theorem ptB_no {x y r : Int} (h1 : inB x (-r) r = false) : ptB x y r = false := by unfold ptB; rw [h1]; rfl
theorem bcell {W w1 : World} (hb : Below W.heap.size W w1) : (∀ b o, b < W.heap.size → w1.cell? ⟨b, o, none⟩ = W.cell? ⟨b, o, none⟩) ∧ (∀ b o, b < W.heap.size → w1.frozen? ⟨b, o, none⟩ = W.frozen? ⟨b, o, none⟩) :=
  ⟨fun b o h => hb.cell (p := ⟨b, o, none⟩) h, fun b o h => hb.frozen (p := ⟨b, o, none⟩) h⟩
set_option maxHeartbeats 400000 in
theorem isPoint_any (x y r : Int) (h0 : 0 ≤ r) (h1 : r ≤ 1000) (w : World) :
    Calls Tryz.prog 110 #[.agg #[.int .i64 x, .int .i64 y], .int .i64 r] w fun e w' => e = .returned (.bool (ptB x y r)) ∧ Below w.heap.size w w' := by
  cases hx : inB x (-r) r with
  | true =>
    go_enter Tryz.func110, Tryz.ntmps110
    go_wp2_with (go_at_call 49; refine (within_any _ _ _ _).mono ?_; rintro e w' ⟨rfl, rfl⟩)
    go_ret
    exact ⟨ret_bool (ptB_yes hx).symm, (Below.refl _ _).alloc (Nat.le_refl _) _⟩
  | false =>
    go_enter Tryz.func110, Tryz.ntmps110
    go_wp2_with (go_at_call 49; refine (within_any _ _ _ _).mono ?_; rintro e w' ⟨rfl, rfl⟩)
    go_ret
    exact ⟨ret_bool (ptB_no hx).symm, (Below.refl _ _).alloc (Nat.le_refl _) _⟩
set_option maxHeartbeats 400000 in
theorem arePoints1_any (x y r : Int) (h0 : 0 ≤ r) (h1 : r ≤ 1000) (a : Addr) (w : World) (hc : w.cell? a = some (.int .i64 r)) (ha : a.block < w.heap.size) :
    Calls Tryz.prog 109 #[.agg #[.int .i64 x, .int .i64 y], .pointer (some a)] w fun e w' => e = .returned (.bool (!ptB x y r)) ∧ Below w.heap.size w w' := by
  go_enter Tryz.func109, Tryz.ntmps109
  go_wp2_with (go_at_call 110; refine (isPoint_any _ _ _ (by omega) (by omega) _).mono ?_; rintro e w' ⟨rfl, hb⟩)
  go_ret
  exact ⟨rfl, ((Below.refl _ _).alloc (Nat.le_refl _) _).trans (hb.mono (by simp))⟩
end Go.Proofs.YtmjmmokbaocboaaGreatDoor
namespace Go.Proofs.YtmjmmokbaocboaaGreatDoor
open Go.RowKit
/-- n points at a place in memory -/
def Pts (w : World) (b off n : Nat) (X Y : Nat → Int) : Prop := ∀ i, i < n → w.cell? ⟨b, off + i * 2, none⟩ = some (.int .i64 (X i)) ∧ w.cell? ⟨b, off + i * 2 + 1, none⟩ = some (.int .i64 (Y i))
theorem Pts.below {w w' : World} {b off n : Nat} {X Y : Nat → Int} (h : Pts w b off n X Y) (hb : Below w.heap.size w w') (hl : b < w.heap.size) : Pts w' b off n X Y := fun i hi => by
  obtain ⟨h1, h2⟩ := h i hi
  have e := (bcell hb).1
  exact ⟨by rw [e _ _ hl]; exact h1, by rw [e _ _ hl]; exact h2⟩
theorem all_succ {p : Nat → Prop} {k : Nat} (h : ∀ m, m < k → p m) (hk : p k) : ∀ m, m < k + 1 → p m := fun m hm => by
  rcases Nat.lt_succ_iff_lt_or_eq.1 hm with e | rfl
  · exact h m e
  · exact hk
def Found (n : Nat) (X Y : Nat → Int) (r : Int) (w : World) (e : Ending) (w' : World) : Prop :=
  ((e = .returned (.int .i64 (-1)) ∧ ∀ i, i < n → ptB (X i) (Y i) r = true) ∨ ∃ i : Nat, i < n ∧ e = .returned (.int .i64 i) ∧ ptB (X i) (Y i) r = false) ∧ Below w.heap.size w w'
set_option maxHeartbeats 400000 in
theorem index_any (b off n cap : Nat) (X Y : Nat → Int) (r : Int) (h0 : 0 ≤ r) (h1 : r ≤ 1000) (a : Addr) (w : World) (hn : n ≤ 1000) (hc : w.cell? a = some (.int .i64 r)) (ha : a.block < w.heap.size) (hp : Pts w b off n X Y) (hb : b < w.heap.size) :
    Calls Tryz.prog 149 #[.slice (some ⟨b, off, none⟩) n cap, .func (.func 109) #[] #[.pointer (some a)]] w (Found n X Y r w) := by
  go_enter Tryz.func149, Tryz.ntmps149
  go_wp2
  go_loopw [8] (fun i wr => ∃ k : Nat, k ≤ n ∧ i = .int .i64 k ∧ (∀ m, m < k → ptB (X m) (Y m) r = true) ∧ Below w.heap.size w wr) (fun i _ => n - (intOf i).toNat)
  case atStart => exact ⟨0, Nat.zero_le _, rfl, fun _ h => absurd h (Nat.not_lt_zero _), Below.refl _ _⟩
  case round =>
    obtain ⟨k, hk, rfl, hall, hbl⟩ := hrel
    by_cases hlt : k < n
    · obtain ⟨hx, hy⟩ := hp.below hbl hb k hlt
      have hc' : wr.cell? a = some (.int .i64 r) := by rw [hbl.cell ha]; exact hc
      cases hpt : ptB (X k) (Y k) r with
      | true =>
        go_wp2_with (go_at_call 109; refine (arePoints1_any _ _ _ (by omega) (by omega) _ _ (by assumption) (by have := hbl.size; omega)).mono ?_; rintro e w' ⟨rfl, hb2⟩)
        go_roundw
        case rel => exact ⟨k + 1, by omega, by go_num, all_succ hall hpt, hbl.trans (hb2.mono hbl.size)⟩
        case measure => simp [intOf]; omega
      | false =>
        go_wp2_with (go_at_call 109; refine (arePoints1_any _ _ _ (by omega) (by omega) _ _ (by assumption) (by have := hbl.size; omega)).mono ?_; rintro e w' ⟨rfl, hb2⟩)
        go_ret
        exact ⟨.inr ⟨k, hlt, rfl, hpt⟩, hbl.trans (hb2.mono hbl.size)⟩
    · go_wp2
      go_ret
      exact ⟨.inl ⟨rfl, fun i hi => hall i (by omega)⟩, hbl⟩
end Go.Proofs.YtmjmmokbaocboaaGreatDoor
namespace Go.Proofs.YtmjmmokbaocboaaGreatDoor
open Go.RowKit
def allB (n : Nat) (X Y : Nat → Int) (r : Int) : Bool := decide (∀ i, i < n → ptB (X i) (Y i) r = true)
theorem allB_yes {n : Nat} {X Y : Nat → Int} {r : Int} (h : ∀ i, i < n → ptB (X i) (Y i) r = true) : allB n X Y r = true := by unfold allB; exact decide_eq_true h
theorem allB_no {n i : Nat} {X Y : Nat → Int} {r : Int} (hi : i < n) (h : ptB (X i) (Y i) r = false) : allB n X Y r = false := by
  unfold allB; exact decide_eq_false fun hh => by have := hh i hi; rw [h] at this; cases this
theorem allB_iff {n : Nat} {X Y : Nat → Int} {r : Int} : allB n X Y r = true ↔ ∀ i, i < n → ptB (X i) (Y i) r = true := by unfold allB; exact decide_eq_true_iff
set_option maxHeartbeats 400000 in
theorem contains_any (b off n cap : Nat) (X Y : Nat → Int) (r : Int) (h0 : 0 ≤ r) (h1 : r ≤ 1000) (a : Addr) (w : World) (hn : n ≤ 1000) (hc : w.cell? a = some (.int .i64 r)) (ha : a.block < w.heap.size) (hp : Pts w b off n X Y) (hb : b < w.heap.size) :
    Calls Tryz.prog 108 #[.slice (some ⟨b, off, none⟩) n cap, .func (.func 109) #[] #[.pointer (some a)]] w fun e w' => e = .returned (.bool (!allB n X Y r)) ∧ Below w.heap.size w w' := by
  go_enter Tryz.func108, Tryz.ntmps108
  go_wp2_with (go_at_call 149; refine (index_any _ _ _ _ _ _ _ h0 h1 _ _ hn hc ha hp hb).mono ?_; rintro e w' ⟨⟨rfl, hall⟩ | ⟨i, hi, rfl, hf⟩, hb2⟩)
  · go_ret
    exact ⟨ret_bool (by rw [allB_yes hall]; rfl), hb2⟩
  · go_wp2
    go_ret
    exact ⟨ret_bool (by rw [allB_no hi hf]; rfl), hb2⟩
set_option maxHeartbeats 400000 in
theorem index_nil (a : Option Addr) (c : Nat) (v : Value) (w : World) :
    Calls Tryz.prog 149 #[.slice a 0 c, v] w fun e w' => e = .returned (.int .i64 (-1)) ∧ w' = w := by
  go_enter Tryz.func149, Tryz.ntmps149
  go_wp2
  refine wp_loop_rounds 1 ?_
  rw [rounds_succ]
  go_wp2
  go_ret
  exact ⟨rfl, rfl⟩
set_option maxHeartbeats 400000 in
theorem contains_nil (a : Option Addr) (c : Nat) (v : Value) (w : World) :
    Calls Tryz.prog 108 #[.slice a 0 c, v] w fun e w' => e = .returned (.bool false) ∧ w' = w := by
  go_enter Tryz.func108, Tryz.ntmps108
  go_wp2_with (go_at_call 149; refine (index_nil _ _ _ _).mono ?_; rintro e w' ⟨rfl, rfl⟩)
  go_ret
  exact ⟨rfl, rfl⟩
end Go.Proofs.YtmjmmokbaocboaaGreatDoor
namespace Go.Proofs.YtmjmmokbaocboaaGreatDoor
open Go.RowKit
/-- a slice of n points -/
def PSl (w : World) (v : Value) (n : Nat) (X Y : Nat → Int) : Prop := (∃ a c, v = .slice a 0 c ∧ n = 0) ∨ ∃ b off cap, v = .slice (some ⟨b, off, none⟩) n cap ∧ b < w.heap.size ∧ Pts w b off n X Y
theorem PSl.below {w w' : World} {v : Value} {n : Nat} {X Y : Nat → Int} (h : PSl w v n X Y) (hb : Below w.heap.size w w') : PSl w' v n X Y := by
  rcases h with h | ⟨b, off, cap, h1, h2, h3⟩
  · exact .inl h
  · exact .inr ⟨b, off, cap, h1, Nat.lt_of_lt_of_le h2 hb.size, h3.below hb h2⟩
def arB (n : Nat) (least : Int) (X Y : Nat → Int) (r : Int) : Bool := inB n least 4 && allB n X Y r
theorem arB_no {n : Nat} {least : Int} {X Y : Nat → Int} {r : Int} (h : inB n least 4 = false) : arB n least X Y r = false := by unfold arB; rw [h]; rfl
theorem arB_yes {n : Nat} {least : Int} {X Y : Nat → Int} {r : Int} (h : inB n least 4 = true) : arB n least X Y r = allB n X Y r := by unfold arB; rw [h]; rfl
set_option maxHeartbeats 400000 in
theorem are_some (b off n cap : Nat) (least : Int) (X Y : Nat → Int) (r : Int) (h0 : 0 ≤ r) (h1 : r ≤ 1000) (w : World) (hn : n ≤ 1000) (hp : Pts w b off n X Y) (hb : b < w.heap.size) :
    Calls Tryz.prog 64 #[.slice (some ⟨b, off, none⟩) n cap, .int .i64 least, .int .i64 r] w fun e w' => e = .returned (.bool (arB n least X Y r)) ∧ Below w.heap.size w w' := by
  cases hi : inB n least 4 with
  | true =>
    go_enter Tryz.func64, Tryz.ntmps64
    go_wp2_with (first | (go_at_call 49; refine (within_any _ _ _ _).mono ?_; rintro e w' ⟨rfl, rfl⟩) | (go_at_call 108; refine (contains_any _ _ _ _ X Y r h0 h1 ⟨w.heap.size, 0, none⟩ _ hn (by simp [go_sem]) (by simp) (hp.below ((Below.refl _ _).alloc (Nat.le_refl _) _) hb) (by simp; omega)).mono ?_; rintro e w' ⟨rfl, hb2⟩))
    go_ret
    exact ⟨ret_bool (arB_yes hi).symm, ((Below.refl _ _).alloc (Nat.le_refl _) _).trans (hb2.mono (by simp))⟩
  | false =>
    go_enter Tryz.func64, Tryz.ntmps64
    go_wp2_with (first | (go_at_call 49; refine (within_any _ _ _ _).mono ?_; rintro e w' ⟨rfl, rfl⟩))
    go_ret
    exact ⟨ret_bool (arB_no hi).symm, (Below.refl _ _).alloc (Nat.le_refl _) _⟩
set_option maxHeartbeats 400000 in
theorem are_nil (a : Option Addr) (c : Nat) (least : Int) (X Y : Nat → Int) (r : Int) (w : World) :
    Calls Tryz.prog 64 #[.slice a 0 c, .int .i64 least, .int .i64 r] w fun e w' => e = .returned (.bool (arB 0 least X Y r)) ∧ Below w.heap.size w w' := by
  have h0 : allB 0 X Y r = true := allB_yes fun i hi => absurd hi (Nat.not_lt_zero i)
  cases hi : inB ((0 : Nat) : Int) least 4 with
  | true =>
    have hi' : inB 0 least 4 = true := hi
    go_enter Tryz.func64, Tryz.ntmps64
    go_wp2_with (first | (go_at_call 49; refine (within_any _ _ _ _).mono ?_; rintro e w' ⟨rfl, rfl⟩) | (go_at_call 108; refine (contains_nil _ _ _ _).mono ?_; rintro e w' ⟨rfl, rfl⟩))
    go_ret
    exact ⟨ret_bool (by rw [arB_yes hi, h0]), (Below.refl _ _).alloc (Nat.le_refl _) _⟩
  | false =>
    have hi' : inB 0 least 4 = false := hi
    go_enter Tryz.func64, Tryz.ntmps64
    go_wp2_with (first | (go_at_call 49; refine (within_any _ _ _ _).mono ?_; rintro e w' ⟨rfl, rfl⟩))
    go_ret
    exact ⟨ret_bool (arB_no hi).symm, (Below.refl _ _).alloc (Nat.le_refl _) _⟩
theorem are_any (v : Value) (n : Nat) (least : Int) (X Y : Nat → Int) (r : Int) (h0 : 0 ≤ r) (h1 : r ≤ 1000) (w : World) (hn : n ≤ 1000) (hp : PSl w v n X Y) :
    Calls Tryz.prog 64 #[v, .int .i64 least, .int .i64 r] w fun e w' => e = .returned (.bool (arB n least X Y r)) ∧ Below w.heap.size w w' := by
  rcases hp with ⟨a, c, rfl, rfl⟩ | ⟨b, off, cap, rfl, hb, hp⟩
  · exact are_nil a c least X Y r w
  · exact are_some b off n cap least X Y r h0 h1 w hn hp hb
end Go.Proofs.YtmjmmokbaocboaaGreatDoor
namespace Go.Proofs.YtmjmmokbaocboaaGreatDoor
open Go.RowKit
/-- a point turned k quarters -/
def rot : Nat → Int × Int → Int × Int
  | 0, p => p
  | k+1, p => (-(rot k p).2, (rot k p).1)
def small (p : Int × Int) : Prop := (-80 ≤ p.1 ∧ p.1 ≤ 80) ∧ -80 ≤ p.2 ∧ p.2 ≤ 80
theorem assert_plain (n : Int) (w : World) : (Instr.typeAssert (.iface 195 (.int .i64 n)) 134 196 true).run Tryz.prog w = .ok (.tuple #[.int .i64 0, .bool false]) w := by kernel_rfl
theorem assert_mirrored (n : Int) (w : World) : (Instr.typeAssert (.iface 196 (.int .i64 n)) 134 196 true).run Tryz.prog w = .ok (.tuple #[.int .i64 n, .bool true]) w := by kernel_rfl
theorem method_plain (n : Int) (w : World) : (method 409 195 (.int .i64 n) "nacre/drill.quarters").run Tryz.prog w = .ok (219, .int .i64 n) w := by kernel_rfl
theorem method_mirrored (n : Int) (w : World) : (method 409 196 (.int .i64 n) "nacre/drill.quarters").run Tryz.prog w = .ok (220, .int .i64 n) w := by kernel_rfl
theorem ret_agg {a b c d : Int} (h1 : a = c) (h2 : b = d) : Ending.returned (.agg #[.int .i64 a, .int .i64 b]) = .returned (.agg #[.int .i64 c, .int .i64 d]) := by rw [h1, h2]
set_option maxRecDepth 100000 in
set_option maxHeartbeats 400000 in
theorem turned_plain0 (x y : Int) (hx1 : -80 ≤ x) (hx2 : x ≤ 80) (hy1 : -80 ≤ y) (hy2 : y ≤ 80) (w : World) :
    Calls Tryz.prog 75 #[.agg #[.int .i64 x, .int .i64 y], .iface 195 (.int .i64 0)] w fun e w' => e = .returned (.agg #[.int .i64 (rot 0 (x, y)).1, .int .i64 (rot 0 (x, y)).2]) ∧ Below w.heap.size w w' := by
  have ha := assert_plain
  have hm := method_plain
  go_enter Tryz.func75, Tryz.ntmps75
  go_wp2_with (go_at_call 219; refine (plain_any _ _).mono ?_; rintro e w' ⟨rfl, rfl⟩)
  refine wp_loop_rounds 1 ?_
  rw [rounds_succ]
  go_wp2
  refine bodyPost_ret (v := .agg #[.int .i64 (x), .int .i64 (y)]) (by simp [results, Tryz.results75, go_sem]) rfl ⟨ret_agg (by simp [rot]) (by simp [rot]), ?_⟩
  exact ((Below.refl _ _).alloc (Nat.le_refl _) _).alloc (by simp) _
set_option maxRecDepth 100000 in
set_option maxHeartbeats 400000 in
theorem turned_plain1 (x y : Int) (hx1 : -80 ≤ x) (hx2 : x ≤ 80) (hy1 : -80 ≤ y) (hy2 : y ≤ 80) (w : World) :
    Calls Tryz.prog 75 #[.agg #[.int .i64 x, .int .i64 y], .iface 195 (.int .i64 1)] w fun e w' => e = .returned (.agg #[.int .i64 (rot 1 (x, y)).1, .int .i64 (rot 1 (x, y)).2]) ∧ Below w.heap.size w w' := by
  have ha := assert_plain
  have hm := method_plain
  go_enter Tryz.func75, Tryz.ntmps75
  go_wp2_with (go_at_call 219; refine (plain_any _ _).mono ?_; rintro e w' ⟨rfl, rfl⟩)
  refine wp_loop_rounds 2 ?_
  rw [rounds_succ]
  go_wp2
  rw [rounds_succ]
  go_wp2
  refine bodyPost_ret (v := .agg #[.int .i64 (-y), .int .i64 (x)]) (by simp [results, Tryz.results75, go_sem]) rfl ⟨ret_agg (by simp [rot]) (by simp [rot]), ?_⟩
  exact ((Below.refl _ _).alloc (Nat.le_refl _) _).alloc (by simp) _
set_option maxRecDepth 100000 in
set_option maxHeartbeats 400000 in
theorem turned_plain2 (x y : Int) (hx1 : -80 ≤ x) (hx2 : x ≤ 80) (hy1 : -80 ≤ y) (hy2 : y ≤ 80) (w : World) :
    Calls Tryz.prog 75 #[.agg #[.int .i64 x, .int .i64 y], .iface 195 (.int .i64 2)] w fun e w' => e = .returned (.agg #[.int .i64 (rot 2 (x, y)).1, .int .i64 (rot 2 (x, y)).2]) ∧ Below w.heap.size w w' := by
  have ha := assert_plain
  have hm := method_plain
  go_enter Tryz.func75, Tryz.ntmps75
  go_wp2_with (go_at_call 219; refine (plain_any _ _).mono ?_; rintro e w' ⟨rfl, rfl⟩)
  refine wp_loop_rounds 3 ?_
  rw [rounds_succ]
  go_wp2
  rw [rounds_succ]
  go_wp2
  rw [rounds_succ]
  go_wp2
  refine bodyPost_ret (v := .agg #[.int .i64 (-x), .int .i64 (-y)]) (by simp [results, Tryz.results75, go_sem]) rfl ⟨ret_agg (by simp [rot]) (by simp [rot]), ?_⟩
  exact ((Below.refl _ _).alloc (Nat.le_refl _) _).alloc (by simp) _
set_option maxRecDepth 100000 in
set_option maxHeartbeats 400000 in
theorem turned_plain3 (x y : Int) (hx1 : -80 ≤ x) (hx2 : x ≤ 80) (hy1 : -80 ≤ y) (hy2 : y ≤ 80) (w : World) :
    Calls Tryz.prog 75 #[.agg #[.int .i64 x, .int .i64 y], .iface 195 (.int .i64 3)] w fun e w' => e = .returned (.agg #[.int .i64 (rot 3 (x, y)).1, .int .i64 (rot 3 (x, y)).2]) ∧ Below w.heap.size w w' := by
  have ha := assert_plain
  have hm := method_plain
  go_enter Tryz.func75, Tryz.ntmps75
  go_wp2_with (go_at_call 219; refine (plain_any _ _).mono ?_; rintro e w' ⟨rfl, rfl⟩)
  refine wp_loop_rounds 4 ?_
  rw [rounds_succ]
  go_wp2
  rw [rounds_succ]
  go_wp2
  rw [rounds_succ]
  go_wp2
  rw [rounds_succ]
  go_wp2
  refine bodyPost_ret (v := .agg #[.int .i64 (y), .int .i64 (-x)]) (by simp [results, Tryz.results75, go_sem]) rfl ⟨ret_agg (by simp [rot]) (by simp [rot]), ?_⟩
  exact ((Below.refl _ _).alloc (Nat.le_refl _) _).alloc (by simp) _
set_option maxRecDepth 100000 in
set_option maxHeartbeats 400000 in
theorem turned_mirrored0 (x y : Int) (hx1 : -80 ≤ x) (hx2 : x ≤ 80) (hy1 : -80 ≤ y) (hy2 : y ≤ 80) (w : World) :
    Calls Tryz.prog 75 #[.agg #[.int .i64 x, .int .i64 y], .iface 196 (.int .i64 0)] w fun e w' => e = .returned (.agg #[.int .i64 (rot 0 (-x, y)).1, .int .i64 (rot 0 (-x, y)).2]) ∧ Below w.heap.size w w' := by
  have ha := assert_mirrored
  have hm := method_mirrored
  go_enter Tryz.func75, Tryz.ntmps75
  go_wp2_with (go_at_call 220; refine (mirrored_any _ _).mono ?_; rintro e w' ⟨rfl, rfl⟩)
  refine wp_loop_rounds 1 ?_
  rw [rounds_succ]
  go_wp2
  refine bodyPost_ret (v := .agg #[.int .i64 (-x), .int .i64 (y)]) (by simp [results, Tryz.results75, go_sem]) rfl ⟨ret_agg (by simp [rot]) (by simp [rot]), ?_⟩
  exact ((Below.refl _ _).alloc (Nat.le_refl _) _).alloc (by simp) _
set_option maxRecDepth 100000 in
set_option maxHeartbeats 400000 in
theorem turned_mirrored1 (x y : Int) (hx1 : -80 ≤ x) (hx2 : x ≤ 80) (hy1 : -80 ≤ y) (hy2 : y ≤ 80) (w : World) :
    Calls Tryz.prog 75 #[.agg #[.int .i64 x, .int .i64 y], .iface 196 (.int .i64 1)] w fun e w' => e = .returned (.agg #[.int .i64 (rot 1 (-x, y)).1, .int .i64 (rot 1 (-x, y)).2]) ∧ Below w.heap.size w w' := by
  have ha := assert_mirrored
  have hm := method_mirrored
  go_enter Tryz.func75, Tryz.ntmps75
  go_wp2_with (go_at_call 220; refine (mirrored_any _ _).mono ?_; rintro e w' ⟨rfl, rfl⟩)
  refine wp_loop_rounds 2 ?_
  rw [rounds_succ]
  go_wp2
  rw [rounds_succ]
  go_wp2
  refine bodyPost_ret (v := .agg #[.int .i64 (-y), .int .i64 (-x)]) (by simp [results, Tryz.results75, go_sem]) rfl ⟨ret_agg (by simp [rot]) (by simp [rot]), ?_⟩
  exact ((Below.refl _ _).alloc (Nat.le_refl _) _).alloc (by simp) _
set_option maxRecDepth 100000 in
set_option maxHeartbeats 400000 in
theorem turned_mirrored2 (x y : Int) (hx1 : -80 ≤ x) (hx2 : x ≤ 80) (hy1 : -80 ≤ y) (hy2 : y ≤ 80) (w : World) :
    Calls Tryz.prog 75 #[.agg #[.int .i64 x, .int .i64 y], .iface 196 (.int .i64 2)] w fun e w' => e = .returned (.agg #[.int .i64 (rot 2 (-x, y)).1, .int .i64 (rot 2 (-x, y)).2]) ∧ Below w.heap.size w w' := by
  have ha := assert_mirrored
  have hm := method_mirrored
  go_enter Tryz.func75, Tryz.ntmps75
  go_wp2_with (go_at_call 220; refine (mirrored_any _ _).mono ?_; rintro e w' ⟨rfl, rfl⟩)
  refine wp_loop_rounds 3 ?_
  rw [rounds_succ]
  go_wp2
  rw [rounds_succ]
  go_wp2
  rw [rounds_succ]
  go_wp2
  refine bodyPost_ret (v := .agg #[.int .i64 (x), .int .i64 (-y)]) (by simp [results, Tryz.results75, go_sem]) rfl ⟨ret_agg (by simp [rot]) (by simp [rot]), ?_⟩
  exact ((Below.refl _ _).alloc (Nat.le_refl _) _).alloc (by simp) _
set_option maxRecDepth 100000 in
set_option maxHeartbeats 400000 in
theorem turned_mirrored3 (x y : Int) (hx1 : -80 ≤ x) (hx2 : x ≤ 80) (hy1 : -80 ≤ y) (hy2 : y ≤ 80) (w : World) :
    Calls Tryz.prog 75 #[.agg #[.int .i64 x, .int .i64 y], .iface 196 (.int .i64 3)] w fun e w' => e = .returned (.agg #[.int .i64 (rot 3 (-x, y)).1, .int .i64 (rot 3 (-x, y)).2]) ∧ Below w.heap.size w w' := by
  have ha := assert_mirrored
  have hm := method_mirrored
  go_enter Tryz.func75, Tryz.ntmps75
  go_wp2_with (go_at_call 220; refine (mirrored_any _ _).mono ?_; rintro e w' ⟨rfl, rfl⟩)
  refine wp_loop_rounds 4 ?_
  rw [rounds_succ]
  go_wp2
  rw [rounds_succ]
  go_wp2
  rw [rounds_succ]
  go_wp2
  rw [rounds_succ]
  go_wp2
  refine bodyPost_ret (v := .agg #[.int .i64 (y), .int .i64 (x)]) (by simp [results, Tryz.results75, go_sem]) rfl ⟨ret_agg (by simp [rot]) (by simp [rot]), ?_⟩
  exact ((Below.refl _ _).alloc (Nat.le_refl _) _).alloc (by simp) _
end Go.Proofs.YtmjmmokbaocboaaGreatDoor
namespace Go.Proofs.YtmjmmokbaocboaaGreatDoor
open Go.RowKit
/-- a point turned by the turn of that number -/
def trn (t : Nat) (p : Int × Int) : Int × Int := if t < 4 then rot t p else rot (t - 4) (-p.1, p.2)
/-- the value of the turn of that number -/
def tval (t : Nat) : Value := if t < 4 then .iface 195 (.int .i64 t) else .iface 196 (.int .i64 (t - 4))
theorem turned_any (t : Nat) (ht : t < 8) (x y : Int) (hx1 : -80 ≤ x) (hx2 : x ≤ 80) (hy1 : -80 ≤ y) (hy2 : y ≤ 80) (w : World) :
    Calls Tryz.prog 75 #[.agg #[.int .i64 x, .int .i64 y], tval t] w fun e w' => e = .returned (.agg #[.int .i64 (trn t (x, y)).1, .int .i64 (trn t (x, y)).2]) ∧ Below w.heap.size w w' := by
  match t, ht with
  | 0, _ => exact turned_plain0 x y hx1 hx2 hy1 hy2 w
  | 1, _ => exact turned_plain1 x y hx1 hx2 hy1 hy2 w
  | 2, _ => exact turned_plain2 x y hx1 hx2 hy1 hy2 w
  | 3, _ => exact turned_plain3 x y hx1 hx2 hy1 hy2 w
  | 4, _ => exact turned_mirrored0 x y hx1 hx2 hy1 hy2 w
  | 5, _ => exact turned_mirrored1 x y hx1 hx2 hy1 hy2 w
  | 6, _ => exact turned_mirrored2 x y hx1 hx2 hy1 hy2 w
  | 7, _ => exact turned_mirrored3 x y hx1 hx2 hy1 hy2 w
  | n+8, h => omega
theorem turnOf_any (t : Nat) (ht : t < 8) (w : World) :
    Calls Tryz.prog 74 #[.int .i64 t] w fun e w' => e = .returned (tval t) ∧ w = w' := by
  by_cases h : t < 4
  · unfold tval; rw [if_pos h]; exact turnOf_lo _ (by omega) (by omega) w
  · unfold tval; rw [if_neg h]; exact turnOf_hi _ (by omega) (by omega) w
end Go.Proofs.YtmjmmokbaocboaaGreatDoor
namespace Go.Proofs.YtmjmmokbaocboaaGreatDoor
open Go.RowKit
def ptsCells (f : Nat → Int × Int) : Nat → List Value
  | 0 => []
  | k+1 => ptsCells f k ++ [.int .i64 (f k).1, .int .i64 (f k).2]
theorem ownsRow_below {w w' : World} {B : Nat} {e : TypeId} {size : Nat} {v : Value} {n : Nat} {xs : List Value} (h : w.ownsRow B e size v n xs) (hb : Below w.heap.size w w') : w'.ownsRow B e size v n xs := by
  obtain ⟨h1, h2⟩ := h
  refine ⟨h1, ?_⟩
  rcases h2 with h2 | ⟨g, cap, cur, a1, a2, a3, a4⟩
  · exact .inl h2
  · have hg : g < w.heap.size := (Array.getElem?_eq_some_iff.1 a3).1
    exact .inr ⟨g, cap, cur, a1, a2, by rw [hb.block g hg]; exact a3, a4⟩
theorem cells_two (w : World) (a b : Value) (e : TypeId) : ∀ (j : Nat) (u : Value), [a, b][j]? = some u → (w.alloc (Obj.cells #[a, b] e)).cell? ((⟨w.heap.size, 0, none⟩ : Addr).add j) = some u := by
  intro j u h
  match j, h with
  | 0, h => simp at h; subst h; simp [go_sem, Addr.add]
  | 1, h => simp at h; subst h; simp [go_sem, Addr.add]
  | n+2, h => simp at h
theorem Tryz.info74 : (Tryz.prog.info? 74).map (fun i => (i.zero, i.size, i.bytes)) = some (some (.agg #[.int .i64 0, .int .i64 0]), 2, 16) := by kernel_rfl
end Go.Proofs.YtmjmmokbaocboaaGreatDoor
namespace Go.Proofs
open Go.Maps Go.WideElems Go.ChangeMaps Go.MapKept Go.RowKit
/-- a point as a map's key. -/
abbrev ptV (x y : Int) : Value := .agg #[.int .i64 x, .int .i64 y]
/-- what a type of maps from points to bools has. -/
structure PtMap (P : Program) (t k e : TypeId) : Prop where
  K : Keyed P k
  ht : P.underlying t = some (.map k e)
  he : P.underlying e = some .bool
  hz : ∀ w, (zeroValue e).run P w = .ok (.bool false) w
  key : ∀ x y : Int, (Lit.int .i64 x).wf = true → (Lit.int .i64 y).wf = true → ∃ kl, keyOf P k (ptV x y) = some kl
/-- a map of at most so many entries, each of which says of a point what Q says. -/
def GoodMap (P : Program) (k e : TypeId) (w : World) (b n : Nat) (Q : Int → Int → Bool) : Prop :=
  ∃ es clock, w.heap[b]? = some (.map es clock) ∧ Fit P k (plainElem (H := Unit) P e) es clock ∧ es.size ≤ n ∧ ∀ x ∈ es.toList, ∃ a c : Int, x.key = ptV a c ∧ x.val = .bool (Q a c)
variable {P : Program} {t k e : TypeId} {w : World} {b n : Nat} {Q : Int → Int → Bool}
theorem GoodMap.made (P : Program) (k e : TypeId) (Q : Int → Int → Bool) (w : World) : GoodMap P k e (w.alloc (.map #[] 0)) w.heap.size 0 Q :=
  ⟨#[], 0, (MapKept.heap_alloc w _).1, ⟨by simp, stamped_empty 0, by simp⟩, Nat.le_refl _, by simp⟩
theorem GoodMap.lt (h : GoodMap P k e w b n Q) : b < w.heap.size := by
  obtain ⟨es, clock, hb, _⟩ := h
  exact (Array.getElem?_eq_some_iff.1 hb).1
theorem GoodMap.far {w' : World} (h : GoodMap P k e w b n Q) (hh : w'.heap[b]? = w.heap[b]?) : GoodMap P k e w' b n Q := by
  obtain ⟨es, clock, hb, r⟩ := h
  exact ⟨es, clock, hh.trans hb, r⟩
theorem GoodMap.kept {w' : World} {row : Option Nat} (h : GoodMap P k e w b n Q) (hg : w.grownBy w' row) (hne : some b ≠ row) : GoodMap P k e w' b n Q := h.far (hg.block b h.lt hne)
theorem GoodMap.below {w' : World} {B : Nat} (h : GoodMap P k e w b n Q) (hb : Below B w w') (hl : b < B) : GoodMap P k e w' b n Q := h.far (hb.block b hl)
theorem GoodMap.mono {m : Nat} (h : GoodMap P k e w b n Q) (hm : n ≤ m) : GoodMap P k e w b m Q := by
  obtain ⟨es, clock, h1, h2, h3, h4⟩ := h
  exact ⟨es, clock, h1, h2, Nat.le_trans h3 hm, h4⟩
theorem GoodMap.look (hp : PtMap P t k e) (h : GoodMap P k e w b n Q) {x y : Int} (hx : (Lit.int .i64 x).wf = true) (hy : (Lit.int .i64 y).wf = true) :
    ∃ f : Bool, (Instr.lookup t (.map (some b)) (ptV x y) true).run P w = .ok (.tuple #[.bool (f && Q x y), .bool f]) w := by
  obtain ⟨es, clock, hb, F, _, hall⟩ := h
  obtain ⟨kl, hkey⟩ := hp.key x y hx hy
  rcases Maps.fit_look true hp.K hp.ht (hp.hz w) hb F hkey with ⟨hrun, _⟩ | ⟨e0, y0, hm, hk0, hrun, _⟩
  · exact ⟨false, hrun⟩
  · obtain ⟨a, c, h1, h2⟩ := hall e0 hm
    rw [hk0] at h1
    cases h1
    exact ⟨true, by rw [hrun, h2]; rfl⟩
theorem GoodMap.store (hp : PtMap P t k e) (h : GoodMap P k e w b n Q) (hn : n < maxLen) {x y : Int} (hx : (Lit.int .i64 x).wf = true) (hy : (Lit.int .i64 y).wf = true) :
    ∃ w', (Instr.mapUpdate t (.map (some b)) (ptV x y) (.bool (Q x y))).run P w = .ok () w' ∧ GoodMap P k e w' b (n + 1) Q ∧ w.grownBy w' (some b) := by
  obtain ⟨es, clock, hb, F, hs, hall⟩ := h
  obtain ⟨kl, hkey⟩ := hp.key x y hx hy
  obtain ⟨es', clock', hrun, F', hput, _, _, hwho⟩ := Maps.fit_store (R' := plainElem (H := Unit) P e) hp.K hp.ht hb F (Nat.lt_of_le_of_lt hs hn) (fun _ _ _ _ hz => hz) hkey (plainElem_bool hp.he (Q x y))
  refine ⟨_, hrun, ⟨es', clock', heap_setBlock_same hb _, F', ?_, ?_⟩, ⟨rfl, rfl, rfl, by simp [setBlock], fun i _ hi => heap_setBlock_other hb _ (fun e => hi (by rw [e]))⟩⟩
  · have e1 : es'.size = ((es'.toList.map (rg P k (plainElem (H := Unit) P e))).foldr DataW.insert []).length := by rw [length_sorted]; simp
    rw [e1, hput]
    unfold putKey
    rw [length_insert]
    have e2 := List.length_filter_le (notKey kl) ((es.toList.map (rg P k (plainElem (H := Unit) P e))).foldr DataW.insert [])
    rw [length_sorted] at e2
    simp at e2
    omega
  · intro x' hx'
    rcases hwho x' hx' with ⟨h1, _⟩ | ⟨h1, h2⟩
    · exact hall x' h1
    · exact ⟨x, y, h1, h2⟩
/-- the look-up with ok at its operation. -/
theorem wpList_lookup_good {ops : Array Oper} {rest : List Oper} {o : Oper} {a : Act} {R : Exit → Act → World → Prop} (w : World)
    (hg : o.guard = none) (m x : Operand) (t : TypeId) (hop : o.op = Op.lookup t m x true) (hp : PtMap P t k e)
    (hm : a.eval m = .map (some b)) (h : GoodMap P k e w b n Q) (px py : Int) (hx : a.eval x = ptV px py) (wx : (Lit.int .i64 px).wf = true) (wy : (Lit.int .i64 py).wf = true)
    (hK : ∀ f : Bool, wpList P ops R rest (a.put o.dst (.tuple #[.bool (f && Q px py), .bool f])) w) : wpList P ops R (o :: rest) a w := by
  refine wpList_plain hg fun K' hK' => ?_
  obtain ⟨f, hrun⟩ := h.look hp wx wy
  unfold Oper.wp
  simp [execOp, hop, hm, hx, hrun, Result.andThen]
  exact hK' _ _ (hK f)
/-- the store at its operation. -/
theorem wpList_mapUpdate_good {ops : Array Oper} {rest : List Oper} {o : Oper} {a : Act} {R : Exit → Act → World → Prop} (w : World)
    (hg : o.guard = none) (m x v : Operand) (t : TypeId) (hop : o.op = Op.mapUpdate t m x v) (hp : PtMap P t k e)
    (hm : a.eval m = .map (some b)) (h : GoodMap P k e w b n Q) (hn : n < maxLen) (px py : Int) (hx : a.eval x = ptV px py) (hv : a.eval v = .bool (Q px py)) (wx : (Lit.int .i64 px).wf = true) (wy : (Lit.int .i64 py).wf = true)
    (hK : ∀ w', GoodMap P k e w' b (n + 1) Q → w.grownBy w' (some b) → wpList P ops R rest (a.put o.dst undef) w') : wpList P ops R (o :: rest) a w := by
  refine wpList_plain hg fun K' hK' => ?_
  obtain ⟨w', hrun, r1, r2⟩ := h.store hp hn wx wy
  unfold Oper.wp
  simp [execOp, hop, hm, hx, hv, hrun, Result.andThen]
  exact hK' _ _ (hK w' r1 r2)
end Go.Proofs
