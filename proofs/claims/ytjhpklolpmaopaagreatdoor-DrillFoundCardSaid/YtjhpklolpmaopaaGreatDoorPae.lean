/- A part of the proof: see the last file. -/
import Derived.Test.YtjhpklolpmaopaaGreatDoorPad
import Derived.Test.YtjhpklolpmaopaaGreatDoorPab
set_option linter.unusedVariables false
set_option linter.unusedSimpArgs false
set_option linter.unusedSectionVars false
namespace Go.Proofs.YtjhpklolpmaopaaGreatDoor
open Go.RowKit
end Go.Proofs.YtjhpklolpmaopaaGreatDoor
namespace Go.Proofs.YtjhpklolpmaopaaGreatDoor
open Go.RowKit
end Go.Proofs.YtjhpklolpmaopaaGreatDoor
namespace Go.Proofs.YtjhpklolpmaopaaGreatDoor
open Go.RowKit
/-- a span between two numbers, not too wide. -/
def spanR (L H lo hi wide : Int) : Bool := decide (lo ≤ L ∧ L ≤ H ∧ H ≤ hi ∧ H - L ≤ wide)
theorem spanR_no {L H lo hi wide : Int} (h : ¬ (lo ≤ L ∧ L ≤ H ∧ H ≤ hi ∧ H - L ≤ wide)) : spanR L H lo hi wide = false := decide_eq_false h
theorem spanR_yes {L H lo hi wide : Int} (h : lo ≤ L ∧ L ≤ H ∧ H ≤ hi ∧ H - L ≤ wide) : spanR L H lo hi wide = true := decide_eq_true h
theorem spanR_iff {L H lo hi wide : Int} : spanR L H lo hi wide = true ↔ (lo ≤ L ∧ L ≤ H ∧ H ≤ hi ∧ H - L ≤ wide) := decide_eq_true_iff
set_option maxRecDepth 100000 in
set_option maxHeartbeats 400000 in
theorem rspan_any (L H lo hi wide : Int) (h1 : -1000 ≤ lo) (h2 : hi ≤ 1000) (w : World) :
  Calls Tryz.prog 26 #[.agg #[.int .i64 L, .int .i64 H], .int .i64 lo, .int .i64 hi, .int .i64 wide] w fun e w' => e = .returned (.bool (spanR L H lo hi wide)) ∧ Below w.heap.size w w' := by
 by_cases c1 : lo ≤ L
 ·by_cases c2 : L ≤ H
  ·by_cases c3 : H ≤ hi
   ·by_cases c4 : H - L ≤ wide
    ·rw [spanR_yes ⟨c1, c2, c3, c4⟩]
     go_enter Tryz.func26, Tryz.ntmps26
     go_wp2
     go_ret
     exact ⟨rfl, (Below.refl _ _).alloc (Nat.le_refl _) _⟩
    ·rw [spanR_no fun h => c4 h.2.2.2]
     go_enter Tryz.func26, Tryz.ntmps26
     go_wp2
     go_ret
     exact ⟨rfl, (Below.refl _ _).alloc (Nat.le_refl _) _⟩
   ·rw [spanR_no fun h => c3 h.2.2.1]
    go_enter Tryz.func26, Tryz.ntmps26
    go_wp2
    go_ret
    exact ⟨rfl, (Below.refl _ _).alloc (Nat.le_refl _) _⟩
  ·rw [spanR_no fun h => c2 h.2.1]
   go_enter Tryz.func26, Tryz.ntmps26
   go_wp2
   go_ret
   exact ⟨rfl, (Below.refl _ _).alloc (Nat.le_refl _) _⟩
 ·rw [spanR_no fun h => c1 h.1]
  go_enter Tryz.func26, Tryz.ntmps26
  go_wp2
  go_ret
  exact ⟨rfl, (Below.refl _ _).alloc (Nat.le_refl _) _⟩
set_option maxRecDepth 100000 in
set_option maxHeartbeats 400000 in
theorem isSpan_any (L H reach wide : Int) (h1 : 0 ≤ reach) (h2 : reach ≤ 1000) (w : World) :
  Calls Tryz.prog 82 #[.agg #[.int .i64 L, .int .i64 H], .int .i64 reach, .int .i64 wide] w fun e w' => e = .returned (.bool (spanR L H (-reach) reach wide)) ∧ Below w.heap.size w w' := by
 cases c1 : inB L (-reach) reach with
 | true =>
  obtain ⟨d1, d2⟩ := inB_iff.1 c1
  cases c2 : inB H L reach with
  | true =>
   obtain ⟨d3, d4⟩ := inB_iff.1 c2
   by_cases c4 : H - L ≤ wide
   ·rw [spanR_yes ⟨d1, d3, d4, c4⟩]
    go_enter Tryz.func82, Tryz.ntmps82
    go_wp2_with (go_at_call 49; refine (within_any _ _ _ _).mono ?_; rintro e w' ⟨rfl, rfl⟩)
    go_ret
    exact ⟨rfl, (Below.refl _ _).alloc (Nat.le_refl _) _⟩
   ·rw [spanR_no fun h => c4 h.2.2.2]
    go_enter Tryz.func82, Tryz.ntmps82
    go_wp2_with (go_at_call 49; refine (within_any _ _ _ _).mono ?_; rintro e w' ⟨rfl, rfl⟩)
    go_ret
    exact ⟨ret_bool (decide_eq_false (by omega)), (Below.refl _ _).alloc (Nat.le_refl _) _⟩
  | false =>
   rw [spanR_no fun h => by rw [inB_yes h.2.1 h.2.2.1] at c2; cases c2]
   go_enter Tryz.func82, Tryz.ntmps82
   go_wp2_with (go_at_call 49; refine (within_any _ _ _ _).mono ?_; rintro e w' ⟨rfl, rfl⟩)
   go_ret
   exact ⟨rfl, (Below.refl _ _).alloc (Nat.le_refl _) _⟩
 | false =>
  rw [spanR_no fun h => by rw [inB_yes h.1 (by omega)] at c1; cases c1]
  go_enter Tryz.func82, Tryz.ntmps82
  go_wp2_with (go_at_call 49; refine (within_any _ _ _ _).mono ?_; rintro e w' ⟨rfl, rfl⟩)
  go_ret
  exact ⟨rfl, (Below.refl _ _).alloc (Nat.le_refl _) _⟩
set_option maxRecDepth 100000 in
set_option maxHeartbeats 400000 in
theorem rblank_any (n from_ : Int) (w : World) :
  Calls Tryz.prog 9 #[.int .i64 n, .int .i64 from_] w fun e w' => e = .returned (.bool (inB n from_ 12)) ∧ w = w' := by
 go_enter Tryz.func9, Tryz.ntmps9
 go_wp2_with (go_at_call 25; refine (in_any _ _ _ _).mono ?_; rintro e w' ⟨rfl, rfl⟩)
 go_ret
 exact ⟨rfl, rfl⟩
/-- the cells of a new block. -/
theorem cells_new (w : World) (l : Array Value) (e : TypeId) {j : Nat} {u : Value} (h : l[j]? = some u) : (w.alloc (Obj.cells l e)).cell? ⟨w.heap.size, j, none⟩ = some u := by
 have h1 : (w.alloc (Obj.cells l e)).heap[w.heap.size]? = some (Obj.cells l e (0, 0)) := World.alloc_heap_new w _
 unfold World.cell?
 rw [h1]
 exact h
/-- a reading as defined. -/
def readB (B X Y E : Int) : Bool := inB B 0 12 && (ptB X Y 80 && inB E 0 4)
set_option maxRecDepth 100000 in
set_option maxHeartbeats 1000000 in
theorem isReading_any (B X Y E : Int) (w : World) :
  Calls Tryz.prog 85 #[.agg #[.int .i64 B, .int .i64 X, .int .i64 Y, .int .i64 E]] w fun e w' => e = .returned (.bool (readB B X Y E)) ∧ Below w.heap.size w w' := by
 unfold readB
 obtain ⟨w0, hw⟩ : ∃ w0, w.alloc (.cells #[.int .i64 B, .int .i64 X, .int .i64 Y, .int .i64 E] 60) = w0 := ⟨_, rfl⟩
 have hw0 : Below w.heap.size w w0 := by rw [← hw]; exact (Below.refl _ _).alloc (Nat.le_refl _) _
 have hsz : w0.heap.size = w.heap.size + 1 := by rw [← hw]; exact World.size_alloc _ _
 have k0 : w0.cell? ⟨w.heap.size, 0, none⟩ = some (.int .i64 B) := by rw [← hw]; exact cells_new w _ _ rfl
 have k1 : w0.cell? ⟨w.heap.size, 1, none⟩ = some (.int .i64 X) := by rw [← hw]; exact cells_new w _ _ rfl
 have k2 : w0.cell? ⟨w.heap.size, 2, none⟩ = some (.int .i64 Y) := by rw [← hw]; exact cells_new w _ _ rfl
 have k3 : w0.cell? ⟨w.heap.size, 3, none⟩ = some (.int .i64 E) := by rw [← hw]; exact cells_new w _ _ rfl
 cases c1 : inB B 0 12 <;> cases c2 : ptB X Y 80 <;> cases c3 : inB E 0 4
 all_goals
  go_enter Tryz.func85, Tryz.ntmps85
  go_wp2_with (first
   | (go_at_call 49; refine (within_any _ _ _ _).mono ?_; (first | rw [c1] | rw [c3]); rintro e w' ⟨rfl, rfl⟩)
   | (go_at_call 105; refine (isPoint_any _ _ _ (by omega) (by omega) _).mono ?_; rw [c2]; rintro e w' ⟨rfl, hb⟩; have hB := ((Below.refl w0.heap.size w0).alloc (Nat.le_refl _) (Obj.cells #[.int .i64 X, .int .i64 Y] 43)).trans (hb.mono (by simp)); have k3' := (hB.cell (p := ⟨w.heap.size, 3, none⟩) (by show w.heap.size < _; omega)).trans k3))
  go_ret
  first
   | exact ⟨rfl, hw0.trans (hB.mono hw0.size)⟩
   | exact ⟨rfl, hw0.trans (((Below.refl w0.heap.size w0).alloc (Nat.le_refl _) _).mono hw0.size)⟩
end Go.Proofs.YtjhpklolpmaopaaGreatDoor
namespace Go.Proofs.YtjhpklolpmaopaaGreatDoor
open Go.RowKit
/-! ### What is found, by a list of all orders -/
/-- all ways to go on from p by d more, none twice, in order. -/
def ext (many : Nat) : Nat → List Nat → List (List Nat)
 | 0, p => [p]
 | d+1, p => (List.range many).flatMap fun j => if p.contains j then [] else ext many d (p ++ [j])
/-- from the place a on, d places fit. -/
def fitsA (fit : Nat → Nat → Bool) (q : List Nat) (a : Nat) : Nat → Bool
 | 0 => true
 | d+1 => fit a (q.getD a 0) && fitsA fit q (a+1) d
theorem ext_pre {many : Nat} : ∀ {d : Nat} {p q : List Nat}, q ∈ ext many d p → ∃ s, q = p ++ s ∧ s.length = d
 | 0, p, q, h => by simp [ext] at h; exact ⟨[], by simp [h], rfl⟩
 | d+1, p, q, h => by
  simp only [ext, List.mem_flatMap] at h
  obtain ⟨j, _, hj⟩ := h
  split at hj
  ·cases hj
  ·obtain ⟨s, h1, h2⟩ := ext_pre hj
   exact ⟨j :: s, by simp [h1], by simp [h2]⟩
theorem ext_at {many d : Nat} {p q : List Nat} {j : Nat} (h : q ∈ ext many d (p ++ [j])) : q.getD p.length 0 = j := by
 obtain ⟨s, rfl, _⟩ := ext_pre h
 simp [List.getD]
theorem find_flat {α β : Type} {P : β → Bool} {f : α → List β} : ∀ {l : List α}, (l.flatMap f).find? P = l.findSome? fun a => (f a).find? P
 | [] => rfl
 | a :: l => by
  rw [List.flatMap_cons, List.find?_append, List.findSome?_cons, find_flat (l := l)]
  cases (f a).find? P <;> rfl
theorem scan_some {f : Nat → Option (List Nat)} : ∀ {m j : Nat}, scan f j m = (List.range' j m).findSome? f
 | 0, j => rfl
 | m+1, j => by
  rw [List.range'_succ, List.findSome?_cons]
  unfold scan
  rw [scan_some (m := m)]
  cases f j <;> rfl
theorem findSome_congr {α β : Type} {f g : α → Option β} : ∀ {l : List α}, (∀ a ∈ l, f a = g a) → l.findSome? f = l.findSome? g
 | [], _ => rfl
 | a :: l, h => by
  rw [List.findSome?_cons, List.findSome?_cons, h a (by simp), findSome_congr fun b hb => h b (by simp [hb])]
theorem find_congr {α : Type} {f g : α → Bool} : ∀ {l : List α}, (∀ a ∈ l, f a = g a) → l.find? f = l.find? g
 | [], _ => rfl
 | a :: l, h => by
  rw [List.find?_cons, List.find?_cons, h a (by simp), find_congr fun b hb => h b (by simp [hb])]
theorem firstC_find {fit : Nat → Nat → Bool} {many : Nat} : ∀ {d : Nat} {p : List Nat}, firstC fit many d p = (ext many d p).find? fun q => fitsA fit q p.length d
 | 0, p => by simp [firstC, ext, fitsA]
 | d+1, p => by
  rw [firstC, scan_some, ext, find_flat, List.range_eq_range']
  refine findSome_congr fun j _ => ?_
  by_cases h1 : p.contains j = true
  ·rw [h1, if_pos rfl]; rfl
  ·have h1 : p.contains j = false := by simpa using h1
   rw [h1]
   simp only [Bool.false_or, if_false, Bool.false_eq_true]
   cases h2 : fit p.length j with
   | false =>
    simp only [Bool.not_false, if_true]
    symm
    rw [List.find?_eq_none]
    intro q hq
    simp only [fitsA]
    rw [ext_at hq, h2]; simp
   | true =>
    simp only [Bool.not_true, Bool.false_eq_true, if_false]
    rw [firstC_find (d := d)]
    refine find_congr fun q hq => ?_
    have : (p ++ [j]).length = p.length + 1 := by simp
    rw [this]
    simp only [fitsA]
    rw [ext_at hq, h2, Bool.true_and]
theorem fitsA_iff {fit : Nat → Nat → Bool} {q : List Nat} : ∀ {d a : Nat}, fitsA fit q a d = true ↔ ∀ i, a ≤ i → i < a + d → fit i (q.getD i 0) = true
 | 0, a => by simp [fitsA]; intro i h1 h2; omega
 | d+1, a => by
  simp only [fitsA, Bool.and_eq_true]
  rw [fitsA_iff]
  constructor
  ·rintro ⟨h1, h2⟩ i h3 h4
   rcases Nat.eq_or_lt_of_le h3 with rfl | h5
   ·exact h1
   ·exact h2 i h5 (by omega)
  ·intro h
   exact ⟨h a (Nat.le_refl _) (by omega), fun i h3 h4 => h i (by omega) (by omega)⟩
/-- the orders, one by one. -/
def ords (many : Nat) : List (List Nat) := ext many many []
def agQ (fit : Nat → Nat → Bool) (many : Nat) (q : List Nat) : Bool := decide (∀ i, i < many → fit i (q.getD i 0) = true)
theorem agQ_fits {fit : Nat → Nat → Bool} {many : Nat} {q : List Nat} : fitsA fit q 0 many = agQ fit many q := by
 rw [Bool.eq_iff_iff, fitsA_iff]
 unfold agQ
 rw [decide_eq_true_iff]
 exact ⟨fun h i hi => h i (Nat.zero_le _) (by omega), fun h i _ hi => h i (by omega)⟩
theorem firstC_ords {fit : Nat → Nat → Bool} {many : Nat} : firstC fit many many [] = (ords many).find? (agQ fit many) := by
 rw [firstC_find]
 exact find_congr fun q _ => agQ_fits
theorem ords2 : ords 2 = [[0,1],[1,0]] := by decide
theorem ords3 : ords 3 = [[0,1,2],[0,2,1],[1,0,2],[1,2,0],[2,0,1],[2,1,0]] := by decide
theorem ords4 : ords 4 = [[0,1,2,3],[0,1,3,2],[0,2,1,3],[0,2,3,1],[0,3,1,2],[0,3,2,1],[1,0,2,3],[1,0,3,2],[1,2,0,3],[1,2,3,0],[1,3,0,2],[1,3,2,0],[2,0,1,3],[2,0,3,1],[2,1,0,3],[2,1,3,0],[2,3,0,1],[2,3,1,0],[3,0,1,2],[3,0,2,1],[3,1,0,2],[3,1,2,0],[3,2,0,1],[3,2,1,0]] := by decide
/-! ### Which measures -/
theorem idxQ_none {f : Nat → Bool} : ∀ {m k : Nat}, idxQ f k m = -1 ↔ ∀ j, k ≤ j → j < k + m → f j = false
 | 0, k => by simp [idxQ]; intro j h1 h2; omega
 | m+1, k => by
  unfold idxQ
  constructor
  ·intro h j h1 h2
   split at h
   ·omega
   ·next hk =>
    rcases Nat.eq_or_lt_of_le h1 with rfl | h3
    ·simpa using hk
    ·exact idxQ_none.1 h j h3 (by omega)
  ·intro h
   rw [if_neg (by rw [h k (Nat.le_refl _) (by omega)]; simp), idxQ_none]
   intro j h1 h2
   exact h j (by omega) (by omega)
theorem idxQ_neg {f : Nat → Bool} : ∀ {m k : Nat}, idxQ f k m < 0 → idxQ f k m = -1
 | 0, k, _ => rfl
 | m+1, k, h => by
  unfold idxQ at h ⊢
  split at h
  ·omega
  ·next hk => rw [if_neg hk]; exact idxQ_neg h
theorem arB_pon2 {n : Nat} {least : Int} {X Y : Nat → Int} {r : Int} : arB n least X Y r = ponB n least 4 X Y r := by unfold arB ponB; exact Bool.and_comm _ _
/-! ### The turns are a group -/
theorem trn_back (s t : Nat) (hs : s < 8) (ht : t < 8) : ∃ t', t' < 8 ∧ ∀ p : Int × Int, trn t' (trn s p) = trn t p := by
 have hh : ∀ k, k < 4 → ∀ p, ∃ q, rot k p = q := fun k _ p => ⟨_, rfl⟩
 let k := s % 4
 let m' := if s < 4 then t / 4 else 1 - t / 4
 refine ⟨4 * m' + (if m' = 0 then (t % 4 + 4 - k) % 4 else (t % 4 + k) % 4), ?_, ?_⟩
 ·show 4 * (if s < 4 then t / 4 else 1 - t / 4) + _ < 8
  have : (if s < 4 then t / 4 else 1 - t / 4) ≤ 1 := by split <;> omega
  have h2 : (if m' = 0 then (t % 4 + 4 - k) % 4 else (t % 4 + k) % 4) < 4 := by split <;> omega
  omega
 ·rintro ⟨x, y⟩
  obtain rfl | rfl | rfl | rfl | rfl | rfl | rfl | rfl : s = 0 ∨ s = 1 ∨ s = 2 ∨ s = 3 ∨ s = 4 ∨ s = 5 ∨ s = 6 ∨ s = 7 := by omega
  all_goals
   obtain rfl | rfl | rfl | rfl | rfl | rfl | rfl | rfl : t = 0 ∨ t = 1 ∨ t = 2 ∨ t = 3 ∨ t = 4 ∨ t = 5 ∨ t = 6 ∨ t = 7 := by omega
  all_goals simp [trn, rot, k, m']
/-- points that are turned are of a measure just if they were. -/
theorem matchS_none {many : Nat} {HX HY PX PY : Nat → Int} {r : Int} : matchS many HX HY PX PY r = none ↔ ∀ t, t < 8 → ∀ q ∈ ords many, agQ (fitB HX HY PX PY r t) many q = false := by
 have key : ∀ (f : Nat → Option (List Nat)) (m j : Nat), scanP f j m = none ↔ ∀ t, j ≤ t → t < j + m → f t = none := by
  intro f m
  induction m with
  | zero => intro j; simp [scanP]; intro t h1 h2; omega
  | succ m ih =>
   intro j
   unfold scanP
   cases h : f j with
   | some q =>
    simp only [reduceCtorEq, false_iff]
    intro hh
    have := hh j (Nat.le_refl _) (by omega)
    rw [h] at this; cases this
   | none =>
    simp only []
    rw [ih]
    constructor
    ·intro hh t h1 h2
     rcases Nat.eq_or_lt_of_le h1 with rfl | h3
     ·exact h
     ·exact hh t h3 (by omega)
    ·intro hh t h1 h2
     exact hh t (by omega) (by omega)
 unfold matchS
 rw [key]
 constructor
 ·intro h t ht q hq
  have := h t (Nat.zero_le _) (by omega)
  rw [firstC_ords, List.find?_eq_none] at this
  simpa using this q hq
 ·intro h t _ ht
  rw [firstC_ords, List.find?_eq_none]
  intro q hq
  simpa using h t (by omega) q hq
end Go.Proofs.YtjhpklolpmaopaaGreatDoor
namespace Go.Proofs.YtjhpklolpmaopaaGreatDoor
open Go.RowKit
/-- one of the first n is so. -/
def anyB (P : Nat → Bool) (n : Nat) : Bool := decide (0 ≤ idxQ P 0 n)
theorem anyB_no {P : Nat → Bool} {n : Nat} : anyB P n = false ↔ ∀ i, i < n → P i = false := by
 unfold anyB
 rw [decide_eq_false_iff_not]
 constructor
 ·intro h k hk
  exact idxQ_none.1 (idxQ_neg (m := n) (k := 0) (by omega)) k (Nat.zero_le _) (by omega)
 ·intro h
  rw [idxQ_none.2 fun j _ hj => h j (by omega)]; omega
/-- readings in memory. -/
def RPts (w : World) (b off n : Nat) (B X Y E : Nat → Int) : Prop := ∀ i, i < n → w.cell? ⟨b, off + i * 4, none⟩ = some (.int .i64 (B i)) ∧ w.cell? ⟨b, off + i * 4 + 1, none⟩ = some (.int .i64 (X i)) ∧ w.cell? ⟨b, off + i * 4 + 2, none⟩ = some (.int .i64 (Y i)) ∧ w.cell? ⟨b, off + i * 4 + 3, none⟩ = some (.int .i64 (E i))
theorem RPts.below {w w' : World} {b off n : Nat} {B X Y E : Nat → Int} (h : RPts w b off n B X Y E) (hb : Below w.heap.size w w') (hl : b < w.heap.size) : RPts w' b off n B X Y E := fun i hi => by
 obtain ⟨h1, h2, h3, h4⟩ := h i hi
 exact ⟨(hb.cell (p := ⟨b, off + i * 4, none⟩) hl).trans h1, (hb.cell (p := ⟨b, off + i * 4 + 1, none⟩) hl).trans h2, (hb.cell (p := ⟨b, off + i * 4 + 2, none⟩) hl).trans h3, (hb.cell (p := ⟨b, off + i * 4 + 3, none⟩) hl).trans h4⟩
set_option maxRecDepth 100000 in
set_option maxHeartbeats 1000000 in
theorem notReading_any (B X Y E : Int) (w : World) :
  Calls Tryz.prog 84 #[.agg #[.int .i64 B, .int .i64 X, .int .i64 Y, .int .i64 E]] w fun e w' => e = .returned (.bool (!readB B X Y E)) ∧ Below w.heap.size w w' := by
 go_enter Tryz.func84, Tryz.ntmps84
 go_wp2_with (go_at_call 85; refine (isReading_any _ _ _ _ _).mono ?_; rintro e w' ⟨rfl, hb⟩)
 go_ret
 exact ⟨rfl, ((Below.refl _ _).alloc (Nat.le_refl _) _).trans (hb.mono (by simp))⟩
set_option maxRecDepth 100000 in
set_option maxHeartbeats 1000000 in
theorem notOff_any (n : Int) (w : World) :
  Calls Tryz.prog 87 #[.int .i64 n] w fun e w' => e = .returned (.bool (!inB n (-80) 80)) ∧ Below w.heap.size w w' := by
 go_enter Tryz.func87, Tryz.ntmps87
 go_wp2_with (go_at_call 49; refine (within_any _ _ _ _).mono ?_; rintro e w' ⟨rfl, rfl⟩)
 go_ret
 exact ⟨rfl, Below.refl _ _⟩
set_option maxRecDepth 100000 in
set_option maxHeartbeats 1000000 in
theorem idx_reading (b off n cap : Nat) (B X Y E : Nat → Int) (w : World) (hn : n ≤ 1000) (hb : b < w.heap.size) (hp : RPts w b off n B X Y E) :
  Calls Tryz.prog 127 #[.slice (some ⟨b, off, none⟩) n cap, .func (.func 84) #[] #[]] w fun e w' => e = .returned (.int .i64 (idxQ (fun i => !readB (B i) (X i) (Y i) (E i)) 0 n)) ∧ Below w.heap.size w w' := by
 generalize hPP : (fun i => !readB (B i) (X i) (Y i) (E i)) = PP
 have hPQ : ∀ i, (fun i => !readB (B i) (X i) (Y i) (E i)) i = PP i := fun i => by rw [hPP]
 go_enter Tryz.func127, Tryz.ntmps127
 go_wp2
 go_loopw [8] (fun i wr => ∃ k : Nat, k ≤ n ∧ i = .int .i64 k ∧ idxQ PP 0 n = idxQ PP k (n - k) ∧ Below w.heap.size w wr) (fun i _ => n - (intOf i).toNat)
 case atStart => exact ⟨0, Nat.zero_le _, rfl, rfl, Below.refl _ _⟩
 case round =>
  obtain ⟨k, hk, rfl, hall, hbl⟩ := hrel
  by_cases hlt : k < n
  ·have hk0 : (0 : Int) ≤ (k : Int) := Int.natCast_nonneg _
   have hk1 : (k : Int) < (n : Int) := by omega
   obtain ⟨e1, e2, e3, e4⟩ := hp.below hbl hb k hlt
   have hk := hPQ k
   try dsimp only at hk
   cases hpt : PP k with
   | false =>
    rw [idxQ_miss hlt hpt] at hall
    rw [hpt] at hk
    go_wp2_with (go_at_call 84; refine (notReading_any _ _ _ _ _).mono ?_; rw [hk]; rintro e w' ⟨rfl, hb2⟩)
    go_roundw
    case rel => exact ⟨k + 1, by omega, by go_num, hall, hbl.trans (hb2.mono hbl.size)⟩
    case measure => simp [intOf]; omega
   | true =>
    rw [idxQ_hit hlt hpt] at hall
    rw [hpt] at hk
    go_wp2_with (go_at_call 84; refine (notReading_any _ _ _ _ _).mono ?_; rw [hk]; rintro e w' ⟨rfl, hb2⟩)
    go_ret
    exact ⟨by rw [hall]; rfl, hbl.trans (hb2.mono hbl.size)⟩
  ·obtain rfl : n = k := by omega
   go_wp2
   go_ret
   refine ⟨?_, hbl⟩
   rw [hall, Nat.sub_self]; rfl
set_option maxRecDepth 100000 in
set_option maxHeartbeats 1000000 in
theorem idx_reading_nil (a : Option Addr) (c : Nat) (v : Value) (w : World) :
  Calls Tryz.prog 127 #[.slice a 0 c, v] w fun e w' => e = .returned (.int .i64 (-1)) ∧ w' = w := by
 go_enter Tryz.func127, Tryz.ntmps127
 go_wp2
 refine wp_loop_rounds 1 ?_
 rw [rounds_succ]
 go_wp2
 go_ret
 exact ⟨rfl, rfl⟩
set_option maxRecDepth 100000 in
set_option maxHeartbeats 1000000 in
theorem has_reading (b off n cap : Nat) (B X Y E : Nat → Int) (w : World) (hn : n ≤ 1000) (hb : b < w.heap.size) (hp : RPts w b off n B X Y E) :
  Calls Tryz.prog 83 #[.slice (some ⟨b, off, none⟩) n cap, .func (.func 84) #[] #[]] w fun e w' => e = .returned (.bool (anyB (fun i => !readB (B i) (X i) (Y i) (E i)) n)) ∧ Below w.heap.size w w' := by
 have hi := idx_reading b off n cap B X Y E w hn hb hp
 unfold anyB
 generalize idxQ (fun i => !readB (B i) (X i) (Y i) (E i)) 0 n = x at hi ⊢
 go_enter Tryz.func83, Tryz.ntmps83
 go_wp2_with (go_at_call 127; refine hi.mono ?_; rintro e w' ⟨rfl, hb2⟩)
 go_ret
 exact ⟨rfl, hb2⟩
set_option maxRecDepth 100000 in
set_option maxHeartbeats 1000000 in
theorem has_reading_nil (a : Option Addr) (c : Nat) (v : Value) (w : World) :
  Calls Tryz.prog 83 #[.slice a 0 c, v] w fun e w' => e = .returned (.bool false) ∧ w' = w := by
 go_enter Tryz.func83, Tryz.ntmps83
 go_wp2_with (go_at_call 127; refine (idx_reading_nil _ _ _ _).mono ?_; rintro e w' ⟨rfl, rfl⟩)
 go_ret
 exact ⟨rfl, rfl⟩
set_option maxRecDepth 100000 in
set_option maxHeartbeats 1000000 in
theorem idx_int (b off n cap : Nat) (F : Nat → Int) (w : World) (hn : n ≤ 1000) (hb : b < w.heap.size) (hp : Ints w b off n F) :
  Calls Tryz.prog 128 #[.slice (some ⟨b, off, none⟩) n cap, .func (.func 87) #[] #[]] w fun e w' => e = .returned (.int .i64 (idxQ (fun i => !inB (F i) (-80) 80) 0 n)) ∧ Below w.heap.size w w' := by
 generalize hPP : (fun i => !inB (F i) (-80) 80) = PP
 have hPQ : ∀ i, (fun i => !inB (F i) (-80) 80) i = PP i := fun i => by rw [hPP]
 go_enter Tryz.func128, Tryz.ntmps128
 go_wp2
 go_loopw [8] (fun i wr => ∃ k : Nat, k ≤ n ∧ i = .int .i64 k ∧ idxQ PP 0 n = idxQ PP k (n - k) ∧ Below w.heap.size w wr) (fun i _ => n - (intOf i).toNat)
 case atStart => exact ⟨0, Nat.zero_le _, rfl, rfl, Below.refl _ _⟩
 case round =>
  obtain ⟨k, hk, rfl, hall, hbl⟩ := hrel
  by_cases hlt : k < n
  ·have hk0 : (0 : Int) ≤ (k : Int) := Int.natCast_nonneg _
   have hk1 : (k : Int) < (n : Int) := by omega
   have e1 := (hbl.cell (p := ⟨b, off + k, none⟩) hb).trans (hp k hlt)
   have hk := hPQ k
   try dsimp only at hk
   cases hpt : PP k with
   | false =>
    rw [idxQ_miss hlt hpt] at hall
    rw [hpt] at hk
    go_wp2_with (go_at_call 87; refine (notOff_any _ _).mono ?_; rw [hk]; rintro e w' ⟨rfl, hb2⟩)
    go_roundw
    case rel => exact ⟨k + 1, by omega, by go_num, hall, hbl.trans (hb2.mono hbl.size)⟩
    case measure => simp [intOf]; omega
   | true =>
    rw [idxQ_hit hlt hpt] at hall
    rw [hpt] at hk
    go_wp2_with (go_at_call 87; refine (notOff_any _ _).mono ?_; rw [hk]; rintro e w' ⟨rfl, hb2⟩)
    go_ret
    exact ⟨by rw [hall]; rfl, hbl.trans (hb2.mono hbl.size)⟩
  ·obtain rfl : n = k := by omega
   go_wp2
   go_ret
   refine ⟨?_, hbl⟩
   rw [hall, Nat.sub_self]; rfl
set_option maxRecDepth 100000 in
set_option maxHeartbeats 1000000 in
theorem idx_int_nil (a : Option Addr) (c : Nat) (v : Value) (w : World) :
  Calls Tryz.prog 128 #[.slice a 0 c, v] w fun e w' => e = .returned (.int .i64 (-1)) ∧ w' = w := by
 go_enter Tryz.func128, Tryz.ntmps128
 go_wp2
 refine wp_loop_rounds 1 ?_
 rw [rounds_succ]
 go_wp2
 go_ret
 exact ⟨rfl, rfl⟩
set_option maxRecDepth 100000 in
set_option maxHeartbeats 1000000 in
theorem has_int (b off n cap : Nat) (F : Nat → Int) (w : World) (hn : n ≤ 1000) (hb : b < w.heap.size) (hp : Ints w b off n F) :
  Calls Tryz.prog 86 #[.slice (some ⟨b, off, none⟩) n cap, .func (.func 87) #[] #[]] w fun e w' => e = .returned (.bool (anyB (fun i => !inB (F i) (-80) 80) n)) ∧ Below w.heap.size w w' := by
 have hi := idx_int b off n cap F w hn hb hp
 unfold anyB
 generalize idxQ (fun i => !inB (F i) (-80) 80) 0 n = x at hi ⊢
 go_enter Tryz.func86, Tryz.ntmps86
 go_wp2_with (go_at_call 128; refine hi.mono ?_; rintro e w' ⟨rfl, hb2⟩)
 go_ret
 exact ⟨rfl, hb2⟩
set_option maxRecDepth 100000 in
set_option maxHeartbeats 1000000 in
theorem has_int_nil (a : Option Addr) (c : Nat) (v : Value) (w : World) :
  Calls Tryz.prog 86 #[.slice a 0 c, v] w fun e w' => e = .returned (.bool false) ∧ w' = w := by
 go_enter Tryz.func86, Tryz.ntmps86
 go_wp2_with (go_at_call 128; refine (idx_int_nil _ _ _ _).mono ?_; rintro e w' ⟨rfl, rfl⟩)
 go_ret
 exact ⟨rfl, rfl⟩
end Go.Proofs.YtjhpklolpmaopaaGreatDoor
