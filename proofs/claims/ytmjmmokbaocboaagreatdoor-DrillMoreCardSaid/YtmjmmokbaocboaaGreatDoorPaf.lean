/- A part of the proof: see the last file. -/
import Derived.Test.YtmjmmokbaocboaaGreatDoorPae
set_option linter.unusedVariables false
set_option linter.unusedSimpArgs false
set_option linter.unusedSectionVars false
namespace Go.Proofs.YtmjmmokbaocboaaGreatDoor
open Go.RowKit
/-- one of the first n is so. -/
def anyB (P : Nat → Bool) (n : Nat) : Bool := decide (0 ≤ idxQ P 0 n)
theorem anyB_no {P : Nat → Bool} {n : Nat} : anyB P n = false ↔ ∀ i, i < n → P i = false := by
  unfold anyB
  rw [decide_eq_false_iff_not]
  constructor
  · intro h k hk
    exact idxQ_none.1 (idxQ_neg (m := n) (k := 0) (by omega)) k (Nat.zero_le _) (by omega)
  · intro h
    rw [idxQ_none.2 fun j _ hj => h j (by omega)]; omega
/-- readings in memory. -/
def RPts (w : World) (b off n : Nat) (B X Y E : Nat → Int) : Prop := ∀ i, i < n → w.cell? ⟨b, off + i * 4, none⟩ = some (.int .i64 (B i)) ∧ w.cell? ⟨b, off + i * 4 + 1, none⟩ = some (.int .i64 (X i)) ∧ w.cell? ⟨b, off + i * 4 + 2, none⟩ = some (.int .i64 (Y i)) ∧ w.cell? ⟨b, off + i * 4 + 3, none⟩ = some (.int .i64 (E i))
theorem RPts.below {w w' : World} {b off n : Nat} {B X Y E : Nat → Int} (h : RPts w b off n B X Y E) (hb : Below w.heap.size w w') (hl : b < w.heap.size) : RPts w' b off n B X Y E := fun i hi => by
  obtain ⟨h1, h2, h3, h4⟩ := h i hi
  exact ⟨(hb.cell (p := ⟨b, off + i * 4, none⟩) hl).trans h1, (hb.cell (p := ⟨b, off + i * 4 + 1, none⟩) hl).trans h2, (hb.cell (p := ⟨b, off + i * 4 + 2, none⟩) hl).trans h3, (hb.cell (p := ⟨b, off + i * 4 + 3, none⟩) hl).trans h4⟩
set_option maxRecDepth 100000 in
set_option maxHeartbeats 1000000 in
theorem notReading_any (B X Y E : Int) (w : World) :
    Calls Tryz.prog 102 #[.agg #[.int .i64 B, .int .i64 X, .int .i64 Y, .int .i64 E]] w fun e w' => e = .returned (.bool (!readB B X Y E)) ∧ Below w.heap.size w w' := by
  go_enter Tryz.func102, Tryz.ntmps102
  go_wp2_with (go_at_call 103; refine (isReading_any _ _ _ _ _).mono ?_; rintro e w' ⟨rfl, hb⟩)
  go_ret
  exact ⟨rfl, ((Below.refl _ _).alloc (Nat.le_refl _) _).trans (hb.mono (by simp))⟩
set_option maxRecDepth 100000 in
set_option maxHeartbeats 1000000 in
theorem idx_reading (b off n cap : Nat) (B X Y E : Nat → Int) (w : World) (hn : n ≤ 1000) (hb : b < w.heap.size) (hp : RPts w b off n B X Y E) :
    Calls Tryz.prog 143 #[.slice (some ⟨b, off, none⟩) n cap, .func (.func 102) #[] #[]] w fun e w' => e = .returned (.int .i64 (idxQ (fun i => !readB (B i) (X i) (Y i) (E i)) 0 n)) ∧ Below w.heap.size w w' := by
  generalize hPP : (fun i => !readB (B i) (X i) (Y i) (E i)) = PP
  have hPQ : ∀ i, (fun i => !readB (B i) (X i) (Y i) (E i)) i = PP i := fun i => by rw [hPP]
  go_enter Tryz.func143, Tryz.ntmps143
  go_wp2
  go_loopw [8] (fun i wr => ∃ k : Nat, k ≤ n ∧ i = .int .i64 k ∧ idxQ PP 0 n = idxQ PP k (n - k) ∧ Below w.heap.size w wr) (fun i _ => n - (intOf i).toNat)
  case atStart => exact ⟨0, Nat.zero_le _, rfl, rfl, Below.refl _ _⟩
  case round =>
    obtain ⟨k, hk, rfl, hall, hbl⟩ := hrel
    by_cases hlt : k < n
    · have hk0 : (0 : Int) ≤ (k : Int) := Int.natCast_nonneg _
      have hk1 : (k : Int) < (n : Int) := by omega
      obtain ⟨e1, e2, e3, e4⟩ := hp.below hbl hb k hlt
      have hk := hPQ k
      try dsimp only at hk
      cases hpt : PP k with
      | false =>
        rw [idxQ_miss hlt hpt] at hall
        rw [hpt] at hk
        go_wp2_with (go_at_call 102; refine (notReading_any _ _ _ _ _).mono ?_; rw [hk]; rintro e w' ⟨rfl, hb2⟩)
        go_roundw
        case rel => exact ⟨k + 1, by omega, by go_num, hall, hbl.trans (hb2.mono hbl.size)⟩
        case measure => simp [intOf]; omega
      | true =>
        rw [idxQ_hit hlt hpt] at hall
        rw [hpt] at hk
        go_wp2_with (go_at_call 102; refine (notReading_any _ _ _ _ _).mono ?_; rw [hk]; rintro e w' ⟨rfl, hb2⟩)
        go_ret
        exact ⟨by rw [hall]; rfl, hbl.trans (hb2.mono hbl.size)⟩
    · obtain rfl : n = k := by omega
      go_wp2
      go_ret
      refine ⟨?_, hbl⟩
      rw [hall, Nat.sub_self]; rfl
set_option maxRecDepth 100000 in
set_option maxHeartbeats 1000000 in
theorem idx_reading_nil (a : Option Addr) (c : Nat) (v : Value) (w : World) :
    Calls Tryz.prog 143 #[.slice a 0 c, v] w fun e w' => e = .returned (.int .i64 (-1)) ∧ w' = w := by
  go_enter Tryz.func143, Tryz.ntmps143
  go_wp2
  refine wp_loop_rounds 1 ?_
  rw [rounds_succ]
  go_wp2
  go_ret
  exact ⟨rfl, rfl⟩
set_option maxRecDepth 100000 in
set_option maxHeartbeats 1000000 in
theorem has_reading (b off n cap : Nat) (B X Y E : Nat → Int) (w : World) (hn : n ≤ 1000) (hb : b < w.heap.size) (hp : RPts w b off n B X Y E) :
    Calls Tryz.prog 101 #[.slice (some ⟨b, off, none⟩) n cap, .func (.func 102) #[] #[]] w fun e w' => e = .returned (.bool (anyB (fun i => !readB (B i) (X i) (Y i) (E i)) n)) ∧ Below w.heap.size w w' := by
  have hi := idx_reading b off n cap B X Y E w hn hb hp
  unfold anyB
  generalize idxQ (fun i => !readB (B i) (X i) (Y i) (E i)) 0 n = x at hi ⊢
  go_enter Tryz.func101, Tryz.ntmps101
  go_wp2_with (go_at_call 143; refine hi.mono ?_; rintro e w' ⟨rfl, hb2⟩)
  go_ret
  exact ⟨rfl, hb2⟩
set_option maxRecDepth 100000 in
set_option maxHeartbeats 1000000 in
theorem has_reading_nil (a : Option Addr) (c : Nat) (v : Value) (w : World) :
    Calls Tryz.prog 101 #[.slice a 0 c, v] w fun e w' => e = .returned (.bool false) ∧ w' = w := by
  go_enter Tryz.func101, Tryz.ntmps101
  go_wp2_with (go_at_call 143; refine (idx_reading_nil _ _ _ _).mono ?_; rintro e w' ⟨rfl, rfl⟩)
  go_ret
  exact ⟨rfl, rfl⟩
end Go.Proofs.YtmjmmokbaocboaaGreatDoor
