/- A part of the proof: see the last file. -/
import Derived.Test.YtlhgkepdoinlnaaGreatDoorPaa
set_option linter.unusedVariables false
set_option linter.unusedSimpArgs false
set_option linter.unusedSectionVars false
namespace Go.Proofs.YtlhgkepdoinlnaaGreatDoor
open Go.RowKit Go.Gen
theorem any2 (P : Nat → Bool) : anyB P 2 = (P 0 || P 1) := by
 unfold anyB idxQ idxQ idxQ
 cases P 0 <;> cases P 1 <;> simp
theorem any4 (P : Nat → Bool) : anyB P 4 = (P 0 || (P 1 || (P 2 || P 3))) := by
 unfold anyB idxQ idxQ idxQ idxQ idxQ
 cases P 0 <;> cases P 1 <;> cases P 2 <;> cases P 3 <;> simp
/-- a new block of integers. -/
theorem krows_two (w : World) (e : TypeId) (x y : Int) : KSl 1 (w.alloc (Obj.cells #[.int .i64 x, .int .i64 y] e)) (.slice (some ⟨w.heap.size, 0, none⟩) 2 2) 2 (fun i _ => if i = 0 then x else y) :=
 .inr ⟨w.heap.size, 0, 2, rfl, by rw [World.size_alloc]; omega, fun i hi j hj => by
  obtain rfl : j = 0 := by omega
  match i, hi with
  | 0, _ => exact cells_new w _ _ rfl
  | 1, _ => exact cells_new w _ _ rfl⟩
theorem krows_four (w : World) (e : TypeId) (x y z u : Int) : KSl 1 (w.alloc (Obj.cells #[.int .i64 x, .int .i64 y, .int .i64 z, .int .i64 u] e)) (.slice (some ⟨w.heap.size, 0, none⟩) 4 4) 4 (fun i _ => if i = 0 then x else if i = 1 then y else if i = 2 then z else u) :=
 .inr ⟨w.heap.size, 0, 4, rfl, by rw [World.size_alloc]; omega, fun i hi j hj => by
  obtain rfl : j = 0 := by omega
  match i, hi with
  | 0, _ => exact cells_new w _ _ rfl
  | 1, _ => exact cells_new w _ _ rfl
  | 2, _ => exact cells_new w _ _ rfl
  | 3, _ => exact cells_new w _ _ rfl⟩
set_option maxHeartbeats 400000 in
theorem areUpTo1_any (n most : Int) (a : Addr) (w : World) (hc : w.cell? a = some (.int .i64 most)) :
  Calls Tryz.prog 135 #[.int .i64 n, .pointer (some a)] w fun e w' => e = .returned (.bool (!inB n 0 most)) ∧ Below w.heap.size w w' := by
 go_enter Tryz.func135, Tryz.ntmps135
 go_wp2_with (go_at_call 61; refine (within_any _ _ _ _).mono ?_; rintro e w' ⟨rfl, rfl⟩)
 go_ret
 exact ⟨rfl, Below.refl _ _⟩
set_option maxRecDepth 100000 in
set_option maxHeartbeats 1000000 in
theorem idx_upto (b off n cap : Nat) (F : Nat → Nat → Int) (w : World) (hn : n ≤ 9223372036854775807) (hb : b < w.heap.size) (hp : KRows 1 w b off n F) (most : Int) (a : Addr) (hc : w.cell? a = some (.int .i64 most)) (ha : a.block < w.heap.size) :
  Calls Tryz.prog 148 #[.slice (some ⟨b, off, none⟩) n cap, .func (.func 135) #[] #[.pointer (some a)]] w fun e w' => e = .returned (.int .i64 (idxQ (fun i => !inB (F i 0) 0 most) 0 n)) ∧ Below w.heap.size w w' := by
 generalize hPP : (fun i => !inB (F i 0) 0 most) = PP
 have hPQ : ∀ i, (fun i => !inB (F i 0) 0 most) i = PP i := fun i => by rw [hPP]
 go_enter Tryz.func148, Tryz.ntmps148
 go_wp2
 go_loopw [8] (fun i wr => ∃ k : Nat, k ≤ n ∧ i = .int .i64 k ∧ idxQ PP 0 n = idxQ PP k (n - k) ∧ Below w.heap.size w wr) (fun i _ => n - (intOf i).toNat)
 case atStart => exact ⟨0, Nat.zero_le _, rfl, rfl, Below.refl _ _⟩
 case round =>
  obtain ⟨k, hk, rfl, hall, hbl⟩ := hrel
  by_cases hlt : k < n
  ·have hk0 : (0 : Int) ≤ (k : Int) := Int.natCast_nonneg _
   have hk1 : (k : Int) < (n : Int) := by omega
   have e0 := (hp.below hbl hb).one hlt
   have hk := hPQ k
   try dsimp only at hk
   have hc' : wr.cell? a = some (.int .i64 most) := (hbl.cell ha).trans hc
   cases hpt : PP k with
   | false =>
    rw [idxQ_miss hlt hpt] at hall
    rw [hpt] at hk
    go_wp2_with (go_at_call 135; refine (areUpTo1_any _ _ _ _ (by assumption)).mono ?_; rw [hk]; rintro e w' ⟨rfl, hb2⟩)
    go_roundw
    case rel => exact ⟨k + 1, by omega, by go_num, hall, hbl.trans (hb2.mono hbl.size)⟩
    case measure => simp [intOf]; omega
   | true =>
    rw [idxQ_hit hlt hpt] at hall
    rw [hpt] at hk
    go_wp2_with (go_at_call 135; refine (areUpTo1_any _ _ _ _ (by assumption)).mono ?_; rw [hk]; rintro e w' ⟨rfl, hb2⟩)
    go_ret
    exact ⟨by rw [hall]; rfl, hbl.trans (hb2.mono hbl.size)⟩
  ·obtain rfl : n = k := by omega
   go_wp2
   go_ret
   refine ⟨?_, hbl⟩
   rw [hall, Nat.sub_self]; rfl
set_option maxRecDepth 100000 in
set_option maxHeartbeats 1000000 in
theorem idx_upto_nil (a' : Option Addr) (c : Nat) (v : Value) (w : World) :
  Calls Tryz.prog 148 #[.slice a' 0 c, v] w fun e w' => e = .returned (.int .i64 (-1)) ∧ w' = w := by
 go_enter Tryz.func148, Tryz.ntmps148
 go_wp2
 refine wp_loop_rounds 1 ?_
 rw [rounds_succ]
 go_wp2
 go_ret
 exact ⟨rfl, rfl⟩
set_option maxRecDepth 100000 in
set_option maxHeartbeats 1000000 in
theorem has_upto (v : Value) (n : Nat) (F : Nat → Nat → Int) (w : World) (hn : n ≤ 9223372036854775807) (h : KSl 1 w v n F) (most : Int) (a : Addr) (hc : w.cell? a = some (.int .i64 most)) (ha : a.block < w.heap.size) :
  Calls Tryz.prog 134 #[v, .func (.func 135) #[] #[.pointer (some a)]] w fun e w' => e = .returned (.bool (anyB (fun i => !inB (F i 0) 0 most) n)) ∧ Below w.heap.size w w' := by
 rcases h with ⟨a', c, rfl, rfl⟩ | ⟨b, off, cap, rfl, hb, hp⟩
 ·have h0 : anyB (fun i => !inB (F i 0) 0 most) 0 = false := anyB_no.2 fun i hi => absurd hi (Nat.not_lt_zero i)
  rw [h0]
  clear h0
  go_enter Tryz.func134, Tryz.ntmps134
  go_wp2_with (go_at_call 148; refine (idx_upto_nil _ _ _ _).mono ?_; rintro e w' ⟨rfl, rfl⟩)
  go_ret
  exact ⟨rfl, Below.refl _ _⟩
 ·have hi := idx_upto b off n cap F w hn hb hp most a hc ha
  unfold anyB
  generalize idxQ (fun i => !inB (F i 0) 0 most) 0 n = x at hi ⊢
  go_enter Tryz.func134, Tryz.ntmps134
  go_wp2_with (go_at_call 148; refine hi.mono ?_; rintro e w' ⟨rfl, hb2⟩)
  go_ret
  exact ⟨rfl, hb2⟩
set_option maxRecDepth 100000 in
set_option maxHeartbeats 1000000 in
theorem areUpTo_any (most : Int) (v : Value) (n : Nat) (F : Nat → Nat → Int) (w : World) (hn : n ≤ 9223372036854775807) (h : KSl 1 w v n F) :
  Calls Tryz.prog 109 #[.int .i64 most, v] w fun e w' => e = .returned (.bool (!anyB (fun i => !inB (F i 0) 0 most) n)) ∧ Below w.heap.size w w' := by
 have hb0 : Below w.heap.size w (w.alloc (Obj.cells #[.int .i64 most] 3)) := (Below.refl _ _).alloc (Nat.le_refl _) _
 have hh := has_upto v n F (w.alloc (Obj.cells #[.int .i64 most] 3)) hn (h.below hb0) most ⟨w.heap.size, 0, none⟩ (cells_new w _ _ rfl) (by simp)
 generalize anyB (fun i => !inB (F i 0) 0 most) n = b at hh ⊢
 obtain ⟨va, vc, rfl⟩ := h.slice
 clear h
 go_enter Tryz.func109, Tryz.ntmps109
 go_wp2_with (go_at_call 134; refine hh.mono ?_; rintro e w' ⟨rfl, hb2⟩)
 go_ret
 exact ⟨rfl, hb0.trans (hb2.mono (by simp))⟩
theorem areUpTo_two (most x y : Int) (w : World) :
  Calls Tryz.prog 109 #[.int .i64 most, .slice (some ⟨w.heap.size, 0, none⟩) 2 2] (w.alloc (Obj.cells #[.int .i64 x, .int .i64 y] 3)) fun e w' => e = .returned (.bool (inB x 0 most && inB y 0 most)) ∧ Below w.heap.size w w' := by
 refine (areUpTo_any most _ 2 _ _ (by omega) (krows_two w 3 x y)).mono ?_
 rintro e w' ⟨rfl, hb⟩
 refine ⟨ret_bool ?_, ((Below.refl _ _).alloc (Nat.le_refl _) _).trans (hb.mono (by simp))⟩
 rw [any2]
 cases h1 : inB x 0 most <;> cases h2 : inB y 0 most <;> simp [h1, h2]
theorem areUpTo_four (most x y z u : Int) (w : World) :
  Calls Tryz.prog 109 #[.int .i64 most, .slice (some ⟨w.heap.size, 0, none⟩) 4 4] (w.alloc (Obj.cells #[.int .i64 x, .int .i64 y, .int .i64 z, .int .i64 u] 3)) fun e w' => e = .returned (.bool (inB x 0 most && (inB y 0 most && (inB z 0 most && inB u 0 most)))) ∧ Below w.heap.size w w' := by
 refine (areUpTo_any most _ 4 _ _ (by omega) (krows_four w 3 x y z u)).mono ?_
 rintro e w' ⟨rfl, hb⟩
 refine ⟨ret_bool ?_, ((Below.refl _ _).alloc (Nat.le_refl _) _).trans (hb.mono (by simp))⟩
 rw [any4]
 cases h1 : inB x 0 most <;> cases h2 : inB y 0 most <;> cases h3 : inB z 0 most <;> cases h4 : inB u 0 most <;> simp [h1, h2, h3, h4]
set_option maxRecDepth 100000 in
set_option maxHeartbeats 1000000 in
theorem isSpan_any (l h most : Int) (w : World) :
  Calls Tryz.prog 110 #[.agg #[.int .i64 l, .int .i64 h], .int .i64 most] w fun e w' => e = .returned (.bool (spB l h most)) ∧ Below w.heap.size w w' := by
 obtain ⟨W0, hW⟩ : ∃ W0, w.alloc (.cells #[.int .i64 l, .int .i64 h] 47) = W0 := ⟨_, rfl⟩
 have hw0 : Below w.heap.size w W0 := by rw [← hW]; exact (Below.refl _ _).alloc (Nat.le_refl _) _
 have hsz : w.heap.size < W0.heap.size := by rw [← hW, World.size_alloc]; omega
 have k0 : W0.cell? ⟨w.heap.size, 0, none⟩ = some (.int .i64 l) := by rw [← hW]; exact cells_new w _ _ rfl
 have k1 : W0.cell? ⟨w.heap.size, 1, none⟩ = some (.int .i64 h) := by rw [← hW]; exact cells_new w _ _ rfl
 have hup := areUpTo_two most l h W0
 have hsp := @spB_iff l h most
 cases q : (inB l 0 most && inB h 0 most) with
 | false =>
  rw [q] at hup
  have hs : spB l h most = false := by
   cases hx : spB l h most with
   | false => rfl
   | true =>
    obtain ⟨a, b, c⟩ := hsp.1 hx
    rw [inB_yes a (by omega), inB_yes (by omega) c] at q; cases q
  rw [hs]
  clear hsp hs q
  go_enter Tryz.func110, Tryz.ntmps110
  go_wp2_with (go_at_call 109; refine hup.mono ?_; rintro e w' ⟨rfl, hb⟩)
  go_ret
  exact ⟨rfl, hw0.trans (hb.mono hw0.size)⟩
 | true =>
  rw [q] at hup
  rw [Bool.and_eq_true, inB_iff, inB_iff] at q
  obtain ⟨⟨a, b⟩, c, d⟩ := q
  have hem := fun W => isEmpty_any l h W
  by_cases hh : h < l
  ·have hs : spB l h most = false := by
    cases hx : spB l h most with
    | false => rfl
    | true => have := hsp.1 hx; omega
   rw [hs]
   rw [decide_eq_true hh] at hem
   clear hsp hs
   go_enter Tryz.func110, Tryz.ntmps110
   go_wp2_with (first
    | (go_at_call 109; refine hup.mono ?_; rintro e w' ⟨rfl, hb⟩; have k0' := (hb.cell (p := ⟨w.heap.size, 0, none⟩) hsz).trans k0; have k1' := (hb.cell (p := ⟨w.heap.size, 1, none⟩) hsz).trans k1)
    | (go_at_call 82; refine (hem _).mono ?_; rintro e w' ⟨rfl, hb2⟩))
   go_ret
   exact ⟨rfl, hw0.trans ((hb.trans (hb2.mono hb.size)).mono hw0.size)⟩
  ·rw [hsp.2 ⟨a, by omega, d⟩]
   rw [decide_eq_false hh] at hem
   clear hsp
   go_enter Tryz.func110, Tryz.ntmps110
   go_wp2_with (first
    | (go_at_call 109; refine hup.mono ?_; rintro e w' ⟨rfl, hb⟩; have k0' := (hb.cell (p := ⟨w.heap.size, 0, none⟩) hsz).trans k0; have k1' := (hb.cell (p := ⟨w.heap.size, 1, none⟩) hsz).trans k1)
    | (go_at_call 82; refine (hem _).mono ?_; rintro e w' ⟨rfl, hb2⟩))
   go_ret
   exact ⟨rfl, hw0.trans ((hb.trans (hb2.mono hb.size)).mono hw0.size)⟩
set_option maxRecDepth 100000 in
set_option maxHeartbeats 1000000 in
theorem notBatch_any (x0 x1 x2 x3 x4 x5 : Int) (F : Nat → Int) (hF : F 0 = x0 ∧ F 1 = x1 ∧ F 2 = x2 ∧ F 3 = x3 ∧ F 4 = x4 ∧ F 5 = x5) (w : World) :
  Calls Tryz.prog 112 #[.agg #[.int .i64 x0, .int .i64 x1, .int .i64 x2, .int .i64 x3, .int .i64 x4, .int .i64 x5]] w fun e w' => e = .returned (.bool (!baB F)) ∧ Below w.heap.size w w' := by
 obtain ⟨W0, hW⟩ : ∃ W0, w.alloc (.cells #[.int .i64 x0, .int .i64 x1, .int .i64 x2, .int .i64 x3, .int .i64 x4, .int .i64 x5] 79) = W0 := ⟨_, rfl⟩
 have hw0 : Below w.heap.size w W0 := by rw [← hW]; exact (Below.refl _ _).alloc (Nat.le_refl _) _
 have hsz : w.heap.size < W0.heap.size := by rw [← hW, World.size_alloc]; omega
 have k0 : W0.cell? ⟨w.heap.size, 0, none⟩ = some (.int .i64 x0) := by rw [← hW]; exact cells_new w _ _ rfl
 have k1 : W0.cell? ⟨w.heap.size, 1, none⟩ = some (.int .i64 x1) := by rw [← hW]; exact cells_new w _ _ rfl
 have k2 : W0.cell? ⟨w.heap.size, 2, none⟩ = some (.int .i64 x2) := by rw [← hW]; exact cells_new w _ _ rfl
 have k3 : W0.cell? ⟨w.heap.size, 3, none⟩ = some (.int .i64 x3) := by rw [← hW]; exact cells_new w _ _ rfl
 have k4 : W0.cell? ⟨w.heap.size, 4, none⟩ = some (.int .i64 x4) := by rw [← hW]; exact cells_new w _ _ rfl
 have k5 : W0.cell? ⟨w.heap.size, 5, none⟩ = some (.int .i64 x5) := by rw [← hW]; exact cells_new w _ _ rfl
 have hup := areUpTo_four 1000 x0 x1 x2 x3 W0
 have hup2 := fun W => areUpTo_two 100 x4 x5 W
 have hB : baB F = ((inB x0 0 1000 && (inB x1 0 1000 && (inB x2 0 1000 && inB x3 0 1000))) && (inB x4 0 100 && inB x5 0 100)) := by
  obtain ⟨rfl, rfl, rfl, rfl, rfl, rfl⟩ := hF
  unfold baB
  simp only [Bool.and_assoc]
 clear hF
 generalize (inB x0 0 1000 && (inB x1 0 1000 && (inB x2 0 1000 && inB x3 0 1000))) = q at hup hB
 generalize (inB x4 0 100 && inB x5 0 100) = q2 at hup2 hB
 rw [hB]
 clear hB
 cases q with
 | false =>
  go_enter Tryz.func112, Tryz.ntmps112
  go_wp2_with (go_at_call 109; refine hup.mono ?_; rintro e w' ⟨rfl, hb⟩)
  go_ret
  exact ⟨rfl, hw0.trans (hb.mono hw0.size)⟩
 | true =>
  cases q2 <;>
  ·go_enter Tryz.func112, Tryz.ntmps112
   go_wp2_with (first
    | (go_at_call 109; (with_reducible refine hup.mono ?_); rintro e w' ⟨rfl, hb⟩; have k4' := (hb.cell (p := ⟨w.heap.size, 4, none⟩) hsz).trans k4; have k5' := (hb.cell (p := ⟨w.heap.size, 5, none⟩) hsz).trans k5)
    | (go_at_call 109; (with_reducible refine (hup2 _).mono ?_); rintro e w' ⟨rfl, hb2⟩))
   go_ret
   exact ⟨rfl, hw0.trans ((hb.trans (hb2.mono hb.size)).mono hw0.size)⟩
set_option maxRecDepth 100000 in
set_option maxHeartbeats 1000000 in
theorem idx_batch (b off n cap : Nat) (F : Nat → Nat → Int) (w : World) (hn : n ≤ 9223372036854775807) (hb : b < w.heap.size) (hp : KRows 6 w b off n F)  :
  Calls Tryz.prog 136 #[.slice (some ⟨b, off, none⟩) n cap, .func (.func 112) #[] #[]] w fun e w' => e = .returned (.int .i64 (idxQ (fun i => !baB (F i)) 0 n)) ∧ Below w.heap.size w w' := by
 generalize hPP : (fun i => !baB (F i)) = PP
 have hPQ : ∀ i, (fun i => !baB (F i)) i = PP i := fun i => by rw [hPP]
 go_enter Tryz.func136, Tryz.ntmps136
 go_wp2
 go_loopw [8] (fun i wr => ∃ k : Nat, k ≤ n ∧ i = .int .i64 k ∧ idxQ PP 0 n = idxQ PP k (n - k) ∧ Below w.heap.size w wr) (fun i _ => n - (intOf i).toNat)
 case atStart => exact ⟨0, Nat.zero_le _, rfl, rfl, Below.refl _ _⟩
 case round =>
  obtain ⟨k, hk, rfl, hall, hbl⟩ := hrel
  by_cases hlt : k < n
  ·have hk0 : (0 : Int) ≤ (k : Int) := Int.natCast_nonneg _
   have hk1 : (k : Int) < (n : Int) := by omega
   have e0 := (hp.below hbl hb).first hlt (by decide)
   have e1 := (hp.below hbl hb) k hlt 1 (by decide)
   have e2 := (hp.below hbl hb) k hlt 2 (by decide)
   have e3 := (hp.below hbl hb) k hlt 3 (by decide)
   have e4 := (hp.below hbl hb) k hlt 4 (by decide)
   have e5 := (hp.below hbl hb) k hlt 5 (by decide)
   have hk := hPQ k
   try dsimp only at hk
   cases hpt : PP k with
   | false =>
    rw [idxQ_miss hlt hpt] at hall
    rw [hpt] at hk
    go_wp2_with (go_at_call 112; refine (notBatch_any _ _ _ _ _ _ (F k) ⟨rfl, rfl, rfl, rfl, rfl, rfl⟩ _).mono ?_; rw [hk]; rintro e w' ⟨rfl, hb2⟩)
    go_roundw
    case rel => exact ⟨k + 1, by omega, by go_num, hall, hbl.trans (hb2.mono hbl.size)⟩
    case measure => simp [intOf]; omega
   | true =>
    rw [idxQ_hit hlt hpt] at hall
    rw [hpt] at hk
    go_wp2_with (go_at_call 112; refine (notBatch_any _ _ _ _ _ _ (F k) ⟨rfl, rfl, rfl, rfl, rfl, rfl⟩ _).mono ?_; rw [hk]; rintro e w' ⟨rfl, hb2⟩)
    go_ret
    exact ⟨by rw [hall]; rfl, hbl.trans (hb2.mono hbl.size)⟩
  ·obtain rfl : n = k := by omega
   go_wp2
   go_ret
   refine ⟨?_, hbl⟩
   rw [hall, Nat.sub_self]; rfl
set_option maxRecDepth 100000 in
set_option maxHeartbeats 1000000 in
theorem idx_batch_nil (a' : Option Addr) (c : Nat) (v : Value) (w : World) :
  Calls Tryz.prog 136 #[.slice a' 0 c, v] w fun e w' => e = .returned (.int .i64 (-1)) ∧ w' = w := by
 go_enter Tryz.func136, Tryz.ntmps136
 go_wp2
 refine wp_loop_rounds 1 ?_
 rw [rounds_succ]
 go_wp2
 go_ret
 exact ⟨rfl, rfl⟩
set_option maxRecDepth 100000 in
set_option maxHeartbeats 1000000 in
theorem has_batch (v : Value) (n : Nat) (F : Nat → Nat → Int) (w : World) (hn : n ≤ 9223372036854775807) (h : KSl 6 w v n F)  :
  Calls Tryz.prog 111 #[v, .func (.func 112) #[] #[]] w fun e w' => e = .returned (.bool (anyB (fun i => !baB (F i)) n)) ∧ Below w.heap.size w w' := by
 rcases h with ⟨a', c, rfl, rfl⟩ | ⟨b, off, cap, rfl, hb, hp⟩
 ·have h0 : anyB (fun i => !baB (F i)) 0 = false := anyB_no.2 fun i hi => absurd hi (Nat.not_lt_zero i)
  rw [h0]
  clear h0
  go_enter Tryz.func111, Tryz.ntmps111
  go_wp2_with (go_at_call 136; refine (idx_batch_nil _ _ _ _).mono ?_; rintro e w' ⟨rfl, rfl⟩)
  go_ret
  exact ⟨rfl, Below.refl _ _⟩
 ·have hi := idx_batch b off n cap F w hn hb hp
  unfold anyB
  generalize idxQ (fun i => !baB (F i)) 0 n = x at hi ⊢
  go_enter Tryz.func111, Tryz.ntmps111
  go_wp2_with (go_at_call 136; refine hi.mono ?_; rintro e w' ⟨rfl, hb2⟩)
  go_ret
  exact ⟨rfl, hb2⟩
end Go.Proofs.YtlhgkepdoinlnaaGreatDoor
