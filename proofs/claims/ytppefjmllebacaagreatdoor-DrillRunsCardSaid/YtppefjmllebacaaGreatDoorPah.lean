/- A part of the proof: see the last file. -/
import Derived.Test.YtppefjmllebacaaGreatDoorPag
import Derived.Lib.AppendZeros
import Derived.Laws.AppendOwnNone
import Derived.WalkKit
import Derived.Laws.OwnMore
set_option linter.unusedVariables false
set_option linter.unusedSimpArgs false
set_option linter.unusedSectionVars false
namespace Go.Proofs.YtppefjmllebacaaGreatDoor
open Go.RowKit
set_option maxRecDepth 100000 in
set_option maxHeartbeats 4000000 in
theorem grow_none (w : World) :
    Calls Tryz.prog 138 #[.slice none 0 0, .int .i64 0] w fun e w' => e = .returned (.slice none 0 0) ∧ w = w' := by
  go_enter Tryz.func138, Tryz.ntmps138
  go_wp2
  go_ret
  exact ⟨rfl, rfl⟩
theorem zeroCells_len (cs : Array Value) (n : Nat) : (Builtin.zeroCells cs n).size = n * cs.size := by
  unfold Builtin.zeroCells
  simp
set_option maxRecDepth 100000 in
set_option maxHeartbeats 4000000 in
theorem grow_some (n : Nat) (h0 : 0 < n) (h1 : n ≤ 1000) (w : World) :
    Calls Tryz.prog 138 #[.slice none 0 0, .int .i64 n] w fun e w' => ∃ c, e = .returned (.slice (some ⟨w.heap.size, 0, none⟩) 0 c) ∧ n ≤ c ∧ w'.ownsRow w.heap.size 136 3 (.slice (some ⟨w.heap.size, 0, none⟩) 0 c) 0 [] ∧ Below w.heap.size w w' := by
  obtain ⟨i0, hi, hz0, hz1, hz2⟩ := info_parts Tryz.info136
  have hrun := fun ty => Lib.run_append_nil_zeros w 131 3 ty 136 i0 (.agg #[.int .i64 0, .int .i64 0, .int .i64 0]) .i64 .i64 Tryz.underlying131 Tryz.underlying3 hi hz0 n h0 (by omega) (by omega) (by rw [hz2]; omega)
  have hge := grownCap_ge w n 0 136
  have hle := grownCap_le_maxLen w n 0 136 (by unfold maxLen; omega)
  generalize grownCap w n 0 136 = G at hrun hge hle
  have hG : G ≤ 9223372036854775807 := by unfold maxLen at hle; omega
  have hn0 : (0 : Int) < (n : Int) := by omega
  go_enter Tryz.func138, Tryz.ntmps138
  go_wp2_with (at_builtin; refine Lib.wpList_append_run _ rfl _ _ _ _ rfl _ _ rfl rfl _ _ (hrun _) ?_)
  go_ret
  refine ⟨G, rfl, hge, ⟨rfl, .inr ⟨w.heap.size, G, _, rfl, Nat.le_refl _, heap_alloc_new w _, Nat.zero_le _, hle, ?_, by simp⟩⟩, ((Below.refl _ _).alloc (Nat.le_refl _) _).drew⟩
  rw [Array.size_append, zeroCells_len, zeroCells_len, ← Nat.add_mul]
  rw [show n + (G - n) = G by omega]; rfl
set_option maxRecDepth 100000 in
set_option maxHeartbeats 4000000 in
theorem concat_nil (g : Nat) (w : World) (e0 : w.cell? ⟨g, 0, none⟩ = some (.slice none 0 0)) (e1 : w.cell? ⟨g, 1, none⟩ = some (.slice none 0 0)) :
    Calls Tryz.prog 108 #[.slice (some ⟨g, 0, none⟩) 2 2] w fun e w' => ∃ v, e = .returned v ∧ w'.ownsRow w.heap.size 136 3 v 0 [] ∧ Below w.heap.size w w' := by
  obtain ⟨i0, hi, hz0, hz1, hz2⟩ := info_parts Tryz.info136
  have hown0 : w.ownsRow w.heap.size 136 3 (.slice none 0 0) 0 [] := ⟨rfl, .inl ⟨rfl, rfl⟩⟩
  go_enter Tryz.func108, Tryz.ntmps108
  go_wp2
  refine wp_loop_rounds 3 ?_
  rw [rounds_succ]
  go_wp2
  rw [rounds_succ]
  go_wp2
  rw [rounds_succ]
  go_wp2_with (go_at_call 138; refine (grow_none _).mono ?_; rintro e w' ⟨rfl, rfl⟩)
  refine wp_loop_rounds 3 ?_
  rw [rounds_succ]
  go_wp2_with (at_builtin; refine wpList_append_own_none rfl _ _ 131 rfl w.heap.size 136 i0 3 Tryz.underlying131 hi (.slice none 0 0) 0 [] rfl hown0 rfl ?_)
  rw [rounds_succ]
  go_wp2_with (at_builtin; refine wpList_append_own_none rfl _ _ 131 rfl w.heap.size 136 i0 3 Tryz.underlying131 hi (.slice none 0 0) 0 [] rfl hown0 rfl ?_)
  rw [rounds_succ]
  go_wp2
  go_ret
  exact ⟨_, rfl, hown0, Below.refl _ _⟩
theorem cpts_cells {w : World} {b off n : Nat} {cl : Nat → Int × Int × Int} (h : CPts w b off n cl) : ∀ (j : Nat) (u : Value), (clueCells cl n)[j]? = some u → w.cell? ((⟨b, off, none⟩ : Addr).add j) = some u := fun j u hj => by
  have hl := (List.getElem?_eq_some_iff.1 hj).1
  rw [clueCells_length] at hl
  obtain ⟨a1, a2, a3⟩ := h (j / 3) (by omega)
  obtain ⟨k1, k2, k3⟩ := clueCells_at cl n (j / 3) (by omega)
  rw [show (⟨b, off, none⟩ : Addr).add j = ⟨b, off + j, none⟩ from by simp [Addr.add]]
  have hm : j % 3 = 0 ∨ j % 3 = 1 ∨ j % 3 = 2 := by omega
  rcases hm with hm | hm | hm
  · rw [show j / 3 * 3 = j by omega] at a1 k1; rw [a1, ← k1, hj]
  · rw [show off + j / 3 * 3 + 1 = off + j by omega] at a2; rw [show j / 3 * 3 + 1 = j by omega] at k2; rw [a2, ← k2, hj]
  · rw [show off + j / 3 * 3 + 2 = off + j by omega] at a3; rw [show j / 3 * 3 + 2 = j by omega] at k3; rw [a3, ← k3, hj]
theorem clueCells_one (cl : Nat → Int × Int × Int) : ∀ (n : Nat), ∀ u ∈ clueCells cl n, u.oneCell' = true
  | 0, u, h => by cases h
  | n+1, u, h => by
    unfold clueCells at h
    rcases List.mem_append.1 h with h | h
    · exact clueCells_one cl n u h
    · simp only [List.mem_cons, List.not_mem_nil, or_false] at h
      rcases h with rfl | rfl | rfl <;> rfl
set_option maxRecDepth 100000 in
set_option maxHeartbeats 4000000 in
theorem concat_some (g b off n cap : Nat) (cl : Nat → Int × Int × Int) (w : World) (h0 : 0 < n) (hn : n ≤ 1000) (hg : g < w.heap.size) (hb : b < w.heap.size) (e0 : w.cell? ⟨g, 0, none⟩ = some (.slice (some ⟨b, off, none⟩) n cap)) (e1 : w.cell? ⟨g, 1, none⟩ = some (.slice none 0 0)) (hp : CPts w b off n cl) :
    Calls Tryz.prog 108 #[.slice (some ⟨g, 0, none⟩) 2 2] w fun e w' => ∃ v, e = .returned v ∧ w'.ownsRow w.heap.size 136 3 v n (clueCells cl n) ∧ Below w.heap.size w w' := by
  obtain ⟨i0, hi, hz0, hz1, hz2⟩ := info_parts Tryz.info136
  have hn0 : (0 : Int) ≤ (n : Int) := by omega
  have hn1 : ¬ (n : Int) < 0 := by omega
  go_enter Tryz.func108, Tryz.ntmps108
  go_wp2
  refine wp_loop_rounds 3 ?_
  rw [rounds_succ]
  go_wp2
  rw [rounds_succ]
  go_wp2
  rw [rounds_succ]
  go_wp2_with (go_at_call 138; refine (grow_some n h0 hn _).mono ?_; rintro e w1 ⟨c, rfl, hc, hown, hb1⟩)
  have f0 := (hb1.cell (p := ⟨g, 0, none⟩) hg).trans e0
  have f1 := (hb1.cell (p := ⟨g, 1, none⟩) hg).trans e1
  have hp1 := hp.below hb1 hb
  have hs1 := hb1.size
  refine wp_loop_rounds 3 ?_
  rw [rounds_succ]
  go_wp2_with (at_builtin; refine wpList_append_own _ rfl _ _ 131 rfl w.heap.size 136 i0 (.agg #[.int .i64 0, .int .i64 0, .int .i64 0]) 3 24 Tryz.underlying131 hi hz0 hz1 hz2 rfl (by decide) _ 0 [] rfl hown ⟨b, off, none⟩ n cap (clueCells cl n) rfl ?c0 ?c1 ?c2 ?c3 ?c4 ?c5 ?_)
  case c0 => rw [clueCells_length]; omega
  case c1 => exact cpts_cells hp1
  case c2 => exact clueCells_one cl n
  case c3 => unfold maxLen; omega
  case c4 => omega
  case c5 => omega
  intro v2 w2 hown2 hgrow _
  have hne : some g ≠ (Value.slice (some ⟨w.heap.size, 0, none⟩) 0 c).ownBlock := fun e => by have e := Option.some.inj e; dsimp only at e; omega
  have f3 := (hgrow.cell_far ⟨g, 1, none⟩ (by show g < _; omega) hne).trans f1
  have hb2 : Below w.heap.size w w2 := hb1.grown hgrow hb1.size fun k hk => by have e := Option.some.inj hk; dsimp only at e; omega
  clear hgrow hown hp1 hp
  go_wp2
  rw [rounds_succ]
  go_wp2_with (at_builtin; refine wpList_append_own_none rfl _ _ 131 rfl w.heap.size 136 i0 3 Tryz.underlying131 hi v2 n (clueCells cl n) rfl hown2 rfl ?_)
  rw [rounds_succ]
  go_wp2
  go_ret
  exact ⟨_, rfl, hown2, hb2⟩
end Go.Proofs.YtppefjmllebacaaGreatDoor
namespace Go.Proofs.YtppefjmllebacaaGreatDoor
/-- an axis: the chuck's ends, the wear's ends, and clues: a blank and two ends each. -/
structure Axis where
  c0 : Int
  c1 : Int
  w0 : Int
  w1 : Int
  n : Nat
  cl : Nat → Int × Int × Int
def nar (k : Int) (cl : Nat → Int × Int × Int) : Nat → Int × Int → Int × Int
  | 0, s => s
  | i+1, s => if (cl i).1 = k then (max (nar k cl i s).1 (cl i).2.1, min (nar k cl i s).2 (cl i).2.2) else nar k cl i s
def Axis.fwd (a : Axis) : Nat → Int × Int
  | 0 => nar 0 a.cl a.n (a.c0, a.c1)
  | k+1 => nar ((k : Int) + 1) a.cl a.n ((a.fwd k).1 + a.w0, (a.fwd k).2 + a.w1)
/-- j blanks before the last one. -/
def Axis.bwd (a : Axis) : Nat → Int × Int
  | 0 => a.fwd 12
  | j+1 => (max (a.fwd (11 - j)).1 ((a.bwd j).1 - a.w1), min (a.fwd (11 - j)).2 ((a.bwd j).2 - a.w0))
def Axis.ends (a : Axis) (k : Nat) : Int × Int := a.bwd (12 - k)
def Axis.can (a : Axis) : Prop := ∀ k, k ≤ 12 → (a.fwd k).1 ≤ (a.fwd k).2
structure Axis.fine (a : Axis) : Prop where
  c : -12 ≤ a.c0 ∧ a.c0 ≤ a.c1 ∧ a.c1 ≤ 12
  w : -3 ≤ a.w0 ∧ a.w0 ≤ a.w1 ∧ a.w1 ≤ 3
  few : a.n ≤ 4
  cl : ∀ i, i < a.n → 0 ≤ (a.cl i).1 ∧ (a.cl i).1 ≤ 12 ∧ -84 ≤ (a.cl i).2.1 ∧ (a.cl i).2.1 ≤ 84 ∧ -84 ≤ (a.cl i).2.2 ∧ (a.cl i).2.2 ≤ 84
/-- a truth of an axis. -/
structure Axis.truth (a : Axis) (x : Nat → Int) : Prop where
  chuck : a.c0 ≤ x 0 ∧ x 0 ≤ a.c1
  wear : ∀ k, k < 12 → a.w0 ≤ x (k+1) - x k ∧ x (k+1) - x k ≤ a.w1
  clue : ∀ i, i < a.n → (a.cl i).2.1 ≤ x (a.cl i).1.toNat ∧ x (a.cl i).1.toNat ≤ (a.cl i).2.2
theorem nar_le (k : Int) (cl : Nat → Int × Int × Int) (s : Int × Int) : ∀ n, s.1 ≤ (nar k cl n s).1 ∧ (nar k cl n s).2 ≤ s.2
  | 0 => ⟨Int.le_refl _, Int.le_refl _⟩
  | n+1 => by
    have h := nar_le k cl s n
    unfold nar
    split
    · dsimp only; omega
    · exact h
theorem nar_clue (k : Int) (cl : Nat → Int × Int × Int) (s : Int × Int) : ∀ n i, i < n → (cl i).1 = k → (cl i).2.1 ≤ (nar k cl n s).1 ∧ (nar k cl n s).2 ≤ (cl i).2.2
  | 0, i, h, _ => absurd h (Nat.not_lt_zero i)
  | n+1, i, h, hk => by
    unfold nar
    by_cases hi : i = n
    · subst hi
      rw [if_pos hk]; dsimp only; omega
    · have h := nar_clue k cl s n i (by omega) hk
      split
      · dsimp only; omega
      · exact h
theorem nar_in {k : Int} {cl : Nat → Int × Int × Int} {s : Int × Int} {x : Int} (hs : s.1 ≤ x ∧ x ≤ s.2) : ∀ {n : Nat}, (∀ i, i < n → (cl i).1 = k → (cl i).2.1 ≤ x ∧ x ≤ (cl i).2.2) → (nar k cl n s).1 ≤ x ∧ x ≤ (nar k cl n s).2
  | 0, _ => hs
  | n+1, h => by
    have h1 := nar_in hs (n := n) fun i hi hk => h i (by omega) hk
    unfold nar
    split
    · rename_i hk
      have := h n (by omega) hk
      dsimp only; omega
    · exact h1
theorem nar_bound {k : Int} {cl : Nat → Int × Int × Int} {s : Int × Int} {b : Int} (hs : s.1 ≤ b ∧ -b ≤ s.2) : ∀ {n : Nat}, (∀ i, i < n → (cl i).2.1 ≤ b ∧ -b ≤ (cl i).2.2) → (nar k cl n s).1 ≤ b ∧ -b ≤ (nar k cl n s).2
  | 0, _ => hs
  | n+1, h => by
    have h1 := nar_bound (k := k) hs (n := n) fun i hi => h i (by omega)
    have h2 := h n (by omega)
    unfold nar
    split
    · dsimp only; omega
    · exact h1
theorem Axis.fwd_bound {a : Axis} (h : a.fine) : ∀ k, (k : Nat) ≤ 12 → -12 - 3 * (k : Int) ≤ (a.fwd k).1 ∧ (a.fwd k).2 ≤ 12 + 3 * (k : Int) ∧ (a.fwd k).1 ≤ 84 + 3 * (k : Int) ∧ -84 - 3 * (k : Int) ≤ (a.fwd k).2
  | 0, _ => by
    obtain ⟨c, w, _, cl⟩ := h
    have h1 := nar_le 0 a.cl (a.c0, a.c1) a.n
    have h2 := nar_bound (k := 0) (cl := a.cl) (s := (a.c0, a.c1)) (b := 84) ⟨by dsimp only; omega, by dsimp only; omega⟩ (n := a.n) fun i hi => by have := cl i hi; omega
    unfold Axis.fwd
    dsimp only at h1
    omega
  | k+1, hk => by
    have ih := Axis.fwd_bound h k (by omega)
    obtain ⟨c, w, _, cl⟩ := h
    have h1 := nar_le ((k : Int) + 1) a.cl ((a.fwd k).1 + a.w0, (a.fwd k).2 + a.w1) a.n
    have h2 := nar_bound (k := (k : Int) + 1) (cl := a.cl) (s := ((a.fwd k).1 + a.w0, (a.fwd k).2 + a.w1)) (b := 84 + 3 * ((k : Int) + 1)) ⟨by dsimp only; omega, by dsimp only; omega⟩ (n := a.n) fun i hi => by have := cl i hi; omega
    unfold Axis.fwd
    dsimp only at h1
    omega
theorem Axis.fwd_step (a : Axis) (k : Nat) : (a.fwd k).1 + a.w0 ≤ (a.fwd (k+1)).1 ∧ (a.fwd (k+1)).2 ≤ (a.fwd k).2 + a.w1 := by
  have h := nar_le ((k : Int) + 1) a.cl ((a.fwd k).1 + a.w0, (a.fwd k).2 + a.w1) a.n
  conv => rw [Axis.fwd]
  exact h
theorem Axis.bwd_fwd (a : Axis) : ∀ j, j ≤ 12 → (a.fwd (12 - j)).1 ≤ (a.bwd j).1 ∧ (a.bwd j).2 ≤ (a.fwd (12 - j)).2
  | 0, _ => ⟨Int.le_refl _, Int.le_refl _⟩
  | j+1, h => by
    unfold Axis.bwd
    rw [show 12 - (j + 1) = 11 - j by omega]
    dsimp only; omega
theorem Axis.bwd_can {a : Axis} (h : a.fine) (hc : a.can) : ∀ j, j ≤ 12 → (a.bwd j).1 ≤ (a.bwd j).2
  | 0, _ => hc 12 (by omega)
  | j+1, hj => by
    have ih := Axis.bwd_can h hc j (by omega)
    have h1 := a.bwd_fwd j (by omega)
    have h2 := a.fwd_step (11 - j)
    rw [show 11 - j + 1 = 12 - j by omega] at h2
    have h3 := hc (11 - j) (by omega)
    have := h.w
    unfold Axis.bwd
    dsimp only; omega
theorem Axis.bwd_bound {a : Axis} (h : a.fine) (hc : a.can) (j : Nat) (hj : j ≤ 12) : -48 ≤ (a.bwd j).1 ∧ (a.bwd j).2 ≤ 48 ∧ (a.bwd j).1 ≤ 48 ∧ -48 ≤ (a.bwd j).2 := by
  have h1 := a.bwd_fwd j hj
  have h2 := Axis.fwd_bound h (12 - j) (by omega)
  have h3 := Axis.bwd_can h hc j hj
  omega
theorem Axis.fwd_in {a : Axis} {x : Nat → Int} (h : a.fine) (ht : a.truth x) : ∀ k, k ≤ 12 → (a.fwd k).1 ≤ x k ∧ x k ≤ (a.fwd k).2
  | 0, _ => by
    unfold Axis.fwd
    exact nar_in ht.chuck fun i hi hk => by have := ht.clue i hi; rw [hk] at this; exact this
  | k+1, hk => by
    have ih := Axis.fwd_in h ht k (by omega)
    have hw := ht.wear k (by omega)
    unfold Axis.fwd
    refine nar_in (by dsimp only; omega) fun i hi hk => ?_
    have := ht.clue i hi
    rw [hk, show ((k : Int) + 1).toNat = k + 1 by omega] at this; exact this
theorem Axis.can_of {a : Axis} {x : Nat → Int} (h : a.fine) (ht : a.truth x) : a.can := fun k hk => by have := Axis.fwd_in h ht k hk; omega
theorem Axis.bwd_in {a : Axis} {x : Nat → Int} (h : a.fine) (ht : a.truth x) : ∀ j, j ≤ 12 → (a.bwd j).1 ≤ x (12 - j) ∧ x (12 - j) ≤ (a.bwd j).2
  | 0, _ => Axis.fwd_in h ht 12 (by omega)
  | j+1, hj => by
    have ih := Axis.bwd_in h ht j (by omega)
    have h1 := Axis.fwd_in h ht (11 - j) (by omega)
    have h2 := ht.wear (11 - j) (by omega)
    rw [show 11 - j + 1 = 12 - j by omega] at h2
    unfold Axis.bwd
    rw [show 12 - (j + 1) = 11 - j by omega]
    dsimp only; omega
/-- whatever is true lies within the ends. -/
theorem Axis.ends_in {a : Axis} {x : Nat → Int} (h : a.fine) (ht : a.truth x) (k : Nat) (hk : k ≤ 12) : (a.ends k).1 ≤ x k ∧ x k ≤ (a.ends k).2 := by
  have := Axis.bwd_in h ht (12 - k) (by omega)
  rw [show 12 - (12 - k) = k by omega] at this; exact this
theorem Axis.ends_step (a : Axis) (k : Nat) (hk : k < 12) : a.ends k = (max (a.fwd k).1 ((a.ends (k+1)).1 - a.w1), min (a.fwd k).2 ((a.ends (k+1)).2 - a.w0)) := by
  unfold Axis.ends
  rw [show 12 - k = (12 - (k + 1)) + 1 by omega, Axis.bwd, show 11 - (12 - (k + 1)) = k by omega]
theorem Axis.ends_fwd (a : Axis) (k : Nat) (hk : k ≤ 12) : (a.fwd k).1 ≤ (a.ends k).1 ∧ (a.ends k).2 ≤ (a.fwd k).2 := by
  have := a.bwd_fwd (12 - k) (by omega)
  rw [show 12 - (12 - k) = k by omega] at this; exact this
theorem Axis.ends_can {a : Axis} (h : a.fine) (hc : a.can) (k : Nat) : (a.ends k).1 ≤ (a.ends k).2 := Axis.bwd_can h hc (12 - k) (by omega)
theorem Axis.ends_bound {a : Axis} (h : a.fine) (hc : a.can) (k : Nat) : -48 ≤ (a.ends k).1 ∧ (a.ends k).2 ≤ 48 ∧ (a.ends k).1 ≤ 48 ∧ -48 ≤ (a.ends k).2 := Axis.bwd_bound h hc (12 - k) (by omega)
theorem Axis.fwd_chuck (a : Axis) : a.c0 ≤ (a.fwd 0).1 ∧ (a.fwd 0).2 ≤ a.c1 := by
  unfold Axis.fwd; exact nar_le 0 a.cl (a.c0, a.c1) a.n
theorem Axis.fwd_clue (a : Axis) (i : Nat) (hi : i < a.n) (h : 0 ≤ (a.cl i).1) : (a.cl i).2.1 ≤ (a.fwd (a.cl i).1.toNat).1 ∧ (a.fwd (a.cl i).1.toNat).2 ≤ (a.cl i).2.2 := by
  cases hk : (a.cl i).1.toNat with
  | zero => unfold Axis.fwd; exact nar_clue 0 a.cl _ a.n i hi (by omega)
  | succ k => unfold Axis.fwd; exact nar_clue _ a.cl _ a.n i hi (by omega)
/-- all least ends together are a truth. -/
theorem Axis.low_truth {a : Axis} (h : a.fine) (hc : a.can) : a.truth fun k => (a.ends k).1 where
  chuck := by
    have h1 := a.fwd_chuck
    have h2 := a.ends_fwd 0 (by omega)
    have h3 := Axis.ends_can h hc 0
    omega
  wear := fun k hk => by
    have h1 := a.ends_step k hk
    have h2 := a.fwd_step k
    have h3 := a.ends_fwd (k+1) (by omega)
    have := h.w
    rw [h1]; dsimp only; omega
  clue := fun i hi => by
    have hc' := h.cl i hi
    have h1 := a.fwd_clue i hi hc'.1
    have h2 := a.ends_fwd (a.cl i).1.toNat (by omega)
    have h3 := Axis.ends_can h hc (a.cl i).1.toNat
    omega
/-- all greatest ends together are a truth. -/
theorem Axis.high_truth {a : Axis} (h : a.fine) (hc : a.can) : a.truth fun k => (a.ends k).2 where
  chuck := by
    have h1 := a.fwd_chuck
    have h2 := a.ends_fwd 0 (by omega)
    have h3 := Axis.ends_can h hc 0
    omega
  wear := fun k hk => by
    have h1 := a.ends_step k hk
    have h2 := a.fwd_step k
    have h3 := a.ends_fwd (k+1) (by omega)
    have := h.w
    rw [h1]; dsimp only; omega
  clue := fun i hi => by
    have hc' := h.cl i hi
    have h1 := a.fwd_clue i hi hc'.1
    have h2 := a.ends_fwd (a.cl i).1.toNat (by omega)
    have h3 := Axis.ends_can h hc (a.cl i).1.toNat
    omega
end Go.Proofs.YtppefjmllebacaaGreatDoor
namespace Go.Proofs.YtppefjmllebacaaGreatDoor
theorem nar_own (k : Int) (cl : Nat → Int × Int × Int) (s : Int × Int) (h1 : -1000 ≤ s.1) (h2 : s.2 ≤ 1000) : ∀ n, nar k cl n s = (max (nar k cl n (-1000, 1000)).1 s.1, min (nar k cl n (-1000, 1000)).2 s.2)
  | 0 => by unfold nar; refine Prod.ext ?_ ?_ <;> dsimp only <;> omega
  | n+1 => by
    have h := nar_own k cl s h1 h2 n
    unfold nar
    split
    · rw [h]; refine Prod.ext ?_ ?_ <;> dsimp only <;> omega
    · exact h
/-- the reference's first pass. -/
theorem Axis.fwd_zero_own {a : Axis} (h : a.fine) : a.fwd 0 = (max (nar 0 a.cl a.n (-1000, 1000)).1 a.c0, min (nar 0 a.cl a.n (-1000, 1000)).2 a.c1) := by
  have := h.c
  unfold Axis.fwd
  exact nar_own 0 a.cl (a.c0, a.c1) (by dsimp only; omega) (by dsimp only; omega) a.n
theorem Axis.fwd_succ_own {a : Axis} (h : a.fine) (k : Nat) (hk : k < 12) : a.fwd (k+1) = (max (nar ((k : Int) + 1) a.cl a.n (-1000, 1000)).1 ((a.fwd k).1 + a.w0), min (nar ((k : Int) + 1) a.cl a.n (-1000, 1000)).2 ((a.fwd k).2 + a.w1)) := by
  have hb := Axis.fwd_bound h k (by omega)
  have := h.w
  conv => lhs; unfold Axis.fwd
  exact nar_own _ a.cl _ (by dsimp only; omega) (by dsimp only; omega) a.n
theorem Axis.can_iff {a : Axis} (h : a.fine) : a.can ↔ ∀ k, k ≤ 12 → (a.ends k).1 ≤ (a.ends k).2 := by
  refine ⟨fun hc k _ => Axis.ends_can h hc k, fun he k hk => ?_⟩
  have := a.ends_fwd k hk
  have := he k hk
  omega
theorem nar_own_bound (k : Int) (cl : Nat → Int × Int × Int) (n : Nat) (h : ∀ i, i < n → -84 ≤ (cl i).2.1 ∧ (cl i).2.1 ≤ 84 ∧ -84 ≤ (cl i).2.2 ∧ (cl i).2.2 ≤ 84) : -1000 ≤ (nar k cl n (-1000, 1000)).1 ∧ (nar k cl n (-1000, 1000)).1 ≤ 84 ∧ -84 ≤ (nar k cl n (-1000, 1000)).2 ∧ (nar k cl n (-1000, 1000)).2 ≤ 1000 := by
  have h1 := nar_le k cl (-1000, 1000) n
  have h2 := nar_bound (k := k) (cl := cl) (s := (-1000, 1000)) (b := 84) ⟨by dsimp only; omega, by dsimp only; omega⟩ (n := n) fun i hi => by have := h i hi; omega
  dsimp only at h1
  omega
theorem Axis.any_bound {a : Axis} (h : a.fine) (k : Nat) (hk : k ≤ 12) : -48 ≤ (a.ends k).1 ∧ (a.ends k).2 ≤ 48 ∧ (a.ends k).1 ≤ 200 ∧ -200 ≤ (a.ends k).2 := by
  have key : ∀ j, j ≤ 12 → -48 ≤ (a.bwd j).1 ∧ (a.bwd j).2 ≤ 48 ∧ (a.bwd j).1 ≤ 120 + 3 * (j : Int) ∧ -120 - 3 * (j : Int) ≤ (a.bwd j).2 := by
    intro j
    induction j with
    | zero => intro _; have := Axis.fwd_bound h 12 (by omega); unfold Axis.bwd; omega
    | succ j ih =>
      intro hj
      have ih := ih (by omega)
      have hb := Axis.fwd_bound h (11 - j) (by omega)
      have := h.w
      unfold Axis.bwd
      dsimp only; omega
  have := key (12 - k) (by omega)
  unfold Axis.ends
  omega
end Go.Proofs.YtppefjmllebacaaGreatDoor
namespace Go.Proofs.YtppefjmllebacaaGreatDoor
open Go.RowKit
/-- clues as alongX and alongY make them. -/
def CSp (w : World) (v : Value) (n : Nat) (cl : Nat → Int × Int × Int) : Prop := (v = .slice none 0 0 ∧ n = 0) ∨ (0 < n ∧ ∃ b off cap, v = .slice (some ⟨b, off, none⟩) n cap ∧ b < w.heap.size ∧ CPts w b off n cl)
theorem CSp.below {w w' : World} {v : Value} {n : Nat} {cl : Nat → Int × Int × Int} (h : CSp w v n cl) (hb : Below w.heap.size w w') : CSp w' v n cl := by
  rcases h with h | ⟨h0, b, off, cap, h1, h2, h3⟩
  · exact .inl h
  · exact .inr ⟨h0, b, off, cap, h1, Nat.lt_of_lt_of_le h2 hb.size, h3.below hb h2⟩
theorem CSp.slice {w : World} {v : Value} {n : Nat} {cl : Nat → Int × Int × Int} (h : CSp w v n cl) : ∃ a c, v = .slice a n c := by
  rcases h with ⟨h, h0⟩ | ⟨h0, b, off, cap, h1, h2, h3⟩
  · exact ⟨none, 0, by rw [h, h0]⟩
  · exact ⟨_, _, h1⟩
theorem csp_of_row {w : World} {B : Nat} {e : TypeId} {v : Value} {n : Nat} {f : Nat → Int × Int × Int} (h : w.ownsRow B e 3 v n (clueCells f n)) (h0 : n = 0 → v = .slice none 0 0) : CSp w v n f := by
  by_cases hn : n = 0
  · exact .inl ⟨h0 hn, hn⟩
  · rcases csl_of_row h with h | ⟨b, off, cap, h1, h2, h3⟩
    · exact absurd h.2 hn
    · exact .inr ⟨by omega, b, off, cap, h1, h2, h3⟩
theorem concat_any (g : Nat) (v : Value) (n : Nat) (cl : Nat → Int × Int × Int) (w : World) (hn : n ≤ 1000) (hg : g < w.heap.size) (e0 : w.cell? ⟨g, 0, none⟩ = some v) (e1 : w.cell? ⟨g, 1, none⟩ = some (.slice none 0 0)) (hp : CSp w v n cl) :
    Calls Tryz.prog 108 #[.slice (some ⟨g, 0, none⟩) 2 2] w fun e w' => ∃ v, e = .returned v ∧ w'.ownsRow w.heap.size 136 3 v n (clueCells cl n) ∧ Below w.heap.size w w' := by
  rcases hp with ⟨rfl, rfl⟩ | ⟨h0, b, off, cap, rfl, hb, hp⟩
  · exact concat_nil g w e0 e1
  · exact concat_some g b off n cap cl w h0 hn hg hb e0 e1 hp
/-- a course in memory. -/
structure CAt (W : World) (C : Nat) (f : Nat → Int × Int) : Prop where
  c : ∀ j, j < 13 → W.cell? ⟨C, j * 2, none⟩ = some (.int .i64 (f j).1) ∧ W.cell? ⟨C, j * 2 + 1, none⟩ = some (.int .i64 (f j).2)
  z : ∀ i, W.frozen? ⟨C, i, none⟩ = false
theorem CAt.far {W W' : World} {C : Nat} {f : Nat → Int × Int} (h : CAt W C f) (hh : W'.heap[C]? = W.heap[C]?) : CAt W' C f :=
  ⟨fun j hj => ⟨(World.cell?_of_block hh).trans (h.c j hj).1, (World.cell?_of_block hh).trans (h.c j hj).2⟩, fun i => (show W'.frozen? ⟨C, i, none⟩ = W.frozen? ⟨C, i, none⟩ by unfold World.frozen?; rw [hh]).trans (h.z i)⟩
theorem CAt.below {W W' : World} {C B : Nat} {f : Nat → Int × Int} (h : CAt W C f) (hb : Below B W W') (hl : C < B) : CAt W' C f := h.far (hb.block C hl)
theorem CAt.store {W : World} {C : Nat} {f : Nat → Int × Int} (h : CAt W C f) (k : Nat) (hk : k < 13) (x y : Int) : CAt ((W.setCell ⟨C, k * 2, none⟩ (.int .i64 x)).setCell ⟨C, k * 2 + 1, none⟩ (.int .i64 y)) C (fun j => if j = k then (x, y) else f j) := by
  obtain ⟨k1, k2⟩ := h.c k hk
  refine ⟨fun j hj => ?_, fun i => by rw [World.frozen?_setCell, World.frozen?_setCell]; exact h.z i⟩
  by_cases hjk : j = k
  · subst hjk
    simp only [if_true]
    constructor
    · rw [World.cell?_setCell_other _ _ (a := ⟨C, j * 2 + 1, none⟩) (b := ⟨C, j * 2, none⟩) (by intro h; injection h with h1 h2 h3; omega)]; exact World.cell?_setCell_same' _ _ _ (by rw [k1]; rfl)
    · exact World.cell?_setCell_same' _ _ _ (by rw [World.cell?_setCell_other _ _ (a := ⟨C, j * 2, none⟩) (b := ⟨C, j * 2 + 1, none⟩) (by intro h; injection h with h1 h2 h3; omega), k2]; rfl)
  · rw [if_neg hjk]
    obtain ⟨j1, j2⟩ := h.c j hj
    constructor
    · rw [World.cell?_setCell_other _ _ (a := ⟨C, k * 2 + 1, none⟩) (b := ⟨C, j * 2, none⟩) (by intro h; injection h with h1 h2 h3; omega), World.cell?_setCell_other _ _ (a := ⟨C, k * 2, none⟩) (b := ⟨C, j * 2, none⟩) (by intro h; injection h with h1 h2 h3; omega)]; exact j1
    · rw [World.cell?_setCell_other _ _ (a := ⟨C, k * 2 + 1, none⟩) (b := ⟨C, j * 2 + 1, none⟩) (by intro h; injection h with h1 h2 h3; omega), World.cell?_setCell_other _ _ (a := ⟨C, k * 2, none⟩) (b := ⟨C, j * 2 + 1, none⟩) (by intro h; injection h with h1 h2 h3; omega)]; exact j2
theorem cat_new (w : World) (e : TypeId) : CAt (w.alloc (Obj.cells #[.int .i64 0, .int .i64 0, .int .i64 0, .int .i64 0, .int .i64 0, .int .i64 0, .int .i64 0, .int .i64 0, .int .i64 0, .int .i64 0, .int .i64 0, .int .i64 0, .int .i64 0, .int .i64 0, .int .i64 0, .int .i64 0, .int .i64 0, .int .i64 0, .int .i64 0, .int .i64 0, .int .i64 0, .int .i64 0, .int .i64 0, .int .i64 0, .int .i64 0, .int .i64 0] e)) w.heap.size (fun _ => (0, 0)) := by
  refine ⟨fun j hj => ?_, fun i => by simp [go_sem]⟩
  have key : ∀ i, i < 26 → (#[.int .i64 0, .int .i64 0, .int .i64 0, .int .i64 0, .int .i64 0, .int .i64 0, .int .i64 0, .int .i64 0, .int .i64 0, .int .i64 0, .int .i64 0, .int .i64 0, .int .i64 0, .int .i64 0, .int .i64 0, .int .i64 0, .int .i64 0, .int .i64 0, .int .i64 0, .int .i64 0, .int .i64 0, .int .i64 0, .int .i64 0, .int .i64 0, .int .i64 0, .int .i64 0] : Array Value)[i]? = some (.int .i64 0) := by
    intro i hi
    match i, hi with
    | 0, _ => rfl | 1, _ => rfl | 2, _ => rfl | 3, _ => rfl | 4, _ => rfl | 5, _ => rfl | 6, _ => rfl | 7, _ => rfl | 8, _ => rfl | 9, _ => rfl | 10, _ => rfl | 11, _ => rfl | 12, _ => rfl
    | 13, _ => rfl | 14, _ => rfl | 15, _ => rfl | 16, _ => rfl | 17, _ => rfl | 18, _ => rfl | 19, _ => rfl | 20, _ => rfl | 21, _ => rfl | 22, _ => rfl | 23, _ => rfl | 24, _ => rfl | 25, _ => rfl
    | n+26, h => omega
  exact ⟨cells_new w _ _ (key _ (by omega)), cells_new w _ _ (key _ (by omega))⟩
def spCells : List (Int × Int) → List Value
  | [] => []
  | s :: l => .int .i64 s.1 :: .int .i64 s.2 :: spCells l
theorem spCells_append : ∀ l m, spCells (l ++ m) = spCells l ++ spCells m
  | [], m => rfl
  | s :: l, m => by rw [List.cons_append, spCells, spCells, spCells_append l m]; rfl
theorem spCells_at : ∀ (l : List (Int × Int)) (j : Nat) (p : Int × Int), l[j]? = some p → (spCells l)[j * 2]? = some (.int .i64 p.1) ∧ (spCells l)[j * 2 + 1]? = some (.int .i64 p.2)
  | [], j, p, h => by simp at h
  | s :: l, 0, p, h => by
    simp at h; subst h; exact ⟨rfl, rfl⟩
  | s :: l, j+1, p, h => by
    rw [List.getElem?_cons_succ] at h
    obtain ⟨h1, h2⟩ := spCells_at l j p h
    rw [show (j + 1) * 2 = j * 2 + 1 + 1 by omega, spCells]
    exact ⟨h1, h2⟩
theorem sps_of_row {w : World} {B g n cap : Nat} {e : TypeId} {l : List (Int × Int)} (h : w.ownsRow B e 2 (.slice (some ⟨g, 0, none⟩) n cap) n (spCells l)) (hn : n = l.length) : Sps w g 0 l := fun j p hj => by
  obtain ⟨h1, h2⟩ := spCells_at l j p hj
  have hl := (List.getElem?_eq_some_iff.1 hj).1
  rw [Nat.zero_add]
  exact ⟨(h.cellAt (j * 2) (by omega)).trans h1, (h.cellAt (j * 2 + 1) (by omega)).trans h2⟩
theorem Tryz.info24 : (Tryz.prog.info? 24).map (fun i => (i.zero, i.size, i.bytes)) = some (some (.agg #[.int .i64 0, .int .i64 0]), 2, 16) := by kernel_rfl
end Go.Proofs.YtppefjmllebacaaGreatDoor
