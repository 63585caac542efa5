/- A part of the proof: see the last file. -/
import Derived.Test.YtdilcbocnndkmaaGreatDoorWd
import Derived.Test.YtdilcbocnndkmaaGreatDoorWa
set_option linter.unusedVariables false
set_option linter.unusedSimpArgs false
set_option linter.unusedSectionVars false
namespace Go.Proofs.YtdilcbocnndkmaaGreatDoor
open Go.RowKit
/-- the first place of r among the first n, from k on; -1 if there is none. -/
def idxI (F : Nat → Int) (r : Int) (k : Nat) : Nat → Int
  | 0 => -1
  | m+1 => if F k = r then (k : Int) else idxI F r (k+1) m
theorem idxI_no {F : Nat → Int} {r : Int} : ∀ {m k : Nat}, (∀ j, k ≤ j → j < k + m → F j ≠ r) → idxI F r k m = -1
  | 0, k, _ => rfl
  | m+1, k, h => by
    unfold idxI
    rw [if_neg (h k (by omega) (by omega))]
    exact idxI_no fun j h1 h2 => h j (by omega) (by omega)
theorem idxI_yes {F : Nat → Int} {r : Int} : ∀ {m k j : Nat}, k ≤ j → j < k + m → F j = r → 0 ≤ idxI F r k m
  | 0, k, j, h1, h2, _ => absurd h2 (by omega)
  | m+1, k, j, h1, h2, h => by
    unfold idxI
    by_cases h3 : F k = r
    · rw [if_pos h3]; omega
    · rw [if_neg h3]
      have : j ≠ k := fun e => h3 (e ▸ h)
      exact idxI_yes (m := m) (k := k+1) (j := j) (by omega) (by omega) h
theorem idxI_bound {F : Nat → Int} {r : Int} : ∀ {m k : Nat}, -1 ≤ idxI F r k m
  | 0, k => by unfold idxI; omega
  | m+1, k => by unfold idxI; split; omega; exact idxI_bound
theorem idxI_hit {F : Nat → Int} {r : Int} {n k : Nat} (hk : k < n) (h : F k = r) : idxI F r k (n - k) = k := by
  obtain ⟨m, hm⟩ : ∃ m, n - k = m + 1 := ⟨n - k - 1, by omega⟩
  rw [hm]; unfold idxI; rw [if_pos h]
theorem idxI_miss {F : Nat → Int} {r : Int} {n k : Nat} (hk : k < n) (h : F k ≠ r) : idxI F r k (n - k) = idxI F r (k+1) (n - (k+1)) := by
  obtain ⟨m, hm⟩ : ∃ m, n - k = m + 1 := ⟨n - k - 1, by omega⟩
  rw [hm, show n - (k+1) = m by omega]; conv => lhs; unfold idxI
  rw [if_neg h]
/-- r is among the first n. -/
def hasB (F : Nat → Int) (r : Int) (n : Nat) : Bool := decide (0 ≤ idxI F r 0 n)
theorem hasB_iff {F : Nat → Int} {r : Int} {n : Nat} : hasB F r n = true ↔ ∃ j, j < n ∧ F j = r := by
  unfold hasB
  rw [decide_eq_true_iff]
  constructor
  · intro h
    exact Classical.byContradiction fun h2 => by
      rw [idxI_no fun j _ hj e => h2 ⟨j, by omega, e⟩] at h; omega
  · rintro ⟨j, hj, e⟩; exact idxI_yes (by omega) (by omega) e
set_option maxRecDepth 100000 in
set_option maxHeartbeats 1000000 in
theorem intIndex_some (b off n cap : Nat) (F : Nat → Int) (r : Int) (w : World) (hn : n ≤ 1000) (hp : Ints w b off n F) (hb : b < w.heap.size) :
    Calls Tryz.prog 163 #[.slice (some ⟨b, off, none⟩) n cap, .int .i64 r] w fun e w' => e = .returned (.int .i64 (idxI F r 0 n)) ∧ Below w.heap.size w w' := by
  go_enter Tryz.func163, Tryz.ntmps163
  go_wp2
  go_loopw [8] (fun i wr => ∃ k : Nat, k ≤ n ∧ i = .int .i64 k ∧ Below w.heap.size w wr ∧ idxI F r 0 n = idxI F r k (n - k)) (fun i _ => n - (intOf i).toNat)
  case atStart => exact ⟨0, Nat.zero_le _, rfl, Below.refl _ _, rfl⟩
  case round =>
    obtain ⟨k, hk, rfl, hbl, hix⟩ := hrel
    by_cases hlt : k < n
    · have hc : wr.cell? ⟨b, off + k, none⟩ = some (.int .i64 (F k)) := (hbl.cell (p := ⟨b, off + k, none⟩) hb).trans (hp k hlt)
      by_cases he : r = F k
      · go_wp2
        go_ret
        rw [idxI_hit hlt he.symm] at hix
        exact ⟨(by rw [hix]; rfl), hbl⟩
      · go_wp2
        go_roundw
        case rel => exact ⟨k + 1, by omega, by go_num, hbl, hix.trans (idxI_miss hlt fun e => he e.symm)⟩
        case measure => simp [intOf]; omega
    · obtain rfl : n = k := by omega
      go_wp2
      go_ret
      rw [Nat.sub_self] at hix
      exact ⟨by rw [hix]; rfl, hbl⟩
set_option maxRecDepth 100000 in
set_option maxHeartbeats 1000000 in
theorem intIndex_nil (a : Option Addr) (c : Nat) (F : Nat → Int) (r : Int) (w : World) :
    Calls Tryz.prog 163 #[.slice a 0 c, .int .i64 r] w fun e w' => e = .returned (.int .i64 (idxI F r 0 0)) ∧ Below w.heap.size w w' := by
  go_enter Tryz.func163, Tryz.ntmps163
  go_wp2
  refine wp_loop_rounds 1 ?_
  rw [rounds_succ]
  go_wp2
  go_ret
  exact ⟨rfl, Below.refl _ _⟩
/-- a slice of numbers. -/
def IntsSl (w : World) (v : Value) (n : Nat) (F : Nat → Int) : Prop :=
  (∃ a c, v = .slice a 0 c ∧ n = 0) ∨ ∃ b off cap, v = .slice (some ⟨b, off, none⟩) n cap ∧ b < w.heap.size ∧ Ints w b off n F
theorem intIndex_any (v : Value) (n : Nat) (F : Nat → Int) (r : Int) (w : World) (hn : n ≤ 1000) (h : IntsSl w v n F) :
    Calls Tryz.prog 163 #[v, .int .i64 r] w fun e w' => e = .returned (.int .i64 (idxI F r 0 n)) ∧ Below w.heap.size w w' := by
  rcases h with ⟨a, c, rfl, rfl⟩ | ⟨b, off, cap, rfl, hb, hp⟩
  · exact intIndex_nil a c F r w
  · exact intIndex_some b off n cap F r w hn hp hb
set_option maxRecDepth 100000 in
set_option maxHeartbeats 1000000 in
theorem intHas_any (v : Value) (n : Nat) (F : Nat → Int) (r : Int) (w : World) (hn : n ≤ 1000) (h : IntsSl w v n F) :
    Calls Tryz.prog 145 #[v, .int .i64 r] w fun e w' => e = .returned (.bool (hasB F r n)) ∧ Below w.heap.size w w' := by
  unfold hasB
  have hi := intIndex_any v n F r w hn h
  generalize idxI F r 0 n = x at hi ⊢
  go_enter Tryz.func145, Tryz.ntmps145
  go_wp2_with (go_at_call 163; refine hi.mono ?_; rintro e w' ⟨rfl, hb⟩)
  go_ret
  exact ⟨rfl, hb⟩
end Go.Proofs.YtdilcbocnndkmaaGreatDoor
