/- A part of the proof: see the last file. -/
import Derived.Test.YtdilcbocnndkmaaGreatDoorY8
set_option linter.unusedVariables false
set_option linter.unusedSimpArgs false
set_option linter.unusedSectionVars false
namespace Go.Proofs.YtdilcbocnndkmaaGreatDoor
open Go.RowKit Go.Can
/-! ### Orders, one before another -/
def befF (q p : List Nat) : Nat → Nat → Bool
  | _, 0 => false
  | k, m+1 => if q.getD k 0 = p.getD k 0 then befF q p (k+1) m else decide (q.getD k 0 < p.getD k 0)
theorem befF_same {q p : List Nat} {n k : Nat} (h : k < n) (e : q.getD k 0 = p.getD k 0) : befF q p k (n - k) = befF q p (k+1) (n - (k+1)) := by
  obtain ⟨m, hm⟩ : ∃ m, n - k = m + 1 := ⟨n - k - 1, by omega⟩
  rw [hm, show n - (k+1) = m by omega]; conv => lhs; unfold befF
  rw [if_pos e]
theorem befF_part {q p : List Nat} {n k : Nat} (h : k < n) (e : q.getD k 0 ≠ p.getD k 0) : befF q p k (n - k) = decide (q.getD k 0 < p.getD k 0) := by
  obtain ⟨m, hm⟩ : ∃ m, n - k = m + 1 := ⟨n - k - 1, by omega⟩
  rw [hm]; unfold befF
  rw [if_neg e]
theorem find_first {α : Type} {R : α → α → Prop} {P : α → Bool} : ∀ {l : List α} {a b : α}, l.Pairwise R → l.find? P = some a → b ∈ l → P b = true → a = b ∨ R a b
  | [], a, b, _, h, _, _ => by cases h
  | x :: l, a, b, hp, h, hb, hP => by
    rw [List.pairwise_cons] at hp
    rw [List.find?_cons] at h
    cases hx : P x with
    | true =>
      rw [hx] at h
      cases h
      rcases List.mem_cons.1 hb with rfl | h1
      · exact .inl rfl
      · exact .inr (hp.1 b h1)
    | false =>
      rw [hx] at h
      rcases List.mem_cons.1 hb with rfl | h1
      · rw [hx] at hP; cases hP
      · exact find_first hp.2 h h1 hP
theorem ords_sorted {n : Nat} (h1 : 2 ≤ n) (h2 : n ≤ 4) : (ords n).Pairwise fun a b => befF b a 0 n = false := by
  obtain rfl | rfl | rfl : n = 2 ∨ n = 3 ∨ n = 4 := by omega
  · rw [ords2]; decide
  · rw [ords3]; decide
  · rw [ords4]; decide +kernel
theorem befF_self (q : List Nat) : ∀ m k, befF q q k m = false
  | 0, _ => rfl
  | m+1, k => by unfold befF; rw [if_pos rfl]; exact befF_self q m (k+1)
theorem scanP_some {f : Nat → Option (List Nat)} : ∀ {m j : Nat} {t : Nat} {q : List Nat}, scanP f j m = some (t, q) → j ≤ t ∧ t < j + m ∧ f t = some q ∧ ∀ s, j ≤ s → s < t → f s = none
  | 0, j, t, q, h => by cases h
  | m+1, j, t, q, h => by
    unfold scanP at h
    cases hf : f j with
    | some x =>
      rw [hf] at h
      cases h
      exact ⟨Nat.le_refl _, by omega, hf, fun s h1 h2 => absurd h2 (by omega)⟩
    | none =>
      rw [hf] at h
      obtain ⟨h1, h2, h3, h4⟩ := scanP_some (m := m) h
      refine ⟨by omega, by omega, h3, fun s h5 h6 => ?_⟩
      rcases Nat.eq_or_lt_of_le h5 with rfl | h7
      · exact hf
      · exact h4 s h7 h6
theorem matchS_some {n : Nat} {HX HY PX PY : Nat → Int} {r : Int} {t : Nat} {q : List Nat} (h1 : 2 ≤ n) (h2 : n ≤ 4) (h : matchS n HX HY PX PY r = some (t, q)) :
    t < 8 ∧ q ∈ ords n ∧ agQ (fitB HX HY PX PY r t) n q = true ∧ (∀ s, s < t → ∀ p ∈ ords n, agQ (fitB HX HY PX PY r s) n p = false) ∧ ∀ p ∈ ords n, agQ (fitB HX HY PX PY r t) n p = true → befF p q 0 n = false := by
  obtain ⟨_, k2, k3, k4⟩ := scanP_some h
  rw [firstC_ords] at k3
  refine ⟨by omega, List.mem_of_find?_eq_some k3, List.find?_some k3, fun s hs p hp => ?_, fun p hp ha => ?_⟩
  · have := k4 s (Nat.zero_le _) hs
    rw [firstC_ords, List.find?_eq_none] at this
    simpa using this p hp
  · rcases find_first (ords_sorted h1 h2) k3 hp ha with rfl | h5
    · exact befF_self _ _ _
    · exact h5
/-- an order, of numbers. -/
def ordB (n : Nat) (F : Nat → Int) (many : Int) : Bool := decide (∀ i, i < n → (∀ k, k < i → F i ≠ F k) ∧ inB (F i) 0 (many - 1) = true) && decide ((n : Int) = many)
theorem perm2 : ∀ a, a < 2 → ∀ b, b < 2 → b ≠ a → [a, b] ∈ ords 2 := by rw [ords2]; decide
def chk3 : Bool := (List.range 3).all fun a => (List.range 3).all fun b => (List.range 3).all fun c => (decide (b = a) || decide (c = a) || decide (c = b)) || (ords 3).contains [a, b, c]
def chk4 : Bool := (List.range 4).all fun a => (List.range 4).all fun b => (List.range 4).all fun c => (List.range 4).all fun d => (decide (b = a) || decide (c = a) || decide (c = b) || decide (d = a) || decide (d = b) || decide (d = c)) || (ords 4).contains [a, b, c, d]
theorem chk3_ok : chk3 = true := by decide +kernel
theorem chk4_ok : chk4 = true := by decide +kernel
theorem perm3 : ∀ a, a < 3 → ∀ b, b < 3 → ∀ c, c < 3 → (b ≠ a ∧ c ≠ a ∧ c ≠ b) → [a, b, c] ∈ ords 3 := by
  intro a ha b hb c hc ⟨h1, h2, h3⟩
  have h := chk3_ok
  unfold chk3 at h
  simp only [List.all_eq_true, List.mem_range] at h
  have := h a ha b hb c hc
  simpa [h1, h2, h3] using this
theorem perm4 : ∀ a, a < 4 → ∀ b, b < 4 → ∀ c, c < 4 → ∀ d, d < 4 → (b ≠ a ∧ c ≠ a ∧ c ≠ b ∧ d ≠ a ∧ d ≠ b ∧ d ≠ c) → [a, b, c, d] ∈ ords 4 := by
  intro a ha b hb c hc d hd ⟨h1, h2, h3, h4, h5, h6⟩
  have h := chk4_ok
  unfold chk4 at h
  simp only [List.all_eq_true, List.mem_range] at h
  have := h a ha b hb c hc d hd
  simpa [h1, h2, h3, h4, h5, h6] using this
theorem ordB_ords {n : Nat} {F : Nat → Int} (h1 : 2 ≤ n) (h2 : n ≤ 4) (h : ordB n F n = true) : ∃ q ∈ ords n, ∀ i, i < n → F i = ((q.getD i 0 : Nat) : Int) := by
  unfold ordB at h
  rw [Bool.and_eq_true, decide_eq_true_iff] at h
  have hh := h.1
  have hN : ∀ i, i < n → F i = ((F i).toNat : Int) ∧ (F i).toNat < n := fun i hi => by
    have := inB_iff.1 (hh i hi).2
    omega
  have hD : ∀ i k, i < n → k < i → (F i).toNat ≠ (F k).toNat := fun i k hi hk e => by
    have a := (hN i hi).1
    have b := (hN k (by omega)).1
    exact (hh i hi).1 k hk (by omega)
  obtain rfl | rfl | rfl : n = 2 ∨ n = 3 ∨ n = 4 := by omega
  · refine ⟨[(F 0).toNat, (F 1).toNat], perm2 _ (hN 0 (by omega)).2 _ (hN 1 (by omega)).2 (hD 1 0 (by omega) (by omega)), fun i hi => ?_⟩
    obtain rfl | rfl : i = 0 ∨ i = 1 := by omega
    · exact (hN 0 (by omega)).1
    · exact (hN 1 (by omega)).1
  · refine ⟨[(F 0).toNat, (F 1).toNat, (F 2).toNat], perm3 _ (hN 0 (by omega)).2 _ (hN 1 (by omega)).2 _ (hN 2 (by omega)).2 ⟨hD 1 0 (by omega) (by omega), hD 2 0 (by omega) (by omega), hD 2 1 (by omega) (by omega)⟩, fun i hi => ?_⟩
    obtain rfl | rfl | rfl : i = 0 ∨ i = 1 ∨ i = 2 := by omega
    · exact (hN 0 (by omega)).1
    · exact (hN 1 (by omega)).1
    · exact (hN 2 (by omega)).1
  · refine ⟨[(F 0).toNat, (F 1).toNat, (F 2).toNat, (F 3).toNat], perm4 _ (hN 0 (by omega)).2 _ (hN 1 (by omega)).2 _ (hN 2 (by omega)).2 _ (hN 3 (by omega)).2 ⟨hD 1 0 (by omega) (by omega), hD 2 0 (by omega) (by omega), hD 2 1 (by omega) (by omega), hD 3 0 (by omega) (by omega), hD 3 1 (by omega) (by omega), hD 3 2 (by omega) (by omega)⟩, fun i hi => ?_⟩
    obtain rfl | rfl | rfl | rfl : i = 0 ∨ i = 1 ∨ i = 2 ∨ i = 3 := by omega
    · exact (hN 0 (by omega)).1
    · exact (hN 1 (by omega)).1
    · exact (hN 2 (by omega)).1
    · exact (hN 3 (by omega)).1
theorem ords_ordB {n : Nat} (h1 : 2 ≤ n) (h2 : n ≤ 4) : ∀ q ∈ ords n, ordB n (fun i => ((q.getD i 0 : Nat) : Int)) n = true := by
  intro q hq
  have key : ∀ i, i < n → (∀ k, k < i → q.getD i 0 ≠ q.getD k 0) ∧ q.getD i 0 < n := by
    revert q
    obtain rfl | rfl | rfl : n = 2 ∨ n = 3 ∨ n = 4 := by omega
    · rw [ords2]; decide
    · rw [ords3]; decide
    · rw [ords4]; decide +kernel
  unfold ordB
  rw [Bool.and_eq_true, decide_eq_true_iff, decide_eq_true_iff]
  refine ⟨fun i hi => ⟨fun k hk e => (key i hi).1 k hk (by dsimp only at e; omega), inB_yes (Int.natCast_nonneg _) (by have := (key i hi).2; dsimp only; omega)⟩, rfl⟩
end Go.Proofs.YtdilcbocnndkmaaGreatDoor
