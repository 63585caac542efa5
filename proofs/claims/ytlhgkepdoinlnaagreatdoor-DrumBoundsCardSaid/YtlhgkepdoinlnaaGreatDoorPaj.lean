/- A part of the proof: see the last file. -/
import Derived.Test.YtlhgkepdoinlnaaGreatDoorPah
set_option linter.unusedVariables false
set_option linter.unusedSimpArgs false
set_option linter.unusedSectionVars false
/-! Layer 3's math: what several acids make together; bounds of ends (no program text is mentioned) -/
namespace Go.Drum
/-- the least and the greatest of some acids' ends in an hour. -/
def hullTo (e : Nat → Nat → Int × Int) : List Nat → Nat → Int × Int
 | [], _ => (0, 0)
 | i :: l, h => l.foldl (fun s j => (min s.1 (e j h).1, max s.2 (e j h).2)) (e i h)
theorem hullTo_one (e : Nat → Nat → Int × Int) (i h : Nat) : hullTo e [i] h = e i h := rfl
theorem hullTo_push (e : Nat → Nat → Int × Int) {l : List Nat} (hl : l ≠ []) (j h : Nat) : hullTo e (l ++ [j]) h = (min (hullTo e l h).1 (e j h).1, max (hullTo e l h).2 (e j h).2) := by
 cases l with
 | nil => exact absurd rfl hl
 | cons i l => show (l ++ [j]).foldl _ _ = _; rw [List.foldl_append]; rfl
theorem hullTo_fold {e : Nat → Nat → Int × Int} {h : Nat} : ∀ (l : List Nat) (s : Int × Int), ((l.foldl (fun s j => (min s.1 (e j h).1, max s.2 (e j h).2)) s).1 ≤ s.1 ∧ s.2 ≤ (l.foldl (fun s j => (min s.1 (e j h).1, max s.2 (e j h).2)) s).2) ∧ ∀ j ∈ l, (l.foldl (fun s j => (min s.1 (e j h).1, max s.2 (e j h).2)) s).1 ≤ (e j h).1 ∧ (e j h).2 ≤ (l.foldl (fun s j => (min s.1 (e j h).1, max s.2 (e j h).2)) s).2
 | [], s => ⟨⟨Int.le_refl _, Int.le_refl _⟩, fun j hj => by cases hj⟩
 | i :: l, s => by
  obtain ⟨⟨h1, h2⟩, h3⟩ := hullTo_fold (e := e) (h := h) l (min s.1 (e i h).1, max s.2 (e i h).2)
  (try dsimp only at h1 h2)
  refine ⟨⟨?_, ?_⟩, fun j hj => ?_⟩
  ·show (l.foldl _ (min s.1 (e i h).1, max s.2 (e i h).2)).1 ≤ s.1; omega
  ·show s.2 ≤ (l.foldl _ (min s.1 (e i h).1, max s.2 (e i h).2)).2; omega
  ·rcases List.mem_cons.1 hj with rfl | hj
   ·show (l.foldl _ (min s.1 (e j h).1, max s.2 (e j h).2)).1 ≤ _ ∧ _ ≤ (l.foldl _ (min s.1 (e j h).1, max s.2 (e j h).2)).2
    exact ⟨by omega, by omega⟩
   ·exact h3 j hj
theorem hullTo_in {e : Nat → Nat → Int × Int} {h : Nat} {l : List Nat} {j : Nat} (hj : j ∈ l) : (hullTo e l h).1 ≤ (e j h).1 ∧ (e j h).2 ≤ (hullTo e l h).2 := by
 cases l with
 | nil => cases hj
 | cons i l =>
  obtain ⟨⟨h1, h2⟩, h3⟩ := hullTo_fold (e := e) (h := h) l (e i h)
  rcases List.mem_cons.1 hj with rfl | hj
  ·exact ⟨h1, h2⟩
  ·exact h3 j hj
theorem Acid.next_le1 {a : Acid} {h : Nat} (hs : a.small h) {k : Nat} (hk : k < h) (b : Int × Int) (hb : 0 ≤ b.2) : (a.next k b).2 ≤ (if k = 0 then 100 else b.2) + 100 := by
 have hl := cuts_le (k : Int) a.cl (if k = 0 then (a.s0 + a.add 0, a.s1 + a.add 0) else a.fall k b) a.n
 have h1 := hs.s; have h2 := hs.f; have h3 := hs.add k hk
 unfold Acid.next
 by_cases hz : k = 0
 ·subst hz
  rw [if_pos rfl] at hl ⊢
  rw [if_pos rfl]
  (try dsimp only at hl)
  omega
 ·rw [if_neg hz] at hl ⊢
  rw [if_neg hz]
  unfold Acid.fall at hl ⊢
  (try dsimp only at hl ⊢)
  omega
theorem Acid.fwd_small1 {a : Acid} {h : Nat} (hs : a.small h) (hc : a.can h) : ∀ k, k < h → (a.fwd k).2 ≤ 100 * (k + 1) + 100
 | 0, hk => by
  have h2 := Acid.next_le1 hs hk (0, 0) (Int.le_refl _)
  rw [if_pos rfl] at h2
  rw [Acid.fwd]; omega
 | k+1, hk => by
  have ih := Acid.fwd_small1 hs hc k (by omega)
  have h0 := Acid.fwd_small hs k (by omega)
  have h1 := hc k (by omega)
  have h2 := Acid.next_le1 hs hk (a.fwd k) (by omega)
  rw [if_neg (by omega)] at h2
  rw [Acid.fwd]; omega
/-- the ends of an hour are no greater than all that was put in. -/
theorem Acid.ends_small1 {a : Acid} {h : Nat} (hs : a.small h) (hc : a.can h) (hh : h ≤ 12) {k : Nat} (hk : k < h) : 0 ≤ (a.ends h k).1 ∧ (a.ends h k).1 ≤ (a.ends h k).2 ∧ (a.ends h k).2 ≤ 1300 := by
 have h1 := Acid.fwd_small hs k hk
 have h0 := Acid.fwd_small1 hs hc k hk
 obtain ⟨⟨h2, h3⟩, h4⟩ := Acid.ends_ok hs.fine hc k hk
 omega
end Go.Drum
