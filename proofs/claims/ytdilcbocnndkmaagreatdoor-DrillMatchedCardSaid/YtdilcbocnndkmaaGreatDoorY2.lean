/- A part of the proof: see the last file. -/
import Derived.Test.YtdilcbocnndkmaaGreatDoorX13
set_option linter.unusedVariables false
set_option linter.unusedSimpArgs false
set_option linter.unusedSectionVars false
namespace Go.Proofs.YtdilcbocnndkmaaGreatDoor
open Go.RowKit
/-! ### What is found, by a list of all orders -/
/-- all ways to go on from p by d more, none twice, in order. -/
def ext (many : Nat) : Nat → List Nat → List (List Nat)
  | 0, p => [p]
  | d+1, p => (List.range many).flatMap fun j => if p.contains j then [] else ext many d (p ++ [j])
/-- from the place a on, d places fit. -/
def fitsA (fit : Nat → Nat → Bool) (q : List Nat) (a : Nat) : Nat → Bool
  | 0 => true
  | d+1 => fit a (q.getD a 0) && fitsA fit q (a+1) d
theorem ext_pre {many : Nat} : ∀ {d : Nat} {p q : List Nat}, q ∈ ext many d p → ∃ s, q = p ++ s ∧ s.length = d
  | 0, p, q, h => by simp [ext] at h; exact ⟨[], by simp [h], rfl⟩
  | d+1, p, q, h => by
    simp only [ext, List.mem_flatMap] at h
    obtain ⟨j, _, hj⟩ := h
    split at hj
    · cases hj
    · obtain ⟨s, h1, h2⟩ := ext_pre hj
      exact ⟨j :: s, by simp [h1], by simp [h2]⟩
theorem ext_at {many d : Nat} {p q : List Nat} {j : Nat} (h : q ∈ ext many d (p ++ [j])) : q.getD p.length 0 = j := by
  obtain ⟨s, rfl, _⟩ := ext_pre h
  simp [List.getD]
theorem find_flat {α β : Type} {P : β → Bool} {f : α → List β} : ∀ {l : List α}, (l.flatMap f).find? P = l.findSome? fun a => (f a).find? P
  | [] => rfl
  | a :: l => by
    rw [List.flatMap_cons, List.find?_append, List.findSome?_cons, find_flat (l := l)]
    cases (f a).find? P <;> rfl
theorem scan_some {f : Nat → Option (List Nat)} : ∀ {m j : Nat}, scan f j m = (List.range' j m).findSome? f
  | 0, j => rfl
  | m+1, j => by
    rw [List.range'_succ, List.findSome?_cons]
    unfold scan
    rw [scan_some (m := m)]
    cases f j <;> rfl
theorem findSome_congr {α β : Type} {f g : α → Option β} : ∀ {l : List α}, (∀ a ∈ l, f a = g a) → l.findSome? f = l.findSome? g
  | [], _ => rfl
  | a :: l, h => by
    rw [List.findSome?_cons, List.findSome?_cons, h a (by simp), findSome_congr fun b hb => h b (by simp [hb])]
theorem find_congr {α : Type} {f g : α → Bool} : ∀ {l : List α}, (∀ a ∈ l, f a = g a) → l.find? f = l.find? g
  | [], _ => rfl
  | a :: l, h => by
    rw [List.find?_cons, List.find?_cons, h a (by simp), find_congr fun b hb => h b (by simp [hb])]
theorem firstC_find {fit : Nat → Nat → Bool} {many : Nat} : ∀ {d : Nat} {p : List Nat}, firstC fit many d p = (ext many d p).find? fun q => fitsA fit q p.length d
  | 0, p => by simp [firstC, ext, fitsA]
  | d+1, p => by
    rw [firstC, scan_some, ext, find_flat, List.range_eq_range']
    refine findSome_congr fun j _ => ?_
    by_cases h1 : p.contains j = true
    · rw [h1, if_pos rfl]; rfl
    · have h1 : p.contains j = false := by simpa using h1
      rw [h1]
      simp only [Bool.false_or, if_false, Bool.false_eq_true]
      cases h2 : fit p.length j with
      | false =>
        simp only [Bool.not_false, if_true]
        symm
        rw [List.find?_eq_none]
        intro q hq
        simp only [fitsA]
        rw [ext_at hq, h2]; simp
      | true =>
        simp only [Bool.not_true, Bool.false_eq_true, if_false]
        rw [firstC_find (d := d)]
        refine find_congr fun q hq => ?_
        have : (p ++ [j]).length = p.length + 1 := by simp
        rw [this]
        simp only [fitsA]
        rw [ext_at hq, h2, Bool.true_and]
theorem fitsA_iff {fit : Nat → Nat → Bool} {q : List Nat} : ∀ {d a : Nat}, fitsA fit q a d = true ↔ ∀ i, a ≤ i → i < a + d → fit i (q.getD i 0) = true
  | 0, a => by simp [fitsA]; intro i h1 h2; omega
  | d+1, a => by
    simp only [fitsA, Bool.and_eq_true]
    rw [fitsA_iff]
    constructor
    · rintro ⟨h1, h2⟩ i h3 h4
      rcases Nat.eq_or_lt_of_le h3 with rfl | h5
      · exact h1
      · exact h2 i h5 (by omega)
    · intro h
      exact ⟨h a (Nat.le_refl _) (by omega), fun i h3 h4 => h i (by omega) (by omega)⟩
/-- the orders, one by one. -/
def ords (many : Nat) : List (List Nat) := ext many many []
def agQ (fit : Nat → Nat → Bool) (many : Nat) (q : List Nat) : Bool := decide (∀ i, i < many → fit i (q.getD i 0) = true)
theorem agQ_fits {fit : Nat → Nat → Bool} {many : Nat} {q : List Nat} : fitsA fit q 0 many = agQ fit many q := by
  rw [Bool.eq_iff_iff, fitsA_iff]
  unfold agQ
  rw [decide_eq_true_iff]
  exact ⟨fun h i hi => h i (Nat.zero_le _) (by omega), fun h i _ hi => h i (by omega)⟩
theorem firstC_ords {fit : Nat → Nat → Bool} {many : Nat} : firstC fit many many [] = (ords many).find? (agQ fit many) := by
  rw [firstC_find]
  exact find_congr fun q _ => agQ_fits
theorem ords2 : ords 2 = [[0,1],[1,0]] := by decide
theorem ords3 : ords 3 = [[0,1,2],[0,2,1],[1,0,2],[1,2,0],[2,0,1],[2,1,0]] := by decide
theorem ords4 : ords 4 = [[0,1,2,3],[0,1,3,2],[0,2,1,3],[0,2,3,1],[0,3,1,2],[0,3,2,1],[1,0,2,3],[1,0,3,2],[1,2,0,3],[1,2,3,0],[1,3,0,2],[1,3,2,0],[2,0,1,3],[2,0,3,1],[2,1,0,3],[2,1,3,0],[2,3,0,1],[2,3,1,0],[3,0,1,2],[3,0,2,1],[3,1,0,2],[3,1,2,0],[3,2,0,1],[3,2,1,0]] := by decide
/-! ### Which measures -/
theorem idxQ_none {f : Nat → Bool} : ∀ {m k : Nat}, idxQ f k m = -1 ↔ ∀ j, k ≤ j → j < k + m → f j = false
  | 0, k => by simp [idxQ]; intro j h1 h2; omega
  | m+1, k => by
    unfold idxQ
    constructor
    · intro h j h1 h2
      split at h
      · omega
      · next hk =>
        rcases Nat.eq_or_lt_of_le h1 with rfl | h3
        · simpa using hk
        · exact idxQ_none.1 h j h3 (by omega)
    · intro h
      rw [if_neg (by rw [h k (Nat.le_refl _) (by omega)]; simp), idxQ_none]
      intro j h1 h2
      exact h j (by omega) (by omega)
theorem idxQ_neg {f : Nat → Bool} : ∀ {m k : Nat}, idxQ f k m < 0 → idxQ f k m = -1
  | 0, k, _ => rfl
  | m+1, k, h => by
    unfold idxQ at h ⊢
    split at h
    · omega
    · next hk => rw [if_neg hk]; exact idxQ_neg h
theorem hasP_no {x y : Int} {X Y : Nat → Int} {n : Nat} : hasP x y X Y n = false ↔ ∀ k, k < n → ptEq x y X Y k = false := by
  unfold hasP
  rw [decide_eq_false_iff_not]
  constructor
  · intro h k hk
    exact idxQ_none.1 (idxQ_neg (m := n) (k := 0) (by omega)) k (Nat.zero_le _) (by omega)
  · intro h
    rw [idxQ_none.2 fun j _ hj => h j (by omega)]; omega
theorem dupI_none {n : Nat} {X Y : Nat → Int} : dupI X Y n = -1 ↔ ∀ i, i < n → ∀ k, k < i → ptEq (X i) (Y i) X Y k = false := by
  unfold dupI
  rw [idxQ_none]
  exact ⟨fun h i hi => hasP_no.1 (h i (Nat.zero_le _) (by omega)), fun h i _ hi => hasP_no.2 (h i (by omega))⟩
theorem arB_pon2 {n : Nat} {least : Int} {X Y : Nat → Int} {r : Int} : arB n least X Y r = ponB n least 4 X Y r := by unfold arB ponB; exact Bool.and_comm _ _
theorem chk_meas (n : Nat) (X Y : Nat → Int) (r : Int) : chkE n X Y r = if measB n X Y r = true then 0 else 2 := by
  unfold chkE measB
  rw [arB_pon2]
  by_cases h1 : ponB n 2 4 X Y 20 = true
  · by_cases h2 : inB r 0 6 = true
    · simp only [h1, h2, if_true, Bool.and_true, decide_eq_true_iff]
      by_cases h3 : dupI X Y n = -1
      · rw [if_pos h3, if_pos (dupI_none.1 h3)]
      · rw [if_neg h3, if_neg (fun h => h3 (dupI_none.2 h))]
    · simp [h1, h2]
  · simp [h1]
theorem meas_parts {n : Nat} {X Y : Nat → Int} {r : Int} (h : measB n X Y r = true) : (2 ≤ n ∧ n ≤ 4) ∧ (0 ≤ r ∧ r ≤ 6) ∧ (∀ i, i < n → small (X i, Y i)) := by
  unfold measB ponB at h
  simp only [Bool.and_eq_true] at h
  obtain ⟨_, ⟨h1, h2⟩, h3⟩ := h
  have h2 := inB_iff.1 h2
  refine ⟨⟨by omega, by omega⟩, inB_iff.1 h3, fun i hi => ?_⟩
  have := allB_iff.1 h1 i hi
  unfold ptB at this
  rw [Bool.and_eq_true, inB_iff, inB_iff] at this
  exact ⟨⟨by dsimp only; omega, by dsimp only; omega⟩, by dsimp only; omega, by dsimp only; omega⟩
/-! ### The turns are a group -/
theorem trn_back (s t : Nat) (hs : s < 8) (ht : t < 8) : ∃ t', t' < 8 ∧ ∀ p : Int × Int, trn t' (trn s p) = trn t p := by
  have hh : ∀ k, k < 4 → ∀ p, ∃ q, rot k p = q := fun k _ p => ⟨_, rfl⟩
  let k := s % 4
  let m' := if s < 4 then t / 4 else 1 - t / 4
  refine ⟨4 * m' + (if m' = 0 then (t % 4 + 4 - k) % 4 else (t % 4 + k) % 4), ?_, ?_⟩
  · show 4 * (if s < 4 then t / 4 else 1 - t / 4) + _ < 8
    have : (if s < 4 then t / 4 else 1 - t / 4) ≤ 1 := by split <;> omega
    have h2 : (if m' = 0 then (t % 4 + 4 - k) % 4 else (t % 4 + k) % 4) < 4 := by split <;> omega
    omega
  · rintro ⟨x, y⟩
    obtain rfl | rfl | rfl | rfl | rfl | rfl | rfl | rfl : s = 0 ∨ s = 1 ∨ s = 2 ∨ s = 3 ∨ s = 4 ∨ s = 5 ∨ s = 6 ∨ s = 7 := by omega
    all_goals
      obtain rfl | rfl | rfl | rfl | rfl | rfl | rfl | rfl : t = 0 ∨ t = 1 ∨ t = 2 ∨ t = 3 ∨ t = 4 ∨ t = 5 ∨ t = 6 ∨ t = 7 := by omega
    all_goals simp [trn, rot, k, m']
/-- points that are turned are of a measure just if they were. -/
theorem matchS_none {many : Nat} {HX HY PX PY : Nat → Int} {r : Int} : matchS many HX HY PX PY r = none ↔ ∀ t, t < 8 → ∀ q ∈ ords many, agQ (fitB HX HY PX PY r t) many q = false := by
  have key : ∀ (f : Nat → Option (List Nat)) (m j : Nat), scanP f j m = none ↔ ∀ t, j ≤ t → t < j + m → f t = none := by
    intro f m
    induction m with
    | zero => intro j; simp [scanP]; intro t h1 h2; omega
    | succ m ih =>
      intro j
      unfold scanP
      cases h : f j with
      | some q =>
        simp only [reduceCtorEq, false_iff]
        intro hh
        have := hh j (Nat.le_refl _) (by omega)
        rw [h] at this; cases this
      | none =>
        simp only []
        rw [ih]
        constructor
        · intro hh t h1 h2
          rcases Nat.eq_or_lt_of_le h1 with rfl | h3
          · exact h
          · exact hh t h3 (by omega)
        · intro hh t h1 h2
          exact hh t (by omega) (by omega)
  unfold matchS
  rw [key]
  constructor
  · intro h t ht q hq
    have := h t (Nat.zero_le _) (by omega)
    rw [firstC_ords, List.find?_eq_none] at this
    simpa using this q hq
  · intro h t _ ht
    rw [firstC_ords, List.find?_eq_none]
    intro q hq
    simpa using h t (by omega) q hq
theorem matchS_turned {many s : Nat} {HX HY PX PY : Nat → Int} {r : Int} (hs : s < 8) :
    (matchS many HX HY (fun i => (trn s (PX i, PY i)).1) (fun i => (trn s (PX i, PY i)).2) r = none ↔ matchS many HX HY PX PY r = none) := by
  rw [matchS_none, matchS_none]
  have hf : ∀ t t' : Nat, (∀ p : Int × Int, trn t' (trn s p) = trn t p) → ∀ q, agQ (fitB HX HY (fun i => (trn s (PX i, PY i)).1) (fun i => (trn s (PX i, PY i)).2) r t') many q = agQ (fitB HX HY PX PY r t) many q := by
    intro t t' h q
    unfold agQ fitB
    simp only [h]
  constructor
  · intro h t ht q hq
    obtain ⟨t', h1, h2⟩ := trn_back s t hs ht
    rw [← hf t t' h2 q]
    exact h t' h1 q hq
  · intro h t' ht' q hq
    -- t' after s is some t
    have : ∃ t, t < 8 ∧ ∀ p : Int × Int, trn t' (trn s p) = trn t p := by
      obtain ⟨s', h1, h2⟩ := trn_back s 0 hs (by decide)
      obtain ⟨t, h3, h4⟩ := trn_back s' t' h1 ht'
      refine ⟨t, h3, fun p => ?_⟩
      have e1 : trn s' (trn s p) = p := by rw [h2]; simp [trn, rot]
      have e2 := h4 (trn s p)
      rw [e1] at e2
      exact e2.symm
    obtain ⟨t, h1, h2⟩ := this
    rw [hf t t' h2 q]
    exact h t h1 q hq
end Go.Proofs.YtdilcbocnndkmaaGreatDoor
