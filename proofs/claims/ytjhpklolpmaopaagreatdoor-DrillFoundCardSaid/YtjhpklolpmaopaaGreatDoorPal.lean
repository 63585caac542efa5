/- A part of the proof: see the last file. -/
import Derived.Test.YtjhpklolpmaopaaGreatDoorPak
import Derived.Test.YtjhpklolpmaopaaGreatDoorPai
import Derived.Test.YtjhpklolpmaopaaGreatDoorPae
import Derived.Test.YtjhpklolpmaopaaGreatDoorPab
set_option linter.unusedVariables false
set_option linter.unusedSimpArgs false
set_option linter.unusedSectionVars false
namespace Go.Proofs.YtjhpklolpmaopaaGreatDoor
open Go.RowKit
/-! ### A value between the ends is a truth's, and one clue more -/
theorem Axis.at_truth {a : Axis} (h : a.fine) (hc : a.can) {k : Nat} (hk : k ≤ 12) {v : Int} (h1 : (a.ends k).1 ≤ v) (h2 : v ≤ (a.ends k).2) : ∃ x, a.truth x ∧ x k = v := by
 have hL := Axis.low_truth h hc
 have hH := Axis.high_truth h hc
 have hle := fun j => Axis.ends_can h hc j
 refine ⟨fun j => min (a.ends j).2 ((a.ends j).1 + (v - (a.ends k).1)), ⟨?_, fun j hj => ?_, fun i hi => ?_⟩, ?_⟩
 ·have c1 := hL.chuck
  have c2 := hH.chuck
  have c3 := hle 0
  (try dsimp only at *); omega
 ·have c1 := hL.wear j hj
  have c2 := hH.wear j hj
  (try dsimp only at *); omega
 ·have c1 := hL.clue i hi
  have c2 := hH.clue i hi
  have c3 := hle (a.cl i).1.toNat
  (try dsimp only at *); omega
 ·have := hle k
  dsimp only; omega
theorem Axis.can_truth {a : Axis} (h : a.fine) : a.can ↔ ∃ x, a.truth x := ⟨fun hc => ⟨_, Axis.low_truth h hc⟩, fun ⟨_, ht⟩ => Axis.can_of h ht⟩
/-- an axis with one clue more. -/
structure Axis.Plus (a b : Axis) (k : Nat) (lo hi : Int) : Prop where
 c0 : b.c0 = a.c0
 c1 : b.c1 = a.c1
 w0 : b.w0 = a.w0
 w1 : b.w1 = a.w1
 n : b.n = a.n + 1
 old : ∀ i, i < a.n → b.cl i = a.cl i
 new : b.cl a.n = ((k : Int), lo, hi)
theorem Axis.Plus.truth {a b : Axis} {k : Nat} {lo hi : Int} (h : a.Plus b k lo hi) (x : Nat → Int) : b.truth x ↔ a.truth x ∧ lo ≤ x k ∧ x k ≤ hi := by
 constructor
 ·intro t
  refine ⟨⟨?_, fun j hj => ?_, fun i hi => ?_⟩, ?_⟩
  ·have := t.chuck; rw [h.c0, h.c1] at this; exact this
  ·have := t.wear j hj; rw [h.w0, h.w1] at this; exact this
  ·have := t.clue i (by rw [h.n]; omega); rw [h.old i hi] at this; exact this
  ·have := t.clue a.n (by rw [h.n]; omega); rw [h.new] at this; simpa using this
 ·rintro ⟨t, hk⟩
  refine ⟨?_, fun j hj => ?_, fun i hi => ?_⟩
  ·rw [h.c0, h.c1]; exact t.chuck
  ·rw [h.w0, h.w1]; exact t.wear j hj
  ·rw [h.n] at hi
   by_cases he : i = a.n
   ·subst he; rw [h.new]; simpa using hk
   ·rw [h.old i (by omega)]; exact t.clue i (by omega)
theorem Axis.Plus.fine {a b : Axis} {k : Nat} {lo hi : Int} (h : a.Plus b k lo hi) (hf : a.fine) (hn : a.n ≤ 7) (hk : k ≤ 12) (h1 : -110 ≤ lo ∧ lo ≤ 110) (h2 : -110 ≤ hi ∧ hi ≤ 110) : b.fine := by
 refine ⟨by rw [h.c0, h.c1]; exact hf.c, by rw [h.w0, h.w1]; exact hf.w, by rw [h.n]; omega, fun i hi => ?_⟩
 rw [h.n] at hi
 by_cases he : i = a.n
 ·subst he; rw [h.new]; dsimp only; omega
 ·rw [h.old i (by omega)]; exact hf.cl i (by omega)
/-- it is possible just if the clue has a value between the ends. -/
theorem Axis.Plus.can {a b : Axis} {k : Nat} {lo hi : Int} (h : a.Plus b k lo hi) (hf : a.fine) (hb : b.fine) (hc : a.can) (hk : k ≤ 12) : b.can ↔ ∃ v, (a.ends k).1 ≤ v ∧ v ≤ (a.ends k).2 ∧ lo ≤ v ∧ v ≤ hi := by
 rw [Axis.can_truth hb]
 constructor
 ·rintro ⟨x, hx⟩
  obtain ⟨t, g⟩ := (h.truth x).1 hx
  have := Axis.ends_in hf t k hk
  exact ⟨x k, this.1, this.2, g⟩
 ·rintro ⟨v, v1, v2, v3, v4⟩
  obtain ⟨x, t, rfl⟩ := Axis.at_truth hf hc hk v1 v2
  exact ⟨x, (h.truth x).2 ⟨t, v3, v4⟩⟩
/-! ### The boxes of a button -/
/-- what one point of a button leaves of a box. -/
def cutB (r : Int) (s p : Int × Int) (b : Int × Int × Int × Int) : Int × Int × Int × Int :=
 (max b.1 (p.1 - s.1 - r), min b.2.1 (p.1 - s.1 + r), max b.2.2.1 (p.2 - s.2 - r), min b.2.2.2 (p.2 - s.2 + r))
/-- the box of a turn and an order, by the first points. -/
def boxB (SX SY HX HY : Nat → Int) (r : Int) (t : Nat) (q : List Nat) : Nat → Int × Int × Int × Int
 | 0 => (-1000, 1000, -1000, 1000)
 | i+1 => cutB r (SX i, SY i) (trn t (HX (q.getD i 0), HY (q.getD i 0))) (boxB SX SY HX HY r t q i)
def boxHas (b : Int × Int × Int × Int) (x y : Int) : Prop := b.1 ≤ x ∧ x ≤ b.2.1 ∧ b.2.2.1 ≤ y ∧ y ≤ b.2.2.2
theorem boxB_has {SX SY HX HY : Nat → Int} {r : Int} {t : Nat} {q : List Nat} {x y : Int} (hx : -1000 ≤ x ∧ x ≤ 1000) (hy : -1000 ≤ y ∧ y ≤ 1000) : ∀ n, boxHas (boxB SX SY HX HY r t q n) x y ↔ ∀ i, i < n → fitB (fun i => SX i + x) (fun i => SY i + y) HX HY r t i (q.getD i 0) = true
 | 0 => ⟨fun _ i h => absurd h (Nat.not_lt_zero i), fun _ => ⟨hx.1, hx.2, hy.1, hy.2⟩⟩
 | n+1 => by
  have ih := boxB_has (SX := SX) (SY := SY) (HX := HX) (HY := HY) (r := r) (t := t) (q := q) hx hy n
  have key : boxHas (boxB SX SY HX HY r t q (n+1)) x y ↔ boxHas (boxB SX SY HX HY r t q n) x y ∧ fitB (fun i => SX i + x) (fun i => SY i + y) HX HY r t n (q.getD n 0) = true := by
   unfold fitB nearB
   rw [Bool.and_eq_true, inB_iff, inB_iff]
   conv => lhs; unfold boxB cutB
   unfold boxHas
   dsimp only
   generalize (trn t (HX (q.getD n 0), HY (q.getD n 0))).1 = p
   generalize (trn t (HX (q.getD n 0), HY (q.getD n 0))).2 = p'
   omega
  rw [key, ih]
  constructor
  ·rintro ⟨h1, h2⟩ i hi
   by_cases he : i = n
   ·subst he; exact h2
   ·exact h1 i (by omega)
  ·intro h
   exact ⟨fun i hi => h i (by omega), h n (by omega)⟩
/-- a button agrees just if a box of a turn and an order has the point. -/
theorem agree_box {n : Nat} {HX HY SX SY : Nat → Int} {r x y : Int} (hx : -1000 ≤ x ∧ x ≤ 1000) (hy : -1000 ≤ y ∧ y ≤ 1000) : agreeB n HX HY SX SY r x y = true ↔ ∃ t, t < 8 ∧ ∃ q ∈ ords n, boxHas (boxB SX SY HX HY r t q n) x y := by
 constructor
 ·intro h
  false_or_by_contra
  rename_i hno
  have : matchS n (fun i => SX i + x) (fun i => SY i + y) HX HY r = none := matchS_none.2 fun t ht q hq => by
   cases hg : agQ (fitB (fun i => SX i + x) (fun i => SY i + y) HX HY r t) n q with
   | false => rfl
   | true =>
    refine absurd ⟨t, ht, q, hq, (boxB_has hx hy n).2 ?_⟩ hno
    unfold agQ at hg
    exact decide_eq_true_iff.1 hg
  unfold agreeB at h
  rw [this] at h; cases h
 ·rintro ⟨t, ht, q, hq, hb⟩
  unfold agreeB
  cases hs : matchS n (fun i => SX i + x) (fun i => SY i + y) HX HY r with
  | some z => rfl
  | none =>
   have h1 := matchS_none.1 hs t ht q hq
   rw [show agQ (fitB (fun i => SX i + x) (fun i => SY i + y) HX HY r t) n q = true by unfold agQ; exact decide_eq_true ((boxB_has hx hy n).1 hb)] at h1
   cases h1
end Go.Proofs.YtjhpklolpmaopaaGreatDoor
namespace Go.Proofs.YtjhpklolpmaopaaGreatDoor
open Go.RowKit
end Go.Proofs.YtjhpklolpmaopaaGreatDoor
