/- A part of the proof: see the last file. -/
import Derived.Test.YtjhpklolpmaopaaGreatDoorPai
import Derived.Test.YtjhpklolpmaopaaGreatDoorPad
import Derived.Maps.OwnSet
import Derived.Below
import Derived.Test.YtjhpklolpmaopaaGreatDoorPab
import Derived.DeepKeys4
import Derived.Test.YtjhpklolpmaopaaGreatDoorPae
set_option linter.unusedVariables false
set_option linter.unusedSimpArgs false
set_option linter.unusedSectionVars false
namespace Go.Proofs.YtjhpklolpmaopaaGreatDoor
open Go.RowKit
end Go.Proofs.YtjhpklolpmaopaaGreatDoor
namespace Go.Proofs.YtjhpklolpmaopaaGreatDoor
open Go.RowKit Go.Shelf
end Go.Proofs.YtjhpklolpmaopaaGreatDoor
/-- a point between two ends each. -/
def Go.Proofs.InBox (x0 x1 y0 y1 x y : Int) : Prop := x0 ≤ x ∧ x ≤ x1 ∧ y0 ≤ y ∧ y ≤ y1
namespace Go.Proofs
/-- what is known of all points of a box: 3 surely, 1 never, 2 perhaps. -/
def IsWord (Q : Int → Int → Bool) (x0 x1 y0 y1 v : Int) : Prop :=
 (v = 3 ∧ ∀ x y, InBox x0 x1 y0 y1 x y → Q x y = true) ∨
 (v = 1 ∧ (∃ x y, InBox x0 x1 y0 y1 x y ∧ Q x y = false) ∧ ∀ x y, InBox x0 x1 y0 y1 x y → Q x y = false) ∨
 (v = 2 ∧ (∃ x y, InBox x0 x1 y0 y1 x y ∧ Q x y = true) ∧ ∃ x y, InBox x0 x1 y0 y1 x y ∧ Q x y = false)
theorem box_not_all {S : Int → Int → Prop} {Q : Int → Int → Bool} {b : Bool} (h : ¬ ∀ x y, S x y → Q x y = b) : ∃ x y, S x y ∧ Q x y = !b :=
 Classical.byContradiction fun hn => h fun x y hs => Classical.byContradiction fun hq => hn ⟨x, y, hs, by cases hb : Q x y <;> cases b <;> simp_all⟩
theorem IsWord.ex (Q : Int → Int → Bool) (x0 x1 y0 y1 : Int) : ∃ v, IsWord Q x0 x1 y0 y1 v := by
 by_cases h : ∀ x y, InBox x0 x1 y0 y1 x y → Q x y = true
 ·exact ⟨3, .inl ⟨rfl, h⟩⟩
 ·have h1 := box_not_all h
  by_cases h2 : ∀ x y, InBox x0 x1 y0 y1 x y → Q x y = false
  ·exact ⟨1, .inr (.inl ⟨rfl, h1, h2⟩)⟩
  ·exact ⟨2, .inr (.inr ⟨rfl, box_not_all h2, h1⟩)⟩
theorem IsWord.same {Q : Int → Int → Bool} {x0 x1 y0 y1 u v : Int} (h : IsWord Q x0 x1 y0 y1 u) (k : IsWord Q x0 x1 y0 y1 v) : u = v := by
 rcases h with ⟨rfl, h⟩ | ⟨rfl, ⟨a, b, h1, h2⟩, h⟩ | ⟨rfl, ⟨a, b, h1, h2⟩, ⟨c, d, h3, h4⟩⟩ <;>
 rcases k with ⟨rfl, k⟩ | ⟨rfl, ⟨a', b', k1, k2⟩, k⟩ | ⟨rfl, ⟨a', b', k1, k2⟩, ⟨c', d', k3, k4⟩⟩
 ·rfl
 ·rw [h _ _ k1] at k2; cases k2
 ·rw [h _ _ k3] at k4; cases k4
 ·rw [k _ _ h1] at h2; cases h2
 ·rfl
 ·rw [h _ _ k1] at k2; cases k2
 ·rw [k _ _ h3] at h4; cases h4
 ·rw [k _ _ h1] at h2; cases h2
 ·rfl
theorem IsWord.range {Q : Int → Int → Bool} {x0 x1 y0 y1 v : Int} (h : IsWord Q x0 x1 y0 y1 v) : v = 1 ∨ v = 2 ∨ v = 3 := by
 rcases h with ⟨h, _⟩ | ⟨h, _⟩ | ⟨h, _⟩ <;> omega
theorem IsWord.surely {Q : Int → Int → Bool} {x0 x1 y0 y1 v : Int} (h : IsWord Q x0 x1 y0 y1 v) : v = 3 ↔ ∀ x y, InBox x0 x1 y0 y1 x y → Q x y = true := by
 rcases h with ⟨rfl, h⟩ | ⟨rfl, ⟨a, b, h1, h2⟩, h⟩ | ⟨rfl, _, ⟨a, b, h1, h2⟩⟩
 ·exact ⟨fun _ => h, fun _ => rfl⟩
 all_goals
  exact ⟨fun h => absurd h (by decide), fun k => by rw [k _ _ h1] at h2; cases h2⟩
/-- how many of some points do, and how many there are. -/
structure Cnt (Q : Int → Int → Bool) (S : Int → Int → Prop) (good all : Int) : Prop where
 lo : 0 ≤ good
 le : good ≤ all
 ga : good = all ↔ ∀ x y, S x y → Q x y = true
 gn : good = 0 ↔ ∀ x y, S x y → Q x y = false
theorem Cnt.none {Q : Int → Int → Bool} {S : Int → Int → Prop} (h : ∀ x y, ¬ S x y) : Cnt Q S 0 0 :=
 ⟨by omega, by omega, ⟨fun _ x y hs => absurd hs (h x y), fun _ => rfl⟩, ⟨fun _ x y hs => absurd hs (h x y), fun _ => rfl⟩⟩
theorem Cnt.congr {Q : Int → Int → Bool} {S S' : Int → Int → Prop} {g n : Int} (h : Cnt Q S g n) (hs : ∀ x y, S' x y ↔ S x y) : Cnt Q S' g n :=
 ⟨h.lo, h.le, by rw [h.ga]; exact ⟨fun k x y hx => k x y ((hs x y).1 hx), fun k x y hx => k x y ((hs x y).2 hx)⟩, by rw [h.gn]; exact ⟨fun k x y hx => k x y ((hs x y).1 hx), fun k x y hx => k x y ((hs x y).2 hx)⟩⟩
theorem Cnt.yes {Q : Int → Int → Bool} {S S' : Int → Int → Prop} {g n a b : Int} (h : Cnt Q S g n) (hs : ∀ x y, S' x y ↔ S x y ∨ (x = a ∧ y = b)) (hq : Q a b = true) : Cnt Q S' (g + 1) (n + 1) := by
 obtain ⟨h1, h2, h3, h4⟩ := h
 refine ⟨by omega, by omega, ⟨fun e x y hx => ?_, fun k => ?_⟩, ⟨fun e => by omega, fun k => ?_⟩⟩
 ·rcases (hs x y).1 hx with hx | ⟨rfl, rfl⟩
  ·exact h3.1 (by omega) x y hx
  ·exact hq
 ·have := h3.2 fun x y hx => k x y ((hs x y).2 (.inl hx))
  omega
 ·have := k a b ((hs a b).2 (.inr ⟨rfl, rfl⟩))
  rw [hq] at this; cases this
theorem Cnt.no {Q : Int → Int → Bool} {S S' : Int → Int → Prop} {g n a b : Int} (h : Cnt Q S g n) (hs : ∀ x y, S' x y ↔ S x y ∨ (x = a ∧ y = b)) (hq : Q a b = false) : Cnt Q S' g (n + 1) := by
 obtain ⟨h1, h2, h3, h4⟩ := h
 refine ⟨by omega, by omega, ⟨fun e x y hx => by omega, fun k => ?_⟩, ⟨fun e x y hx => ?_, fun k => h4.2 fun x y hx => k x y ((hs x y).2 (.inl hx))⟩⟩
 ·have := k a b ((hs a b).2 (.inr ⟨rfl, rfl⟩))
  rw [hq] at this; cases this
 ·rcases (hs x y).1 hx with hx | ⟨rfl, rfl⟩
  ·exact h4.1 e x y hx
  ·exact hq
/-- the points of a box that come before some one, row by row. -/
def Seen (x0 y0 y1 a b x y : Int) : Prop := x0 ≤ x ∧ y0 ≤ y ∧ y ≤ y1 ∧ (x < a ∨ x = a ∧ y < b)
theorem Seen.start {x0 y0 y1 x y : Int} : ¬ Seen x0 y0 y1 x0 y0 x y := by unfold Seen; omega
theorem Seen.step {x0 y0 y1 a b : Int} (ha : x0 ≤ a) (hb : y0 ≤ b) (hb1 : b ≤ y1) (x y : Int) : Seen x0 y0 y1 a (b + 1) x y ↔ Seen x0 y0 y1 a b x y ∨ (x = a ∧ y = b) := by unfold Seen; omega
theorem Seen.row {x0 y0 y1 a b : Int} (hb : y1 < b) (x y : Int) : Seen x0 y0 y1 (a + 1) y0 x y ↔ Seen x0 y0 y1 a b x y := by unfold Seen; omega
theorem Seen.all {x0 x1 y0 y1 a : Int} (ha : x1 + 1 = a ∨ (x1 < x0 ∧ a = x0)) (x y : Int) : InBox x0 x1 y0 y1 x y ↔ Seen x0 y0 y1 a y0 x y := by unfold Seen InBox; omega
/-- the number up to which all are sure. -/
def IsGauge (W : Nat → Int) (n : Nat) : Prop := n ≤ 12 ∧ (∀ k, k < n → W (k + 1) = 3) ∧ (n < 12 → W (n + 1) ≠ 3)
theorem IsGauge.same {W : Nat → Int} {n m : Nat} (h : IsGauge W n) (k : IsGauge W m) : n = m := by
 obtain ⟨h1, h2, h3⟩ := h
 obtain ⟨k1, k2, k3⟩ := k
 rcases Nat.lt_trichotomy n m with hl | rfl | hl
 ·exact absurd (k2 n hl) (h3 (by omega))
 ·rfl
 ·exact absurd (h2 m hl) (k3 (by omega))
theorem IsGauge.ex (W : Nat → Int) : ∃ n, IsGauge W n := by
 have key : ∀ d n, n + d = 12 → (∀ k, k < n → W (k + 1) = 3) → ∃ m, IsGauge W m := by
  intro d
  induction d with
  | zero => intro n hn hk; exact ⟨n, by omega, hk, fun h => by omega⟩
  | succ d ih =>
   intro n hn hk
   by_cases h : W (n + 1) = 3
   ·refine ih (n + 1) (by omega) fun k hlt => ?_
    rcases Nat.lt_succ_iff_lt_or_eq.1 hlt with h1 | rfl
    ·exact hk k h1
    ·exact h
   ·exact ⟨n, by omega, hk, fun _ => h⟩
 exact key 12 0 rfl fun k hk => absurd hk (Nat.not_lt_zero _)
end Go.Proofs
namespace Go.Proofs
open Go.Maps Go.WideElems Go.ChangeMaps Go.MapKept Go.RowKit
/-- a point as a map's key. -/
abbrev ptV (x y : Int) : Value := .agg #[.int .i64 x, .int .i64 y]
/-- what a type of maps from points to bools has. -/
structure PtMap (P : Program) (t k e : TypeId) : Prop where
 K : Keyed P k
 ht : P.underlying t = some (.map k e)
 he : P.underlying e = some .bool
 hz : ∀ w, (zeroValue e).run P w = .ok (.bool false) w
 key : ∀ x y : Int, (Lit.int .i64 x).wf = true → (Lit.int .i64 y).wf = true → ∃ kl, keyOf P k (ptV x y) = some kl
/-- a map of at most so many entries, each of which says of a point what Q says. -/
def GoodMap (P : Program) (k e : TypeId) (w : World) (b n : Nat) (Q : Int → Int → Bool) : Prop :=
 ∃ es clock, w.heap[b]? = some (.map es clock) ∧ Fit P k (plainElem (H := Unit) P e) es clock ∧ es.size ≤ n ∧ ∀ x ∈ es.toList, ∃ a c : Int, x.key = ptV a c ∧ x.val = .bool (Q a c)
variable {P : Program} {t k e : TypeId} {w : World} {b n : Nat} {Q : Int → Int → Bool}
theorem GoodMap.made (P : Program) (k e : TypeId) (Q : Int → Int → Bool) (w : World) : GoodMap P k e (w.alloc (.map #[] 0)) w.heap.size 0 Q :=
 ⟨#[], 0, (MapKept.heap_alloc w _).1, ⟨by simp, stamped_empty 0, by simp⟩, Nat.le_refl _, by simp⟩
theorem GoodMap.lt (h : GoodMap P k e w b n Q) : b < w.heap.size := by
 obtain ⟨es, clock, hb, _⟩ := h
 exact (Array.getElem?_eq_some_iff.1 hb).1
theorem GoodMap.far {w' : World} (h : GoodMap P k e w b n Q) (hh : w'.heap[b]? = w.heap[b]?) : GoodMap P k e w' b n Q := by
 obtain ⟨es, clock, hb, r⟩ := h
 exact ⟨es, clock, hh.trans hb, r⟩
theorem GoodMap.kept {w' : World} {row : Option Nat} (h : GoodMap P k e w b n Q) (hg : w.grownBy w' row) (hne : some b ≠ row) : GoodMap P k e w' b n Q := h.far (hg.block b h.lt hne)
theorem GoodMap.below {w' : World} {B : Nat} (h : GoodMap P k e w b n Q) (hb : Below B w w') (hl : b < B) : GoodMap P k e w' b n Q := h.far (hb.block b hl)
theorem GoodMap.mono {m : Nat} (h : GoodMap P k e w b n Q) (hm : n ≤ m) : GoodMap P k e w b m Q := by
 obtain ⟨es, clock, h1, h2, h3, h4⟩ := h
 exact ⟨es, clock, h1, h2, Nat.le_trans h3 hm, h4⟩
theorem GoodMap.look (hp : PtMap P t k e) (h : GoodMap P k e w b n Q) {x y : Int} (hx : (Lit.int .i64 x).wf = true) (hy : (Lit.int .i64 y).wf = true) :
  ∃ f : Bool, (Instr.lookup t (.map (some b)) (ptV x y) true).run P w = .ok (.tuple #[.bool (f && Q x y), .bool f]) w := by
 obtain ⟨es, clock, hb, F, _, hall⟩ := h
 obtain ⟨kl, hkey⟩ := hp.key x y hx hy
 rcases Maps.fit_look true hp.K hp.ht (hp.hz w) hb F hkey with ⟨hrun, _⟩ | ⟨e0, y0, hm, hk0, hrun, _⟩
 ·exact ⟨false, hrun⟩
 ·obtain ⟨a, c, h1, h2⟩ := hall e0 hm
  rw [hk0] at h1
  cases h1
  exact ⟨true, by rw [hrun, h2]; rfl⟩
theorem GoodMap.store (hp : PtMap P t k e) (h : GoodMap P k e w b n Q) (hn : n < maxLen) {x y : Int} (hx : (Lit.int .i64 x).wf = true) (hy : (Lit.int .i64 y).wf = true) :
  ∃ w', (Instr.mapUpdate t (.map (some b)) (ptV x y) (.bool (Q x y))).run P w = .ok () w' ∧ GoodMap P k e w' b (n + 1) Q ∧ w.grownBy w' (some b) := by
 obtain ⟨es, clock, hb, F, hs, hall⟩ := h
 obtain ⟨kl, hkey⟩ := hp.key x y hx hy
 obtain ⟨es', clock', hrun, F', hput, _, _, hwho⟩ := Maps.fit_store (R' := plainElem (H := Unit) P e) hp.K hp.ht hb F (Nat.lt_of_le_of_lt hs hn) (fun _ _ _ _ hz => hz) hkey (plainElem_bool hp.he (Q x y))
 refine ⟨_, hrun, ⟨es', clock', heap_setBlock_same hb _, F', ?_, ?_⟩, ⟨rfl, rfl, rfl, by simp [setBlock], fun i _ hi => heap_setBlock_other hb _ (fun e => hi (by rw [e]))⟩⟩
 ·have e1 : es'.size = ((es'.toList.map (rg P k (plainElem (H := Unit) P e))).foldr DataW.insert []).length := by rw [length_sorted]; simp
  rw [e1, hput]
  unfold putKey
  rw [length_insert]
  have e2 := List.length_filter_le (notKey kl) ((es.toList.map (rg P k (plainElem (H := Unit) P e))).foldr DataW.insert [])
  rw [length_sorted] at e2
  simp at e2
  omega
 ·intro x' hx'
  rcases hwho x' hx' with ⟨h1, _⟩ | ⟨h1, h2⟩
  ·exact hall x' h1
  ·exact ⟨x, y, h1, h2⟩
/-- the look-up with ok at its operation. -/
theorem wpList_lookup_good {ops : Array Oper} {rest : List Oper} {o : Oper} {a : Act} {R : Exit → Act → World → Prop} (w : World)
  (hg : o.guard = none) (m x : Operand) (t : TypeId) (hop : o.op = Op.lookup t m x true) (hp : PtMap P t k e)
  (hm : a.eval m = .map (some b)) (h : GoodMap P k e w b n Q) (px py : Int) (hx : a.eval x = ptV px py) (wx : (Lit.int .i64 px).wf = true) (wy : (Lit.int .i64 py).wf = true)
  (hK : ∀ f : Bool, wpList P ops R rest (a.put o.dst (.tuple #[.bool (f && Q px py), .bool f])) w) : wpList P ops R (o :: rest) a w := by
 refine wpList_plain hg fun K' hK' => ?_
 obtain ⟨f, hrun⟩ := h.look hp wx wy
 unfold Oper.wp
 simp [execOp, hop, hm, hx, hrun, Result.andThen]
 exact hK' _ _ (hK f)
/-- the store at its operation. -/
theorem wpList_mapUpdate_good {ops : Array Oper} {rest : List Oper} {o : Oper} {a : Act} {R : Exit → Act → World → Prop} (w : World)
  (hg : o.guard = none) (m x v : Operand) (t : TypeId) (hop : o.op = Op.mapUpdate t m x v) (hp : PtMap P t k e)
  (hm : a.eval m = .map (some b)) (h : GoodMap P k e w b n Q) (hn : n < maxLen) (px py : Int) (hx : a.eval x = ptV px py) (hv : a.eval v = .bool (Q px py)) (wx : (Lit.int .i64 px).wf = true) (wy : (Lit.int .i64 py).wf = true)
  (hK : ∀ w', GoodMap P k e w' b (n + 1) Q → w.grownBy w' (some b) → wpList P ops R rest (a.put o.dst undef) w') : wpList P ops R (o :: rest) a w := by
 refine wpList_plain hg fun K' hK' => ?_
 obtain ⟨w', hrun, r1, r2⟩ := h.store hp hn wx wy
 unfold Oper.wp
 simp [execOp, hop, hm, hx, hv, hrun, Result.andThen]
 exact hK' _ _ (hK w' r1 r2)
end Go.Proofs
namespace Go.Proofs
open Go.Maps
/-- what a point reads as, as a key. -/
theorem ptKey_gen {P : Program} {k i : TypeId} {n0 n1 t0 t1 : String} {e0 e1 : Bool} {x0 x1 : String} {z0 z1 : Nat} (hu : P.underlying k = some (.struct #[⟨n0, i, 0, e0, t0, x0, z0⟩, ⟨n1, i, 1, e1, t1, x1, z1⟩])) (hi : P.underlying i = some (.int .i64)) (hn0 : n0 ≠ "_") (hn1 : n1 ≠ "_")
  (hc : P.cellsOf k = 2) (hc1 : P.cellsOf i = 1) (hk : P.keyType k = true) (hz : 0 < P.types.size) {x y : Int} (hx : (Lit.int .i64 x).wf = true) (hy : (Lit.int .i64 y).wf = true) :
  ∃ kl, keyOf P k (ptV x y) = some kl := by
 obtain ⟨d, hd⟩ : ∃ d, P.types.size = d + 1 := ⟨P.types.size - 1, by omega⟩
 refine ⟨.string (keyBytes [.int .i64 x, .int .i64 y]), ?_⟩
 simp [keyOf, hd, hk, hc, hc1, Program.keyLits, hu, hi, Value.formed, Value.cells, hx, hy, hn0, hn1]
end Go.Proofs
namespace Go.Proofs.YtjhpklolpmaopaaGreatDoor
open Go.RowKit Go.Maps
theorem laidOutM : laidOutB Tryz.prog = true := by kernel_rfl
theorem ptkU : (Tryz.prog.underlying 43) = some (.struct #[⟨"X", 3, 0, false, "", "", 0⟩, ⟨"Y", 3, 1, false, "", "", 8⟩]) := by kernel_rfl
theorem ptkS : 0 < Tryz.prog.types.size := of_decide_eq_true (by kernel_rfl)
theorem ptkK : Tryz.prog.keyType 43 = true := by kernel_rfl
theorem ptkC : Tryz.prog.cellsOf 43 = 2 := by kernel_rfl
theorem ptkI : Tryz.prog.cellsOf 3 = 1 := by kernel_rfl
theorem ptkR : (43 : TypeId) < Tryz.prog.types.size := of_decide_eq_true (by kernel_rfl)
theorem ptkA : Tryz.prog.keyTypeAt 2 43 = true := by kernel_rfl
theorem ptkZ (w : World) : (zeroValue 4).run Tryz.prog w = .ok (.bool false) w := by kernel_rfl
theorem ptm : PtMap Tryz.prog 101 43 4 where
 K := Keyed.of_law (deep_law_laid laidOutM (m := 2) (by omega) ptkR ptkA (by rw [ptkU]))
 ht := Tryz.underlying101
 he := Tryz.underlying4
 hz := ptkZ
 key := fun _ _ hx hy => ptKey_gen ptkU Tryz.underlying3 (by decide) (by decide) ptkC ptkI ptkK ptkS hx hy
end Go.Proofs.YtjhpklolpmaopaaGreatDoor
namespace Go.Proofs.YtjhpklolpmaopaaGreatDoor
open Go.RowKit
end Go.Proofs.YtjhpklolpmaopaaGreatDoor
namespace Go.Proofs.YtjhpklolpmaopaaGreatDoor
open Go.RowKit
theorem axes_lit (m : Mach) (w : World) :
  Calls Tryz.prog 57 #[.agg #[.slice m.sa m.sn m.sc, .int .i64 m.c0, .int .i64 m.c1, .int .i64 m.d0, .int .i64 m.d1, .int .i64 m.w0, .int .i64 m.w1, .int .i64 m.v0, .int .i64 m.v1, .slice m.ra m.rn m.rc, .int .i64 0, .int .i64 0, .int .i64 0, .int .i64 0, .int .i64 0, .int .i64 0, .int .i64 0, .int .i64 0, .int .i64 0, .int .i64 0, .int .i64 0, .int .i64 0, .int .i64 0, .int .i64 0, .int .i64 0, .int .i64 0, .int .i64 0, .int .i64 0, .int .i64 0, .int .i64 0, .int .i64 0, .int .i64 0, .int .i64 0, .int .i64 0, .int .i64 0, .int .i64 0, .int .i64 0, .int .i64 0, .int .i64 0, .int .i64 0, .int .i64 0, .int .i64 0, .int .i64 0, .int .i64 0, .int .i64 0, .int .i64 0, .int .i64 0, .int .i64 0, .int .i64 0, .int .i64 0, .int .i64 0, .int .i64 0, .int .i64 0, .int .i64 0, .int .i64 0, .int .i64 0, .int .i64 0, .int .i64 0, .int .i64 0, .int .i64 0, .int .i64 0, .int .i64 0]] w fun e w' => e = .returned (.agg #[.func (.func 95) #[.agg (m.st zero26 zero26).toArray] #[], .func (.func 96) #[.agg (m.st zero26 zero26).toArray] #[]]) ∧ Below w.heap.size w w' :=
 axes_any (m.st zero26 zero26) (m.st_length rfl rfl) w
theorem idxF0 (f g : Fn) (a b c d : Array Value) (w : World) : (Instr.index 110 (.agg #[.func f a b, .func g c d]) (.int .i64 0)).run Tryz.prog w = .ok (.func f a b) w := by kernel_rfl
theorem idxF1 (f g : Fn) (a b c d : Array Value) (w : World) : (Instr.index 110 (.agg #[.func f a b, .func g c d]) (.int .i64 1)).run Tryz.prog w = .ok (.func g c d) w := by kernel_rfl
theorem idxS0 (a1 a2 : Option Addr) (n1 c1 n2 c2 : Nat) (w : World) : (Instr.index 158 (.agg #[.slice a1 n1 c1, .slice a2 n2 c2]) (.int .i64 0)).run Tryz.prog w = .ok (.slice a1 n1 c1) w := by kernel_rfl
theorem idxS1 (a1 a2 : Option Addr) (n1 c1 n2 c2 : Nat) (w : World) : (Instr.index 158 (.agg #[.slice a1 n1 c1, .slice a2 n2 c2]) (.int .i64 1)).run Tryz.prog w = .ok (.slice a2 n2 c2) w := by kernel_rfl
theorem alongX_m (m : Mach) (X Y : List Value) (hX : X.length = 26) (hY : Y.length = 26) (w : World) (hok : m.ok = true) (h : MIn w m) :
  Calls Tryz.prog 95 #[.agg (m.st X Y).toArray] w fun e w' => ∃ v, e = .returned (.agg #[.int .i64 m.axX.c0, .int .i64 m.axX.c1, .int .i64 m.axX.w0, .int .i64 m.axX.w1, v]) ∧ CSp w' v m.axX.n m.axX.cl ∧ Below w.heap.size w w' := by
 obtain ⟨hs, hr, _, hrd⟩ := Mach.ok_parts hok
 refine (alongX_any _ m w (m.st_cells hX hY) h.reads (by omega) hrd).mono ?_
 rintro e w' ⟨v, rfl, h1, h2, hb⟩
 exact ⟨v, rfl, csp_of_row h1 h2, hb⟩
theorem alongY_m (m : Mach) (X Y : List Value) (hX : X.length = 26) (hY : Y.length = 26) (w : World) (hok : m.ok = true) (h : MIn w m) :
  Calls Tryz.prog 96 #[.agg (m.st X Y).toArray] w fun e w' => ∃ v, e = .returned (.agg #[.int .i64 m.axY.c0, .int .i64 m.axY.c1, .int .i64 m.axY.w0, .int .i64 m.axY.w1, v]) ∧ CSp w' v m.axY.n m.axY.cl ∧ Below w.heap.size w w' := by
 obtain ⟨hs, hr, _, hrd⟩ := Mach.ok_parts hok
 refine (alongY_any _ m w (m.st_cells hX hY) h.reads (by omega) hrd).mono ?_
 rintro e w' ⟨v, rfl, h1, h2, hb⟩
 exact ⟨v, rfl, csp_of_row h1 h2, hb⟩
set_option maxRecDepth 100000 in
set_option maxHeartbeats 4000000 in
theorem isTruth_any (m : Mach) (a1 : Option Addr) (c1 : Nat) (a2 : Option Addr) (c2 : Nat) (F G : Nat → Int) (w : World) (hok : m.ok = true) (h : MIn w m) (hF : IntsSl w (.slice a1 13 c1) 13 F) (hG : IntsSl w (.slice a2 13 c2) 13 G) (hc1 : 13 ≤ c1) (hc2 : 13 ≤ c2) (rF : ∀ i, i < 13 → -80 ≤ F i ∧ F i ≤ 80) (rG : ∀ i, i < 13 → -80 ≤ G i ∧ G i ≤ 80) :
  Calls Tryz.prog 45 #[m.val, .agg #[.slice a1 13 c1, .slice a2 13 c2]] w fun e w' => e = .returned (.bool (m.axX.holdB F && m.axY.holdB G)) ∧ Below w.heap.size w w' := by
 obtain ⟨b1, o1, rfl, hb1, p1⟩ := ints_at hF (by omega)
 obtain ⟨b2, o2, rfl, hb2, p2⟩ := ints_at hG (by omega)
 obtain ⟨hs, hr, _, hrd⟩ := Mach.ok_parts hok
 obtain ⟨W0, hW⟩ : ∃ W0, (w.alloc (.cells #[.slice m.sa m.sn m.sc, .int .i64 m.c0, .int .i64 m.c1, .int .i64 m.d0, .int .i64 m.d1, .int .i64 m.w0, .int .i64 m.w1, .int .i64 m.v0, .int .i64 m.v1, .slice m.ra m.rn m.rc] 27)).alloc (.cells #[.slice (some ⟨b1, o1, none⟩) 13 c1, .slice (some ⟨b2, o2, none⟩) 13 c2] 30) = W0 := ⟨_, rfl⟩
 have hb0 : Below w.heap.size w W0 := by rw [← hW]; exact ((Below.refl _ _).alloc (Nat.le_refl _) _).alloc (by rw [World.size_alloc]; omega) _
 have hsz : W0.heap.size = w.heap.size + 1 + 1 := by rw [← hW, World.size_alloc, World.size_alloc]
 have k0 : W0.cell? ⟨w.heap.size + 1, 0, none⟩ = some (.slice (some ⟨b1, o1, none⟩) 13 c1) := by
  have h := cells_new (w.alloc (.cells #[.slice m.sa m.sn m.sc, .int .i64 m.c0, .int .i64 m.c1, .int .i64 m.d0, .int .i64 m.d1, .int .i64 m.w0, .int .i64 m.w1, .int .i64 m.v0, .int .i64 m.v1, .slice m.ra m.rn m.rc] 27)) #[.slice (some ⟨b1, o1, none⟩) 13 c1, .slice (some ⟨b2, o2, none⟩) 13 c2] 30 (j := 0) rfl
  rw [World.size_alloc, hW] at h; exact h
 have k1 : W0.cell? ⟨w.heap.size + 1, 1, none⟩ = some (.slice (some ⟨b2, o2, none⟩) 13 c2) := by
  have h := cells_new (w.alloc (.cells #[.slice m.sa m.sn m.sc, .int .i64 m.c0, .int .i64 m.c1, .int .i64 m.d0, .int .i64 m.d1, .int .i64 m.w0, .int .i64 m.w1, .int .i64 m.v0, .int .i64 m.v1, .slice m.ra m.rn m.rc] 27)) #[.slice (some ⟨b1, o1, none⟩) 13 c1, .slice (some ⟨b2, o2, none⟩) 13 c2] 30 (j := 1) rfl
  rw [World.size_alloc, hW] at h; exact h
 have hMB : MAt W0 w.heap.size m := by rw [← hW]; exact (MAt.new w m).below ((Below.refl _ _).alloc (Nat.le_refl _) _) (by rw [World.size_alloc]; omega)
 obtain ⟨q0, q1, q2, q3, q4, q5, q6, q7, q8, q9⟩ := hMB
 have hcX := fun (W : World) v (hW : Below w.heap.size w W) (hv : CSp W v m.axX.n m.axX.cl) => holds_any m.axX v b1 o1 c1 F W (Mach.fineX hok) hv (Nat.lt_of_lt_of_le hb1 hW.size) (fun i hi => (hW.cell (p := ⟨b1, o1 + i, none⟩) hb1).trans (p1 i hi)) rF hc1
 have hcY := fun (W : World) v (hW : Below w.heap.size w W) (hv : CSp W v m.axY.n m.axY.cl) => holds_any m.axY v b2 o2 c2 G W (Mach.fineY hok) hv (Nat.lt_of_lt_of_le hb2 hW.size) (fun i hi => (hW.cell (p := ⟨b2, o2 + i, none⟩) hb2).trans (p2 i hi)) rG hc2
 cases z1 : m.axX.holdB F with
 | false =>
  rw [z1] at hcX
  have hx0 := idxF0
  have hx1 := idxF1
  have hy0 := idxS0
  have hy1 := idxS1
  go_enter Tryz.func45, Tryz.ntmps45
  go_wp2_with (first
   | (go_at_call 57; with_reducible refine (axes_lit m _).mono ?_; rintro e w1 ⟨rfl, hb1'⟩; have hB := hb0.trans (hb1'.mono hb0.size); have l0 := (hb1'.cell (p := ⟨w.heap.size + 1, 0, none⟩) (by show w.heap.size + 1 < _; omega)).trans k0; have l1 := (hb1'.cell (p := ⟨w.heap.size + 1, 1, none⟩) (by show w.heap.size + 1 < _; omega)).trans k1))
  refine wp_loop_rounds 3 ?_
  rw [rounds_succ]
  go_wp2_with (first
   | (go_at_call 95; with_reducible refine (alongX_m m zero26 zero26 rfl rfl _ hok (h.below hB)).mono ?_; rintro e w2 ⟨v2, rfl, hv2, hb2'⟩; have hB2 := hB.trans (hb2'.mono hB.size); have hA2 := hb1'.trans (hb2'.mono hb1'.size))
   | (go_at_call 88; with_reducible refine (hcX _ _ hB2 hv2).mono ?_; rintro e w3 ⟨rfl, hb3'⟩; have hB3 := hB2.trans (hb3'.mono hB2.size)))
  go_ret
  exact ⟨rfl, hB3⟩
 | true =>
  rw [z1] at hcX
  rw [Bool.true_and]
  generalize m.axY.holdB G = z2 at hcY ⊢
  have hx0 := idxF0
  have hx1 := idxF1
  have hy0 := idxS0
  have hy1 := idxS1
  go_enter Tryz.func45, Tryz.ntmps45
  go_wp2_with (first
   | (go_at_call 57; with_reducible refine (axes_lit m _).mono ?_; rintro e w1 ⟨rfl, hb1'⟩; have hB := hb0.trans (hb1'.mono hb0.size); have l0 := (hb1'.cell (p := ⟨w.heap.size + 1, 0, none⟩) (by show w.heap.size + 1 < _; omega)).trans k0; have l1 := (hb1'.cell (p := ⟨w.heap.size + 1, 1, none⟩) (by show w.heap.size + 1 < _; omega)).trans k1))
  refine wp_loop_rounds 3 ?_
  rw [rounds_succ]
  go_wp2_with (first
   | (go_at_call 95; with_reducible refine (alongX_m m zero26 zero26 rfl rfl _ hok (h.below hB)).mono ?_; rintro e w2 ⟨v2, rfl, hv2, hb2'⟩; have hB2 := hB.trans (hb2'.mono hB.size); have hA2 := hb1'.trans (hb2'.mono hb1'.size))
   | (go_at_call 88; with_reducible refine (hcX _ _ hB2 hv2).mono ?_; rintro e w3 ⟨rfl, hb3'⟩; have hB3 := hB2.trans (hb3'.mono hB2.size); have hA3 := hA2.trans (hb3'.mono hA2.size); have j0 := (hA3.cell (p := ⟨w.heap.size + 1, 0, none⟩) (by show w.heap.size + 1 < _; omega)).trans k0; have j1 := (hA3.cell (p := ⟨w.heap.size + 1, 1, none⟩) (by show w.heap.size + 1 < _; omega)).trans k1))
  rw [rounds_succ]
  cases z2
  ·go_wp2_with (first
    | (go_at_call 96; with_reducible refine (alongY_m m zero26 zero26 rfl rfl _ hok (h.below hB3)).mono ?_; rintro e w4 ⟨v4, rfl, hv4, hb4'⟩; have hB4 := hB3.trans (hb4'.mono hB3.size))
    | (go_at_call 88; with_reducible refine (hcY _ _ hB4 hv4).mono ?_; rintro e w5 ⟨rfl, hb5'⟩; have hB5 := hB4.trans (hb5'.mono hB4.size)))
   go_ret
   exact ⟨rfl, hB5⟩
  ·go_wp2_with (first
    | (go_at_call 96; with_reducible refine (alongY_m m zero26 zero26 rfl rfl _ hok (h.below hB3)).mono ?_; rintro e w4 ⟨v4, rfl, hv4, hb4'⟩; have hB4 := hB3.trans (hb4'.mono hB3.size))
    | (go_at_call 88; with_reducible refine (hcY _ _ hB4 hv4).mono ?_; rintro e w5 ⟨rfl, hb5'⟩; have hB5 := hB4.trans (hb5'.mono hB4.size)))
   rw [rounds_succ]
   go_wp2
   go_ret
   exact ⟨rfl, hB5⟩
end Go.Proofs.YtjhpklolpmaopaaGreatDoor
namespace Go.Proofs.YtjhpklolpmaopaaGreatDoor
open Go.RowKit
theorem offB_no {n : Nat} {F : Nat → Int} {i : Nat} (hi : i < n) (h : inB (F i) (-80) 80 = false) : offB n F = false := by
 unfold offB
 cases hx : anyB (fun i => !inB (F i) (-80) 80) n with
 | true => simp
 | false => have := anyB_no.1 hx i hi; (try dsimp only at this); rw [h] at this; cases this
theorem offB_iff {n : Nat} {F : Nat → Int} : offB n F = true ↔ n = 13 ∧ ∀ i, i < n → -80 ≤ F i ∧ F i ≤ 80 := by
 unfold offB
 simp only [Bool.and_eq_true, Bool.not_eq_true', decide_eq_true_eq]
 rw [anyB_no]
 constructor
 ·rintro ⟨h1, h2⟩
  refine ⟨by omega, fun i hi => ?_⟩
  have := h2 i hi
  rw [Bool.not_eq_false'] at this
  exact inB_iff.1 this
 ·rintro ⟨h1, h2⟩
  exact ⟨by omega, fun i hi => by rw [Bool.not_eq_false']; exact inB_iff.2 (h2 i hi)⟩
set_option maxRecDepth 100000 in
set_option maxHeartbeats 4000000 in
theorem rtruth_any (a1 : Option Addr) (n1 c1 : Nat) (a2 : Option Addr) (n2 c2 : Nat) (F G : Nat → Int) (w : World) (h1 : n1 ≤ 1000) (h2 : n2 ≤ 1000) (hF : IntsSl w (.slice a1 n1 c1) n1 F) (hG : IntsSl w (.slice a2 n2 c2) n2 G) :
  Calls Tryz.prog 8 #[.agg #[.slice a1 n1 c1, .slice a2 n2 c2]] w fun e w' => e = .returned (.bool (offB n1 F && offB n2 G)) ∧ Below w.heap.size w w' := by
 obtain ⟨W0, hW⟩ : ∃ W0, w.alloc (.cells #[.slice a1 n1 c1, .slice a2 n2 c2] 30) = W0 := ⟨_, rfl⟩
 have hw0 : Below w.heap.size w W0 := by rw [← hW]; exact (Below.refl _ _).alloc (Nat.le_refl _) _
 have k0 : W0.cell? ⟨w.heap.size, 0, none⟩ = some (.slice a1 n1 c1) := by rw [← hW]; exact cells_new w _ _ rfl
 have k1 : W0.cell? ⟨w.heap.size, 1, none⟩ = some (.slice a2 n2 c2) := by rw [← hW]; exact cells_new w _ _ rfl
 generalize hok : (offB n1 F && offB n2 G) = ok
 go_enter Tryz.func8, Tryz.ntmps8
 go_wp2
 go_loopw [3] (fun i wr => ∃ k : Nat, k ≤ n1 ∧ k ≤ n2 ∧ i = .int .i64 k ∧ wr = W0 ∧ ∀ j, j < k → inB (F j) (-80) 80 = true ∧ inB (G j) (-80) 80 = true) (fun i _ => n1 - (intOf i).toNat)
 case atStart => exact ⟨0, Nat.zero_le _, Nat.zero_le _, rfl, rfl, fun _ h => absurd h (Nat.not_lt_zero _)⟩
 case round =>
  obtain ⟨i, hi1, hi2, rfl, rfl, hall⟩ := hrel
  have hi0 : (0 : Int) ≤ (i : Int) := Int.natCast_nonneg _
  by_cases hl1 : i < n1
  ·by_cases hl2 : i < n2
   ·obtain ⟨b1, o1, rfl, hb1, p1⟩ := ints_at hF (by omega)
    obtain ⟨b2, o2, rfl, hb2, p2⟩ := ints_at hG (by omega)
    have e1 := (hw0.cell (p := ⟨b1, o1 + i, none⟩) hb1).trans (p1 i hl1)
    have e2 := (hw0.cell (p := ⟨b2, o2 + i, none⟩) hb2).trans (p2 i hl2)
    have hk1 : (i : Int) < (n1 : Int) := by omega
    have hk2 : (i : Int) < (n2 : Int) := by omega
    have hno1 := offB_no (F := F) hl1
    have hno2 := offB_no (F := G) hl2
    cases q1 : inB (F i) (-80) 80 with
    | false =>
     rw [hno1 q1, Bool.false_and] at hok
     subst hok
     go_wp2_with (go_at_call 25; refine (in_any _ _ _ _).mono ?_; (first | rw [q1] | rw [q2]); rintro e w' ⟨rfl, rfl⟩)
     go_ret
     first | exact ⟨rfl, hw0⟩ | exact ⟨ret_bool (by simpa using h13'), hw0⟩
    | true =>
     cases q2 : inB (G i) (-80) 80 with
     | false =>
      rw [hno2 q2, Bool.and_false] at hok
      subst hok
      go_wp2_with (go_at_call 25; refine (in_any _ _ _ _).mono ?_; (first | rw [q1] | rw [q2]); rintro e w' ⟨rfl, rfl⟩)
      go_ret
      first | exact ⟨rfl, hw0⟩ | exact ⟨ret_bool (by simpa using h13'), hw0⟩
     | true =>
      go_wp2_with (go_at_call 25; refine (in_any _ _ _ _).mono ?_; (first | rw [q1] | rw [q2]); rintro e w' ⟨rfl, rfl⟩)
      go_roundw
      case rel => exact ⟨i + 1, by omega, by omega, by go_num, by first | rfl | trivial, all_succ (p := fun j => inB (F j) (-80) 80 = true ∧ inB (G j) (-80) 80 = true) hall ⟨q1, q2⟩⟩
      case measure => simp [intOf]; omega
   ·obtain rfl : n2 = i := by omega
    have hk1 : (n2 : Int) < (n1 : Int) := by omega
    by_cases h13 : (n1 : Int) = 13
    ·have h13' : ¬ (n2 : Int) = 13 := by omega
     have : offB n2 G = false := by
      cases hx : offB n2 G with
      | false => rfl
      | true => have := (offB_iff.1 hx).1; omega
     rw [this, Bool.and_false] at hok
     subst hok
     go_wp2
     go_ret
     first | exact ⟨rfl, hw0⟩ | exact ⟨ret_bool (by simpa using h13'), hw0⟩
    ·have : offB n1 F = false := by
      cases hx : offB n1 F with
      | false => rfl
      | true => have := (offB_iff.1 hx).1; omega
     rw [this, Bool.false_and] at hok
     subst hok
     go_wp2
     go_ret
     first | exact ⟨rfl, hw0⟩ | exact ⟨ret_bool (by simpa using h13'), hw0⟩
  ·obtain rfl : n1 = i := by omega
   by_cases h13 : (n1 : Int) = 13
   ·by_cases h13' : (n2 : Int) = 13
    ·have e1 : offB n1 F = true := offB_iff.2 ⟨by omega, fun j hj => inB_iff.1 (hall j hj).1⟩
     have e2 : offB n2 G = true := offB_iff.2 ⟨by omega, fun j hj => inB_iff.1 (hall j (by omega)).2⟩
     rw [e1, e2, Bool.and_true] at hok
     subst hok
     go_wp2
     go_ret
     first | exact ⟨rfl, hw0⟩ | exact ⟨ret_bool (by simpa using h13'), hw0⟩
    ·have : offB n2 G = false := by
      cases hx : offB n2 G with
      | false => rfl
      | true => have := (offB_iff.1 hx).1; omega
     rw [this, Bool.and_false] at hok
     subst hok
     go_wp2
     go_ret
     first | exact ⟨rfl, hw0⟩ | exact ⟨ret_bool (by simpa using h13'), hw0⟩
   ·have : offB n1 F = false := by
     cases hx : offB n1 F with
     | false => rfl
     | true => have := (offB_iff.1 hx).1; omega
    rw [this, Bool.false_and] at hok
    subst hok
    go_wp2
    go_ret
    first | exact ⟨rfl, hw0⟩ | exact ⟨ret_bool (by simpa using h13'), hw0⟩
end Go.Proofs.YtjhpklolpmaopaaGreatDoor
