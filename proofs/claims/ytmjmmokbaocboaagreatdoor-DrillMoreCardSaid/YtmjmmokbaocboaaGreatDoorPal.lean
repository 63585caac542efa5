/- A part of the proof: see the last file. -/
import Derived.Test.YtmjmmokbaocboaaGreatDoorPab
import Derived.Test.YtmjmmokbaocboaaGreatDoorPae
import Derived.Test.YtmjmmokbaocboaaGreatDoorPak
import Derived.Test.YtmjmmokbaocboaaGreatDoorPaa
import Derived.Test.YtmjmmokbaocboaaGreatDoorPac
import Derived.RangeFuncWrites
import Derived.Test.YtmjmmokbaocboaaGreatDoorPad
set_option linter.unusedVariables false
set_option linter.unusedSimpArgs false
set_option linter.unusedSectionVars false
/-- a point between two ends each. -/
def Go.Proofs.InBox (x0 x1 y0 y1 x y : Int) : Prop := x0 ≤ x ∧ x ≤ x1 ∧ y0 ≤ y ∧ y ≤ y1
namespace Go.Proofs
/-- what is known of all points of a box: 3 surely, 1 never, 2 perhaps. -/
def IsWord (Q : Int → Int → Bool) (x0 x1 y0 y1 v : Int) : Prop :=
  (v = 3 ∧ ∀ x y, InBox x0 x1 y0 y1 x y → Q x y = true) ∨
  (v = 1 ∧ (∃ x y, InBox x0 x1 y0 y1 x y ∧ Q x y = false) ∧ ∀ x y, InBox x0 x1 y0 y1 x y → Q x y = false) ∨
  (v = 2 ∧ (∃ x y, InBox x0 x1 y0 y1 x y ∧ Q x y = true) ∧ ∃ x y, InBox x0 x1 y0 y1 x y ∧ Q x y = false)
theorem box_not_all {S : Int → Int → Prop} {Q : Int → Int → Bool} {b : Bool} (h : ¬ ∀ x y, S x y → Q x y = b) : ∃ x y, S x y ∧ Q x y = !b :=
  Classical.byContradiction fun hn => h fun x y hs => Classical.byContradiction fun hq => hn ⟨x, y, hs, by cases hb : Q x y <;> cases b <;> simp_all⟩
theorem IsWord.ex (Q : Int → Int → Bool) (x0 x1 y0 y1 : Int) : ∃ v, IsWord Q x0 x1 y0 y1 v := by
  by_cases h : ∀ x y, InBox x0 x1 y0 y1 x y → Q x y = true
  · exact ⟨3, .inl ⟨rfl, h⟩⟩
  · have h1 := box_not_all h
    by_cases h2 : ∀ x y, InBox x0 x1 y0 y1 x y → Q x y = false
    · exact ⟨1, .inr (.inl ⟨rfl, h1, h2⟩)⟩
    · exact ⟨2, .inr (.inr ⟨rfl, box_not_all h2, h1⟩)⟩
theorem IsWord.same {Q : Int → Int → Bool} {x0 x1 y0 y1 u v : Int} (h : IsWord Q x0 x1 y0 y1 u) (k : IsWord Q x0 x1 y0 y1 v) : u = v := by
  rcases h with ⟨rfl, h⟩ | ⟨rfl, ⟨a, b, h1, h2⟩, h⟩ | ⟨rfl, ⟨a, b, h1, h2⟩, ⟨c, d, h3, h4⟩⟩ <;>
  rcases k with ⟨rfl, k⟩ | ⟨rfl, ⟨a', b', k1, k2⟩, k⟩ | ⟨rfl, ⟨a', b', k1, k2⟩, ⟨c', d', k3, k4⟩⟩
  · rfl
  · rw [h _ _ k1] at k2; cases k2
  · rw [h _ _ k3] at k4; cases k4
  · rw [k _ _ h1] at h2; cases h2
  · rfl
  · rw [h _ _ k1] at k2; cases k2
  · rw [k _ _ h3] at h4; cases h4
  · rw [k _ _ h1] at h2; cases h2
  · rfl
theorem IsWord.range {Q : Int → Int → Bool} {x0 x1 y0 y1 v : Int} (h : IsWord Q x0 x1 y0 y1 v) : v = 1 ∨ v = 2 ∨ v = 3 := by
  rcases h with ⟨h, _⟩ | ⟨h, _⟩ | ⟨h, _⟩ <;> omega
theorem IsWord.surely {Q : Int → Int → Bool} {x0 x1 y0 y1 v : Int} (h : IsWord Q x0 x1 y0 y1 v) : v = 3 ↔ ∀ x y, InBox x0 x1 y0 y1 x y → Q x y = true := by
  rcases h with ⟨rfl, h⟩ | ⟨rfl, ⟨a, b, h1, h2⟩, h⟩ | ⟨rfl, _, ⟨a, b, h1, h2⟩⟩
  · exact ⟨fun _ => h, fun _ => rfl⟩
  all_goals
    exact ⟨fun h => absurd h (by decide), fun k => by rw [k _ _ h1] at h2; cases h2⟩
/-- how many of some points do, and how many there are. -/
structure Cnt (Q : Int → Int → Bool) (S : Int → Int → Prop) (good all : Int) : Prop where
  lo : 0 ≤ good
  le : good ≤ all
  ga : good = all ↔ ∀ x y, S x y → Q x y = true
  gn : good = 0 ↔ ∀ x y, S x y → Q x y = false
theorem Cnt.none {Q : Int → Int → Bool} {S : Int → Int → Prop} (h : ∀ x y, ¬ S x y) : Cnt Q S 0 0 :=
  ⟨by omega, by omega, ⟨fun _ x y hs => absurd hs (h x y), fun _ => rfl⟩, ⟨fun _ x y hs => absurd hs (h x y), fun _ => rfl⟩⟩
theorem Cnt.congr {Q : Int → Int → Bool} {S S' : Int → Int → Prop} {g n : Int} (h : Cnt Q S g n) (hs : ∀ x y, S' x y ↔ S x y) : Cnt Q S' g n :=
  ⟨h.lo, h.le, by rw [h.ga]; exact ⟨fun k x y hx => k x y ((hs x y).1 hx), fun k x y hx => k x y ((hs x y).2 hx)⟩, by rw [h.gn]; exact ⟨fun k x y hx => k x y ((hs x y).1 hx), fun k x y hx => k x y ((hs x y).2 hx)⟩⟩
theorem Cnt.yes {Q : Int → Int → Bool} {S S' : Int → Int → Prop} {g n a b : Int} (h : Cnt Q S g n) (hs : ∀ x y, S' x y ↔ S x y ∨ (x = a ∧ y = b)) (hq : Q a b = true) : Cnt Q S' (g + 1) (n + 1) := by
  obtain ⟨h1, h2, h3, h4⟩ := h
  refine ⟨by omega, by omega, ⟨fun e x y hx => ?_, fun k => ?_⟩, ⟨fun e => by omega, fun k => ?_⟩⟩
  · rcases (hs x y).1 hx with hx | ⟨rfl, rfl⟩
    · exact h3.1 (by omega) x y hx
    · exact hq
  · have := h3.2 fun x y hx => k x y ((hs x y).2 (.inl hx))
    omega
  · have := k a b ((hs a b).2 (.inr ⟨rfl, rfl⟩))
    rw [hq] at this; cases this
theorem Cnt.no {Q : Int → Int → Bool} {S S' : Int → Int → Prop} {g n a b : Int} (h : Cnt Q S g n) (hs : ∀ x y, S' x y ↔ S x y ∨ (x = a ∧ y = b)) (hq : Q a b = false) : Cnt Q S' g (n + 1) := by
  obtain ⟨h1, h2, h3, h4⟩ := h
  refine ⟨by omega, by omega, ⟨fun e x y hx => by omega, fun k => ?_⟩, ⟨fun e x y hx => ?_, fun k => h4.2 fun x y hx => k x y ((hs x y).2 (.inl hx))⟩⟩
  · have := k a b ((hs a b).2 (.inr ⟨rfl, rfl⟩))
    rw [hq] at this; cases this
  · rcases (hs x y).1 hx with hx | ⟨rfl, rfl⟩
    · exact h4.1 e x y hx
    · exact hq
/-- the points of a box that come before some one, row by row. -/
def Seen (x0 y0 y1 a b x y : Int) : Prop := x0 ≤ x ∧ y0 ≤ y ∧ y ≤ y1 ∧ (x < a ∨ x = a ∧ y < b)
theorem Seen.start {x0 y0 y1 x y : Int} : ¬ Seen x0 y0 y1 x0 y0 x y := by unfold Seen; omega
theorem Seen.step {x0 y0 y1 a b : Int} (ha : x0 ≤ a) (hb : y0 ≤ b) (hb1 : b ≤ y1) (x y : Int) : Seen x0 y0 y1 a (b + 1) x y ↔ Seen x0 y0 y1 a b x y ∨ (x = a ∧ y = b) := by unfold Seen; omega
theorem Seen.row {x0 y0 y1 a b : Int} (hb : y1 < b) (x y : Int) : Seen x0 y0 y1 (a + 1) y0 x y ↔ Seen x0 y0 y1 a b x y := by unfold Seen; omega
theorem Seen.all {x0 x1 y0 y1 a : Int} (ha : x1 + 1 = a ∨ (x1 < x0 ∧ a = x0)) (x y : Int) : InBox x0 x1 y0 y1 x y ↔ Seen x0 y0 y1 a y0 x y := by unfold Seen InBox; omega
/-- the number up to which all are sure. -/
def IsGauge (W : Nat → Int) (n : Nat) : Prop := n ≤ 12 ∧ (∀ k, k < n → W (k + 1) = 3) ∧ (n < 12 → W (n + 1) ≠ 3)
theorem IsGauge.same {W : Nat → Int} {n m : Nat} (h : IsGauge W n) (k : IsGauge W m) : n = m := by
  obtain ⟨h1, h2, h3⟩ := h
  obtain ⟨k1, k2, k3⟩ := k
  rcases Nat.lt_trichotomy n m with hl | rfl | hl
  · exact absurd (k2 n hl) (h3 (by omega))
  · rfl
  · exact absurd (h2 m hl) (k3 (by omega))
theorem IsGauge.ex (W : Nat → Int) : ∃ n, IsGauge W n := by
  have key : ∀ d n, n + d = 12 → (∀ k, k < n → W (k + 1) = 3) → ∃ m, IsGauge W m := by
    intro d
    induction d with
    | zero => intro n hn hk; exact ⟨n, by omega, hk, fun h => by omega⟩
    | succ d ih =>
      intro n hn hk
      by_cases h : W (n + 1) = 3
      · refine ih (n + 1) (by omega) fun k hlt => ?_
        rcases Nat.lt_succ_iff_lt_or_eq.1 hlt with h1 | rfl
        · exact hk k h1
        · exact h
      · exact ⟨n, by omega, hk, fun _ => h⟩
  exact key 12 0 rfl fun k hk => absurd hk (Nat.not_lt_zero _)
end Go.Proofs
namespace Go.Proofs.YtmjmmokbaocboaaGreatDoor
open Go.RowKit
theorem PSl_posD {w : World} {v : Value} {n : Nat} {X Y : Nat → Int} (h : PSl w v n X Y) (hn : 1 ≤ n) : ∃ b off cap, v = .slice (some ⟨b, off, none⟩) n cap ∧ b < w.heap.size ∧ Pts w b off n X Y := by
  rcases h with ⟨a, c, _, h2⟩ | h
  · omega
  · exact h
/-- whether the holes of a machine that is off by x and y are of a measure. -/
def goodB (n : Nat) (HX HY SX SY : Nat → Int) (r x y : Int) : Bool := (matchS n HX HY (fun i => SX i + x) (fun i => SY i + y) r).isSome
/-- a measure and stops, as a trial has them. -/
structure TrialG (w : World) (n sb so cap cb b1 o1 k1 : Nat) (SX SY HX HY : Nat → Int) (r : Int) : Prop where
  stops : Pts w sb so n SX SY
  holes : Pts w b1 o1 n HX HY
  c0 : w.cell? ⟨cb, 0, none⟩ = some (.slice (some ⟨b1, o1, none⟩) n k1)
  c1 : w.cell? ⟨cb, 1, none⟩ = some (.int .i64 r)
  l1 : sb < w.heap.size
  l2 : b1 < w.heap.size
  l3 : cb < w.heap.size
  r0 : 0 ≤ r
  r1 : r ≤ 6
  n2 : 2 ≤ n
  n4 : n ≤ 4
  sS : ∀ i, i < n → (-20 ≤ SX i ∧ SX i ≤ 20) ∧ (-20 ≤ SY i ∧ SY i ≤ 20)
  sH : ∀ i, i < n → small (HX i, HY i)
theorem TrialG.far {w w' : World} {n sb so cap cb b1 o1 k1 : Nat} {SX SY HX HY : Nat → Int} {r : Int} (h : TrialG w n sb so cap cb b1 o1 k1 SX SY HX HY r) (h1 : w'.heap[sb]? = w.heap[sb]?) (h2 : w'.heap[b1]? = w.heap[b1]?) (h3 : w'.heap[cb]? = w.heap[cb]?) (hz : w.heap.size ≤ w'.heap.size) : TrialG w' n sb so cap cb b1 o1 k1 SX SY HX HY r :=
  ⟨fun i hi => ⟨(World.cell?_of_block h1).trans (h.stops i hi).1, (World.cell?_of_block h1).trans (h.stops i hi).2⟩, fun i hi => ⟨(World.cell?_of_block h2).trans (h.holes i hi).1, (World.cell?_of_block h2).trans (h.holes i hi).2⟩,
    (World.cell?_of_block h3).trans h.c0, (World.cell?_of_block h3).trans h.c1, Nat.lt_of_lt_of_le h.l1 hz, Nat.lt_of_lt_of_le h.l2 hz, Nat.lt_of_lt_of_le h.l3 hz, h.r0, h.r1, h.n2, h.n4, h.sS, h.sH⟩
theorem TrialG.below {w w' : World} {n sb so cap cb b1 o1 k1 : Nat} {SX SY HX HY : Nat → Int} {r : Int} (h : TrialG w n sb so cap cb b1 o1 k1 SX SY HX HY r) (hb : Below w.heap.size w w') : TrialG w' n sb so cap cb b1 o1 k1 SX SY HX HY r :=
  h.far (hb.block _ h.l1) (hb.block _ h.l2) (hb.block _ h.l3) hb.size
theorem TrialG.grown {w w' : World} {n sb so cap cb b1 o1 k1 bm : Nat} {SX SY HX HY : Nat → Int} {r : Int} (h : TrialG w n sb so cap cb b1 o1 k1 SX SY HX HY r) (hg : w.grownBy w' (some bm)) (m1 : sb < bm) (m2 : b1 < bm) (m3 : cb < bm) : TrialG w' n sb so cap cb b1 o1 k1 SX SY HX HY r :=
  h.far (hg.block _ h.l1 (fun e => by cases e; omega)) (hg.block _ h.l2 (fun e => by cases e; omega)) (hg.block _ h.l3 (fun e => by cases e; omega)) hg.size
set_option maxRecDepth 100000 in
set_option maxHeartbeats 2000000 in
theorem goodness1_any (n sb so cap cb b1 o1 k1 : Nat) (SX SY HX HY : Nat → Int) (r x y : Int) (hx : -48 ≤ x ∧ x ≤ 48) (hy : -48 ≤ y ∧ y ≤ 48) (v : Value) (B : Nat) (w : World) (h : TrialG w n sb so cap cb b1 o1 k1 SX SY HX HY r)
    (hv : w.ownsRow B 74 2 v n (ptsCells (fun i => (SX i + x, SY i + y)) n)) :
    Calls Tryz.prog 95 #[v, .pointer (some ⟨cb, 0, none⟩)] w fun e w' => e = .returned (.bool (goodB n HX HY SX SY r x y)) ∧ Below w.heap.size w w' := by
  have hc0 := h.c0
  have hc1 := h.c1
  obtain ⟨b2, o2, k2, rfl, l2, p2⟩ := PSl_posD (PSl_of_own hv) (by have := h.n2; omega)
  have hsm : ∀ i, i < n → small (SX i + x, SY i + y) := fun i hi => by
    have := h.sS i hi
    unfold small
    dsimp only
    omega
  have hmt := fun (W : World) (hb : Below w.heap.size w W) => match_in n b1 o1 k1 b2 o2 k2 3 HX HY (fun i => SX i + x) (fun i => SY i + y) r W h.r0 (by have := h.r1; omega) (by have := h.n2; omega) h.n4 (h.holes.below hb h.l2) (p2.below hb l2) (Nat.lt_of_lt_of_le h.l2 hb.size) (Nat.lt_of_lt_of_le l2 hb.size) h.sH hsm
  have hB := Below.refl w.heap.size w
  go_enter Tryz.func95, Tryz.ntmps95
  go_wp2_with (go_at_call 65; refine (callsIn_wide.1 (hmt _ hB)).mono ?_; rintro e w3 ⟨hb3, (⟨hno, rfl⟩ | ⟨t, q, v, hyes, ht, rfl, hrow⟩)⟩)
  · go_ret
    exact ⟨by unfold goodB; rw [hno]; rfl, hb3⟩
  · go_ret
    exact ⟨by unfold goodB; rw [hyes]; rfl, hb3⟩
end Go.Proofs.YtmjmmokbaocboaaGreatDoor
namespace Go.Proofs.YtmjmmokbaocboaaGreatDoor
open Go.RowKit Go.Shelf
attribute [local go_sem] Oper.semAt_some
abbrev BoxPt (x0 x1 y0 y1 : Int) := { p : Int × Int // InBox x0 x1 y0 y1 p.1 p.2 }
def ptEnc {x0 x1 y0 y1 : Int} (p : BoxPt x0 x1 y0 y1) : Array Value := #[ptV p.1.1 p.1.2]
def BoxAll {x0 x1 y0 y1 : Int} (xs : List (BoxPt x0 x1 y0 y1)) : Prop := ∀ p : BoxPt x0 x1 y0 y1, p ∈ xs
/-- what a round keeps of the iterator: the box in its block. -/
def KpB (b : Nat) (W W' : World) : Prop := W.heap.size ≤ W'.heap.size ∧ W'.heap[b]? = W.heap[b]?
theorem KpB.trans {b : Nat} {A B C : World} (h : KpB b A B) (k : KpB b B C) : KpB b A C := ⟨Nat.le_trans h.1 k.1, k.2.trans h.2⟩
set_option maxRecDepth 100000 in
set_option maxHeartbeats 1000000 in
theorem points_make (x0 x1 y0 y1 : Int) (w : World) :
    Calls Tryz.prog 96 #[.agg #[.int .i64 x0, .int .i64 x1, .int .i64 y0, .int .i64 y1]] w fun e w' => e = .returned (.func (.func 141) #[] #[.pointer (some ⟨w.heap.size, 0, none⟩)]) ∧ w' = w.alloc (.cells #[.int .i64 x0, .int .i64 x1, .int .i64 y0, .int .i64 y1] 105) := by
  go_enter Tryz.func96, Tryz.ntmps96
  go_wp2
  go_ret
  exact ⟨rfl, rfl⟩
set_option maxRecDepth 100000 in
set_option maxHeartbeats 1000000 in
theorem points1_stops (n b : Nat) (x0 x1 y0 y1 : Int) (w : World) (h1 : -100 ≤ x0) (h2 : x1 ≤ 100) (h3 : -100 ≤ y0) (h4 : y1 ≤ 100) (h5 : x0 ≤ 1000) (h6 : y0 ≤ 1000) (hb : b < w.heap.size)
    (c0 : w.cell? ⟨b, 0, none⟩ = some (.int .i64 x0)) (c1 : w.cell? ⟨b, 1, none⟩ = some (.int .i64 x1)) (c2 : w.cell? ⟨b, 2, none⟩ = some (.int .i64 y0)) (c3 : w.cell? ⟨b, 3, none⟩ = some (.int .i64 y1)) :
    SeqStopsK Fence.wide n Tryz.prog 141 #[.pointer (some ⟨b, 0, none⟩)] (ptEnc (x0 := x0) (x1 := x1) (y0 := y0) (y1 := y1)) (KpB b) BoxAll (fun _ => True) 40401 w := by
  intro l J Jx W hW hJ hJx hY h0
  have hk : ∀ W' : World, W'.heap[b]? = W.heap[b]? → ∀ j, W'.cell? ⟨b, j, none⟩ = w.cell? ⟨b, j, none⟩ := fun W' h j => (World.cell?_of_block (w := W) h).trans (hW.cell (p := ⟨b, j, none⟩) hb)
  have d0 := (hk W rfl 0).trans c0
  have d1 := (hk W rfl 1).trans c1
  show CallsIn _ _ _ _ #[.func (.yield l) #[] #[], .pointer (some ⟨b, 0, none⟩)] _ _
  refine callsIn_of_wp Tryz.func141 rfl trivial ?_ rfl
  simp only [Tryz.ntmps141, List.size_toArray, List.length_cons, List.length_nil, Nat.reduceAdd, Nat.reduceSub, Array.replicate_succ, Array.replicate_zero, List.push_toArray, List.append_toArray, List.nil_append, List.cons_append]
  gi_wp2
  gi_loopw [3] (fun i wr => ∃ (a : Int) (pre : List (BoxPt x0 x1 y0 y1)), i = .int .i64 a ∧ x0 ≤ a ∧ (a = x0 ∨ a ≤ x1 + 1) ∧ wr.heap[b]? = W.heap[b]? ∧ J pre wr ∧ (pre.length : Int) ≤ 201 * (a - x0) ∧ ∀ p : BoxPt x0 x1 y0 y1, Seen x0 y0 y1 a y0 p.1.1 p.1.2 → p ∈ pre) (fun i _ => (x1 + 1 - intOf i).toNat)
  case atStart => exact ⟨x0, [], rfl, by omega, .inl rfl, rfl, h0, by simp, fun p hp => absurd hp Seen.start⟩
  case round =>
    obtain ⟨a, pre, rfl, ha, hax, hwb, hJs, hlen, hin⟩ := hrel
    have e1 := (hk wr hwb 1).trans c1
    have e2 := (hk wr hwb 2).trans c2
    by_cases hlt : a ≤ x1
    · have hwa : IntKind.i64.wrap (a + 1) = a + 1 := IntWalk.i64_in _ (by omega)
      gi_wp2
      gi_loopw [4] (fun i wr => ∃ (c : Int) (pre : List (BoxPt x0 x1 y0 y1)), i = .int .i64 c ∧ y0 ≤ c ∧ (c = y0 ∨ c ≤ y1 + 1) ∧ wr.heap[b]? = W.heap[b]? ∧ J pre wr ∧ (pre.length : Int) ≤ 201 * (a - x0) + (c - y0) ∧ ∀ p : BoxPt x0 x1 y0 y1, Seen x0 y0 y1 a c p.1.1 p.1.2 → p ∈ pre) (fun i _ => (y1 + 1 - intOf i).toNat)
      case atStart => exact ⟨y0, pre, rfl, by omega, .inl rfl, hwb, hJs, by omega, hin⟩
      case round =>
        obtain ⟨c, pre, rfl, hc, hcx, hwb, hJs, hlen, hin⟩ := hrel
        have f3 := (hk wr hwb 3).trans c3
        by_cases hlc : c ≤ y1
        · have hwc : IntKind.i64.wrap (c + 1) = c + 1 := IntWalk.i64_in _ (by omega)
          have hbx : InBox x0 x1 y0 y1 a c := ⟨ha, hlt, hc, hlc⟩
          obtain ⟨fn, tmps, assign, body, hy, hR⟩ := hY pre ⟨(a, c), hbx⟩ wr hJs (by omega)
          dsimp only [ptEnc] at hy
          gi_wp2
          refine ⟨fun h => (by cases h), hR.mono ?_⟩
          rintro e W3 (⟨rfl, hJ3, hk3⟩ | ⟨rfl, hJx3⟩)
          · gi_wp2
            go_roundw
            case rel =>
              refine ⟨c + 1, pre ++ [⟨(a, c), hbx⟩], by go_num, by omega, .inr (by omega), hk3.2.trans hwb, hJ3, by simp; omega, fun p hp => ?_⟩
              rcases (Seen.step ha hc hlc _ _).1 hp with h | ⟨h1, h2⟩
              · exact List.mem_append_left _ (hin p h)
              · exact List.mem_append_right _ (List.mem_singleton.2 (Subtype.ext (Prod.ext h1 h2)))
            case measure => simp [intOf]; omega
          · gi_wp2
            refine bodyPost_ret (results_none rfl _ _ _) rfl ?_
            exact ⟨⟨_, rfl⟩, .inr ⟨_, trivial, hJx3⟩⟩
        · gi_wp2
          go_roundw
          case rel => exact ⟨a + 1, pre, by go_num, by omega, .inr (by omega), hwb, hJs, by omega, fun p hp => hin p ((Seen.row (by omega) _ _).1 hp)⟩
          case measure => simp [intOf]; omega
    · gi_wp2
      go_end0
      exact ⟨⟨_, rfl⟩, .inl ⟨pre, fun p => hin p ((Seen.all (by omega) _ _).1 p.2), hJs⟩⟩
end Go.Proofs.YtmjmmokbaocboaaGreatDoor
namespace Go.Proofs.YtmjmmokbaocboaaGreatDoor
open Go.RowKit Go.Shelf
attribute [local go_sem] Oper.semAt_some
abbrev GoodAt (w : World) (bm k : Nat) (Q : Int → Int → Bool) : Prop := GoodMap Tryz.prog 74 4 w bm k Q
/-- the cells of word while it goes through a box. -/
structure WdX (w W : World) (u0 u1 u2 : Value) (bm k : Nat) (Q : Int → Int → Bool) (res : Int) (s a : Bool) : Prop where
  old : w.grownBy W (some bm)
  t0 : W.cell? ⟨w.heap.size, 0, none⟩ = some u0
  t1 : W.cell? ⟨w.heap.size, 1, none⟩ = some u1
  t2 : W.cell? ⟨w.heap.size, 2, none⟩ = some u2
  r0 : W.cell? ⟨w.heap.size + 1 + 1, 0, none⟩ = some (.int .i64 res)
  rf : W.frozen? ⟨w.heap.size + 1 + 1, 0, none⟩ = false
  s0 : W.cell? ⟨w.heap.size + 1 + 1 + 1, 0, none⟩ = some (.bool s)
  sf : W.frozen? ⟨w.heap.size + 1 + 1 + 1, 0, none⟩ = false
  a0 : W.cell? ⟨w.heap.size + 1 + 1 + 1 + 1, 0, none⟩ = some (.bool a)
  af : W.frozen? ⟨w.heap.size + 1 + 1 + 1 + 1, 0, none⟩ = false
  gm : GoodAt W bm k Q
  big : w.heap.size + 6 ≤ W.heap.size
theorem WdX.far {w W W' : World} {u0 u1 u2 : Value} {bm k k' : Nat} {Q : Int → Int → Bool} {res : Int} {s a : Bool} (h : WdX w W u0 u1 u2 bm k Q res s a) (hh : ∀ j, w.heap.size ≤ j → j < w.heap.size + 6 → W'.heap[j]? = W.heap[j]?) (hold : w.grownBy W' (some bm)) (hgm : GoodAt W' bm k' Q) (hz : W.heap.size ≤ W'.heap.size) : WdX w W' u0 u1 u2 bm k' Q res s a :=
  have c : ∀ b j, w.heap.size ≤ b → b < w.heap.size + 6 → W'.cell? ⟨b, j, none⟩ = W.cell? ⟨b, j, none⟩ := fun b j h1 h2 => World.cell?_of_block (hh b h1 h2)
  have f : ∀ b j, w.heap.size ≤ b → b < w.heap.size + 6 → W'.frozen? ⟨b, j, none⟩ = W.frozen? ⟨b, j, none⟩ := fun b j h1 h2 => World.frozen?_of_block (hh b h1 h2)
  ⟨hold, (c _ _ (by omega) (by omega)).trans h.t0, (c _ _ (by omega) (by omega)).trans h.t1, (c _ _ (by omega) (by omega)).trans h.t2, (c _ _ (by omega) (by omega)).trans h.r0, (f _ _ (by omega) (by omega)).trans h.rf, (c _ _ (by omega) (by omega)).trans h.s0, (f _ _ (by omega) (by omega)).trans h.sf, (c _ _ (by omega) (by omega)).trans h.a0, (f _ _ (by omega) (by omega)).trans h.af, hgm, Nat.le_trans h.big hz⟩
theorem WdX.mono {w W : World} {u0 u1 u2 : Value} {bm k k' : Nat} {Q : Int → Int → Bool} {res : Int} {s a : Bool} (h : WdX w W u0 u1 u2 bm k Q res s a) (hk : k ≤ k') : WdX w W u0 u1 u2 bm k' Q res s a :=
  ⟨h.old, h.t0, h.t1, h.t2, h.r0, h.rf, h.s0, h.sf, h.a0, h.af, h.gm.mono hk, h.big⟩
theorem WdX.step {w W W' : World} {u0 u1 u2 : Value} {bm k : Nat} {Q : Int → Int → Bool} {res : Int} {s a : Bool} {row : Option Nat} (h : WdX w W u0 u1 u2 bm k Q res s a) (hb : bm < w.heap.size) (hg : W.grownBy W' row) (hr : ∀ r, row = some r → w.heap.size + 6 ≤ r) : WdX w W' u0 u1 u2 bm k Q res s a :=
  have hbig := h.big
  h.far (fun j h1 h2 => hg.block j (by omega) (fun e => by have := hr j e.symm; omega)) (h.old.andThen hg fun j e => .inl (by have := hr j e; omega)) (h.gm.kept hg fun e => by have := hr bm e.symm; omega) hg.size
theorem WdX.does {w W W' : World} {u0 u1 u2 : Value} {bm k k' : Nat} {Q : Int → Int → Bool} {res : Int} {s a : Bool} (h : WdX w W u0 u1 u2 bm k Q res s a) (hb : bm < w.heap.size) (hg : W.grownBy W' (some bm)) (hgm : GoodAt W' bm k' Q) : WdX w W' u0 u1 u2 bm k' Q res s a :=
  have hbig := h.big
  h.far (fun j h1 h2 => hg.block j (by omega) (fun e => by cases e; omega)) (h.old.andThen hg fun j e => .inr e) hgm hg.size
theorem grown_set {W : World} {a : Addr} (u : Value) : W.grownBy (W.setCell a u) (some a.block) :=
  ⟨rfl, rfl, rfl, by rw [World.size_setCell]; exact Nat.le_refl _, fun i _ hi => Below.heap_setCell _ _ _ _ (fun e => hi (by rw [e]))⟩
theorem WdX.sets {w W : World} {u0 u1 u2 : Value} {bm k : Nat} {Q : Int → Int → Bool} {res : Int} {s a : Bool} (h : WdX w W u0 u1 u2 bm k Q res s a) (hb : bm < w.heap.size) (s' : Bool) : WdX w (W.setCell ⟨w.heap.size + 1 + 1 + 1, 0, none⟩ (.bool s')) u0 u1 u2 bm k Q res s' a := by
  obtain ⟨h1, h2, h3, h4, h5, h6, h7, h8, h9, h10, h11, h12⟩ := h
  refine ⟨h1.andThen (grown_set _) (fun j e => by cases e; exact .inl (by show _ ≤ w.heap.size + 1 + 1 + 1; omega)), ?_, ?_, ?_, ?_, ?_, World.cell?_setCell_same' _ _ _ (by rw [h7]; rfl), ?_, ?_, ?_, h11.kept (grown_set _) (by simp; omega), by rw [World.size_setCell]; exact h12⟩
  all_goals first
    | (rw [World.frozen?_setCell]; assumption)
    | (rw [World.cell?_setCell_far _ _ _ _ (by first | (simp; done) | (simp; omega))]; assumption)
theorem WdX.seta {w W : World} {u0 u1 u2 : Value} {bm k : Nat} {Q : Int → Int → Bool} {res : Int} {s a : Bool} (h : WdX w W u0 u1 u2 bm k Q res s a) (hb : bm < w.heap.size) (a' : Bool) : WdX w (W.setCell ⟨w.heap.size + 1 + 1 + 1 + 1, 0, none⟩ (.bool a')) u0 u1 u2 bm k Q res s a' := by
  obtain ⟨h1, h2, h3, h4, h5, h6, h7, h8, h9, h10, h11, h12⟩ := h
  refine ⟨h1.andThen (grown_set _) (fun j e => by cases e; exact .inl (by show _ ≤ w.heap.size + 1 + 1 + 1 + 1; omega)), ?_, ?_, ?_, ?_, ?_, ?_, ?_, World.cell?_setCell_same' _ _ _ (by rw [h9]; rfl), ?_, h11.kept (grown_set _) (by simp; omega), by rw [World.size_setCell]; exact h12⟩
  all_goals first
    | (rw [World.frozen?_setCell]; assumption)
    | (rw [World.cell?_setCell_far _ _ _ _ (by first | (simp; done) | (simp; omega))]; assumption)
theorem WdX.setr {w W : World} {u0 u1 u2 : Value} {bm k : Nat} {Q : Int → Int → Bool} {res : Int} {s a : Bool} (h : WdX w W u0 u1 u2 bm k Q res s a) (hb : bm < w.heap.size) (r' : Int) : WdX w (W.setCell ⟨w.heap.size + 1 + 1, 0, none⟩ (.int .i64 r')) u0 u1 u2 bm k Q r' s a := by
  obtain ⟨h1, h2, h3, h4, h5, h6, h7, h8, h9, h10, h11, h12⟩ := h
  refine ⟨h1.andThen (grown_set _) (fun j e => by cases e; exact .inl (by show _ ≤ w.heap.size + 1 + 1; omega)), ?_, ?_, ?_, World.cell?_setCell_same' _ _ _ (by rw [h5]; rfl), ?_, ?_, ?_, ?_, ?_, h11.kept (grown_set _) (by simp; omega), by rw [World.size_setCell]; exact h12⟩
  all_goals first
    | (rw [World.frozen?_setCell]; assumption)
    | (rw [World.cell?_setCell_far _ _ _ _ (by first | (simp; done) | (simp; omega))]; assumption)
theorem wdx_start (w : World) (u0 u1 u2 : Value) (x0 x1 y0 y1 : Int) (bm k : Nat) (Q : Int → Int → Bool) (hb : bm < w.heap.size) (hm : GoodAt w bm k Q) : WdX w ((((((w.alloc (Obj.cells #[u0, u1, u2] 101)).alloc (Obj.cells #[.int .i64 x0, .int .i64 x1, .int .i64 y0, .int .i64 y1] 105)).alloc (Obj.cells #[.int .i64 0] 32)).alloc (Obj.cells #[.bool false] 4)).alloc (Obj.cells #[.bool true] 4)).alloc (Obj.cells #[.int .i64 x0, .int .i64 x1, .int .i64 y0, .int .i64 y1] 105)) u0 u1 u2 bm k Q 0 false true ∧ ((((((w.alloc (Obj.cells #[u0, u1, u2] 101)).alloc (Obj.cells #[.int .i64 x0, .int .i64 x1, .int .i64 y0, .int .i64 y1] 105)).alloc (Obj.cells #[.int .i64 0] 32)).alloc (Obj.cells #[.bool false] 4)).alloc (Obj.cells #[.bool true] 4)).alloc (Obj.cells #[.int .i64 x0, .int .i64 x1, .int .i64 y0, .int .i64 y1] 105)).heap.size = w.heap.size + 6 ∧
    ∀ j u, (#[.int .i64 x0, .int .i64 x1, .int .i64 y0, .int .i64 y1] : Array Value)[j]? = some u → ((((((w.alloc (Obj.cells #[u0, u1, u2] 101)).alloc (Obj.cells #[.int .i64 x0, .int .i64 x1, .int .i64 y0, .int .i64 y1] 105)).alloc (Obj.cells #[.int .i64 0] 32)).alloc (Obj.cells #[.bool false] 4)).alloc (Obj.cells #[.bool true] 4)).alloc (Obj.cells #[.int .i64 x0, .int .i64 x1, .int .i64 y0, .int .i64 y1] 105)).cell? ⟨w.heap.size + 1 + 1 + 1 + 1 + 1, j, none⟩ = some u := by
  obtain ⟨A1, hA1⟩ : ∃ A, w.alloc (Obj.cells #[u0, u1, u2] 101) = A := ⟨_, rfl⟩
  obtain ⟨A2, hA2⟩ : ∃ A, A1.alloc (Obj.cells #[.int .i64 x0, .int .i64 x1, .int .i64 y0, .int .i64 y1] 105) = A := ⟨_, rfl⟩
  obtain ⟨A3, hA3⟩ : ∃ A, A2.alloc (Obj.cells #[.int .i64 0] 32) = A := ⟨_, rfl⟩
  obtain ⟨A4, hA4⟩ : ∃ A, A3.alloc (Obj.cells #[.bool false] 4) = A := ⟨_, rfl⟩
  obtain ⟨A5, hA5⟩ : ∃ A, A4.alloc (Obj.cells #[.bool true] 4) = A := ⟨_, rfl⟩
  obtain ⟨A6, hA6⟩ : ∃ A, A5.alloc (Obj.cells #[.int .i64 x0, .int .i64 x1, .int .i64 y0, .int .i64 y1] 105) = A := ⟨_, rfl⟩
  rw [hA1, hA2, hA3, hA4, hA5, hA6]
  have s1 : A1.heap.size = w.heap.size + 1 := by rw [← hA1, World.size_alloc]
  have s2 : A2.heap.size = w.heap.size + 1 + 1 := by rw [← hA2, World.size_alloc, s1]
  have s3 : A3.heap.size = w.heap.size + 1 + 1 + 1 := by rw [← hA3, World.size_alloc, s2]
  have s4 : A4.heap.size = w.heap.size + 1 + 1 + 1 + 1 := by rw [← hA4, World.size_alloc, s3]
  have s5 : A5.heap.size = w.heap.size + 1 + 1 + 1 + 1 + 1 := by rw [← hA5, World.size_alloc, s4]
  have s6 : A6.heap.size = w.heap.size + 1 + 1 + 1 + 1 + 1 + 1 := by rw [← hA6, World.size_alloc, s5]
  have b1 : Below w.heap.size w A1 := by rw [← hA1]; exact (Below.refl _ _).alloc (Nat.le_refl _) _
  have b2 : Below A1.heap.size A1 A2 := by rw [← hA2]; exact (Below.refl _ _).alloc (Nat.le_refl _) _
  have b3 : Below A2.heap.size A2 A3 := by rw [← hA3]; exact (Below.refl _ _).alloc (Nat.le_refl _) _
  have b4 : Below A3.heap.size A3 A4 := by rw [← hA4]; exact (Below.refl _ _).alloc (Nat.le_refl _) _
  have b5 : Below A4.heap.size A4 A5 := by rw [← hA5]; exact (Below.refl _ _).alloc (Nat.le_refl _) _
  have b6 : Below A5.heap.size A5 A6 := by rw [← hA6]; exact (Below.refl _ _).alloc (Nat.le_refl _) _
  have b56 := b6
  have b46 := b5.trans (b56.mono b5.size)
  have b36 := b4.trans (b46.mono b4.size)
  have b26 := b3.trans (b36.mono b3.size)
  have b16 := b2.trans (b26.mono b2.size)
  have b06 := b1.trans (b16.mono b1.size)
  have t := fun j u (h : (#[u0, u1, u2] : Array Value)[j]? = some u) => cells_new w #[u0, u1, u2] 101 h
  rw [hA1] at t
  have e3 := new_cell A2 (.int .i64 0) 32
  have e4 := new_cell A3 (.bool false) 4
  have e5 := new_cell A4 (.bool true) 4
  rw [hA3, s2] at e3; rw [hA4, s3] at e4; rw [hA5, s4] at e5
  have e6 := fun j u (h : (#[.int .i64 x0, .int .i64 x1, .int .i64 y0, .int .i64 y1] : Array Value)[j]? = some u) => cells_new A5 #[.int .i64 x0, .int .i64 x1, .int .i64 y0, .int .i64 y1] 105 h
  rw [hA6, s5] at e6
  refine ⟨⟨⟨b06.os, b06.tape, b06.output, b06.size, fun i hi _ => b06.block i hi⟩, ?_, ?_, ?_, ?_, ?_, ?_, ?_, ?_, ?_, hm.below b06 hb, by omega⟩, by omega, e6⟩
  · exact (b16.cell (p := ⟨w.heap.size, 0, none⟩) (by show w.heap.size < _; omega)).trans (t 0 u0 rfl)
  · exact (b16.cell (p := ⟨w.heap.size, 1, none⟩) (by show w.heap.size < _; omega)).trans (t 1 u1 rfl)
  · exact (b16.cell (p := ⟨w.heap.size, 2, none⟩) (by show w.heap.size < _; omega)).trans (t 2 u2 rfl)
  · exact (b36.cell (p := ⟨_, 0, none⟩) (by show w.heap.size + 1 + 1 < _; omega)).trans e3.1
  · exact (b36.frozen (p := ⟨_, 0, none⟩) (by show w.heap.size + 1 + 1 < _; omega)).trans e3.2
  · exact (b46.cell (p := ⟨_, 0, none⟩) (by show w.heap.size + 1 + 1 + 1 < _; omega)).trans e4.1
  · exact (b46.frozen (p := ⟨_, 0, none⟩) (by show w.heap.size + 1 + 1 + 1 < _; omega)).trans e4.2
  · exact (b56.cell (p := ⟨_, 0, none⟩) (by show w.heap.size + 1 + 1 + 1 + 1 < _; omega)).trans e5.1
  · exact (b56.frozen (p := ⟨_, 0, none⟩) (by show w.heap.size + 1 + 1 + 1 + 1 < _; omega)).trans e5.2
theorem any_push {α : Type} {P : α → Bool} {pre : List α} {x : α} {s : Bool} (h : s = true ↔ ∃ p ∈ pre, P p = true) : (s || P x) = true ↔ ∃ p ∈ pre ++ [x], P p = true := by
  rw [Bool.or_eq_true, h]
  constructor
  · rintro (⟨p, h1, h2⟩ | h1)
    · exact ⟨p, List.mem_append_left _ h1, h2⟩
    · exact ⟨x, List.mem_append_right _ (List.mem_singleton.2 rfl), h1⟩
  · rintro ⟨p, h1, h2⟩
    rcases List.mem_append.1 h1 with h1 | h1
    · exact .inl ⟨p, h1, h2⟩
    · rw [List.mem_singleton.1 h1] at h2; exact .inr h2
theorem all_push {α : Type} {P : α → Bool} {pre : List α} {x : α} {s : Bool} (h : s = true ↔ ∀ p ∈ pre, P p = true) : (s && P x) = true ↔ ∀ p ∈ pre ++ [x], P p = true := by
  rw [Bool.and_eq_true, h]
  constructor
  · rintro ⟨h1, h2⟩ p hp
    rcases List.mem_append.1 hp with hp | hp
    · exact h1 p hp
    · rw [List.mem_singleton.1 hp]; exact h2
  · exact fun h1 => ⟨fun p hp => h1 p (List.mem_append_left _ hp), h1 x (List.mem_append_right _ (List.mem_singleton.2 rfl))⟩
theorem word_may {Q : Int → Int → Bool} {x0 x1 y0 y1 v : Int} (hv : IsWord Q x0 x1 y0 y1 v) {l : List (BoxPt x0 x1 y0 y1)} (h1 : true = true ↔ ∃ p ∈ l, Q p.1.1 p.1.2 = true) (h2 : false = true ↔ ∀ p ∈ l, Q p.1.1 p.1.2 = true) : v = 2 := by
  obtain ⟨p, _, hp⟩ := h1.1 rfl
  have h3 : ∃ q ∈ l, Q q.1.1 q.1.2 = false := Classical.byContradiction fun hn => by
    have := h2.2 fun q hq => by
      cases hb : Q q.1.1 q.1.2 with
      | true => rfl
      | false => exact absurd ⟨q, hq, hb⟩ hn
    cases this
  obtain ⟨q, _, hq⟩ := h3
  exact hv.same (.inr (.inr ⟨rfl, ⟨p.1.1, p.1.2, p.2, hp⟩, q.1.1, q.1.2, q.2, hq⟩))
set_option maxRecDepth 100000 in
set_option maxHeartbeats 2000000 in
theorem word_in (u0 u1 : Value) (bm k n : Nat) (Q : Int → Int → Bool) (x0 x1 y0 y1 v : Int) (w : World) (h1 : -48 ≤ x0) (h2 : x1 ≤ 48) (h3 : -48 ≤ y0) (h4 : y1 ≤ 48) (h5 : x0 ≤ 1000) (h6 : y0 ≤ 1000)
    (hb : bm < w.heap.size) (hm : GoodAt w bm k Q) (hk : k ≤ 1000000) (hn : 3 ≤ n) (hv : IsWord Q x0 x1 y0 y1 v)
    (hdoes : ∀ (W : World) (j : Nat) (x y : Int), w.grownBy W (some bm) → GoodAt W bm j Q → j ≤ 1000000000 → (-48 ≤ x ∧ x ≤ 48) → (-48 ≤ y ∧ y ≤ 48) →
      Calls Tryz.prog 97 #[.agg #[u0, u1, .map (some bm)], ptV x y] W fun e w' => e = .returned (.bool (Q x y)) ∧ GoodAt w' bm (j + 1) Q ∧ W.grownBy w' (some bm)) :
    CallsIn Fence.wide n Tryz.prog 51 #[.agg #[u0, u1, .map (some bm)], .agg #[.int .i64 x0, .int .i64 x1, .int .i64 y0, .int .i64 y1]] w fun e w' => e = .returned (.int .i64 v) ∧ GoodAt w' bm (k + 40401) Q ∧ w.grownBy w' (some bm) := by
  refine callsIn_of_wp_marks Tryz.func51 rfl trivial ?_ rfl
  simp only [Tryz.ntmps51, List.size_toArray, List.length_cons, List.length_nil, Nat.reduceAdd, Nat.reduceSub, Array.replicate_succ, Array.replicate_zero, List.push_toArray, List.append_toArray, List.nil_append, List.cons_append]
  gi_wp2_with (refine ⟨trivial, fun h => (by cases h), ?_⟩; gi_at_call 96; refine (callsIn_wide.2 (points_make x0 x1 y0 y1 _)).mono ?_; rintro e w2 ⟨rfl, rfl⟩)
  rename_i Q' K hKK
  obtain ⟨hX0, hz0, hbx⟩ := wdx_start w u0 u1 (.map (some bm)) x0 x1 y0 y1 bm k Q hb hm
  generalize ((((((w.alloc (Obj.cells #[u0, u1, Value.map (some bm)] 101)).alloc (Obj.cells #[.int .i64 x0, .int .i64 x1, .int .i64 y0, .int .i64 y1] 105)).alloc (Obj.cells #[.int .i64 0] 32)).alloc (Obj.cells #[.bool false] 4)).alloc (Obj.cells #[.bool true] 4)).alloc (Obj.cells #[.int .i64 x0, .int .i64 x1, .int .i64 y0, .int .i64 y1] 105)) = W0 at hX0 hz0 hbx ⊢
  refine wpIn_rangeFunc_ownH (α := BoxPt x0 x1 y0 y1) rfl (by omega) (gf := 141) (lb := #[.pointer (some ⟨w.heap.size + 1 + 1 + 1 + 1 + 1, 0, none⟩)]) rfl trivial (enters_of Tryz.func141 (by kernel_rfl) rfl)
    (points1_stops (n - 1) (w.heap.size + 1 + 1 + 1 + 1 + 1) x0 x1 y0 y1 W0 (by omega) (by omega) (by omega) (by omega) h5 h6 (by omega) (hbx 0 _ rfl) (hbx 1 _ rfl) (hbx 2 _ rfl) (hbx 3 _ rfl)) (fun h k => KpB.trans h k)
    (fun W l o o' hl ho _ _ => ⟨by rw [World.putObj_size]; exact Nat.le_refl _, World.putObj_heap_other (by omega)⟩) (Below.refl _ _) (fun _ => rfl)
    (fun pre W => ∃ s a, WdX w W u0 u1 (.map (some bm)) bm (k + pre.length) Q 0 s a ∧ (s = true ↔ ∃ p ∈ pre, Q p.1.1 p.1.2 = true) ∧ (a = true ↔ ∀ p ∈ pre, Q p.1.1 p.1.2 = true) ∧ ¬ (s = true ∧ a = false) ∧ pre.length ≤ 40401)
    (fun c pre W => c = .ret ∧ ∃ s a, WdX w W u0 u1 (.map (some bm)) bm (k + 40401) Q v s a)
    (fun pre A B row hs hg hr => by
      obtain ⟨s, a, g1, g2⟩ := hs
      exact ⟨s, a, g1.step hb hg fun r e => by have := (hr r e).1; omega, g2⟩)
    (fun c pre A B row hs hg hr => by
      obtain ⟨g0, s, a, g1⟩ := hs
      exact ⟨g0, s, a, g1.step hb hg fun r e => by have := (hr r e).1; omega⟩)
    ⟨false, true, hX0, by simp, by simp, by simp, by simp⟩
    (fun x a' W => ∃ Bx, w.heap.size + 6 ≤ Bx ∧ Bx < W.heap.size ∧ W.cell? ⟨Bx, 0, none⟩ = some (.int .i64 x.1.1) ∧ W.cell? ⟨Bx, 1, none⟩ = some (.int .i64 x.1.2) ∧ a' = { tmps := #[.agg #[u0, u1, .map (some bm)], .agg #[.int .i64 x0, .int .i64 x1, .int .i64 y0, .int .i64 y1], .pointer (some ⟨w.heap.size, 0, none⟩), .pointer (some ⟨w.heap.size + 1, 0, none⟩), .pointer (some ⟨w.heap.size + 1 + 1, 0, none⟩), .pointer (some ⟨w.heap.size + 1 + 1 + 1, 0, none⟩), .pointer (some ⟨w.heap.size + 1 + 1 + 1 + 1, 0, none⟩), .pointer (some ⟨Bx, 0, none⟩), undef, .agg #[.int .i64 x0, .int .i64 x1, .int .i64 y0, .int .i64 y1], .func (.func 141) #[] #[.pointer (some ⟨w.heap.size + 1 + 1 + 1 + 1 + 1, 0, none⟩)], ptV x.1.1 x.1.2, undef, undef, undef, undef, undef, undef, undef, undef, undef, undef, undef, undef, undef, undef, undef, undef, undef], defers := [] })
    (fun x a' _ A B row hs hg hr => by
      obtain ⟨Bx, g1, g2, g3, g4, g5⟩ := hs
      exact ⟨Bx, g1, Nat.lt_of_lt_of_le g2 hg.size, cell_kept g3 hg (fun r e => (hr r e).2), cell_kept g4 hg (fun r e => (hr r e).2), g5⟩)
    ?assign ?body ?done ?stop
  case assign =>
    rintro l pre x W K2 ⟨s, a, hX, hr⟩ hK2
    dsimp only [ptEnc]
    gi_wp2
    exact hK2 _ _ ((KeepsOthers.alloc _ _).from _) ⟨by rw [World.size_alloc]; omega, Below.heap_alloc _ _ _ (by have := hX.big; omega)⟩ ⟨s, a, hX.step hb (World.grownBy_alloc _ _ none) (fun r e => by cases e), hr⟩ ⟨W.heap.size, hX.big, by rw [World.size_alloc]; omega, cells_new W _ _ rfl, cells_new W _ _ rfl, rfl⟩
  case body =>
    rintro l pre x a' W hl ⟨r, hr⟩ ⟨s, a, hX, hs, ha, hna, hlp⟩ ⟨Bx, hBx, hlt, e0, e1, rfl⟩ hlen
    have hd := hdoes W (k + pre.length) x.1.1 x.1.2 hX.old hX.gm (by omega) ⟨by have := x.2.1; omega, by have := x.2.2.1; omega⟩ ⟨by have := x.2.2.2.1; omega, by have := x.2.2.2.2; omega⟩
    have hs' := any_push (P := fun p : BoxPt x0 x1 y0 y1 => Q p.1.1 p.1.2) (x := x) hs
    have ha' := all_push (P := fun p : BoxPt x0 x1 y0 y1 => Q p.1.1 p.1.2) (x := x) ha
    have hlen' : (pre ++ [x]).length = pre.length + 1 := by simp
    have hkk : k + pre.length + 1 = k + (pre ++ [x]).length := by rw [hlen']; omega
    have hbig := hX.big
    have c0 := hX.t0
    have c1 := hX.t1
    have c2 := hX.t2
    cases hq : Q x.1.1 x.1.2 <;> rw [hq] at hd <;> simp only [hq] at hs' ha' <;> cases s <;> cases a
    all_goals first
      | exact absurd ⟨rfl, rfl⟩ hna
      | (have tok : True := trivial
         gi_wp2_with (have _t := tok; refine ⟨trivial, fun h => (by cases h), ?_⟩; gi_at_call 97; with_reducible refine (CallsIn.inRound l (callsIn_wide.2 hd)).mono ?_; rintro e w3 ⟨rfl, hgm3, hg3⟩; have hX3 := PLift.up (hX.does hb hg3 hgm3); have q1 := hX3.down.s0; have q2 := hX3.down.sf; have q3 := hX3.down.a0; have q4 := hX3.down.af; have q5 := hX3.down.r0; have q6 := hX3.down.rf; clear tok _t hd hdoes hX hs ha hna hr hgm3)
         have hkf := KeepsFrom.of_grownBy (B := W0.heap.size) hg3 (fun j e => by cases e; omega)
         have hkp : w3.heap[w.heap.size + 1 + 1 + 1 + 1 + 1]? = W.heap[w.heap.size + 1 + 1 + 1 + 1 + 1]? := hg3.block _ (by omega) (fun e => by cases e; omega)
         have hz3 := hg3.size
         first
           | exact ⟨(hkf.trans ((KeepsOthers.setCell _ _ _).from _)).trans ((KeepsOthers.setCell _ _ _).from _), ⟨by rw [World.size_setCell, World.size_setCell]; exact hz3, ((Below.heap_setCell _ _ _ _ (by first | (simp; done) | (simp; omega))).trans (Below.heap_setCell _ _ _ _ (by first | (simp; done) | (simp; omega)))).trans hkp⟩, _, _, (((hX3.down.mono (by omega)).sets hb _).seta hb _), hs', ha', by simp, by omega⟩
           | (obtain rfl := word_may hv hs' ha'
              exact ⟨((hkf.trans ((KeepsOthers.setCell _ _ _).from _)).trans ((KeepsOthers.setCell _ _ _).from _)).trans ((KeepsOthers.setCell _ _ _).from _), rfl, _, _, ((((hX3.down.mono (by omega)).sets hb _).seta hb _).setr hb 2)⟩))
  case done =>
    rintro D xs W' hD hall ⟨s, a, hX, hs, ha, hna, hlp⟩ hK
    have q1 := hX.a0
    have q2 := hX.r0
    have q3 := hX.rf
    have hX' := fun r => PLift.up (hX.setr hb r)
    have hbig := hX.big
    have hK' := fun r => (Below.heap_setCell W' ⟨w.heap.size + 1 + 1, 0, none⟩ (.int .i64 r) D (by show D ≠ w.heap.size + 1 + 1; omega)).trans hK
    cases a
    · cases s
      · have hv1 : v = 1 := by
          have hall' : ∀ x y, InBox x0 x1 y0 y1 x y → Q x y = false := fun x y h => by
            cases hb : Q x y with
            | false => rfl
            | true => cases hs.2 ⟨⟨(x, y), h⟩, hall _, hb⟩
          have hno : ¬ ∀ x y, InBox x0 x1 y0 y1 x y → Q x y = true := fun h => by cases ha.2 fun p _ => h _ _ p.2
          exact hv.same (.inr (.inl ⟨rfl, box_not_all hno, hall'⟩))
        obtain rfl := hv1
        clear hna hs ha hX
        gi_wp2
        refine ⟨by simp, .inl ⟨_, _, rfl, run_takeDeferred (hK' 1), ?_⟩⟩
        have hF := (hX' 1).down.step hb (grownBy_putObj' (W'.setCell ⟨w.heap.size + 1 + 1, 0, none⟩ (.int .i64 1)) D (.deferred none)) (fun r e => by cases e; omega)
        have r2 := hF.r0
        exact ⟨.int .i64 1, by simp [results, Tryz.results51, go_sem, r2], rfl, hF.gm.mono (by omega), hF.old⟩
      · exact absurd ⟨rfl, rfl⟩ hna
    · obtain rfl : v = 3 := hv.same (.inl ⟨rfl, fun x y h => ha.1 rfl ⟨(x, y), h⟩ (hall _)⟩)
      clear hna hs ha hX
      gi_wp2
      refine ⟨by simp, .inl ⟨_, _, rfl, run_takeDeferred (hK' 3), ?_⟩⟩
      have hF := (hX' 3).down.step hb (grownBy_putObj' (W'.setCell ⟨w.heap.size + 1 + 1, 0, none⟩ (.int .i64 3)) D (.deferred none)) (fun r e => by cases e; omega)
      have r2 := hF.r0
      exact ⟨.int .i64 3, by simp [results, Tryz.results51, go_sem, r2], rfl, hF.gm.mono (by omega), hF.old⟩
  case stop =>
    rintro D c pre W' hD _ ⟨rfl, s, a, hX⟩ hK
    have hbig := hX.big
    gi_wp2
    refine ⟨by simp, .inl ⟨_, _, rfl, run_takeDeferred hK, ?_⟩⟩
    have hF := hX.step hb (grownBy_putObj' W' D (.deferred none)) (fun r e => by cases e; omega)
    have r2 := hF.r0
    exact ⟨.int .i64 v, by simp [results, Tryz.results51, go_sem, r2], rfl, hF.gm.mono (by omega), hF.old⟩
end Go.Proofs.YtmjmmokbaocboaaGreatDoor
namespace Go.Proofs.YtmjmmokbaocboaaGreatDoor
open Go.RowKit
/-- a trial's value. -/
abbrev trialV (sb so n cap cb bm : Nat) : Value := .agg #[.slice (some ⟨sb, so, none⟩) n cap, .func (.func 95) #[] #[.pointer (some ⟨cb, 0, none⟩)], .map (some bm)]
theorem grown_below {w w' : World} (h : Below w.heap.size w w') (row : Option Nat) : w.grownBy w' row := ⟨h.os, h.tape, h.output, h.size, fun i hi _ => h.block i hi⟩
theorem wf48 {x : Int} (h : -48 ≤ x ∧ x ≤ 48) : (Lit.int .i64 x).wf = true := WalkArith.wf_i64 (by omega)
set_option maxRecDepth 100000 in
set_option maxHeartbeats 2000000 in
theorem does_any (n sb so cap cb b1 o1 k1 bm k : Nat) (SX SY HX HY : Nat → Int) (r x y : Int) (hx : -48 ≤ x ∧ x ≤ 48) (hy : -48 ≤ y ∧ y ≤ 48) (w : World) (h : TrialG w n sb so cap cb b1 o1 k1 SX SY HX HY r)
    (hm : GoodAt w bm k (goodB n HX HY SX SY r)) (hk : k ≤ 1000000000) (m1 : sb < bm) (m2 : b1 < bm) (m3 : cb < bm) :
    Calls Tryz.prog 97 #[trialV sb so n cap cb bm, ptV x y] w fun e w' => e = .returned (.bool (goodB n HX HY SX SY r x y)) ∧ GoodAt w' bm (k + 1) (goodB n HX HY SX SY r) ∧ w.grownBy w' (some bm) := by
  obtain ⟨W0, hW0⟩ : ∃ W0, (w.alloc (Obj.cells #[.slice (some ⟨sb, so, none⟩) n cap, .func (.func 95) #[] #[.pointer (some ⟨cb, 0, none⟩)], .map (some bm)] 101)).alloc (Obj.cells #[.int .i64 x, .int .i64 y] 74) = W0 := ⟨_, rfl⟩
  have hg0 : w.grownBy W0 (some bm) := by rw [← hW0]; exact (World.grownBy_alloc _ _ _).trans (World.grownBy_alloc _ _ _)
  have hb0 : Below w.heap.size w W0 := by rw [← hW0]; exact ((Below.refl _ _).alloc (Nat.le_refl _) _).alloc (by rw [World.size_alloc]; omega) _
  have hsz : W0.heap.size = w.heap.size + 1 + 1 := by rw [← hW0, World.size_alloc, World.size_alloc]
  have t0 : W0.cell? ⟨w.heap.size, 0, none⟩ = some (.slice (some ⟨sb, so, none⟩) n cap) := by rw [← hW0]; exact cell_under w _ _ _ _ rfl
  have t1 : W0.cell? ⟨w.heap.size, 1, none⟩ = some (.func (.func 95) #[] #[.pointer (some ⟨cb, 0, none⟩)]) := by rw [← hW0]; exact cell_under w _ _ _ _ rfl
  have t2 : W0.cell? ⟨w.heap.size, 2, none⟩ = some (.map (some bm)) := by rw [← hW0]; exact cell_under w _ _ _ _ rfl
  have p0 : W0.cell? ⟨w.heap.size + 1, 0, none⟩ = some (.int .i64 x) := by rw [← hW0]; have := cells_new (w.alloc (Obj.cells #[.slice (some ⟨sb, so, none⟩) n cap, .func (.func 95) #[] #[.pointer (some ⟨cb, 0, none⟩)], .map (some bm)] 101)) #[.int .i64 x, .int .i64 y] 74 (j := 0) rfl; rw [World.size_alloc] at this; exact this
  have p1 : W0.cell? ⟨w.heap.size + 1, 1, none⟩ = some (.int .i64 y) := by rw [← hW0]; have := cells_new (w.alloc (Obj.cells #[.slice (some ⟨sb, so, none⟩) n cap, .func (.func 95) #[] #[.pointer (some ⟨cb, 0, none⟩)], .map (some bm)] 101)) #[.int .i64 x, .int .i64 y] 74 (j := 1) rfl; rw [World.size_alloc] at this; exact this
  have hT0 := h.below hb0
  have hM0 : GoodAt W0 bm k (goodB n HX HY SX SY r) := hm.below hb0 hm.lt
  have hlt := hm.lt
  have wx := wf48 hx
  have wy := wf48 hy
  have hmv := fun (W : World) (hB : Below W0.heap.size W0 W) => moved_some sb so n cap SX SY x y W (by have := h.n4; omega) (hT0.stops.below hB hT0.l1) (Nat.lt_of_lt_of_le hT0.l1 hB.size) (by omega) (by omega) (fun i hi => by have := h.sS i hi; unfold small; dsimp only; omega)
  have hgd := fun (W : World) (hB : Below W0.heap.size W0 W) (v : Value) (B : Nat) (hv : W.ownsRow B 74 2 v n (ptsCells (fun i => (SX i + x, SY i + y)) n)) => goodness1_any n sb so cap cb b1 o1 k1 SX SY HX HY r x y hx hy v B W (hT0.below hB) hv
  clear hb0
  generalize goodB n HX HY SX SY r = Q at *
  go_enter Tryz.func97, Tryz.ntmps97
  go_wp2_with (at_lookup; refine wpList_lookup_good _ rfl _ _ 99 rfl ptm rfl hM0 x y rfl wx wy ?_; intro f; cases f)
  rotate_left 1
  · go_ret
    exact ⟨rfl, hM0.mono (by omega), hg0⟩
  · go_region_held3 (fun w' => w'.cell? ⟨w.heap.size, 0, none⟩ = some (.slice (some ⟨sb, so, none⟩) n cap) ∧ w'.cell? ⟨w.heap.size, 1, none⟩ = some (.func (.func 95) #[] #[.pointer (some ⟨cb, 0, none⟩)]) ∧ w'.cell? ⟨w.heap.size + 1, 0, none⟩ = some (.int .i64 x) ∧ w'.cell? ⟨w.heap.size + 1, 1, none⟩ = some (.int .i64 y))
      (first
        | (go_keep; done)
        | (go_split_ands
           refine ⟨?_, ?_, ?_, ?_⟩ <;> (rw [hbb.cell (by first | omega | (simp; omega) | simp)]; assumption)))
      (first
        | (go_at_call 62; refine (hmv _ ((Below.refl _ _).drew)).mono ?_; rintro e w1 ⟨v1, rfl, hown, hbb⟩; have hB1 := (Below.refl W0.heap.size W0).drew.trans hbb; have hs1 := hB1.size)
        | (go_at_call 95; refine (hgd _ hB1 _ _ hown).mono ?_; rintro e w2 ⟨rfl, hbb⟩; have hB2 := hB1.trans (hbb.mono hB1.size); have hs2 := hB2.size))
    have u2 := (hB2.cell (p := ⟨w.heap.size, 2, none⟩) (by show w.heap.size < _; omega)).trans t2
    have v0 := (hB2.cell (p := ⟨w.heap.size + 1, 0, none⟩) (by show w.heap.size + 1 < _; omega)).trans p0
    have v1 := (hB2.cell (p := ⟨w.heap.size + 1, 1, none⟩) (by show w.heap.size + 1 < _; omega)).trans p1
    have hM2 := hM0.below hB2 (by omega)
    have hg2 := hg0.trans ((grown_below hB2 (some bm)))
    go_wp2_with (at_mapUpdate; refine wpList_mapUpdate_good _ rfl _ _ _ 99 rfl ptm rfl hM2 (by unfold maxLen; omega) x y rfl rfl wx wy ?_; intro w4 hM4 hg4)
    go_ret
    exact ⟨rfl, hM4, hg2.trans hg4⟩
end Go.Proofs.YtmjmmokbaocboaaGreatDoor
namespace Go.Proofs.YtmjmmokbaocboaaGreatDoor
open Go.RowKit Go.Maps
theorem made_four (w : World) (c1 : Array Value) (e1 : TypeId) (o2 o3 : Obj) (Q : Int → Int → Bool) :
    Below w.heap.size w ((((w.alloc (.cells c1 e1)).alloc o2).alloc o3).alloc (.map #[] 0)) ∧ (∀ j u, c1[j]? = some u → ((((w.alloc (.cells c1 e1)).alloc o2).alloc o3).alloc (.map #[] 0)).cell? ⟨w.heap.size, j, none⟩ = some u) ∧
      GoodAt ((((w.alloc (.cells c1 e1)).alloc o2).alloc o3).alloc (.map #[] 0)) (w.heap.size + 1 + 1 + 1) 0 Q := by
  obtain ⟨A1, hA1⟩ : ∃ A, w.alloc (.cells c1 e1) = A := ⟨_, rfl⟩
  obtain ⟨A2, hA2⟩ : ∃ A, A1.alloc o2 = A := ⟨_, rfl⟩
  obtain ⟨A3, hA3⟩ : ∃ A, A2.alloc o3 = A := ⟨_, rfl⟩
  rw [hA1, hA2, hA3]
  have s1 : A1.heap.size = w.heap.size + 1 := by rw [← hA1, World.size_alloc]
  have s2 : A2.heap.size = w.heap.size + 1 + 1 := by rw [← hA2, World.size_alloc, s1]
  have s3 : A3.heap.size = w.heap.size + 1 + 1 + 1 := by rw [← hA3, World.size_alloc, s2]
  have b1 : Below w.heap.size w A1 := by rw [← hA1]; exact (Below.refl _ _).alloc (Nat.le_refl _) _
  have b2 : Below A1.heap.size A1 A2 := by rw [← hA2]; exact (Below.refl _ _).alloc (Nat.le_refl _) _
  have b3 : Below A2.heap.size A2 A3 := by rw [← hA3]; exact (Below.refl _ _).alloc (Nat.le_refl _) _
  have b4 : Below A3.heap.size A3 (A3.alloc (.map #[] 0)) := (Below.refl _ _).alloc (Nat.le_refl _) _
  have b34 := b3.trans (b4.mono b3.size)
  have b24 := b2.trans (b34.mono b2.size)
  have t := fun j u (h : c1[j]? = some u) => cells_new w c1 e1 h
  rw [hA1] at t
  have hg := GoodMap.made Tryz.prog 74 4 Q A3
  rw [s3] at hg
  exact ⟨b1.trans (b24.mono b1.size), fun j u h => (b24.cell (p := ⟨w.heap.size, j, none⟩) (by show w.heap.size < _; omega)).trans (t j u h), hg⟩
set_option maxRecDepth 100000 in
set_option maxHeartbeats 2000000 in
/-- a trial is made. -/
theorem goodness_any (b1 o1 n k1 sb so : Nat) (r : Int) (m : Mach) (hsa : m.sa = some ⟨sb, so, none⟩) (Q : Int → Int → Bool) (w : World) :
    Calls Tryz.prog 50 #[.agg #[.slice (some ⟨b1, o1, none⟩) n k1, .int .i64 r], m.val] w fun e w' => e = .returned (trialV sb so m.sn m.sc w.heap.size (w.heap.size + 1 + 1 + 1)) ∧ Below w.heap.size w w' ∧
      w'.cell? ⟨w.heap.size, 0, none⟩ = some (.slice (some ⟨b1, o1, none⟩) n k1) ∧ w'.cell? ⟨w.heap.size, 1, none⟩ = some (.int .i64 r) ∧ GoodAt w' (w.heap.size + 1 + 1 + 1) 0 Q := by
  have hmm := @run_makeMap Tryz.prog
  unfold Mach.val
  rw [hsa]
  go_enter Tryz.func50, Tryz.ntmps50
  go_wp2
  obtain ⟨h1, h2, h3⟩ := made_four w #[.slice (some ⟨b1, o1, none⟩) n k1, .int .i64 r] 24 (Obj.cells #[.slice (some ⟨sb, so, none⟩) m.sn m.sc, .int .i64 m.c0, .int .i64 m.c1, .int .i64 m.d0, .int .i64 m.d1, .int .i64 m.w0, .int .i64 m.w1, .int .i64 m.v0, .int .i64 m.v1, .slice m.ra m.rn m.rc] 29)
    (Obj.cells #[.slice (some ⟨sb, so, none⟩) m.sn m.sc, .func (.func 95) #[] #[.pointer (some ⟨w.heap.size, 0, none⟩)], .map (some (w.heap.size + 1 + 1 + 1))] 101) Q
  have a0 := h2 0 _ rfl
  have a1 := h2 1 _ rfl
  refine bodyPost_ret (v := trialV sb so m.sn m.sc w.heap.size (w.heap.size + 1 + 1 + 1)) (by simp [results, Tryz.results50, go_sem]) rfl ⟨rfl, h1, a0, a1, h3⟩
set_option maxRecDepth 100000 in
set_option maxHeartbeats 2000000 in
/-- a measure for a machine. -/
theorem isFor_any (v1 : Value) (a1 : Option Addr) (n c1 : Nat) (r : Int) (HX HY : Nat → Int) (m : Mach) (w : World) (hv : v1 = .slice a1 n c1) (hn : n ≤ 1000) (hs : m.sn ≤ 9223372036854775807) (hp : PSc w v1 n HX HY) :
    Calls Tryz.prog 48 #[.agg #[v1, .int .i64 r], m.val] w fun e w' => e = .returned (.bool (decide (chkE n HX HY r = 0) && decide (n = m.sn))) ∧ Below w.heap.size w w' := by
  subst hv
  obtain ⟨W0, hW0⟩ : ∃ W0, (w.alloc (Obj.cells #[.slice a1 n c1, .int .i64 r] 24)).alloc (.cells #[.slice m.sa m.sn m.sc, .int .i64 m.c0, .int .i64 m.c1, .int .i64 m.d0, .int .i64 m.d1, .int .i64 m.w0, .int .i64 m.w1, .int .i64 m.v0, .int .i64 m.v1, .slice m.ra m.rn m.rc] 29) = W0 := ⟨_, rfl⟩
  have hb0 : Below w.heap.size w W0 := by rw [← hW0]; exact ((Below.refl _ _).alloc (Nat.le_refl _) _).alloc (by rw [World.size_alloc]; omega) _
  have hsz : W0.heap.size = w.heap.size + 1 + 1 := by rw [← hW0, World.size_alloc, World.size_alloc]
  have c0 : W0.cell? ⟨w.heap.size, 0, none⟩ = some (.slice a1 n c1) := by rw [← hW0]; exact cell_under w _ _ _ _ rfl
  have c1' : W0.cell? ⟨w.heap.size, 1, none⟩ = some (.int .i64 r) := by rw [← hW0]; exact cell_under w _ _ _ _ rfl
  have d0 : W0.cell? ⟨w.heap.size + 1, 0, none⟩ = some (.slice m.sa m.sn m.sc) := by
    have := (MAt.new (w.alloc (Obj.cells #[.slice a1 n c1, .int .i64 r] 24)) m).k0
    rw [World.size_alloc] at this; rw [← hW0]; exact this
  have hca := check_any (.slice a1 n c1) n HX HY r W0 hn ⟨hp.1.below hb0, hp.2⟩
  generalize chkE n HX HY r = er at hca ⊢
  go_enter Tryz.func48, Tryz.ntmps48
  by_cases he : er = 0
  · subst he
    by_cases hnn : n = m.sn
    · subst hnn
      go_wp2_with (go_at_call 63; with_reducible refine hca.mono ?_; rintro e w1 ⟨rfl, hb1⟩; have q0 := (hb1.cell (p := ⟨w.heap.size, 0, none⟩) (by show w.heap.size < _; omega)).trans c0; have q1 := (hb1.cell (p := ⟨w.heap.size + 1, 0, none⟩) (by show w.heap.size + 1 < _; omega)).trans d0)
      go_ret
      exact ⟨by simp, hb0.trans (hb1.mono hb0.size)⟩
    · have hni : ¬ (n : Int) = (m.sn : Int) := by omega
      go_wp2_with (go_at_call 63; with_reducible refine hca.mono ?_; rintro e w1 ⟨rfl, hb1⟩; have q0 := (hb1.cell (p := ⟨w.heap.size, 0, none⟩) (by show w.heap.size < _; omega)).trans c0; have q1 := (hb1.cell (p := ⟨w.heap.size + 1, 0, none⟩) (by show w.heap.size + 1 < _; omega)).trans d0)
      go_ret
      exact ⟨by simp [hnn, hni], hb0.trans (hb1.mono hb0.size)⟩
  · go_wp2_with (go_at_call 63; with_reducible refine hca.mono ?_; rintro e w1 ⟨rfl, hb1⟩; have q0 := (hb1.cell (p := ⟨w.heap.size, 0, none⟩) (by show w.heap.size < _; omega)).trans c0; have q1 := (hb1.cell (p := ⟨w.heap.size + 1, 0, none⟩) (by show w.heap.size + 1 < _; omega)).trans d0)
    go_ret
    exact ⟨by simp [he], hb0.trans (hb1.mono hb0.size)⟩
end Go.Proofs.YtmjmmokbaocboaaGreatDoor
namespace Go.Proofs.YtmjmmokbaocboaaGreatDoor
open Go.RowKit Go.Maps
/-- whether a button agrees with the holes of a machine that is off by x and y. -/
def agreeB (n : Nat) (HX HY SX SY : Nat → Int) (r x y : Int) : Bool := (matchS n (fun i => SX i + x) (fun i => SY i + y) HX HY r).isSome
set_option maxRecDepth 100000 in
set_option maxHeartbeats 2000000 in
theorem agreement1_any (n sb so cap cb b1 o1 k1 : Nat) (SX SY HX HY : Nat → Int) (r x y : Int) (hx : -48 ≤ x ∧ x ≤ 48) (hy : -48 ≤ y ∧ y ≤ 48) (v : Value) (B : Nat) (w : World) (h : TrialG w n sb so cap cb b1 o1 k1 SX SY HX HY r)
    (hv : w.ownsRow B 74 2 v n (ptsCells (fun i => (SX i + x, SY i + y)) n)) :
    Calls Tryz.prog 122 #[v, .pointer (some ⟨cb, 0, none⟩)] w fun e w' => e = .returned (.bool (agreeB n HX HY SX SY r x y)) ∧ Below w.heap.size w w' := by
  have hc0 := h.c0
  have hc1 := h.c1
  obtain ⟨b2, o2, k2, rfl, l2, p2⟩ := PSl_posD (PSl_of_own hv) (by have := h.n2; omega)
  have hsm : ∀ i, i < n → small (SX i + x, SY i + y) := fun i hi => by
    have := h.sS i hi
    unfold small
    dsimp only
    omega
  have hmt := fun (W : World) (hb : Below w.heap.size w W) => match_in n b2 o2 k2 b1 o1 k1 3 (fun i => SX i + x) (fun i => SY i + y) HX HY r W h.r0 (by have := h.r1; omega) (by have := h.n2; omega) h.n4 (p2.below hb l2) (h.holes.below hb h.l2) (Nat.lt_of_lt_of_le l2 hb.size) (Nat.lt_of_lt_of_le h.l2 hb.size) hsm h.sH
  have hB := Below.refl w.heap.size w
  go_enter Tryz.func122, Tryz.ntmps122
  go_wp2_with (go_at_call 65; refine (callsIn_wide.1 (hmt _ hB)).mono ?_; rintro e w3 ⟨hb3, (⟨hno, rfl⟩ | ⟨t, q, v, hyes, ht, rfl, hrow⟩)⟩)
  · go_ret
    exact ⟨by unfold agreeB; rw [hno]; rfl, hb3⟩
  · go_ret
    exact ⟨by unfold agreeB; rw [hyes]; rfl, hb3⟩
/-- a trial's value. -/
abbrev trialA (sb so n cap cb bm : Nat) : Value := .agg #[.slice (some ⟨sb, so, none⟩) n cap, .func (.func 122) #[] #[.pointer (some ⟨cb, 0, none⟩)], .map (some bm)]
set_option maxRecDepth 100000 in
set_option maxHeartbeats 2000000 in
theorem doesA_any (n sb so cap cb b1 o1 k1 bm k : Nat) (SX SY HX HY : Nat → Int) (r x y : Int) (hx : -48 ≤ x ∧ x ≤ 48) (hy : -48 ≤ y ∧ y ≤ 48) (w : World) (h : TrialG w n sb so cap cb b1 o1 k1 SX SY HX HY r)
    (hm : GoodAt w bm k (agreeB n HX HY SX SY r)) (hk : k ≤ 1000000000) (m1 : sb < bm) (m2 : b1 < bm) (m3 : cb < bm) :
    Calls Tryz.prog 97 #[trialA sb so n cap cb bm, ptV x y] w fun e w' => e = .returned (.bool (agreeB n HX HY SX SY r x y)) ∧ GoodAt w' bm (k + 1) (agreeB n HX HY SX SY r) ∧ w.grownBy w' (some bm) := by
  obtain ⟨W0, hW0⟩ : ∃ W0, (w.alloc (Obj.cells #[.slice (some ⟨sb, so, none⟩) n cap, .func (.func 122) #[] #[.pointer (some ⟨cb, 0, none⟩)], .map (some bm)] 101)).alloc (Obj.cells #[.int .i64 x, .int .i64 y] 74) = W0 := ⟨_, rfl⟩
  have hg0 : w.grownBy W0 (some bm) := by rw [← hW0]; exact (World.grownBy_alloc _ _ _).trans (World.grownBy_alloc _ _ _)
  have hb0 : Below w.heap.size w W0 := by rw [← hW0]; exact ((Below.refl _ _).alloc (Nat.le_refl _) _).alloc (by rw [World.size_alloc]; omega) _
  have hsz : W0.heap.size = w.heap.size + 1 + 1 := by rw [← hW0, World.size_alloc, World.size_alloc]
  have t0 : W0.cell? ⟨w.heap.size, 0, none⟩ = some (.slice (some ⟨sb, so, none⟩) n cap) := by rw [← hW0]; exact cell_under w _ _ _ _ rfl
  have t1 : W0.cell? ⟨w.heap.size, 1, none⟩ = some (.func (.func 122) #[] #[.pointer (some ⟨cb, 0, none⟩)]) := by rw [← hW0]; exact cell_under w _ _ _ _ rfl
  have t2 : W0.cell? ⟨w.heap.size, 2, none⟩ = some (.map (some bm)) := by rw [← hW0]; exact cell_under w _ _ _ _ rfl
  have p0 : W0.cell? ⟨w.heap.size + 1, 0, none⟩ = some (.int .i64 x) := by rw [← hW0]; have := cells_new (w.alloc (Obj.cells #[.slice (some ⟨sb, so, none⟩) n cap, .func (.func 122) #[] #[.pointer (some ⟨cb, 0, none⟩)], .map (some bm)] 101)) #[.int .i64 x, .int .i64 y] 74 (j := 0) rfl; rw [World.size_alloc] at this; exact this
  have p1 : W0.cell? ⟨w.heap.size + 1, 1, none⟩ = some (.int .i64 y) := by rw [← hW0]; have := cells_new (w.alloc (Obj.cells #[.slice (some ⟨sb, so, none⟩) n cap, .func (.func 122) #[] #[.pointer (some ⟨cb, 0, none⟩)], .map (some bm)] 101)) #[.int .i64 x, .int .i64 y] 74 (j := 1) rfl; rw [World.size_alloc] at this; exact this
  have hT0 := h.below hb0
  have hM0 : GoodAt W0 bm k (agreeB n HX HY SX SY r) := hm.below hb0 hm.lt
  have hlt := hm.lt
  have wx := wf48 hx
  have wy := wf48 hy
  have hmv := fun (W : World) (hB : Below W0.heap.size W0 W) => moved_some sb so n cap SX SY x y W (by have := h.n4; omega) (hT0.stops.below hB hT0.l1) (Nat.lt_of_lt_of_le hT0.l1 hB.size) (by omega) (by omega) (fun i hi => by have := h.sS i hi; unfold small; dsimp only; omega)
  have hgd := fun (W : World) (hB : Below W0.heap.size W0 W) (v : Value) (B : Nat) (hv : W.ownsRow B 74 2 v n (ptsCells (fun i => (SX i + x, SY i + y)) n)) => agreement1_any n sb so cap cb b1 o1 k1 SX SY HX HY r x y hx hy v B W (hT0.below hB) hv
  clear hb0
  generalize agreeB n HX HY SX SY r = Q at *
  go_enter Tryz.func97, Tryz.ntmps97
  go_wp2_with (at_lookup; refine wpList_lookup_good _ rfl _ _ 99 rfl ptm rfl hM0 x y rfl wx wy ?_; intro f; cases f)
  rotate_left 1
  · go_ret
    exact ⟨rfl, hM0.mono (by omega), hg0⟩
  · go_region_held3 (fun w' => w'.cell? ⟨w.heap.size, 0, none⟩ = some (.slice (some ⟨sb, so, none⟩) n cap) ∧ w'.cell? ⟨w.heap.size, 1, none⟩ = some (.func (.func 122) #[] #[.pointer (some ⟨cb, 0, none⟩)]) ∧ w'.cell? ⟨w.heap.size + 1, 0, none⟩ = some (.int .i64 x) ∧ w'.cell? ⟨w.heap.size + 1, 1, none⟩ = some (.int .i64 y))
      (first
        | (go_keep; done)
        | (go_split_ands
           refine ⟨?_, ?_, ?_, ?_⟩ <;> (rw [hbb.cell (by first | omega | (simp; omega) | simp)]; assumption)))
      (first
        | (go_at_call 62; refine (hmv _ ((Below.refl _ _).drew)).mono ?_; rintro e w1 ⟨v1, rfl, hown, hbb⟩; have hB1 := (Below.refl W0.heap.size W0).drew.trans hbb; have hs1 := hB1.size)
        | (go_at_call 122; refine (hgd _ hB1 _ _ hown).mono ?_; rintro e w2 ⟨rfl, hbb⟩; have hB2 := hB1.trans (hbb.mono hB1.size); have hs2 := hB2.size))
    have u2 := (hB2.cell (p := ⟨w.heap.size, 2, none⟩) (by show w.heap.size < _; omega)).trans t2
    have v0 := (hB2.cell (p := ⟨w.heap.size + 1, 0, none⟩) (by show w.heap.size + 1 < _; omega)).trans p0
    have v1 := (hB2.cell (p := ⟨w.heap.size + 1, 1, none⟩) (by show w.heap.size + 1 < _; omega)).trans p1
    have hM2 := hM0.below hB2 (by omega)
    have hg2 := hg0.trans ((grown_below hB2 (some bm)))
    go_wp2_with (at_mapUpdate; refine wpList_mapUpdate_good _ rfl _ _ _ 99 rfl ptm rfl hM2 (by unfold maxLen; omega) x y rfl rfl wx wy ?_; intro w4 hM4 hg4)
    go_ret
    exact ⟨rfl, hM4, hg2.trans hg4⟩
theorem made_four2 (w : World) (c1 : Array Value) (e1 : TypeId) (o2 o3 : Obj) (Q : Int → Int → Bool) :
    Below w.heap.size w ((((w.alloc o2).alloc (.cells c1 e1)).alloc o3).alloc (.map #[] 0)) ∧ (∀ j u, c1[j]? = some u → ((((w.alloc o2).alloc (.cells c1 e1)).alloc o3).alloc (.map #[] 0)).cell? ⟨w.heap.size + 1, j, none⟩ = some u) ∧
      GoodAt ((((w.alloc o2).alloc (.cells c1 e1)).alloc o3).alloc (.map #[] 0)) (w.heap.size + 1 + 1 + 1) 0 Q := by
  obtain ⟨A1, hA1⟩ : ∃ A, w.alloc o2 = A := ⟨_, rfl⟩
  obtain ⟨A2, hA2⟩ : ∃ A, A1.alloc (.cells c1 e1) = A := ⟨_, rfl⟩
  obtain ⟨A3, hA3⟩ : ∃ A, A2.alloc o3 = A := ⟨_, rfl⟩
  rw [hA1, hA2, hA3]
  have s1 : A1.heap.size = w.heap.size + 1 := by rw [← hA1, World.size_alloc]
  have s2 : A2.heap.size = w.heap.size + 1 + 1 := by rw [← hA2, World.size_alloc, s1]
  have s3 : A3.heap.size = w.heap.size + 1 + 1 + 1 := by rw [← hA3, World.size_alloc, s2]
  have b1 : Below w.heap.size w A1 := by rw [← hA1]; exact (Below.refl _ _).alloc (Nat.le_refl _) _
  have b2 : Below A1.heap.size A1 A2 := by rw [← hA2]; exact (Below.refl _ _).alloc (Nat.le_refl _) _
  have b3 : Below A2.heap.size A2 A3 := by rw [← hA3]; exact (Below.refl _ _).alloc (Nat.le_refl _) _
  have b4 : Below A3.heap.size A3 (A3.alloc (.map #[] 0)) := (Below.refl _ _).alloc (Nat.le_refl _) _
  have b34 := b3.trans (b4.mono b3.size)
  have b24 := b2.trans (b34.mono b2.size)
  have t := fun j u (h : c1[j]? = some u) => cells_new A1 c1 e1 h
  rw [hA2, s1] at t
  have hg := GoodMap.made Tryz.prog 74 4 Q A3
  rw [s3] at hg
  exact ⟨b1.trans (b24.mono b1.size), fun j u h => (b34.cell (p := ⟨w.heap.size + 1, j, none⟩) (by show w.heap.size + 1 < _; omega)).trans (t j u h), hg⟩
set_option maxRecDepth 100000 in
set_option maxHeartbeats 2000000 in
/-- a trial is made. -/
theorem agreement_any (b1 o1 n k1 sb so : Nat) (r : Int) (m : Mach) (hsa : m.sa = some ⟨sb, so, none⟩) (Q : Int → Int → Bool) (w : World) :
    Calls Tryz.prog 79 #[m.val, .agg #[.slice (some ⟨b1, o1, none⟩) n k1, .int .i64 r]] w fun e w' => e = .returned (trialA sb so m.sn m.sc (w.heap.size + 1) (w.heap.size + 1 + 1 + 1)) ∧ Below w.heap.size w w' ∧
      w'.cell? ⟨w.heap.size + 1, 0, none⟩ = some (.slice (some ⟨b1, o1, none⟩) n k1) ∧ w'.cell? ⟨w.heap.size + 1, 1, none⟩ = some (.int .i64 r) ∧ GoodAt w' (w.heap.size + 1 + 1 + 1) 0 Q := by
  have hmm := @run_makeMap Tryz.prog
  unfold Mach.val
  rw [hsa]
  go_enter Tryz.func79, Tryz.ntmps79
  go_wp2
  obtain ⟨h1, h2, h3⟩ := made_four2 w #[.slice (some ⟨b1, o1, none⟩) n k1, .int .i64 r] 58 (Obj.cells #[.slice (some ⟨sb, so, none⟩) m.sn m.sc, .int .i64 m.c0, .int .i64 m.c1, .int .i64 m.d0, .int .i64 m.d1, .int .i64 m.w0, .int .i64 m.w1, .int .i64 m.v0, .int .i64 m.v1, .slice m.ra m.rn m.rc] 29)
    (Obj.cells #[.slice (some ⟨sb, so, none⟩) m.sn m.sc, .func (.func 122) #[] #[.pointer (some ⟨w.heap.size + 1, 0, none⟩)], .map (some (w.heap.size + 1 + 1 + 1))] 101) Q
  have a0 := h2 0 _ rfl
  have a1 := h2 1 _ rfl
  refine bodyPost_ret (v := trialA sb so m.sn m.sc (w.heap.size + 1) (w.heap.size + 1 + 1 + 1)) (by simp [results, Tryz.results79, go_sem]) rfl ⟨rfl, h1, a0, a1, h3⟩
end Go.Proofs.YtmjmmokbaocboaaGreatDoor
namespace Go.Proofs.YtmjmmokbaocboaaGreatDoor
open Go.RowKit Go.Shelf
attribute [local go_sem] Oper.semAt_some
/-- the cells of passing while it goes through a box. -/
structure PsX (w W : World) (u0 u1 u2 : Value) (bm k : Nat) (Q : Int → Int → Bool) (v : Value) (cnt : Nat) (xs : List Value) : Prop where
  old : w.grownBy W (some bm)
  t0 : W.cell? ⟨w.heap.size, 0, none⟩ = some u0
  t1 : W.cell? ⟨w.heap.size, 1, none⟩ = some u1
  t2 : W.cell? ⟨w.heap.size, 2, none⟩ = some u2
  f0 : W.cell? ⟨w.heap.size + 1 + 1, 0, none⟩ = some v
  ff : W.frozen? ⟨w.heap.size + 1 + 1, 0, none⟩ = false
  row : W.ownsRow (w.heap.size + 4) 74 2 v cnt xs
  gm : GoodAt W bm k Q
  big : w.heap.size + 4 ≤ W.heap.size
theorem own_base {w : World} {B s n g : Nat} {e : TypeId} {v : Value} {xs : List Value} (h : w.ownsRow B e s v n xs) (hg : v.ownBlock = some g) : B ≤ g ∧ ∃ o, w.heap[g]? = some o ∧ o.isCells = true := by
  obtain ⟨_, ⟨rfl, _⟩ | ⟨g', cap, cur, rfl, h1, h2, _⟩⟩ := h
  · cases hg
  · cases hg
    exact ⟨h1, _, h2, rfl⟩
theorem PsX.far {w W W' : World} {u0 u1 u2 : Value} {bm k k' : Nat} {Q : Int → Int → Bool} {v : Value} {cnt : Nat} {xs : List Value} (h : PsX w W u0 u1 u2 bm k Q v cnt xs) (hh : ∀ j, w.heap.size ≤ j → j < w.heap.size + 4 → W'.heap[j]? = W.heap[j]?) (hold : w.grownBy W' (some bm)) (hgm : GoodAt W' bm k' Q) (hrow : W'.ownsRow (w.heap.size + 4) 74 2 v cnt xs) (hz : W.heap.size ≤ W'.heap.size) : PsX w W' u0 u1 u2 bm k' Q v cnt xs :=
  have c : ∀ b j, w.heap.size ≤ b → b < w.heap.size + 4 → W'.cell? ⟨b, j, none⟩ = W.cell? ⟨b, j, none⟩ := fun b j h1 h2 => World.cell?_of_block (hh b h1 h2)
  have f : ∀ b j, w.heap.size ≤ b → b < w.heap.size + 4 → W'.frozen? ⟨b, j, none⟩ = W.frozen? ⟨b, j, none⟩ := fun b j h1 h2 => World.frozen?_of_block (hh b h1 h2)
  ⟨hold, (c _ _ (by omega) (by omega)).trans h.t0, (c _ _ (by omega) (by omega)).trans h.t1, (c _ _ (by omega) (by omega)).trans h.t2, (c _ _ (by omega) (by omega)).trans h.f0, (f _ _ (by omega) (by omega)).trans h.ff, hrow, hgm, Nat.le_trans h.big hz⟩
theorem PsX.mono {w W : World} {u0 u1 u2 : Value} {bm k k' : Nat} {Q : Int → Int → Bool} {v : Value} {cnt : Nat} {xs : List Value} (h : PsX w W u0 u1 u2 bm k Q v cnt xs) (hk : k ≤ k') : PsX w W u0 u1 u2 bm k' Q v cnt xs :=
  ⟨h.old, h.t0, h.t1, h.t2, h.f0, h.ff, h.row, h.gm.mono hk, h.big⟩
theorem PsX.step {w W W' : World} {u0 u1 u2 : Value} {bm k : Nat} {Q : Int → Int → Bool} {v : Value} {cnt : Nat} {xs : List Value} {row : Option Nat} (h : PsX w W u0 u1 u2 bm k Q v cnt xs) (hb : bm < w.heap.size) (hg : W.grownBy W' row) (hr : ∀ r, row = some r → w.heap.size + 4 ≤ r ∧ ∃ o : Obj, W.heap[r]? = some o ∧ o.isCells = false) : PsX w W' u0 u1 u2 bm k Q v cnt xs :=
  have hbig := h.big
  h.far (fun j h1 h2 => hg.block j (by omega) (fun e => by have := (hr j e.symm).1; omega)) (h.old.andThen hg fun j e => .inl (by have := (hr j e).1; omega)) (h.gm.kept hg fun e => by have := (hr bm e.symm).1; omega)
    (h.row.kept hg (by
      cases hv : v.ownBlock with
      | none => exact .inl rfl
      | some g =>
        refine .inr fun e => ?_
        obtain ⟨_, o, ho, hc⟩ := own_base h.row hv
        obtain ⟨_, o', ho', hc'⟩ := hr g e.symm
        rw [ho] at ho'; cases ho'; rw [hc] at hc'; cases hc')) hg.size
theorem PsX.alloc {w W : World} {u0 u1 u2 : Value} {bm k : Nat} {Q : Int → Int → Bool} {v : Value} {cnt : Nat} {xs : List Value} (h : PsX w W u0 u1 u2 bm k Q v cnt xs) (hb : bm < w.heap.size) (o : Obj) : PsX w (W.alloc o) u0 u1 u2 bm k Q v cnt xs :=
  h.step hb (World.grownBy_alloc _ _ none) (fun r e => by cases e)
theorem PsX.does {w W W' : World} {u0 u1 u2 : Value} {bm k k' : Nat} {Q : Int → Int → Bool} {v : Value} {cnt : Nat} {xs : List Value} (h : PsX w W u0 u1 u2 bm k Q v cnt xs) (hb : bm < w.heap.size) (hg : W.grownBy W' (some bm)) (hgm : GoodAt W' bm k' Q) : PsX w W' u0 u1 u2 bm k' Q v cnt xs :=
  have hbig := h.big
  h.far (fun j h1 h2 => hg.block j (by omega) (fun e => by cases e; omega)) (h.old.andThen hg fun j e => .inr e) hgm
    (h.row.kept hg (by
      cases hv : v.ownBlock with
      | none => exact .inl rfl
      | some g => exact .inr fun e => by have := (own_base h.row hv).1; cases e; omega)) hg.size
/-- a point more. -/
theorem PsX.push {w W W' : World} {u0 u1 u2 : Value} {bm k : Nat} {Q : Int → Int → Bool} {v v' : Value} {cnt cnt' : Nat} {xs xs' : List Value} (h : PsX w W u0 u1 u2 bm k Q v cnt xs) (hb : bm < w.heap.size) (hg : W.grownBy W' v.ownBlock) (hown : W'.ownsRow (w.heap.size + 4) 74 2 v' cnt' xs') :
    PsX w (W'.setCell ⟨w.heap.size + 1 + 1, 0, none⟩ v') u0 u1 u2 bm k Q v' cnt' xs' := by
  have hbig := h.big
  have hlo : ∀ g, v.ownBlock = some g → w.heap.size + 4 ≤ g := fun g hv => (own_base h.row hv).1
  have hh : ∀ j, w.heap.size ≤ j → j < w.heap.size + 4 → W'.heap[j]? = W.heap[j]? := fun j h1 h2 => hg.block j (by omega) (fun e => by have := hlo j e.symm; omega)
  have c : ∀ b j, w.heap.size ≤ b → b < w.heap.size + 4 → W'.cell? ⟨b, j, none⟩ = W.cell? ⟨b, j, none⟩ := fun b j h1 h2 => World.cell?_of_block (hh b h1 h2)
  have f : ∀ b j, w.heap.size ≤ b → b < w.heap.size + 4 → W'.frozen? ⟨b, j, none⟩ = W.frozen? ⟨b, j, none⟩ := fun b j h1 h2 => World.frozen?_of_block (hh b h1 h2)
  have hz := hg.size
  refine ⟨(h.old.andThen hg fun j e => .inl (by have := hlo j e; omega)).andThen (grown_set _) (fun j e => .inl (by cases e; show w.heap.size ≤ w.heap.size + 1 + 1; omega)), ?_, ?_, ?_, World.cell?_setCell_same' _ _ _ (by rw [(c _ _ (by omega) (by omega)).trans h.f0]; rfl), ?_, ownsRow_kept hown (KeptFrom.set (by show w.heap.size + 1 + 1 < _; omega) _),
    (h.gm.kept hg fun e => by have := hlo bm e.symm; omega).kept (grown_set _) (by simp; omega), by rw [World.size_setCell]; omega⟩
  · rw [World.cell?_setCell_far _ _ _ _ (by first | (simp; done) | (simp; omega))]; exact (c _ _ (by omega) (by omega)).trans h.t0
  · rw [World.cell?_setCell_far _ _ _ _ (by first | (simp; done) | (simp; omega))]; exact (c _ _ (by omega) (by omega)).trans h.t1
  · rw [World.cell?_setCell_far _ _ _ _ (by first | (simp; done) | (simp; omega))]; exact (c _ _ (by omega) (by omega)).trans h.t2
  · rw [World.frozen?_setCell]; exact (f _ _ (by omega) (by omega)).trans h.ff
theorem PsX.pushed {w W W' : World} {u0 u1 u2 : Value} {bm k : Nat} {Q : Int → Int → Bool} {va : Option Addr} {vc : Nat} {v' : Value} {cnt cnt' : Nat} {xs xs' : List Value} (h : PsX w W u0 u1 u2 bm k Q (.slice va cnt vc) cnt xs) (hb : bm < w.heap.size) (o : Obj) (hg : (W.alloc o).grownBy W' (Value.slice va cnt vc).ownBlock) (hc1 : 1 ≤ cnt') (hown : W'.ownsRow (w.heap.size + 4) 74 2 v' cnt' xs') :
    ∃ g c, v' = .slice (some ⟨g, 0, none⟩) cnt' c ∧ W'.cell? ⟨w.heap.size + 1 + 1, 0, none⟩ = some (.slice va cnt vc) ∧ W'.frozen? ⟨w.heap.size + 1 + 1, 0, none⟩ = false ∧
      (PsX w (W'.setCell ⟨w.heap.size + 1 + 1, 0, none⟩ (.slice (some ⟨g, 0, none⟩) cnt' c)) u0 u1 u2 bm k Q (.slice (some ⟨g, 0, none⟩) cnt' c) cnt' xs' ∧ KeepsFrom (w.heap.size + 4) W (W'.setCell ⟨w.heap.size + 1 + 1, 0, none⟩ (.slice (some ⟨g, 0, none⟩) cnt' c)) ∧
        KpB (w.heap.size + 1 + 1 + 1) W (W'.setCell ⟨w.heap.size + 1 + 1, 0, none⟩ (.slice (some ⟨g, 0, none⟩) cnt' c))) := by
  have hA := h.alloc hb o
  have hbig := h.big
  have hlo : ∀ g, (Value.slice va cnt vc).ownBlock = some g → w.heap.size + 4 ≤ g := fun g hv => (own_base hA.row hv).1
  obtain ⟨g, c, rfl⟩ := ownsRow_pos hc1 hown
  have hz := hg.size
  rw [World.size_alloc] at hz
  refine ⟨g, c, rfl, hg.cell hA.f0 (by intro e; have := hlo _ e.symm; simp at this; omega), ?_, ⟨hA.push hb hg hown, ?_, ?_⟩⟩
  · exact (World.frozen?_of_block (hg.block _ (by rw [World.size_alloc]; show w.heap.size + 1 + 1 < _; omega) (by intro e; have := hlo _ e.symm; simp at this; omega))).trans hA.ff
  · refine (((KeepsOthers.alloc W o).from _).trans ⟨by rw [World.size_alloc]; exact hz, fun j o' hB hj ho => ?_⟩).trans ((KeepsFrom.of_grownBy (grown_set _) fun j e => by cases e; show w.heap.size + 1 + 1 < _; omega))
    rw [hg.block j (by have := (Array.getElem?_eq_some_iff.1 hj).1; omega) (by intro e; obtain ⟨_, o2, ho2, hc2⟩ := own_base hA.row e.symm; rw [hj] at ho2; cases ho2; rw [hc2] at ho; cases ho)]
    exact hj
  · refine ⟨by rw [World.size_setCell]; omega, ?_⟩
    have e1 : (W'.setCell ⟨w.heap.size + 1 + 1, 0, none⟩ (.slice (some ⟨g, 0, none⟩) cnt' c)).heap[w.heap.size + 1 + 1 + 1]? = W'.heap[w.heap.size + 1 + 1 + 1]? := (grown_set (W := W') _).block _ (by omega) (by intro e; simp at e)
    rw [e1, hg.block _ (by rw [World.size_alloc]; omega) (by intro e; have := hlo _ e.symm; omega)]
    exact Below.heap_alloc _ _ _ (by omega)
theorem none_push {α : Type} {P : α → Bool} {pre : List α} {x : α} {n : Nat} (h : n = 0 ↔ ∀ p ∈ pre, P p = false) (hx : P x = false) : n = 0 ↔ ∀ p ∈ pre ++ [x], P p = false := by
  rw [h]
  constructor
  · intro h1 p hp
    rcases List.mem_append.1 hp with hp | hp
    · exact h1 p hp
    · rw [List.mem_singleton.1 hp]; exact hx
  · exact fun h1 p hp => h1 p (List.mem_append_left _ hp)
theorem some_push {α : Type} {P : α → Bool} {pre : List α} {x : α} {n : Nat} (hx : P x = true) : n + 1 = 0 ↔ ∀ p ∈ pre ++ [x], P p = false :=
  ⟨fun h => by omega, fun h => by have := h x (List.mem_append_right _ (List.mem_singleton.2 rfl)); rw [hx] at this; cases this⟩
theorem psx_start (w : World) (u0 u1 u2 : Value) (x0 x1 y0 y1 : Int) (bm k : Nat) (Q : Int → Int → Bool) (hb : bm < w.heap.size) (hm : GoodAt w bm k Q) : PsX w ((((w.alloc (Obj.cells #[u0, u1, u2] 101)).alloc (Obj.cells #[.int .i64 x0, .int .i64 x1, .int .i64 y0, .int .i64 y1] 105)).alloc (Obj.cells #[.slice none 0 0] 22)).alloc (Obj.cells #[.int .i64 x0, .int .i64 x1, .int .i64 y0, .int .i64 y1] 105)) u0 u1 u2 bm k Q (.slice none 0 0) 0 [] ∧ ((((w.alloc (Obj.cells #[u0, u1, u2] 101)).alloc (Obj.cells #[.int .i64 x0, .int .i64 x1, .int .i64 y0, .int .i64 y1] 105)).alloc (Obj.cells #[.slice none 0 0] 22)).alloc (Obj.cells #[.int .i64 x0, .int .i64 x1, .int .i64 y0, .int .i64 y1] 105)).heap.size = w.heap.size + 4 ∧
    ∀ j u, (#[.int .i64 x0, .int .i64 x1, .int .i64 y0, .int .i64 y1] : Array Value)[j]? = some u → ((((w.alloc (Obj.cells #[u0, u1, u2] 101)).alloc (Obj.cells #[.int .i64 x0, .int .i64 x1, .int .i64 y0, .int .i64 y1] 105)).alloc (Obj.cells #[.slice none 0 0] 22)).alloc (Obj.cells #[.int .i64 x0, .int .i64 x1, .int .i64 y0, .int .i64 y1] 105)).cell? ⟨w.heap.size + 1 + 1 + 1, j, none⟩ = some u := by
  obtain ⟨A1, hA1⟩ : ∃ A, w.alloc (Obj.cells #[u0, u1, u2] 101) = A := ⟨_, rfl⟩
  obtain ⟨A2, hA2⟩ : ∃ A, A1.alloc (Obj.cells #[.int .i64 x0, .int .i64 x1, .int .i64 y0, .int .i64 y1] 105) = A := ⟨_, rfl⟩
  obtain ⟨A3, hA3⟩ : ∃ A, A2.alloc (Obj.cells #[.slice none 0 0] 22) = A := ⟨_, rfl⟩
  obtain ⟨A4, hA4⟩ : ∃ A, A3.alloc (Obj.cells #[.int .i64 x0, .int .i64 x1, .int .i64 y0, .int .i64 y1] 105) = A := ⟨_, rfl⟩
  rw [hA1, hA2, hA3, hA4]
  have s1 : A1.heap.size = w.heap.size + 1 := by rw [← hA1, World.size_alloc]
  have s2 : A2.heap.size = w.heap.size + 1 + 1 := by rw [← hA2, World.size_alloc, s1]
  have s3 : A3.heap.size = w.heap.size + 1 + 1 + 1 := by rw [← hA3, World.size_alloc, s2]
  have s4 : A4.heap.size = w.heap.size + 1 + 1 + 1 + 1 := by rw [← hA4, World.size_alloc, s3]
  have b1 : Below w.heap.size w A1 := by rw [← hA1]; exact (Below.refl _ _).alloc (Nat.le_refl _) _
  have b2 : Below A1.heap.size A1 A2 := by rw [← hA2]; exact (Below.refl _ _).alloc (Nat.le_refl _) _
  have b3 : Below A2.heap.size A2 A3 := by rw [← hA3]; exact (Below.refl _ _).alloc (Nat.le_refl _) _
  have b4 : Below A3.heap.size A3 A4 := by rw [← hA4]; exact (Below.refl _ _).alloc (Nat.le_refl _) _
  have b24 := b3.trans (b4.mono b3.size)
  have b14 := b2.trans (b24.mono b2.size)
  have b04 := b1.trans (b14.mono b1.size)
  have t := fun j u (h : (#[u0, u1, u2] : Array Value)[j]? = some u) => cells_new w #[u0, u1, u2] 101 h
  rw [hA1] at t
  have e3 := new_cell A2 (.slice none 0 0) 22
  rw [hA3, s2] at e3
  have e4 := fun j u (h : (#[.int .i64 x0, .int .i64 x1, .int .i64 y0, .int .i64 y1] : Array Value)[j]? = some u) => cells_new A3 #[.int .i64 x0, .int .i64 x1, .int .i64 y0, .int .i64 y1] 105 h
  rw [hA4, s3] at e4
  refine ⟨⟨⟨b04.os, b04.tape, b04.output, b04.size, fun i hi _ => b04.block i hi⟩, ?_, ?_, ?_, ?_, ?_, ⟨rfl, .inl ⟨rfl, rfl⟩⟩, hm.below b04 hb, by omega⟩, by omega, e4⟩
  · exact (b14.cell (p := ⟨w.heap.size, 0, none⟩) (by show w.heap.size < _; omega)).trans (t 0 u0 rfl)
  · exact (b14.cell (p := ⟨w.heap.size, 1, none⟩) (by show w.heap.size < _; omega)).trans (t 1 u1 rfl)
  · exact (b14.cell (p := ⟨w.heap.size, 2, none⟩) (by show w.heap.size < _; omega)).trans (t 2 u2 rfl)
  · exact (b4.cell (p := ⟨_, 0, none⟩) (by show w.heap.size + 1 + 1 < _; omega)).trans e3.1
  · exact (b4.frozen (p := ⟨_, 0, none⟩) (by show w.heap.size + 1 + 1 < _; omega)).trans e3.2
set_option maxRecDepth 100000 in
set_option maxHeartbeats 2000000 in
theorem passing_in (u0 u1 : Value) (bm k n : Nat) (Q : Int → Int → Bool) (x0 x1 y0 y1 : Int) (w : World) (h1 : -48 ≤ x0) (h2 : x1 ≤ 48) (h3 : -48 ≤ y0) (h4 : y1 ≤ 48) (h5 : x0 ≤ 1000) (h6 : y0 ≤ 1000)
    (hb : bm < w.heap.size) (hm : GoodAt w bm k Q) (hk : k ≤ 1000000) (hn : 3 ≤ n)
    (hdoes : ∀ (W : World) (j : Nat) (x y : Int), w.grownBy W (some bm) → GoodAt W bm j Q → j ≤ 1000000000 → (-48 ≤ x ∧ x ≤ 48) → (-48 ≤ y ∧ y ≤ 48) →
      Calls Tryz.prog 97 #[.agg #[u0, u1, .map (some bm)], ptV x y] W fun e w' => e = .returned (.bool (Q x y)) ∧ GoodAt w' bm (j + 1) Q ∧ W.grownBy w' (some bm)) :
    CallsIn Fence.wide n Tryz.prog 80 #[.agg #[u0, u1, .map (some bm)], .agg #[.int .i64 x0, .int .i64 x1, .int .i64 y0, .int .i64 y1]] w fun e w' => ∃ a cnt c, e = .returned (.slice a cnt c) ∧ cnt ≤ 40401 ∧ (cnt = 0 ↔ ∀ x y, InBox x0 x1 y0 y1 x y → Q x y = false) ∧ GoodAt w' bm (k + 40401) Q ∧ w.grownBy w' (some bm) := by
  refine callsIn_of_wp_marks Tryz.func80 rfl trivial ?_ rfl
  obtain ⟨i0, hi, hz0, hz1, hz2⟩ := info_parts Tryz.info74
  simp only [Tryz.ntmps80, List.size_toArray, List.length_cons, List.length_nil, Nat.reduceAdd, Nat.reduceSub, Array.replicate_succ, Array.replicate_zero, List.push_toArray, List.append_toArray, List.nil_append, List.cons_append]
  gi_wp2_with (refine ⟨trivial, fun h => (by cases h), ?_⟩; gi_at_call 96; refine (callsIn_wide.2 (points_make x0 x1 y0 y1 _)).mono ?_; rintro e w2 ⟨rfl, rfl⟩)
  rename_i Q' K hKK
  obtain ⟨hX0, hW0z, hbx⟩ := psx_start w u0 u1 (.map (some bm)) x0 x1 y0 y1 bm k Q hb hm
  generalize ((((w.alloc (Obj.cells #[u0, u1, Value.map (some bm)] 101)).alloc (Obj.cells #[.int .i64 x0, .int .i64 x1, .int .i64 y0, .int .i64 y1] 105)).alloc (Obj.cells #[.slice none 0 0] 22)).alloc (Obj.cells #[.int .i64 x0, .int .i64 x1, .int .i64 y0, .int .i64 y1] 105)) = W0 at hX0 hW0z hbx ⊢
  refine wpIn_rangeFunc_ownH (α := BoxPt x0 x1 y0 y1) rfl (by omega) (gf := 141) (lb := #[.pointer (some ⟨w.heap.size + 1 + 1 + 1, 0, none⟩)]) rfl trivial (enters_of Tryz.func141 (by kernel_rfl) rfl)
    (points1_stops (n - 1) (w.heap.size + 1 + 1 + 1) x0 x1 y0 y1 W0 (by omega) (by omega) (by omega) (by omega) h5 h6 (by omega) (hbx 0 _ rfl) (hbx 1 _ rfl) (hbx 2 _ rfl) (hbx 3 _ rfl)) (fun h k => KpB.trans h k)
    (fun W l o o' hl ho _ _ => ⟨by rw [World.putObj_size]; exact Nat.le_refl _, World.putObj_heap_other (by omega)⟩) (Below.refl _ _) (fun _ => rfl)
    (fun pre W => ∃ v cnt xs, PsX w W u0 u1 (.map (some bm)) bm (k + pre.length) Q v cnt xs ∧ (cnt = 0 ↔ ∀ p ∈ pre, Q p.1.1 p.1.2 = false) ∧ cnt ≤ pre.length ∧ pre.length ≤ 40401)
    (fun c pre W => False)
    (fun pre A B row hs hg hr => by
      obtain ⟨v, cnt, xs, g1, g2⟩ := hs
      exact ⟨v, cnt, xs, g1.step hb hg fun r e => ⟨by have := (hr r e).1; omega, (hr r e).2⟩, g2⟩)
    (fun c pre A B row hs hg hr => hs)
    ⟨_, 0, [], hX0, by simp, by simp, by simp⟩
    (fun x a' W => ∃ Bx, w.heap.size + 4 ≤ Bx ∧ Bx < W.heap.size ∧ W.cell? ⟨Bx, 0, none⟩ = some (.int .i64 x.1.1) ∧ W.cell? ⟨Bx, 1, none⟩ = some (.int .i64 x.1.2) ∧ a' = { tmps := #[.agg #[u0, u1, .map (some bm)], .agg #[.int .i64 x0, .int .i64 x1, .int .i64 y0, .int .i64 y1], .pointer (some ⟨w.heap.size, 0, none⟩), .pointer (some ⟨w.heap.size + 1, 0, none⟩), .slice none 0 0, .pointer (some ⟨w.heap.size + 1 + 1, 0, none⟩), .pointer (some ⟨Bx, 0, none⟩), .agg #[.int .i64 x0, .int .i64 x1, .int .i64 y0, .int .i64 y1], .func (.func 141) #[] #[.pointer (some ⟨w.heap.size + 1 + 1 + 1, 0, none⟩)], ptV x.1.1 x.1.2, undef, undef, undef, undef, undef, undef, undef, undef], defers := [] })
    (fun x a' _ A B row hs hg hr => by
      obtain ⟨Bx, g1, g2, g3, g4, g5⟩ := hs
      exact ⟨Bx, g1, Nat.lt_of_lt_of_le g2 hg.size, cell_kept g3 hg (fun r e => (hr r e).2), cell_kept g4 hg (fun r e => (hr r e).2), g5⟩)
    ?assign ?body ?done ?stop
  case assign =>
    rintro l pre x W K2 ⟨v, cnt, xs, hX, hr⟩ hK2
    dsimp only [ptEnc]
    gi_wp2
    exact hK2 _ _ ((KeepsOthers.alloc _ _).from _) ⟨by rw [World.size_alloc]; omega, Below.heap_alloc _ _ _ (by have := hX.big; omega)⟩ ⟨v, cnt, xs, hX.alloc hb _, hr⟩ ⟨W.heap.size, hX.big, by rw [World.size_alloc]; omega, cells_new W _ _ rfl, cells_new W _ _ rfl, rfl⟩
  case body =>
    rintro l pre x a' W hl ⟨r, hr⟩ ⟨v, cnt, xs, hX, hcn, hcl, hlp⟩ ⟨Bx, hBx, hlt, e0, e1, rfl⟩ hlen
    have hd := hdoes W (k + pre.length) x.1.1 x.1.2 hX.old hX.gm (by omega) ⟨by have := x.2.1; omega, by have := x.2.2.1; omega⟩ ⟨by have := x.2.2.2.1; omega, by have := x.2.2.2.2; omega⟩
    have hlen' : (pre ++ [x]).length = pre.length + 1 := by simp
    have hbig := hX.big
    have hne : some Bx ≠ some bm := by intro e; simp at e; omega
    have c0 := hX.t0
    have c1 := hX.t1
    have c2 := hX.t2
    obtain ⟨va, vc, rfl⟩ := ownsRow_slice hX.row
    cases hq : Q x.1.1 x.1.2
    · rw [hq] at hd
      have tok : True := trivial
      gi_wp2_with (have _t := tok; refine ⟨trivial, fun h => (by cases h), ?_⟩; gi_at_call 97; with_reducible refine (CallsIn.inRound l (callsIn_wide.2 hd)).mono ?_; rintro e w3 ⟨rfl, hgm3, hg3⟩; have hX3 := PLift.up (hX.does hb hg3 hgm3); clear tok _t hd hdoes hX hr hgm3)
      have hkf := KeepsFrom.of_grownBy (B := W0.heap.size) hg3 (fun j e => by cases e; omega)
      have hkp : w3.heap[w.heap.size + 1 + 1 + 1]? = W.heap[w.heap.size + 1 + 1 + 1]? := hg3.block _ (by omega) (fun e => by cases e; omega)
      exact ⟨hkf, ⟨hg3.size, hkp⟩, _, cnt, xs, hX3.down.mono (by omega), none_push (P := fun p : BoxPt x0 x1 y0 y1 => Q p.1.1 p.1.2) hcn hq, by omega, by omega⟩
    · rw [hq] at hd
      have tok : True := trivial
      gi_wp2_with (first
        | (have _t := tok; refine ⟨trivial, fun h => (by cases h), ?_⟩; gi_at_call 97; with_reducible refine (CallsIn.inRound l (callsIn_wide.2 hd)).mono ?_; rintro e w3 ⟨rfl, hgm3, hg3⟩; have hX3 := PLift.up (hX.does hb hg3 hgm3); have q1 := hX3.down.f0; have q2 := hX3.down.ff; have e03 := (hg3.cell (a := ⟨Bx, 0, none⟩) e0 hne); have e13 := (hg3.cell (a := ⟨Bx, 1, none⟩) e1 hne); have hs3 := hg3.size; clear tok _t hd hdoes hX hr hgm3)
        | (gi_at_builtin; go_loud (refine wpListIn_append_own _ rfl _ _ 22 rfl (w.heap.size + 4) 74 i0 (.agg #[.int .i64 0, .int .i64 0]) 2 16 Tryz.underlying22 hi hz0 hz1 hz2 rfl (by decide) _ _ _ rfl (hX3.down.alloc hb _).row ⟨w3.heap.size, 0, none⟩ 1 1 [.int .i64 x.1.1, .int .i64 x.1.2] rfl rfl (cells_two w3 (.int .i64 x.1.1) (.int .i64 x.1.2) 74) (by simp [Value.oneCell']) (by unfold maxLen; omega) (by omega) (by have := hX3.down.big; simp only [World.size_alloc]; omega) ?_; intro v4 w4 hown4 hgrow4 _; obtain ⟨g4, c4, rfl, hb4, hf4, hX4'⟩ := hX3.down.pushed hb _ hgrow4 (Nat.le_add_left _ _) hown4; have hX4 := PLift.up hX4'; clear hX4')))
      have hkf := (KeepsFrom.of_grownBy (B := W0.heap.size) hg3 (fun j e => by cases e; omega)).trans (hW0z ▸ hX4.down.2.1)
      have hkp : KpB (w.heap.size + 1 + 1 + 1) W w3 := ⟨hg3.size, hg3.block _ (by omega) (fun e => by cases e; omega)⟩
      exact ⟨hkf, hkp.trans hX4.down.2.2, _, cnt + 1, _, hX4.down.1.mono (by omega), some_push (P := fun p : BoxPt x0 x1 y0 y1 => Q p.1.1 p.1.2) hq, by omega, by omega⟩
  case done =>
    rintro D pre W' hD hS ⟨v, cnt, xs, hX, hcn, hcl, hlp⟩ hDl
    apply hKK
    have hbig := hX.big
    have c0 := hX.f0
    have c1 := hX.ff
    obtain ⟨va, vc, rfl⟩ := ownsRow_slice hX.row
    have hcn' : cnt = 0 ↔ ∀ x y, InBox x0 x1 y0 y1 x y → Q x y = false := hcn.trans ⟨fun h x y hb => h ⟨(x, y), hb⟩ (hS _), fun h p _ => h _ _ p.2⟩
    have hX' := PLift.up hX
    clear hX hcn
    gi_wp2
    refine ⟨by simp, .inl ⟨_, _, rfl, run_takeDeferred hDl, ?_⟩⟩
    have hF := hX'.down.step hb (grownBy_putObj' W' D (.deferred none)) (fun r e => by cases e; exact ⟨by omega, _, hDl, rfl⟩)
    have r2 := hF.f0
    exact ⟨.slice va cnt vc, by simp [results, Tryz.results80, go_sem, r2], va, cnt, vc, rfl, by omega, hcn', hF.gm.mono (by omega), hF.old⟩
  case stop =>
    rintro D c pre W' hD _ h
    exact h.elim
end Go.Proofs.YtmjmmokbaocboaaGreatDoor
