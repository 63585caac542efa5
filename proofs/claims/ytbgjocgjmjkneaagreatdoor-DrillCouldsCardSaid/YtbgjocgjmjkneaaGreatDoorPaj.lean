/- A part of the proof: see the last file. -/
import Derived.Test.YtbgjocgjmjkneaaGreatDoorPab
import Derived.Test.YtbgjocgjmjkneaaGreatDoorPae
import Derived.Test.YtbgjocgjmjkneaaGreatDoorPai
import Derived.Test.YtbgjocgjmjkneaaGreatDoorPac
import Derived.RangeFuncWrites
import Derived.Test.YtbgjocgjmjkneaaGreatDoorPad
set_option linter.unusedVariables false
set_option linter.unusedSimpArgs false
set_option linter.unusedSectionVars false
/-- a point between two ends each. -/
def Go.Proofs.InBox (x0 x1 y0 y1 x y : Int) : Prop := x0 ≤ x ∧ x ≤ x1 ∧ y0 ≤ y ∧ y ≤ y1
namespace Go.Proofs
/-- what is known of all points of a box: 3 surely, 1 never, 2 perhaps. -/
def IsWord (Q : Int → Int → Bool) (x0 x1 y0 y1 v : Int) : Prop :=
  (v = 3 ∧ ∀ x y, InBox x0 x1 y0 y1 x y → Q x y = true) ∨
  (v = 1 ∧ (∃ x y, InBox x0 x1 y0 y1 x y ∧ Q x y = false) ∧ ∀ x y, InBox x0 x1 y0 y1 x y → Q x y = false) ∨
  (v = 2 ∧ (∃ x y, InBox x0 x1 y0 y1 x y ∧ Q x y = true) ∧ ∃ x y, InBox x0 x1 y0 y1 x y ∧ Q x y = false)
theorem box_not_all {S : Int → Int → Prop} {Q : Int → Int → Bool} {b : Bool} (h : ¬ ∀ x y, S x y → Q x y = b) : ∃ x y, S x y ∧ Q x y = !b :=
  Classical.byContradiction fun hn => h fun x y hs => Classical.byContradiction fun hq => hn ⟨x, y, hs, by cases hb : Q x y <;> cases b <;> simp_all⟩
theorem IsWord.ex (Q : Int → Int → Bool) (x0 x1 y0 y1 : Int) : ∃ v, IsWord Q x0 x1 y0 y1 v := by
  by_cases h : ∀ x y, InBox x0 x1 y0 y1 x y → Q x y = true
  · exact ⟨3, .inl ⟨rfl, h⟩⟩
  · have h1 := box_not_all h
    by_cases h2 : ∀ x y, InBox x0 x1 y0 y1 x y → Q x y = false
    · exact ⟨1, .inr (.inl ⟨rfl, h1, h2⟩)⟩
    · exact ⟨2, .inr (.inr ⟨rfl, box_not_all h2, h1⟩)⟩
theorem IsWord.same {Q : Int → Int → Bool} {x0 x1 y0 y1 u v : Int} (h : IsWord Q x0 x1 y0 y1 u) (k : IsWord Q x0 x1 y0 y1 v) : u = v := by
  rcases h with ⟨rfl, h⟩ | ⟨rfl, ⟨a, b, h1, h2⟩, h⟩ | ⟨rfl, ⟨a, b, h1, h2⟩, ⟨c, d, h3, h4⟩⟩ <;>
  rcases k with ⟨rfl, k⟩ | ⟨rfl, ⟨a', b', k1, k2⟩, k⟩ | ⟨rfl, ⟨a', b', k1, k2⟩, ⟨c', d', k3, k4⟩⟩
  · rfl
  · rw [h _ _ k1] at k2; cases k2
  · rw [h _ _ k3] at k4; cases k4
  · rw [k _ _ h1] at h2; cases h2
  · rfl
  · rw [h _ _ k1] at k2; cases k2
  · rw [k _ _ h3] at h4; cases h4
  · rw [k _ _ h1] at h2; cases h2
  · rfl
theorem IsWord.range {Q : Int → Int → Bool} {x0 x1 y0 y1 v : Int} (h : IsWord Q x0 x1 y0 y1 v) : v = 1 ∨ v = 2 ∨ v = 3 := by
  rcases h with ⟨h, _⟩ | ⟨h, _⟩ | ⟨h, _⟩ <;> omega
theorem IsWord.surely {Q : Int → Int → Bool} {x0 x1 y0 y1 v : Int} (h : IsWord Q x0 x1 y0 y1 v) : v = 3 ↔ ∀ x y, InBox x0 x1 y0 y1 x y → Q x y = true := by
  rcases h with ⟨rfl, h⟩ | ⟨rfl, ⟨a, b, h1, h2⟩, h⟩ | ⟨rfl, _, ⟨a, b, h1, h2⟩⟩
  · exact ⟨fun _ => h, fun _ => rfl⟩
  all_goals
    exact ⟨fun h => absurd h (by decide), fun k => by rw [k _ _ h1] at h2; cases h2⟩
/-- how many of some points do, and how many there are. -/
structure Cnt (Q : Int → Int → Bool) (S : Int → Int → Prop) (good all : Int) : Prop where
  lo : 0 ≤ good
  le : good ≤ all
  ga : good = all ↔ ∀ x y, S x y → Q x y = true
  gn : good = 0 ↔ ∀ x y, S x y → Q x y = false
theorem Cnt.none {Q : Int → Int → Bool} {S : Int → Int → Prop} (h : ∀ x y, ¬ S x y) : Cnt Q S 0 0 :=
  ⟨by omega, by omega, ⟨fun _ x y hs => absurd hs (h x y), fun _ => rfl⟩, ⟨fun _ x y hs => absurd hs (h x y), fun _ => rfl⟩⟩
theorem Cnt.congr {Q : Int → Int → Bool} {S S' : Int → Int → Prop} {g n : Int} (h : Cnt Q S g n) (hs : ∀ x y, S' x y ↔ S x y) : Cnt Q S' g n :=
  ⟨h.lo, h.le, by rw [h.ga]; exact ⟨fun k x y hx => k x y ((hs x y).1 hx), fun k x y hx => k x y ((hs x y).2 hx)⟩, by rw [h.gn]; exact ⟨fun k x y hx => k x y ((hs x y).1 hx), fun k x y hx => k x y ((hs x y).2 hx)⟩⟩
theorem Cnt.yes {Q : Int → Int → Bool} {S S' : Int → Int → Prop} {g n a b : Int} (h : Cnt Q S g n) (hs : ∀ x y, S' x y ↔ S x y ∨ (x = a ∧ y = b)) (hq : Q a b = true) : Cnt Q S' (g + 1) (n + 1) := by
  obtain ⟨h1, h2, h3, h4⟩ := h
  refine ⟨by omega, by omega, ⟨fun e x y hx => ?_, fun k => ?_⟩, ⟨fun e => by omega, fun k => ?_⟩⟩
  · rcases (hs x y).1 hx with hx | ⟨rfl, rfl⟩
    · exact h3.1 (by omega) x y hx
    · exact hq
  · have := h3.2 fun x y hx => k x y ((hs x y).2 (.inl hx))
    omega
  · have := k a b ((hs a b).2 (.inr ⟨rfl, rfl⟩))
    rw [hq] at this; cases this
theorem Cnt.no {Q : Int → Int → Bool} {S S' : Int → Int → Prop} {g n a b : Int} (h : Cnt Q S g n) (hs : ∀ x y, S' x y ↔ S x y ∨ (x = a ∧ y = b)) (hq : Q a b = false) : Cnt Q S' g (n + 1) := by
  obtain ⟨h1, h2, h3, h4⟩ := h
  refine ⟨by omega, by omega, ⟨fun e x y hx => by omega, fun k => ?_⟩, ⟨fun e x y hx => ?_, fun k => h4.2 fun x y hx => k x y ((hs x y).2 (.inl hx))⟩⟩
  · have := k a b ((hs a b).2 (.inr ⟨rfl, rfl⟩))
    rw [hq] at this; cases this
  · rcases (hs x y).1 hx with hx | ⟨rfl, rfl⟩
    · exact h4.1 e x y hx
    · exact hq
/-- the points of a box that come before some one, row by row. -/
def Seen (x0 y0 y1 a b x y : Int) : Prop := x0 ≤ x ∧ y0 ≤ y ∧ y ≤ y1 ∧ (x < a ∨ x = a ∧ y < b)
theorem Seen.start {x0 y0 y1 x y : Int} : ¬ Seen x0 y0 y1 x0 y0 x y := by unfold Seen; omega
theorem Seen.step {x0 y0 y1 a b : Int} (ha : x0 ≤ a) (hb : y0 ≤ b) (hb1 : b ≤ y1) (x y : Int) : Seen x0 y0 y1 a (b + 1) x y ↔ Seen x0 y0 y1 a b x y ∨ (x = a ∧ y = b) := by unfold Seen; omega
theorem Seen.row {x0 y0 y1 a b : Int} (hb : y1 < b) (x y : Int) : Seen x0 y0 y1 (a + 1) y0 x y ↔ Seen x0 y0 y1 a b x y := by unfold Seen; omega
theorem Seen.all {x0 x1 y0 y1 a : Int} (ha : x1 + 1 = a ∨ (x1 < x0 ∧ a = x0)) (x y : Int) : InBox x0 x1 y0 y1 x y ↔ Seen x0 y0 y1 a y0 x y := by unfold Seen InBox; omega
/-- the number up to which all are sure. -/
def IsGauge (W : Nat → Int) (n : Nat) : Prop := n ≤ 12 ∧ (∀ k, k < n → W (k + 1) = 3) ∧ (n < 12 → W (n + 1) ≠ 3)
theorem IsGauge.same {W : Nat → Int} {n m : Nat} (h : IsGauge W n) (k : IsGauge W m) : n = m := by
  obtain ⟨h1, h2, h3⟩ := h
  obtain ⟨k1, k2, k3⟩ := k
  rcases Nat.lt_trichotomy n m with hl | rfl | hl
  · exact absurd (k2 n hl) (h3 (by omega))
  · rfl
  · exact absurd (h2 m hl) (k3 (by omega))
theorem IsGauge.ex (W : Nat → Int) : ∃ n, IsGauge W n := by
  have key : ∀ d n, n + d = 12 → (∀ k, k < n → W (k + 1) = 3) → ∃ m, IsGauge W m := by
    intro d
    induction d with
    | zero => intro n hn hk; exact ⟨n, by omega, hk, fun h => by omega⟩
    | succ d ih =>
      intro n hn hk
      by_cases h : W (n + 1) = 3
      · refine ih (n + 1) (by omega) fun k hlt => ?_
        rcases Nat.lt_succ_iff_lt_or_eq.1 hlt with h1 | rfl
        · exact hk k h1
        · exact h
      · exact ⟨n, by omega, hk, fun _ => h⟩
  exact key 12 0 rfl fun k hk => absurd hk (Nat.not_lt_zero _)
end Go.Proofs
namespace Go.Proofs.YtbgjocgjmjkneaaGreatDoor
open Go.RowKit
theorem PSl_posD {w : World} {v : Value} {n : Nat} {X Y : Nat → Int} (h : PSl w v n X Y) (hn : 1 ≤ n) : ∃ b off cap, v = .slice (some ⟨b, off, none⟩) n cap ∧ b < w.heap.size ∧ Pts w b off n X Y := by
  rcases h with ⟨a, c, _, h2⟩ | h
  · omega
  · exact h
/-- a measure and stops, as a trial has them. -/
structure TrialG (w : World) (n sb so cap cb b1 o1 k1 : Nat) (SX SY HX HY : Nat → Int) (r : Int) : Prop where
  stops : Pts w sb so n SX SY
  holes : Pts w b1 o1 n HX HY
  c0 : w.cell? ⟨cb, 0, none⟩ = some (.slice (some ⟨b1, o1, none⟩) n k1)
  c1 : w.cell? ⟨cb, 1, none⟩ = some (.int .i64 r)
  l1 : sb < w.heap.size
  l2 : b1 < w.heap.size
  l3 : cb < w.heap.size
  r0 : 0 ≤ r
  r1 : r ≤ 6
  n2 : 2 ≤ n
  n4 : n ≤ 4
  sS : ∀ i, i < n → (-20 ≤ SX i ∧ SX i ≤ 20) ∧ (-20 ≤ SY i ∧ SY i ≤ 20)
  sH : ∀ i, i < n → small (HX i, HY i)
theorem TrialG.far {w w' : World} {n sb so cap cb b1 o1 k1 : Nat} {SX SY HX HY : Nat → Int} {r : Int} (h : TrialG w n sb so cap cb b1 o1 k1 SX SY HX HY r) (h1 : w'.heap[sb]? = w.heap[sb]?) (h2 : w'.heap[b1]? = w.heap[b1]?) (h3 : w'.heap[cb]? = w.heap[cb]?) (hz : w.heap.size ≤ w'.heap.size) : TrialG w' n sb so cap cb b1 o1 k1 SX SY HX HY r :=
  ⟨fun i hi => ⟨(World.cell?_of_block h1).trans (h.stops i hi).1, (World.cell?_of_block h1).trans (h.stops i hi).2⟩, fun i hi => ⟨(World.cell?_of_block h2).trans (h.holes i hi).1, (World.cell?_of_block h2).trans (h.holes i hi).2⟩,
    (World.cell?_of_block h3).trans h.c0, (World.cell?_of_block h3).trans h.c1, Nat.lt_of_lt_of_le h.l1 hz, Nat.lt_of_lt_of_le h.l2 hz, Nat.lt_of_lt_of_le h.l3 hz, h.r0, h.r1, h.n2, h.n4, h.sS, h.sH⟩
theorem TrialG.below {w w' : World} {n sb so cap cb b1 o1 k1 : Nat} {SX SY HX HY : Nat → Int} {r : Int} (h : TrialG w n sb so cap cb b1 o1 k1 SX SY HX HY r) (hb : Below w.heap.size w w') : TrialG w' n sb so cap cb b1 o1 k1 SX SY HX HY r :=
  h.far (hb.block _ h.l1) (hb.block _ h.l2) (hb.block _ h.l3) hb.size
theorem TrialG.grown {w w' : World} {n sb so cap cb b1 o1 k1 bm : Nat} {SX SY HX HY : Nat → Int} {r : Int} (h : TrialG w n sb so cap cb b1 o1 k1 SX SY HX HY r) (hg : w.grownBy w' (some bm)) (m1 : sb < bm) (m2 : b1 < bm) (m3 : cb < bm) : TrialG w' n sb so cap cb b1 o1 k1 SX SY HX HY r :=
  h.far (hg.block _ h.l1 (fun e => by cases e; omega)) (hg.block _ h.l2 (fun e => by cases e; omega)) (hg.block _ h.l3 (fun e => by cases e; omega)) hg.size
end Go.Proofs.YtbgjocgjmjkneaaGreatDoor
namespace Go.Proofs.YtbgjocgjmjkneaaGreatDoor
open Go.RowKit Go.Shelf
attribute [local go_sem] Oper.semAt_some
abbrev BoxPt (x0 x1 y0 y1 : Int) := { p : Int × Int // InBox x0 x1 y0 y1 p.1 p.2 }
def ptEnc {x0 x1 y0 y1 : Int} (p : BoxPt x0 x1 y0 y1) : Array Value := #[ptV p.1.1 p.1.2]
def BoxAll {x0 x1 y0 y1 : Int} (xs : List (BoxPt x0 x1 y0 y1)) : Prop := ∀ p : BoxPt x0 x1 y0 y1, p ∈ xs
/-- what a round keeps of the iterator: the box in its block. -/
def KpB (b : Nat) (W W' : World) : Prop := W.heap.size ≤ W'.heap.size ∧ W'.heap[b]? = W.heap[b]?
theorem KpB.trans {b : Nat} {A B C : World} (h : KpB b A B) (k : KpB b B C) : KpB b A C := ⟨Nat.le_trans h.1 k.1, k.2.trans h.2⟩
set_option maxRecDepth 100000 in
set_option maxHeartbeats 1000000 in
theorem points_make (x0 x1 y0 y1 : Int) (w : World) :
    Calls Tryz.prog 103 #[.agg #[.int .i64 x0, .int .i64 x1, .int .i64 y0, .int .i64 y1]] w fun e w' => e = .returned (.func (.func 141) #[] #[.pointer (some ⟨w.heap.size, 0, none⟩)]) ∧ w' = w.alloc (.cells #[.int .i64 x0, .int .i64 x1, .int .i64 y0, .int .i64 y1] 116) := by
  go_enter Tryz.func103, Tryz.ntmps103
  go_wp2
  go_ret
  exact ⟨rfl, rfl⟩
set_option maxRecDepth 100000 in
set_option maxHeartbeats 1000000 in
theorem points1_stops (n b : Nat) (x0 x1 y0 y1 : Int) (w : World) (h1 : -100 ≤ x0) (h2 : x1 ≤ 100) (h3 : -100 ≤ y0) (h4 : y1 ≤ 100) (h5 : x0 ≤ 1000) (h6 : y0 ≤ 1000) (hb : b < w.heap.size)
    (c0 : w.cell? ⟨b, 0, none⟩ = some (.int .i64 x0)) (c1 : w.cell? ⟨b, 1, none⟩ = some (.int .i64 x1)) (c2 : w.cell? ⟨b, 2, none⟩ = some (.int .i64 y0)) (c3 : w.cell? ⟨b, 3, none⟩ = some (.int .i64 y1)) :
    SeqStopsK Fence.wide n Tryz.prog 141 #[.pointer (some ⟨b, 0, none⟩)] (ptEnc (x0 := x0) (x1 := x1) (y0 := y0) (y1 := y1)) (KpB b) BoxAll (fun _ => True) 40401 w := by
  intro l J Jx W hW hJ hJx hY h0
  have hk : ∀ W' : World, W'.heap[b]? = W.heap[b]? → ∀ j, W'.cell? ⟨b, j, none⟩ = w.cell? ⟨b, j, none⟩ := fun W' h j => (World.cell?_of_block (w := W) h).trans (hW.cell (p := ⟨b, j, none⟩) hb)
  have d0 := (hk W rfl 0).trans c0
  have d1 := (hk W rfl 1).trans c1
  show CallsIn _ _ _ _ #[.func (.yield l) #[] #[], .pointer (some ⟨b, 0, none⟩)] _ _
  refine callsIn_of_wp Tryz.func141 rfl trivial ?_ rfl
  simp only [Tryz.ntmps141, List.size_toArray, List.length_cons, List.length_nil, Nat.reduceAdd, Nat.reduceSub, Array.replicate_succ, Array.replicate_zero, List.push_toArray, List.append_toArray, List.nil_append, List.cons_append]
  gi_wp2
  gi_loopw [3] (fun i wr => ∃ (a : Int) (pre : List (BoxPt x0 x1 y0 y1)), i = .int .i64 a ∧ x0 ≤ a ∧ (a = x0 ∨ a ≤ x1 + 1) ∧ wr.heap[b]? = W.heap[b]? ∧ J pre wr ∧ (pre.length : Int) ≤ 201 * (a - x0) ∧ ∀ p : BoxPt x0 x1 y0 y1, Seen x0 y0 y1 a y0 p.1.1 p.1.2 → p ∈ pre) (fun i _ => (x1 + 1 - intOf i).toNat)
  case atStart => exact ⟨x0, [], rfl, by omega, .inl rfl, rfl, h0, by simp, fun p hp => absurd hp Seen.start⟩
  case round =>
    obtain ⟨a, pre, rfl, ha, hax, hwb, hJs, hlen, hin⟩ := hrel
    have e1 := (hk wr hwb 1).trans c1
    have e2 := (hk wr hwb 2).trans c2
    by_cases hlt : a ≤ x1
    · have hwa : IntKind.i64.wrap (a + 1) = a + 1 := IntWalk.i64_in _ (by omega)
      gi_wp2
      gi_loopw [4] (fun i wr => ∃ (c : Int) (pre : List (BoxPt x0 x1 y0 y1)), i = .int .i64 c ∧ y0 ≤ c ∧ (c = y0 ∨ c ≤ y1 + 1) ∧ wr.heap[b]? = W.heap[b]? ∧ J pre wr ∧ (pre.length : Int) ≤ 201 * (a - x0) + (c - y0) ∧ ∀ p : BoxPt x0 x1 y0 y1, Seen x0 y0 y1 a c p.1.1 p.1.2 → p ∈ pre) (fun i _ => (y1 + 1 - intOf i).toNat)
      case atStart => exact ⟨y0, pre, rfl, by omega, .inl rfl, hwb, hJs, by omega, hin⟩
      case round =>
        obtain ⟨c, pre, rfl, hc, hcx, hwb, hJs, hlen, hin⟩ := hrel
        have f3 := (hk wr hwb 3).trans c3
        by_cases hlc : c ≤ y1
        · have hwc : IntKind.i64.wrap (c + 1) = c + 1 := IntWalk.i64_in _ (by omega)
          have hbx : InBox x0 x1 y0 y1 a c := ⟨ha, hlt, hc, hlc⟩
          obtain ⟨fn, tmps, assign, body, hy, hR⟩ := hY pre ⟨(a, c), hbx⟩ wr hJs (by omega)
          dsimp only [ptEnc] at hy
          gi_wp2
          refine ⟨fun h => (by cases h), hR.mono ?_⟩
          rintro e W3 (⟨rfl, hJ3, hk3⟩ | ⟨rfl, hJx3⟩)
          · gi_wp2
            go_roundw
            case rel =>
              refine ⟨c + 1, pre ++ [⟨(a, c), hbx⟩], by go_num, by omega, .inr (by omega), hk3.2.trans hwb, hJ3, by simp; omega, fun p hp => ?_⟩
              rcases (Seen.step ha hc hlc _ _).1 hp with h | ⟨h1, h2⟩
              · exact List.mem_append_left _ (hin p h)
              · exact List.mem_append_right _ (List.mem_singleton.2 (Subtype.ext (Prod.ext h1 h2)))
            case measure => simp [intOf]; omega
          · gi_wp2
            refine bodyPost_ret (results_none rfl _ _ _) rfl ?_
            exact ⟨⟨_, rfl⟩, .inr ⟨_, trivial, hJx3⟩⟩
        · gi_wp2
          go_roundw
          case rel => exact ⟨a + 1, pre, by go_num, by omega, .inr (by omega), hwb, hJs, by omega, fun p hp => hin p ((Seen.row (by omega) _ _).1 hp)⟩
          case measure => simp [intOf]; omega
    · gi_wp2
      go_end0
      exact ⟨⟨_, rfl⟩, .inl ⟨pre, fun p => hin p ((Seen.all (by omega) _ _).1 p.2), hJs⟩⟩
end Go.Proofs.YtbgjocgjmjkneaaGreatDoor
namespace Go.Proofs.YtbgjocgjmjkneaaGreatDoor
open Go.RowKit Go.Shelf
attribute [local go_sem] Oper.semAt_some
abbrev GoodAt (w : World) (bm k : Nat) (Q : Int → Int → Bool) : Prop := GoodMap Tryz.prog 53 4 w bm k Q
/-- the cells of word while it goes through a box. -/
structure WdX (w W : World) (u0 u1 u2 : Value) (bm k : Nat) (Q : Int → Int → Bool) (res : Int) (s a : Bool) : Prop where
  old : w.grownBy W (some bm)
  t0 : W.cell? ⟨w.heap.size, 0, none⟩ = some u0
  t1 : W.cell? ⟨w.heap.size, 1, none⟩ = some u1
  t2 : W.cell? ⟨w.heap.size, 2, none⟩ = some u2
  r0 : W.cell? ⟨w.heap.size + 1 + 1, 0, none⟩ = some (.int .i64 res)
  rf : W.frozen? ⟨w.heap.size + 1 + 1, 0, none⟩ = false
  s0 : W.cell? ⟨w.heap.size + 1 + 1 + 1, 0, none⟩ = some (.bool s)
  sf : W.frozen? ⟨w.heap.size + 1 + 1 + 1, 0, none⟩ = false
  a0 : W.cell? ⟨w.heap.size + 1 + 1 + 1 + 1, 0, none⟩ = some (.bool a)
  af : W.frozen? ⟨w.heap.size + 1 + 1 + 1 + 1, 0, none⟩ = false
  gm : GoodAt W bm k Q
  big : w.heap.size + 6 ≤ W.heap.size
theorem WdX.far {w W W' : World} {u0 u1 u2 : Value} {bm k k' : Nat} {Q : Int → Int → Bool} {res : Int} {s a : Bool} (h : WdX w W u0 u1 u2 bm k Q res s a) (hh : ∀ j, w.heap.size ≤ j → j < w.heap.size + 6 → W'.heap[j]? = W.heap[j]?) (hold : w.grownBy W' (some bm)) (hgm : GoodAt W' bm k' Q) (hz : W.heap.size ≤ W'.heap.size) : WdX w W' u0 u1 u2 bm k' Q res s a :=
  have c : ∀ b j, w.heap.size ≤ b → b < w.heap.size + 6 → W'.cell? ⟨b, j, none⟩ = W.cell? ⟨b, j, none⟩ := fun b j h1 h2 => World.cell?_of_block (hh b h1 h2)
  have f : ∀ b j, w.heap.size ≤ b → b < w.heap.size + 6 → W'.frozen? ⟨b, j, none⟩ = W.frozen? ⟨b, j, none⟩ := fun b j h1 h2 => World.frozen?_of_block (hh b h1 h2)
  ⟨hold, (c _ _ (by omega) (by omega)).trans h.t0, (c _ _ (by omega) (by omega)).trans h.t1, (c _ _ (by omega) (by omega)).trans h.t2, (c _ _ (by omega) (by omega)).trans h.r0, (f _ _ (by omega) (by omega)).trans h.rf, (c _ _ (by omega) (by omega)).trans h.s0, (f _ _ (by omega) (by omega)).trans h.sf, (c _ _ (by omega) (by omega)).trans h.a0, (f _ _ (by omega) (by omega)).trans h.af, hgm, Nat.le_trans h.big hz⟩
theorem WdX.mono {w W : World} {u0 u1 u2 : Value} {bm k k' : Nat} {Q : Int → Int → Bool} {res : Int} {s a : Bool} (h : WdX w W u0 u1 u2 bm k Q res s a) (hk : k ≤ k') : WdX w W u0 u1 u2 bm k' Q res s a :=
  ⟨h.old, h.t0, h.t1, h.t2, h.r0, h.rf, h.s0, h.sf, h.a0, h.af, h.gm.mono hk, h.big⟩
theorem WdX.step {w W W' : World} {u0 u1 u2 : Value} {bm k : Nat} {Q : Int → Int → Bool} {res : Int} {s a : Bool} {row : Option Nat} (h : WdX w W u0 u1 u2 bm k Q res s a) (hb : bm < w.heap.size) (hg : W.grownBy W' row) (hr : ∀ r, row = some r → w.heap.size + 6 ≤ r) : WdX w W' u0 u1 u2 bm k Q res s a :=
  have hbig := h.big
  h.far (fun j h1 h2 => hg.block j (by omega) (fun e => by have := hr j e.symm; omega)) (h.old.andThen hg fun j e => .inl (by have := hr j e; omega)) (h.gm.kept hg fun e => by have := hr bm e.symm; omega) hg.size
theorem WdX.does {w W W' : World} {u0 u1 u2 : Value} {bm k k' : Nat} {Q : Int → Int → Bool} {res : Int} {s a : Bool} (h : WdX w W u0 u1 u2 bm k Q res s a) (hb : bm < w.heap.size) (hg : W.grownBy W' (some bm)) (hgm : GoodAt W' bm k' Q) : WdX w W' u0 u1 u2 bm k' Q res s a :=
  have hbig := h.big
  h.far (fun j h1 h2 => hg.block j (by omega) (fun e => by cases e; omega)) (h.old.andThen hg fun j e => .inr e) hgm hg.size
theorem grown_set {W : World} {a : Addr} (u : Value) : W.grownBy (W.setCell a u) (some a.block) :=
  ⟨rfl, rfl, rfl, by rw [World.size_setCell]; exact Nat.le_refl _, fun i _ hi => Below.heap_setCell _ _ _ _ (fun e => hi (by rw [e]))⟩
end Go.Proofs.YtbgjocgjmjkneaaGreatDoor
namespace Go.Proofs.YtbgjocgjmjkneaaGreatDoor
open Go.RowKit
theorem grown_below {w w' : World} (h : Below w.heap.size w w') (row : Option Nat) : w.grownBy w' row := ⟨h.os, h.tape, h.output, h.size, fun i hi _ => h.block i hi⟩
theorem wf48 {x : Int} (h : -48 ≤ x ∧ x ≤ 48) : (Lit.int .i64 x).wf = true := WalkArith.wf_i64 (by omega)
end Go.Proofs.YtbgjocgjmjkneaaGreatDoor
namespace Go.Proofs.YtbgjocgjmjkneaaGreatDoor
open Go.RowKit Go.Maps
end Go.Proofs.YtbgjocgjmjkneaaGreatDoor
namespace Go.Proofs.YtbgjocgjmjkneaaGreatDoor
open Go.RowKit Go.Maps
/-- whether a button agrees with the holes of a machine that is off by x and y. -/
def agreeB (n : Nat) (HX HY SX SY : Nat → Int) (r x y : Int) : Bool := (matchS n (fun i => SX i + x) (fun i => SY i + y) HX HY r).isSome
set_option maxRecDepth 100000 in
set_option maxHeartbeats 2000000 in
theorem agreement1_any (n sb so cap cb b1 o1 k1 : Nat) (SX SY HX HY : Nat → Int) (r x y : Int) (hx : -48 ≤ x ∧ x ≤ 48) (hy : -48 ≤ y ∧ y ≤ 48) (v : Value) (B : Nat) (w : World) (h : TrialG w n sb so cap cb b1 o1 k1 SX SY HX HY r)
    (hv : w.ownsRow B 53 2 v n (ptsCells (fun i => (SX i + x, SY i + y)) n)) :
    Calls Tryz.prog 102 #[v, .pointer (some ⟨cb, 0, none⟩)] w fun e w' => e = .returned (.bool (agreeB n HX HY SX SY r x y)) ∧ Below w.heap.size w w' := by
  have hc0 := h.c0
  have hc1 := h.c1
  obtain ⟨b2, o2, k2, rfl, l2, p2⟩ := PSl_posD (PSl_of_own hv) (by have := h.n2; omega)
  have hsm : ∀ i, i < n → small (SX i + x, SY i + y) := fun i hi => by
    have := h.sS i hi
    unfold small
    dsimp only
    omega
  have hmt := fun (W : World) (hb : Below w.heap.size w W) => match_in n b2 o2 k2 b1 o1 k1 3 (fun i => SX i + x) (fun i => SY i + y) HX HY r W h.r0 (by have := h.r1; omega) (by have := h.n2; omega) h.n4 (p2.below hb l2) (h.holes.below hb h.l2) (Nat.lt_of_lt_of_le l2 hb.size) (Nat.lt_of_lt_of_le h.l2 hb.size) hsm h.sH
  have hB := Below.refl w.heap.size w
  go_enter Tryz.func102, Tryz.ntmps102
  go_wp2_with (go_at_call 79; refine (callsIn_wide.1 (hmt _ hB)).mono ?_; rintro e w3 ⟨hb3, (⟨hno, rfl⟩ | ⟨t, q, v, hyes, ht, rfl, hrow⟩)⟩)
  · go_ret
    exact ⟨by unfold agreeB; rw [hno]; rfl, hb3⟩
  · go_ret
    exact ⟨by unfold agreeB; rw [hyes]; rfl, hb3⟩
/-- a trial's value. -/
abbrev trialA (sb so n cap cb bm : Nat) : Value := .agg #[.slice (some ⟨sb, so, none⟩) n cap, .func (.func 102) #[] #[.pointer (some ⟨cb, 0, none⟩)], .map (some bm)]
set_option maxRecDepth 100000 in
set_option maxHeartbeats 2000000 in
theorem doesA_any (n sb so cap cb b1 o1 k1 bm k : Nat) (SX SY HX HY : Nat → Int) (r x y : Int) (hx : -48 ≤ x ∧ x ≤ 48) (hy : -48 ≤ y ∧ y ≤ 48) (w : World) (h : TrialG w n sb so cap cb b1 o1 k1 SX SY HX HY r)
    (hm : GoodAt w bm k (agreeB n HX HY SX SY r)) (hk : k ≤ 1000000000) (m1 : sb < bm) (m2 : b1 < bm) (m3 : cb < bm) :
    Calls Tryz.prog 104 #[trialA sb so n cap cb bm, ptV x y] w fun e w' => e = .returned (.bool (agreeB n HX HY SX SY r x y)) ∧ GoodAt w' bm (k + 1) (agreeB n HX HY SX SY r) ∧ w.grownBy w' (some bm) := by
  obtain ⟨W0, hW0⟩ : ∃ W0, (w.alloc (Obj.cells #[.slice (some ⟨sb, so, none⟩) n cap, .func (.func 102) #[] #[.pointer (some ⟨cb, 0, none⟩)], .map (some bm)] 120)).alloc (Obj.cells #[.int .i64 x, .int .i64 y] 53) = W0 := ⟨_, rfl⟩
  have hg0 : w.grownBy W0 (some bm) := by rw [← hW0]; exact (World.grownBy_alloc _ _ _).trans (World.grownBy_alloc _ _ _)
  have hb0 : Below w.heap.size w W0 := by rw [← hW0]; exact ((Below.refl _ _).alloc (Nat.le_refl _) _).alloc (by rw [World.size_alloc]; omega) _
  have hsz : W0.heap.size = w.heap.size + 1 + 1 := by rw [← hW0, World.size_alloc, World.size_alloc]
  have t0 : W0.cell? ⟨w.heap.size, 0, none⟩ = some (.slice (some ⟨sb, so, none⟩) n cap) := by rw [← hW0]; exact cell_under w _ _ _ _ rfl
  have t1 : W0.cell? ⟨w.heap.size, 1, none⟩ = some (.func (.func 102) #[] #[.pointer (some ⟨cb, 0, none⟩)]) := by rw [← hW0]; exact cell_under w _ _ _ _ rfl
  have t2 : W0.cell? ⟨w.heap.size, 2, none⟩ = some (.map (some bm)) := by rw [← hW0]; exact cell_under w _ _ _ _ rfl
  have p0 : W0.cell? ⟨w.heap.size + 1, 0, none⟩ = some (.int .i64 x) := by rw [← hW0]; have := cells_new (w.alloc (Obj.cells #[.slice (some ⟨sb, so, none⟩) n cap, .func (.func 102) #[] #[.pointer (some ⟨cb, 0, none⟩)], .map (some bm)] 120)) #[.int .i64 x, .int .i64 y] 53 (j := 0) rfl; rw [World.size_alloc] at this; exact this
  have p1 : W0.cell? ⟨w.heap.size + 1, 1, none⟩ = some (.int .i64 y) := by rw [← hW0]; have := cells_new (w.alloc (Obj.cells #[.slice (some ⟨sb, so, none⟩) n cap, .func (.func 102) #[] #[.pointer (some ⟨cb, 0, none⟩)], .map (some bm)] 120)) #[.int .i64 x, .int .i64 y] 53 (j := 1) rfl; rw [World.size_alloc] at this; exact this
  have hT0 := h.below hb0
  have hM0 : GoodAt W0 bm k (agreeB n HX HY SX SY r) := hm.below hb0 hm.lt
  have hlt := hm.lt
  have wx := wf48 hx
  have wy := wf48 hy
  have hmv := fun (W : World) (hB : Below W0.heap.size W0 W) => moved_some sb so n cap SX SY x y W (by have := h.n4; omega) (hT0.stops.below hB hT0.l1) (Nat.lt_of_lt_of_le hT0.l1 hB.size) (by omega) (by omega) (fun i hi => by have := h.sS i hi; unfold small; dsimp only; omega)
  have hgd := fun (W : World) (hB : Below W0.heap.size W0 W) (v : Value) (B : Nat) (hv : W.ownsRow B 53 2 v n (ptsCells (fun i => (SX i + x, SY i + y)) n)) => agreement1_any n sb so cap cb b1 o1 k1 SX SY HX HY r x y hx hy v B W (hT0.below hB) hv
  clear hb0
  generalize agreeB n HX HY SX SY r = Q at *
  go_enter Tryz.func104, Tryz.ntmps104
  go_wp2_with (at_lookup; refine wpList_lookup_good _ rfl _ _ 118 rfl ptm rfl hM0 x y rfl wx wy ?_; intro f; cases f)
  rotate_left 1
  · go_ret
    exact ⟨rfl, hM0.mono (by omega), hg0⟩
  · go_region_held3 (fun w' => w'.cell? ⟨w.heap.size, 0, none⟩ = some (.slice (some ⟨sb, so, none⟩) n cap) ∧ w'.cell? ⟨w.heap.size, 1, none⟩ = some (.func (.func 102) #[] #[.pointer (some ⟨cb, 0, none⟩)]) ∧ w'.cell? ⟨w.heap.size + 1, 0, none⟩ = some (.int .i64 x) ∧ w'.cell? ⟨w.heap.size + 1, 1, none⟩ = some (.int .i64 y))
      (first
        | (go_keep; done)
        | (go_split_ands
           refine ⟨?_, ?_, ?_, ?_⟩ <;> (rw [hbb.cell (by first | omega | (simp; omega) | simp)]; assumption)))
      (first
        | (go_at_call 142; refine (hmv _ ((Below.refl _ _).drew)).mono ?_; rintro e w1 ⟨v1, rfl, hown, hbb⟩; have hB1 := (Below.refl W0.heap.size W0).drew.trans hbb; have hs1 := hB1.size)
        | (go_at_call 102; refine (hgd _ hB1 _ _ hown).mono ?_; rintro e w2 ⟨rfl, hbb⟩; have hB2 := hB1.trans (hbb.mono hB1.size); have hs2 := hB2.size))
    have u2 := (hB2.cell (p := ⟨w.heap.size, 2, none⟩) (by show w.heap.size < _; omega)).trans t2
    have v0 := (hB2.cell (p := ⟨w.heap.size + 1, 0, none⟩) (by show w.heap.size + 1 < _; omega)).trans p0
    have v1 := (hB2.cell (p := ⟨w.heap.size + 1, 1, none⟩) (by show w.heap.size + 1 < _; omega)).trans p1
    have hM2 := hM0.below hB2 (by omega)
    have hg2 := hg0.trans ((grown_below hB2 (some bm)))
    go_wp2_with (at_mapUpdate; refine wpList_mapUpdate_good _ rfl _ _ _ 118 rfl ptm rfl hM2 (by unfold maxLen; omega) x y rfl rfl wx wy ?_; intro w4 hM4 hg4)
    go_ret
    exact ⟨rfl, hM4, hg2.trans hg4⟩
theorem made_four2 (w : World) (c1 : Array Value) (e1 : TypeId) (o2 o3 : Obj) (Q : Int → Int → Bool) :
    Below w.heap.size w ((((w.alloc o2).alloc (.cells c1 e1)).alloc o3).alloc (.map #[] 0)) ∧ (∀ j u, c1[j]? = some u → ((((w.alloc o2).alloc (.cells c1 e1)).alloc o3).alloc (.map #[] 0)).cell? ⟨w.heap.size + 1, j, none⟩ = some u) ∧
      GoodAt ((((w.alloc o2).alloc (.cells c1 e1)).alloc o3).alloc (.map #[] 0)) (w.heap.size + 1 + 1 + 1) 0 Q := by
  obtain ⟨A1, hA1⟩ : ∃ A, w.alloc o2 = A := ⟨_, rfl⟩
  obtain ⟨A2, hA2⟩ : ∃ A, A1.alloc (.cells c1 e1) = A := ⟨_, rfl⟩
  obtain ⟨A3, hA3⟩ : ∃ A, A2.alloc o3 = A := ⟨_, rfl⟩
  rw [hA1, hA2, hA3]
  have s1 : A1.heap.size = w.heap.size + 1 := by rw [← hA1, World.size_alloc]
  have s2 : A2.heap.size = w.heap.size + 1 + 1 := by rw [← hA2, World.size_alloc, s1]
  have s3 : A3.heap.size = w.heap.size + 1 + 1 + 1 := by rw [← hA3, World.size_alloc, s2]
  have b1 : Below w.heap.size w A1 := by rw [← hA1]; exact (Below.refl _ _).alloc (Nat.le_refl _) _
  have b2 : Below A1.heap.size A1 A2 := by rw [← hA2]; exact (Below.refl _ _).alloc (Nat.le_refl _) _
  have b3 : Below A2.heap.size A2 A3 := by rw [← hA3]; exact (Below.refl _ _).alloc (Nat.le_refl _) _
  have b4 : Below A3.heap.size A3 (A3.alloc (.map #[] 0)) := (Below.refl _ _).alloc (Nat.le_refl _) _
  have b34 := b3.trans (b4.mono b3.size)
  have b24 := b2.trans (b34.mono b2.size)
  have t := fun j u (h : c1[j]? = some u) => cells_new A1 c1 e1 h
  rw [hA2, s1] at t
  have hg := GoodMap.made Tryz.prog 53 4 Q A3
  rw [s3] at hg
  exact ⟨b1.trans (b24.mono b1.size), fun j u h => (b34.cell (p := ⟨w.heap.size + 1, j, none⟩) (by show w.heap.size + 1 < _; omega)).trans (t j u h), hg⟩
set_option maxRecDepth 100000 in
set_option maxHeartbeats 2000000 in
/-- a trial is made. -/
theorem agreement_any (b1 o1 n k1 sb so : Nat) (r : Int) (m : Mach) (hsa : m.sa = some ⟨sb, so, none⟩) (Q : Int → Int → Bool) (w : World) :
    Calls Tryz.prog 62 #[m.val, .agg #[.slice (some ⟨b1, o1, none⟩) n k1, .int .i64 r]] w fun e w' => e = .returned (trialA sb so m.sn m.sc (w.heap.size + 1) (w.heap.size + 1 + 1 + 1)) ∧ Below w.heap.size w w' ∧
      w'.cell? ⟨w.heap.size + 1, 0, none⟩ = some (.slice (some ⟨b1, o1, none⟩) n k1) ∧ w'.cell? ⟨w.heap.size + 1, 1, none⟩ = some (.int .i64 r) ∧ GoodAt w' (w.heap.size + 1 + 1 + 1) 0 Q := by
  have hmm := @run_makeMap Tryz.prog
  unfold Mach.val
  rw [hsa]
  go_enter Tryz.func62, Tryz.ntmps62
  go_wp2
  obtain ⟨h1, h2, h3⟩ := made_four2 w #[.slice (some ⟨b1, o1, none⟩) n k1, .int .i64 r] 25 (Obj.cells #[.slice (some ⟨sb, so, none⟩) m.sn m.sc, .int .i64 m.c0, .int .i64 m.c1, .int .i64 m.d0, .int .i64 m.d1, .int .i64 m.w0, .int .i64 m.w1, .int .i64 m.v0, .int .i64 m.v1, .slice m.ra m.rn m.rc] 33)
    (Obj.cells #[.slice (some ⟨sb, so, none⟩) m.sn m.sc, .func (.func 102) #[] #[.pointer (some ⟨w.heap.size + 1, 0, none⟩)], .map (some (w.heap.size + 1 + 1 + 1))] 120) Q
  have a0 := h2 0 _ rfl
  have a1 := h2 1 _ rfl
  refine bodyPost_ret (v := trialA sb so m.sn m.sc (w.heap.size + 1) (w.heap.size + 1 + 1 + 1)) (by simp [results, Tryz.results62, go_sem]) rfl ⟨rfl, h1, a0, a1, h3⟩
end Go.Proofs.YtbgjocgjmjkneaaGreatDoor
namespace Go.Proofs.YtbgjocgjmjkneaaGreatDoor
open Go.RowKit Go.Shelf
attribute [local go_sem] Oper.semAt_some
/-- the cells of passing while it goes through a box. -/
structure PsX (w W : World) (u0 u1 u2 : Value) (bm k : Nat) (Q : Int → Int → Bool) (v : Value) (cnt : Nat) (xs : List Value) : Prop where
  old : w.grownBy W (some bm)
  t0 : W.cell? ⟨w.heap.size, 0, none⟩ = some u0
  t1 : W.cell? ⟨w.heap.size, 1, none⟩ = some u1
  t2 : W.cell? ⟨w.heap.size, 2, none⟩ = some u2
  f0 : W.cell? ⟨w.heap.size + 1 + 1, 0, none⟩ = some v
  ff : W.frozen? ⟨w.heap.size + 1 + 1, 0, none⟩ = false
  row : W.ownsRow (w.heap.size + 4) 53 2 v cnt xs
  gm : GoodAt W bm k Q
  big : w.heap.size + 4 ≤ W.heap.size
theorem own_base {w : World} {B s n g : Nat} {e : TypeId} {v : Value} {xs : List Value} (h : w.ownsRow B e s v n xs) (hg : v.ownBlock = some g) : B ≤ g ∧ ∃ o, w.heap[g]? = some o ∧ o.isCells = true := by
  obtain ⟨_, ⟨rfl, _⟩ | ⟨g', cap, cur, rfl, h1, h2, _⟩⟩ := h
  · cases hg
  · cases hg
    exact ⟨h1, _, h2, rfl⟩
theorem PsX.far {w W W' : World} {u0 u1 u2 : Value} {bm k k' : Nat} {Q : Int → Int → Bool} {v : Value} {cnt : Nat} {xs : List Value} (h : PsX w W u0 u1 u2 bm k Q v cnt xs) (hh : ∀ j, w.heap.size ≤ j → j < w.heap.size + 4 → W'.heap[j]? = W.heap[j]?) (hold : w.grownBy W' (some bm)) (hgm : GoodAt W' bm k' Q) (hrow : W'.ownsRow (w.heap.size + 4) 53 2 v cnt xs) (hz : W.heap.size ≤ W'.heap.size) : PsX w W' u0 u1 u2 bm k' Q v cnt xs :=
  have c : ∀ b j, w.heap.size ≤ b → b < w.heap.size + 4 → W'.cell? ⟨b, j, none⟩ = W.cell? ⟨b, j, none⟩ := fun b j h1 h2 => World.cell?_of_block (hh b h1 h2)
  have f : ∀ b j, w.heap.size ≤ b → b < w.heap.size + 4 → W'.frozen? ⟨b, j, none⟩ = W.frozen? ⟨b, j, none⟩ := fun b j h1 h2 => World.frozen?_of_block (hh b h1 h2)
  ⟨hold, (c _ _ (by omega) (by omega)).trans h.t0, (c _ _ (by omega) (by omega)).trans h.t1, (c _ _ (by omega) (by omega)).trans h.t2, (c _ _ (by omega) (by omega)).trans h.f0, (f _ _ (by omega) (by omega)).trans h.ff, hrow, hgm, Nat.le_trans h.big hz⟩
theorem PsX.mono {w W : World} {u0 u1 u2 : Value} {bm k k' : Nat} {Q : Int → Int → Bool} {v : Value} {cnt : Nat} {xs : List Value} (h : PsX w W u0 u1 u2 bm k Q v cnt xs) (hk : k ≤ k') : PsX w W u0 u1 u2 bm k' Q v cnt xs :=
  ⟨h.old, h.t0, h.t1, h.t2, h.f0, h.ff, h.row, h.gm.mono hk, h.big⟩
theorem PsX.step {w W W' : World} {u0 u1 u2 : Value} {bm k : Nat} {Q : Int → Int → Bool} {v : Value} {cnt : Nat} {xs : List Value} {row : Option Nat} (h : PsX w W u0 u1 u2 bm k Q v cnt xs) (hb : bm < w.heap.size) (hg : W.grownBy W' row) (hr : ∀ r, row = some r → w.heap.size + 4 ≤ r ∧ ∃ o : Obj, W.heap[r]? = some o ∧ o.isCells = false) : PsX w W' u0 u1 u2 bm k Q v cnt xs :=
  have hbig := h.big
  h.far (fun j h1 h2 => hg.block j (by omega) (fun e => by have := (hr j e.symm).1; omega)) (h.old.andThen hg fun j e => .inl (by have := (hr j e).1; omega)) (h.gm.kept hg fun e => by have := (hr bm e.symm).1; omega)
    (h.row.kept hg (by
      cases hv : v.ownBlock with
      | none => exact .inl rfl
      | some g =>
        refine .inr fun e => ?_
        obtain ⟨_, o, ho, hc⟩ := own_base h.row hv
        obtain ⟨_, o', ho', hc'⟩ := hr g e.symm
        rw [ho] at ho'; cases ho'; rw [hc] at hc'; cases hc')) hg.size
theorem PsX.alloc {w W : World} {u0 u1 u2 : Value} {bm k : Nat} {Q : Int → Int → Bool} {v : Value} {cnt : Nat} {xs : List Value} (h : PsX w W u0 u1 u2 bm k Q v cnt xs) (hb : bm < w.heap.size) (o : Obj) : PsX w (W.alloc o) u0 u1 u2 bm k Q v cnt xs :=
  h.step hb (World.grownBy_alloc _ _ none) (fun r e => by cases e)
theorem PsX.does {w W W' : World} {u0 u1 u2 : Value} {bm k k' : Nat} {Q : Int → Int → Bool} {v : Value} {cnt : Nat} {xs : List Value} (h : PsX w W u0 u1 u2 bm k Q v cnt xs) (hb : bm < w.heap.size) (hg : W.grownBy W' (some bm)) (hgm : GoodAt W' bm k' Q) : PsX w W' u0 u1 u2 bm k' Q v cnt xs :=
  have hbig := h.big
  h.far (fun j h1 h2 => hg.block j (by omega) (fun e => by cases e; omega)) (h.old.andThen hg fun j e => .inr e) hgm
    (h.row.kept hg (by
      cases hv : v.ownBlock with
      | none => exact .inl rfl
      | some g => exact .inr fun e => by have := (own_base h.row hv).1; cases e; omega)) hg.size
/-- a point more. -/
theorem PsX.push {w W W' : World} {u0 u1 u2 : Value} {bm k : Nat} {Q : Int → Int → Bool} {v v' : Value} {cnt cnt' : Nat} {xs xs' : List Value} (h : PsX w W u0 u1 u2 bm k Q v cnt xs) (hb : bm < w.heap.size) (hg : W.grownBy W' v.ownBlock) (hown : W'.ownsRow (w.heap.size + 4) 53 2 v' cnt' xs') :
    PsX w (W'.setCell ⟨w.heap.size + 1 + 1, 0, none⟩ v') u0 u1 u2 bm k Q v' cnt' xs' := by
  have hbig := h.big
  have hlo : ∀ g, v.ownBlock = some g → w.heap.size + 4 ≤ g := fun g hv => (own_base h.row hv).1
  have hh : ∀ j, w.heap.size ≤ j → j < w.heap.size + 4 → W'.heap[j]? = W.heap[j]? := fun j h1 h2 => hg.block j (by omega) (fun e => by have := hlo j e.symm; omega)
  have c : ∀ b j, w.heap.size ≤ b → b < w.heap.size + 4 → W'.cell? ⟨b, j, none⟩ = W.cell? ⟨b, j, none⟩ := fun b j h1 h2 => World.cell?_of_block (hh b h1 h2)
  have f : ∀ b j, w.heap.size ≤ b → b < w.heap.size + 4 → W'.frozen? ⟨b, j, none⟩ = W.frozen? ⟨b, j, none⟩ := fun b j h1 h2 => World.frozen?_of_block (hh b h1 h2)
  have hz := hg.size
  refine ⟨(h.old.andThen hg fun j e => .inl (by have := hlo j e; omega)).andThen (grown_set _) (fun j e => .inl (by cases e; show w.heap.size ≤ w.heap.size + 1 + 1; omega)), ?_, ?_, ?_, World.cell?_setCell_same' _ _ _ (by rw [(c _ _ (by omega) (by omega)).trans h.f0]; rfl), ?_, ownsRow_kept hown (KeptFrom.set (by show w.heap.size + 1 + 1 < _; omega) _),
    (h.gm.kept hg fun e => by have := hlo bm e.symm; omega).kept (grown_set _) (by simp; omega), by rw [World.size_setCell]; omega⟩
  · rw [World.cell?_setCell_far _ _ _ _ (by first | (simp; done) | (simp; omega))]; exact (c _ _ (by omega) (by omega)).trans h.t0
  · rw [World.cell?_setCell_far _ _ _ _ (by first | (simp; done) | (simp; omega))]; exact (c _ _ (by omega) (by omega)).trans h.t1
  · rw [World.cell?_setCell_far _ _ _ _ (by first | (simp; done) | (simp; omega))]; exact (c _ _ (by omega) (by omega)).trans h.t2
  · rw [World.frozen?_setCell]; exact (f _ _ (by omega) (by omega)).trans h.ff
theorem PsX.pushed {w W W' : World} {u0 u1 u2 : Value} {bm k : Nat} {Q : Int → Int → Bool} {va : Option Addr} {vc : Nat} {v' : Value} {cnt cnt' : Nat} {xs xs' : List Value} (h : PsX w W u0 u1 u2 bm k Q (.slice va cnt vc) cnt xs) (hb : bm < w.heap.size) (o : Obj) (hg : (W.alloc o).grownBy W' (Value.slice va cnt vc).ownBlock) (hc1 : 1 ≤ cnt') (hown : W'.ownsRow (w.heap.size + 4) 53 2 v' cnt' xs') :
    ∃ g c, v' = .slice (some ⟨g, 0, none⟩) cnt' c ∧ W'.cell? ⟨w.heap.size + 1 + 1, 0, none⟩ = some (.slice va cnt vc) ∧ W'.frozen? ⟨w.heap.size + 1 + 1, 0, none⟩ = false ∧
      (PsX w (W'.setCell ⟨w.heap.size + 1 + 1, 0, none⟩ (.slice (some ⟨g, 0, none⟩) cnt' c)) u0 u1 u2 bm k Q (.slice (some ⟨g, 0, none⟩) cnt' c) cnt' xs' ∧ KeepsFrom (w.heap.size + 4) W (W'.setCell ⟨w.heap.size + 1 + 1, 0, none⟩ (.slice (some ⟨g, 0, none⟩) cnt' c)) ∧
        KpB (w.heap.size + 1 + 1 + 1) W (W'.setCell ⟨w.heap.size + 1 + 1, 0, none⟩ (.slice (some ⟨g, 0, none⟩) cnt' c))) := by
  have hA := h.alloc hb o
  have hbig := h.big
  have hlo : ∀ g, (Value.slice va cnt vc).ownBlock = some g → w.heap.size + 4 ≤ g := fun g hv => (own_base hA.row hv).1
  obtain ⟨g, c, rfl⟩ := ownsRow_pos hc1 hown
  have hz := hg.size
  rw [World.size_alloc] at hz
  refine ⟨g, c, rfl, hg.cell hA.f0 (by intro e; have := hlo _ e.symm; simp at this; omega), ?_, ⟨hA.push hb hg hown, ?_, ?_⟩⟩
  · exact (World.frozen?_of_block (hg.block _ (by rw [World.size_alloc]; show w.heap.size + 1 + 1 < _; omega) (by intro e; have := hlo _ e.symm; simp at this; omega))).trans hA.ff
  · refine (((KeepsOthers.alloc W o).from _).trans ⟨by rw [World.size_alloc]; exact hz, fun j o' hB hj ho => ?_⟩).trans ((KeepsFrom.of_grownBy (grown_set _) fun j e => by cases e; show w.heap.size + 1 + 1 < _; omega))
    rw [hg.block j (by have := (Array.getElem?_eq_some_iff.1 hj).1; omega) (by intro e; obtain ⟨_, o2, ho2, hc2⟩ := own_base hA.row e.symm; rw [hj] at ho2; cases ho2; rw [hc2] at ho; cases ho)]
    exact hj
  · refine ⟨by rw [World.size_setCell]; omega, ?_⟩
    have e1 : (W'.setCell ⟨w.heap.size + 1 + 1, 0, none⟩ (.slice (some ⟨g, 0, none⟩) cnt' c)).heap[w.heap.size + 1 + 1 + 1]? = W'.heap[w.heap.size + 1 + 1 + 1]? := (grown_set (W := W') _).block _ (by omega) (by intro e; simp at e)
    rw [e1, hg.block _ (by rw [World.size_alloc]; omega) (by intro e; have := hlo _ e.symm; omega)]
    exact Below.heap_alloc _ _ _ (by omega)
theorem none_push {α : Type} {P : α → Bool} {pre : List α} {x : α} {n : Nat} (h : n = 0 ↔ ∀ p ∈ pre, P p = false) (hx : P x = false) : n = 0 ↔ ∀ p ∈ pre ++ [x], P p = false := by
  rw [h]
  constructor
  · intro h1 p hp
    rcases List.mem_append.1 hp with hp | hp
    · exact h1 p hp
    · rw [List.mem_singleton.1 hp]; exact hx
  · exact fun h1 p hp => h1 p (List.mem_append_left _ hp)
theorem some_push {α : Type} {P : α → Bool} {pre : List α} {x : α} {n : Nat} (hx : P x = true) : n + 1 = 0 ↔ ∀ p ∈ pre ++ [x], P p = false :=
  ⟨fun h => by omega, fun h => by have := h x (List.mem_append_right _ (List.mem_singleton.2 rfl)); rw [hx] at this; cases this⟩
theorem psx_start (w : World) (u0 u1 u2 : Value) (x0 x1 y0 y1 : Int) (bm k : Nat) (Q : Int → Int → Bool) (hb : bm < w.heap.size) (hm : GoodAt w bm k Q) : PsX w ((((w.alloc (Obj.cells #[u0, u1, u2] 120)).alloc (Obj.cells #[.int .i64 x0, .int .i64 x1, .int .i64 y0, .int .i64 y1] 116)).alloc (Obj.cells #[.slice none 0 0] 23)).alloc (Obj.cells #[.int .i64 x0, .int .i64 x1, .int .i64 y0, .int .i64 y1] 116)) u0 u1 u2 bm k Q (.slice none 0 0) 0 [] ∧ ((((w.alloc (Obj.cells #[u0, u1, u2] 120)).alloc (Obj.cells #[.int .i64 x0, .int .i64 x1, .int .i64 y0, .int .i64 y1] 116)).alloc (Obj.cells #[.slice none 0 0] 23)).alloc (Obj.cells #[.int .i64 x0, .int .i64 x1, .int .i64 y0, .int .i64 y1] 116)).heap.size = w.heap.size + 4 ∧
    ∀ j u, (#[.int .i64 x0, .int .i64 x1, .int .i64 y0, .int .i64 y1] : Array Value)[j]? = some u → ((((w.alloc (Obj.cells #[u0, u1, u2] 120)).alloc (Obj.cells #[.int .i64 x0, .int .i64 x1, .int .i64 y0, .int .i64 y1] 116)).alloc (Obj.cells #[.slice none 0 0] 23)).alloc (Obj.cells #[.int .i64 x0, .int .i64 x1, .int .i64 y0, .int .i64 y1] 116)).cell? ⟨w.heap.size + 1 + 1 + 1, j, none⟩ = some u := by
  obtain ⟨A1, hA1⟩ : ∃ A, w.alloc (Obj.cells #[u0, u1, u2] 120) = A := ⟨_, rfl⟩
  obtain ⟨A2, hA2⟩ : ∃ A, A1.alloc (Obj.cells #[.int .i64 x0, .int .i64 x1, .int .i64 y0, .int .i64 y1] 116) = A := ⟨_, rfl⟩
  obtain ⟨A3, hA3⟩ : ∃ A, A2.alloc (Obj.cells #[.slice none 0 0] 23) = A := ⟨_, rfl⟩
  obtain ⟨A4, hA4⟩ : ∃ A, A3.alloc (Obj.cells #[.int .i64 x0, .int .i64 x1, .int .i64 y0, .int .i64 y1] 116) = A := ⟨_, rfl⟩
  rw [hA1, hA2, hA3, hA4]
  have s1 : A1.heap.size = w.heap.size + 1 := by rw [← hA1, World.size_alloc]
  have s2 : A2.heap.size = w.heap.size + 1 + 1 := by rw [← hA2, World.size_alloc, s1]
  have s3 : A3.heap.size = w.heap.size + 1 + 1 + 1 := by rw [← hA3, World.size_alloc, s2]
  have s4 : A4.heap.size = w.heap.size + 1 + 1 + 1 + 1 := by rw [← hA4, World.size_alloc, s3]
  have b1 : Below w.heap.size w A1 := by rw [← hA1]; exact (Below.refl _ _).alloc (Nat.le_refl _) _
  have b2 : Below A1.heap.size A1 A2 := by rw [← hA2]; exact (Below.refl _ _).alloc (Nat.le_refl _) _
  have b3 : Below A2.heap.size A2 A3 := by rw [← hA3]; exact (Below.refl _ _).alloc (Nat.le_refl _) _
  have b4 : Below A3.heap.size A3 A4 := by rw [← hA4]; exact (Below.refl _ _).alloc (Nat.le_refl _) _
  have b24 := b3.trans (b4.mono b3.size)
  have b14 := b2.trans (b24.mono b2.size)
  have b04 := b1.trans (b14.mono b1.size)
  have t := fun j u (h : (#[u0, u1, u2] : Array Value)[j]? = some u) => cells_new w #[u0, u1, u2] 120 h
  rw [hA1] at t
  have e3 := new_cell A2 (.slice none 0 0) 23
  rw [hA3, s2] at e3
  have e4 := fun j u (h : (#[.int .i64 x0, .int .i64 x1, .int .i64 y0, .int .i64 y1] : Array Value)[j]? = some u) => cells_new A3 #[.int .i64 x0, .int .i64 x1, .int .i64 y0, .int .i64 y1] 116 h
  rw [hA4, s3] at e4
  refine ⟨⟨⟨b04.os, b04.tape, b04.output, b04.size, fun i hi _ => b04.block i hi⟩, ?_, ?_, ?_, ?_, ?_, ⟨rfl, .inl ⟨rfl, rfl⟩⟩, hm.below b04 hb, by omega⟩, by omega, e4⟩
  · exact (b14.cell (p := ⟨w.heap.size, 0, none⟩) (by show w.heap.size < _; omega)).trans (t 0 u0 rfl)
  · exact (b14.cell (p := ⟨w.heap.size, 1, none⟩) (by show w.heap.size < _; omega)).trans (t 1 u1 rfl)
  · exact (b14.cell (p := ⟨w.heap.size, 2, none⟩) (by show w.heap.size < _; omega)).trans (t 2 u2 rfl)
  · exact (b4.cell (p := ⟨_, 0, none⟩) (by show w.heap.size + 1 + 1 < _; omega)).trans e3.1
  · exact (b4.frozen (p := ⟨_, 0, none⟩) (by show w.heap.size + 1 + 1 < _; omega)).trans e3.2
set_option maxRecDepth 100000 in
set_option maxHeartbeats 2000000 in
theorem passing_in (u0 u1 : Value) (bm k n : Nat) (Q : Int → Int → Bool) (x0 x1 y0 y1 : Int) (w : World) (h1 : -48 ≤ x0) (h2 : x1 ≤ 48) (h3 : -48 ≤ y0) (h4 : y1 ≤ 48) (h5 : x0 ≤ 1000) (h6 : y0 ≤ 1000)
    (hb : bm < w.heap.size) (hm : GoodAt w bm k Q) (hk : k ≤ 1000000) (hn : 3 ≤ n)
    (hdoes : ∀ (W : World) (j : Nat) (x y : Int), w.grownBy W (some bm) → GoodAt W bm j Q → j ≤ 1000000000 → (-48 ≤ x ∧ x ≤ 48) → (-48 ≤ y ∧ y ≤ 48) →
      Calls Tryz.prog 104 #[.agg #[u0, u1, .map (some bm)], ptV x y] W fun e w' => e = .returned (.bool (Q x y)) ∧ GoodAt w' bm (j + 1) Q ∧ W.grownBy w' (some bm)) :
    CallsIn Fence.wide n Tryz.prog 63 #[.agg #[u0, u1, .map (some bm)], .agg #[.int .i64 x0, .int .i64 x1, .int .i64 y0, .int .i64 y1]] w fun e w' => ∃ a cnt c, e = .returned (.slice a cnt c) ∧ cnt ≤ 40401 ∧ (cnt = 0 ↔ ∀ x y, InBox x0 x1 y0 y1 x y → Q x y = false) ∧ GoodAt w' bm (k + 40401) Q ∧ w.grownBy w' (some bm) := by
  refine callsIn_of_wp_marks Tryz.func63 rfl trivial ?_ rfl
  obtain ⟨i0, hi, hz0, hz1, hz2⟩ := info_parts Tryz.info53
  simp only [Tryz.ntmps63, List.size_toArray, List.length_cons, List.length_nil, Nat.reduceAdd, Nat.reduceSub, Array.replicate_succ, Array.replicate_zero, List.push_toArray, List.append_toArray, List.nil_append, List.cons_append]
  gi_wp2_with (refine ⟨trivial, fun h => (by cases h), ?_⟩; gi_at_call 103; refine (callsIn_wide.2 (points_make x0 x1 y0 y1 _)).mono ?_; rintro e w2 ⟨rfl, rfl⟩)
  rename_i Q' K hKK
  obtain ⟨hX0, hW0z, hbx⟩ := psx_start w u0 u1 (.map (some bm)) x0 x1 y0 y1 bm k Q hb hm
  generalize ((((w.alloc (Obj.cells #[u0, u1, Value.map (some bm)] 120)).alloc (Obj.cells #[.int .i64 x0, .int .i64 x1, .int .i64 y0, .int .i64 y1] 116)).alloc (Obj.cells #[.slice none 0 0] 23)).alloc (Obj.cells #[.int .i64 x0, .int .i64 x1, .int .i64 y0, .int .i64 y1] 116)) = W0 at hX0 hW0z hbx ⊢
  refine wpIn_rangeFunc_ownH (α := BoxPt x0 x1 y0 y1) rfl (by omega) (gf := 141) (lb := #[.pointer (some ⟨w.heap.size + 1 + 1 + 1, 0, none⟩)]) rfl trivial (enters_of Tryz.func141 (by kernel_rfl) rfl)
    (points1_stops (n - 1) (w.heap.size + 1 + 1 + 1) x0 x1 y0 y1 W0 (by omega) (by omega) (by omega) (by omega) h5 h6 (by omega) (hbx 0 _ rfl) (hbx 1 _ rfl) (hbx 2 _ rfl) (hbx 3 _ rfl)) (fun h k => KpB.trans h k)
    (fun W l o o' hl ho _ _ => ⟨by rw [World.putObj_size]; exact Nat.le_refl _, World.putObj_heap_other (by omega)⟩) (Below.refl _ _) (fun _ => rfl)
    (fun pre W => ∃ v cnt xs, PsX w W u0 u1 (.map (some bm)) bm (k + pre.length) Q v cnt xs ∧ (cnt = 0 ↔ ∀ p ∈ pre, Q p.1.1 p.1.2 = false) ∧ cnt ≤ pre.length ∧ pre.length ≤ 40401)
    (fun c pre W => False)
    (fun pre A B row hs hg hr => by
      obtain ⟨v, cnt, xs, g1, g2⟩ := hs
      exact ⟨v, cnt, xs, g1.step hb hg fun r e => ⟨by have := (hr r e).1; omega, (hr r e).2⟩, g2⟩)
    (fun c pre A B row hs hg hr => hs)
    ⟨_, 0, [], hX0, by simp, by simp, by simp⟩
    (fun x a' W => ∃ Bx, w.heap.size + 4 ≤ Bx ∧ Bx < W.heap.size ∧ W.cell? ⟨Bx, 0, none⟩ = some (.int .i64 x.1.1) ∧ W.cell? ⟨Bx, 1, none⟩ = some (.int .i64 x.1.2) ∧ a' = { tmps := #[.agg #[u0, u1, .map (some bm)], .agg #[.int .i64 x0, .int .i64 x1, .int .i64 y0, .int .i64 y1], .pointer (some ⟨w.heap.size, 0, none⟩), .pointer (some ⟨w.heap.size + 1, 0, none⟩), .slice none 0 0, .pointer (some ⟨w.heap.size + 1 + 1, 0, none⟩), .pointer (some ⟨Bx, 0, none⟩), .agg #[.int .i64 x0, .int .i64 x1, .int .i64 y0, .int .i64 y1], .func (.func 141) #[] #[.pointer (some ⟨w.heap.size + 1 + 1 + 1, 0, none⟩)], ptV x.1.1 x.1.2, undef, undef, undef, undef, undef, undef, undef, undef], defers := [] })
    (fun x a' _ A B row hs hg hr => by
      obtain ⟨Bx, g1, g2, g3, g4, g5⟩ := hs
      exact ⟨Bx, g1, Nat.lt_of_lt_of_le g2 hg.size, cell_kept g3 hg (fun r e => (hr r e).2), cell_kept g4 hg (fun r e => (hr r e).2), g5⟩)
    ?assign ?body ?done ?stop
  case assign =>
    rintro l pre x W K2 ⟨v, cnt, xs, hX, hr⟩ hK2
    dsimp only [ptEnc]
    gi_wp2
    exact hK2 _ _ ((KeepsOthers.alloc _ _).from _) ⟨by rw [World.size_alloc]; omega, Below.heap_alloc _ _ _ (by have := hX.big; omega)⟩ ⟨v, cnt, xs, hX.alloc hb _, hr⟩ ⟨W.heap.size, hX.big, by rw [World.size_alloc]; omega, cells_new W _ _ rfl, cells_new W _ _ rfl, rfl⟩
  case body =>
    rintro l pre x a' W hl ⟨r, hr⟩ ⟨v, cnt, xs, hX, hcn, hcl, hlp⟩ ⟨Bx, hBx, hlt, e0, e1, rfl⟩ hlen
    have hd := hdoes W (k + pre.length) x.1.1 x.1.2 hX.old hX.gm (by omega) ⟨by have := x.2.1; omega, by have := x.2.2.1; omega⟩ ⟨by have := x.2.2.2.1; omega, by have := x.2.2.2.2; omega⟩
    have hlen' : (pre ++ [x]).length = pre.length + 1 := by simp
    have hbig := hX.big
    have hne : some Bx ≠ some bm := by intro e; simp at e; omega
    have c0 := hX.t0
    have c1 := hX.t1
    have c2 := hX.t2
    obtain ⟨va, vc, rfl⟩ := ownsRow_slice hX.row
    cases hq : Q x.1.1 x.1.2
    · rw [hq] at hd
      have tok : True := trivial
      gi_wp2_with (have _t := tok; refine ⟨trivial, fun h => (by cases h), ?_⟩; gi_at_call 104; with_reducible refine (CallsIn.inRound l (callsIn_wide.2 hd)).mono ?_; rintro e w3 ⟨rfl, hgm3, hg3⟩; have hX3 := PLift.up (hX.does hb hg3 hgm3); clear tok _t hd hdoes hX hr hgm3)
      have hkf := KeepsFrom.of_grownBy (B := W0.heap.size) hg3 (fun j e => by cases e; omega)
      have hkp : w3.heap[w.heap.size + 1 + 1 + 1]? = W.heap[w.heap.size + 1 + 1 + 1]? := hg3.block _ (by omega) (fun e => by cases e; omega)
      exact ⟨hkf, ⟨hg3.size, hkp⟩, _, cnt, xs, hX3.down.mono (by omega), none_push (P := fun p : BoxPt x0 x1 y0 y1 => Q p.1.1 p.1.2) hcn hq, by omega, by omega⟩
    · rw [hq] at hd
      have tok : True := trivial
      gi_wp2_with (first
        | (have _t := tok; refine ⟨trivial, fun h => (by cases h), ?_⟩; gi_at_call 104; with_reducible refine (CallsIn.inRound l (callsIn_wide.2 hd)).mono ?_; rintro e w3 ⟨rfl, hgm3, hg3⟩; have hX3 := PLift.up (hX.does hb hg3 hgm3); have q1 := hX3.down.f0; have q2 := hX3.down.ff; have e03 := (hg3.cell (a := ⟨Bx, 0, none⟩) e0 hne); have e13 := (hg3.cell (a := ⟨Bx, 1, none⟩) e1 hne); have hs3 := hg3.size; clear tok _t hd hdoes hX hr hgm3)
        | (gi_at_builtin; go_loud (refine wpListIn_append_own _ rfl _ _ 23 rfl (w.heap.size + 4) 53 i0 (.agg #[.int .i64 0, .int .i64 0]) 2 16 Tryz.underlying23 hi hz0 hz1 hz2 rfl (by decide) _ _ _ rfl (hX3.down.alloc hb _).row ⟨w3.heap.size, 0, none⟩ 1 1 [.int .i64 x.1.1, .int .i64 x.1.2] rfl rfl (cells_two w3 (.int .i64 x.1.1) (.int .i64 x.1.2) 53) (by simp [Value.oneCell']) (by unfold maxLen; omega) (by omega) (by have := hX3.down.big; simp only [World.size_alloc]; omega) ?_; intro v4 w4 hown4 hgrow4 _; obtain ⟨g4, c4, rfl, hb4, hf4, hX4'⟩ := hX3.down.pushed hb _ hgrow4 (Nat.le_add_left _ _) hown4; have hX4 := PLift.up hX4'; clear hX4')))
      have hkf := (KeepsFrom.of_grownBy (B := W0.heap.size) hg3 (fun j e => by cases e; omega)).trans (hW0z ▸ hX4.down.2.1)
      have hkp : KpB (w.heap.size + 1 + 1 + 1) W w3 := ⟨hg3.size, hg3.block _ (by omega) (fun e => by cases e; omega)⟩
      exact ⟨hkf, hkp.trans hX4.down.2.2, _, cnt + 1, _, hX4.down.1.mono (by omega), some_push (P := fun p : BoxPt x0 x1 y0 y1 => Q p.1.1 p.1.2) hq, by omega, by omega⟩
  case done =>
    rintro D pre W' hD hS ⟨v, cnt, xs, hX, hcn, hcl, hlp⟩ hDl
    apply hKK
    have hbig := hX.big
    have c0 := hX.f0
    have c1 := hX.ff
    obtain ⟨va, vc, rfl⟩ := ownsRow_slice hX.row
    have hcn' : cnt = 0 ↔ ∀ x y, InBox x0 x1 y0 y1 x y → Q x y = false := hcn.trans ⟨fun h x y hb => h ⟨(x, y), hb⟩ (hS _), fun h p _ => h _ _ p.2⟩
    have hX' := PLift.up hX
    clear hX hcn
    gi_wp2
    refine ⟨by simp, .inl ⟨_, _, rfl, run_takeDeferred hDl, ?_⟩⟩
    have hF := hX'.down.step hb (grownBy_putObj' W' D (.deferred none)) (fun r e => by cases e; exact ⟨by omega, _, hDl, rfl⟩)
    have r2 := hF.f0
    exact ⟨.slice va cnt vc, by simp [results, Tryz.results63, go_sem, r2], va, cnt, vc, rfl, by omega, hcn', hF.gm.mono (by omega), hF.old⟩
  case stop =>
    rintro D c pre W' hD _ h
    exact h.elim
end Go.Proofs.YtbgjocgjmjkneaaGreatDoor
namespace Go.Proofs.YtbgjocgjmjkneaaGreatDoor
open Go.RowKit
theorem range_put {W : World} {g : Nat} {A B B' C : List Value} (h : W.rangeAt g 0 (A ++ (B ++ C))) (hl : B'.length = B.length) : (W.setCells g A.length B').rangeAt g 0 (A ++ (B' ++ C)) := fun j v hj => by
  have hs : ∀ i, i < (A ++ (B ++ C)).length → (W.cell? ⟨g, i, none⟩).isSome = true := fun i hi => by
    have := h i _ (List.getElem?_eq_getElem hi)
    rw [Nat.zero_add] at this; rw [this]; rfl
  have hL : (A ++ (B ++ C)).length = A.length + B.length + C.length := by simp [Nat.add_assoc]
  rw [Nat.zero_add]
  by_cases h1 : j < A.length
  · rw [World.cell?_setCells_out g B' A.length W ⟨g, j, none⟩ (fun _ _ => .inl h1)]
    rw [List.getElem?_append_left h1] at hj
    have := h j v (by rw [List.getElem?_append_left h1]; exact hj)
    rwa [Nat.zero_add] at this
  · rw [List.getElem?_append_right (by omega)] at hj
    by_cases h2 : j - A.length < B'.length
    · rw [List.getElem?_append_left h2] at hj
      have := World.cell?_setCells_in g B' A.length W (fun i hi => hs _ (by rw [hL]; omega)) (j - A.length) h2
      rw [show A.length + (j - A.length) = j by omega] at this
      rw [this, ← List.getElem?_eq_getElem h2]; exact hj
    · rw [List.getElem?_append_right (by omega)] at hj
      rw [World.cell?_setCells_out g B' A.length W ⟨g, j, none⟩ (fun _ _ => .inr (by show A.length + B'.length ≤ j; omega))]
      have := h j v (by rw [List.getElem?_append_right (by omega), List.getElem?_append_right (by omega), ← hl]; exact hj)
      rwa [Nat.zero_add] at this
/-- a row of cells that may be written. -/
structure SAt (W : World) (g : Nat) (L : List Value) : Prop where
  c : W.rangeAt g 0 L
  z : ∀ i, W.frozen? ⟨g, i, none⟩ = false
theorem SAt.far {W W' : World} {g : Nat} {L : List Value} (h : SAt W g L) (hh : W'.heap[g]? = W.heap[g]?) : SAt W' g L :=
  ⟨fun j v hj => (World.cell?_of_block hh).trans (h.c j v hj), fun i => (show W'.frozen? ⟨g, i, none⟩ = W.frozen? ⟨g, i, none⟩ by unfold World.frozen?; rw [hh]).trans (h.z i)⟩
theorem SAt.below {W W' : World} {g B : Nat} {L : List Value} (h : SAt W g L) (hb : Below B W W') (hl : g < B) : SAt W' g L := h.far (hb.block g hl)
theorem SAt.put {W : World} {g : Nat} {A B B' C : List Value} (h : SAt W g (A ++ (B ++ C))) (hl : B'.length = B.length) : SAt (W.setCells g A.length B') g (A ++ (B' ++ C)) :=
  ⟨range_put h.c hl, fun i => by rw [World.frozen?_setCells]; exact h.z i⟩
theorem SAt.there {W : World} {g : Nat} {L : List Value} (h : SAt W g L) (o n : Nat) (hn : o + n ≤ L.length) : W.there g o n := fun j hj => by
  have hl : o + j < L.length := by omega
  have := h.c (o + j) _ (List.getElem?_eq_getElem hl)
  rw [Nat.zero_add] at this
  exact ⟨by rw [this]; rfl, h.z _⟩
theorem SAt.new (w : World) (L : List Value) (e : TypeId) : SAt (w.alloc (Obj.cells L.toArray e)) w.heap.size L :=
  ⟨fun j v hj => by rw [Nat.zero_add]; exact cells_new w _ _ (by rw [List.getElem?_toArray]; exact hj), fun i => by simp [go_sem]⟩
theorem st_put0 {W : World} {g : Nat} {m : Mach} {X X' Y : List Value} (h : SAt W g (m.st X Y)) (hl : X'.length = X.length) : SAt (W.setCells g 10 X') g (m.st X' Y) :=
  SAt.put (A := m.cells) h hl
theorem st_put1 {W : World} {g : Nat} {m : Mach} {X Y Y' : List Value} (h : SAt W g (m.st X Y)) (hx : X.length = 26) (hl : Y'.length = Y.length) : SAt (W.setCells g 36 Y') g (m.st X Y') := by
  have h' : SAt W g ((m.cells ++ X) ++ (Y ++ [])) := by
    rw [List.append_nil, List.append_assoc]; exact h
  have := SAt.put (A := m.cells ++ X) (B' := Y') h' hl
  rw [List.append_nil, List.append_assoc, List.length_append, hx] at this
  exact this
theorem size_setCells (b : Nat) : ∀ (vs : List Value) (o : Nat) (w : World), (w.setCells b o vs).heap.size = w.heap.size
  | [], _, _ => rfl
  | v :: r, o, w => by rw [World.setCells, size_setCells b r, World.size_setCell]
theorem course_yes (a : Axis) (v : Value) (w : World) (hf : a.fine) (hv : CSp w v a.n a.cl) (hc : a.can) :
    Calls Tryz.prog 70 #[.agg #[.int .i64 a.c0, .int .i64 a.c1, .int .i64 a.w0, .int .i64 a.w1, v], .slice none 0 0] w fun e w' => e = .returned (.agg (crsL a.ends 13).toArray) ∧ Below w.heap.size w w' := by
  refine (course_any a v w hf hv).mono ?_
  rintro e w' (⟨_, h⟩ | ⟨h, _⟩)
  · exact h
  · exact absurd hc h
theorem course_no (a : Axis) (v : Value) (w : World) (hf : a.fine) (hv : CSp w v a.n a.cl) (hc : ¬ a.can) :
    Calls Tryz.prog 70 #[.agg #[.int .i64 a.c0, .int .i64 a.c1, .int .i64 a.w0, .int .i64 a.w1, v], .slice none 0 0] w fun e w' => e = .panicked [{ v := .iface 233 (.agg #[]), recovered := false }] ∧ Below w.heap.size w w' := by
  refine (course_any a v w hf hv).mono ?_
  rintro e w' (⟨h, _⟩ | ⟨_, h⟩)
  · exact absurd h hc
  · exact h
set_option maxRecDepth 100000 in
set_option maxHeartbeats 4000000 in
theorem examine1_can (m : Mach) (g : Nat) (w0 w : World) (hok : m.ok = true) (h : MIn w0 m) (hw : Below w0.heap.size w0 w) (hg0 : w0.heap.size ≤ g) (hg : g < w.heap.size) (hS : SAt w g (m.st zero26 zero26)) (hX : m.axX.can) (hY : m.axY.can) :
    Calls Tryz.prog 94 #[.pointer (some ⟨g, 0, none⟩)] w fun e w' => e = .returned (.tuple #[]) ∧ SAt w' g (m.st (crsL m.axX.ends 13) (crsL m.axY.ends 13)) ∧ Below w0.heap.size w0 w' ∧ w.heap.size ≤ w'.heap.size ∧ (∀ b, b < w.heap.size → b ≠ g → w'.heap[b]? = w.heap[b]?) := by
  have hx0 := idxF0
  have hx1 := idxF1
  have hL := m.st_length (X := zero26) (Y := zero26) rfl rfl
  have hi0 : (Tryz.prog.info? 96).map (·.size) = some 62 := by kernel_rfl
  have hi : (Tryz.prog.info? 96).map (·.size) = some (m.st zero26 zero26).length := by rw [hL]; exact hi0
  have hax := fun (W : World) => axes_any (m.st zero26 zero26) hL W
  have hrg := hS.c
  have hic : (Tryz.prog.info? 93).map (·.size) = some 26 := by kernel_rfl
  have hlX : (crsL m.axX.ends 13).length = 26 := crsL_length _ 13
  have hlY : (crsL m.axY.ends 13).length = 26 := crsL_length _ 13
  have hiX : (Tryz.prog.info? 93).map (·.size) = some (crsL m.axX.ends 13).toArray.size := by rw [List.size_toArray, hlX]; exact hic
  have hiY : (Tryz.prog.info? 93).map (·.size) = some (crsL m.axY.ends 13).toArray.size := by rw [List.size_toArray, hlY]; exact hic
  have hoX := all_oneCell_toArray (crsL_one m.axX.ends 13)
  have hoY := all_oneCell_toArray (crsL_one m.axY.ends 13)
  have hcx := fun (W : World) v (hv : CSp W v m.axX.n m.axX.cl) => course_yes m.axX v W (Mach.fineX hok) hv hX
  have hcy := fun (W : World) v (hv : CSp W v m.axY.n m.axY.cl) => course_yes m.axY v W (Mach.fineY hok) hv hY
  generalize crsL m.axX.ends 13 = CX at *
  generalize crsL m.axY.ends 13 = CY at *
  have hp0 := fun (W : World) (H : SAt W g (m.st zero26 zero26)) => st_put0 (X' := CX) H hlX
  have hp1 := fun (W : World) (H : SAt W g (m.st CX zero26)) => st_put1 (Y' := CY) H hlX hlY
  have ht0 := fun (W : World) (H : SAt W g (m.st zero26 zero26)) => H.there 10 CX.toArray.size (by rw [List.size_toArray, hlX, hL]; omega)
  have ht1 := fun (W : World) (H : SAt W g (m.st CX zero26)) => H.there 36 CY.toArray.size (by rw [List.size_toArray, hlY, m.st_length hlX rfl]; omega)
  have halX := fun (W : World) (hB : Below w0.heap.size w0 W) => alongX_m m zero26 zero26 rfl rfl W hok (h.below hB)
  have halY := fun (W : World) (hB : Below w0.heap.size w0 W) => alongY_m m zero26 zero26 rfl rfl W hok (h.below hB)
  clear hL hi0 hic hlX hlY
  generalize hLL : m.st zero26 zero26 = L at *
  clear hLL
  go_enter Tryz.func94, Tryz.ntmps94
  go_wp2_with (first
    | (refine wpList_load_mid rfl 96 _ rfl g 0 rfl L _ hrg Tryz.underlying96 rfl hi ?_)
    | (go_at_call 69; with_reducible refine (hax _).mono ?_; rintro e w1 ⟨rfl, hb1⟩))
  refine wp_loop_rounds 3 ?_
  rw [rounds_succ]
  have hB := hw.trans (hb1.mono hw.size)
  have hs1 := hb1.size
  go_wp2_with (first
    | (go_at_call 106; with_reducible refine (halX _ hB).mono ?_; rintro e w2 ⟨v2, rfl, hv2, hb2⟩; have hs2 := hb2.size)
    | (go_at_call 70; with_reducible refine (hcx _ _ hv2).mono ?_; rintro e w3 ⟨rfl, hb3⟩; have hs3 := hb3.size; have hS3 := ((hS.below hb1 hg).below hb2 (by omega)).below hb3 (by omega); have hth := ht0 _ hS3)
    | (with_reducible refine wpList_store_mid rfl 93 _ _ rfl g 10 CX.toArray rfl rfl hth hiX hoX ?_))
  have hB3 := (hB.trans (hb2.mono hB.size)).trans (hb3.mono (Nat.le_trans hB.size hs2))
  have hK3 : ∀ b, b < w.heap.size → w3.heap[b]? = w.heap[b]? := fun b hb => (hb3.block b (by omega)).trans ((hb2.block b (by omega)).trans (hb1.block b hb))
  have hK4 : ∀ b, b < w.heap.size → b ≠ g → (w3.setCells g 10 CX).heap[b]? = w.heap[b]? := fun b hb hne => (World.heap_setCells_other w3 g 10 CX (by omega) hne).trans (hK3 b hb)
  have hS4 := hp0 _ hS3
  have hB4 := below_setCells hg0 CX 10 w3 hB3
  have hz4 : (w3.setCells g 10 CX).heap.size = w3.heap.size := size_setCells g CX 10 w3
  generalize w3.setCells g 10 CX = W4 at hS4 hB4 hz4 hK4 ⊢
  rw [rounds_succ]
  go_wp2_with (first
    | (go_at_call 107; with_reducible refine (halY _ hB4).mono ?_; rintro e w5 ⟨v5, rfl, hv5, hb5⟩; have hs5 := hb5.size)
    | (go_at_call 70; with_reducible refine (hcy _ _ hv5).mono ?_; rintro e w6 ⟨rfl, hb6⟩; have hs6 := hb6.size; have hS6 := (hS4.below hb5 (by omega)).below hb6 (by omega); have hth6 := ht1 _ hS6)
    | (with_reducible refine wpList_store_mid rfl 93 _ _ rfl g 36 CY.toArray rfl rfl hth6 hiY hoY ?_))
  have hB6 := (hB4.trans (hb5.mono hB4.size)).trans (hb6.mono (Nat.le_trans hB4.size hs5))
  have hK6 : ∀ b, b < w.heap.size → b ≠ g → w6.heap[b]? = w.heap[b]? := fun b hb hne => (hb6.block b (by omega)).trans ((hb5.block b (by omega)).trans (hK4 b hb hne))
  have hK7 : ∀ b, b < w.heap.size → b ≠ g → (w6.setCells g 36 CY).heap[b]? = w.heap[b]? := fun b hb hne => (World.heap_setCells_other w6 g 36 CY (by omega) hne).trans (hK6 b hb hne)
  have hS7 := hp1 _ hS6
  have hB7 := below_setCells hg0 CY 36 w6 hB6
  have hz7 : (w6.setCells g 36 CY).heap.size = w6.heap.size := size_setCells g CY 36 w6
  generalize w6.setCells g 36 CY = W7 at hS7 hB7 hz7 hK7 ⊢
  rw [rounds_succ]
  go_wp2
  go_end0
  exact ⟨rfl, hS7, hB7, by omega, hK7⟩
end Go.Proofs.YtbgjocgjmjkneaaGreatDoor
