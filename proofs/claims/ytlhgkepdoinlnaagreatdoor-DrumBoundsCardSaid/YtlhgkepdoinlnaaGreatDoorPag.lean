/- A part of the proof: see the last file. -/
import Derived.Test.YtlhgkepdoinlnaaGreatDoorPaa
import Derived.Test.YtlhgkepdoinlnaaGreatDoorPaf
import Derived.IntWalk
import Derived.Tactics
import Derived.Tactics2
import Derived.Defers
import Derived.Recover
import Derived.RangeFuncNested
import Derived.RangeFuncBound
import Derived.RangeFuncCalls
import Derived.RangeFuncLeaves
import Derived.RangeFuncFrom
import Derived.Shelf.Abstract
import Derived.Shelf.RegionOpen
import Derived.WalkKit
import Derived.OwnWalkIn
import Derived.TacticsInMore
import Derived.LoopNIn
import Derived.LoopIn
set_option linter.unusedVariables false
set_option linter.unusedSimpArgs false
set_option linter.unusedSectionVars false
/-! Layer 3's math, more: a truth hour by hour, as it is tested -/
namespace Go.Drum
/-- what is between in the hour before. -/
def prev (x : Nat → Int) (k : Nat) : Int := if k = 0 then 0 else x (k - 1)
theorem prev_zero (x : Nat → Int) : prev x 0 = 0 := by unfold prev; rw [if_pos rfl]
theorem prev_succ (x : Nat → Int) (k : Nat) : prev x (k + 1) = x k := by unfold prev; rw [if_neg (by omega)]; rfl
theorem cuts_split (k : Int) (cl : Nat → Int × Int × Int) (s : Int × Int) (v : Int) (n : Nat) : ((cuts k cl n s).1 ≤ v ∧ v ≤ (cuts k cl n s).2) ↔ (s.1 ≤ v ∧ v ≤ s.2) ∧ ∀ i, i < n → (cl i).1 = k → (cl i).2.1 ≤ v ∧ v ≤ (cl i).2.2 := by
 constructor
 ·rintro ⟨h1, h2⟩
  have hl := cuts_le k cl s n
  refine ⟨⟨by omega, by omega⟩, fun i hi he => ?_⟩
  have hc := cuts_clue k cl s n i hi he
  exact ⟨by omega, by omega⟩
 ·rintro ⟨h1, h2⟩
  exact cuts_in k cl s v h1 n h2
/-- a truth: each hour lies within what the one before allows, and its strips. -/
def Acid.holds (a : Acid) (h : Nat) (x : Nat → Int) : Prop := ∀ k, k < h → (a.next k (prev x k, prev x k)).1 ≤ x k ∧ x k ≤ (a.next k (prev x k, prev x k)).2
theorem Acid.holds_iff {a : Acid} {h : Nat} {x : Nat → Int} (hh : 1 ≤ h) : a.holds h x ↔ a.truth h x := by
 constructor
 ·intro H
  refine ⟨?_, fun k hk => ?_, fun i hi k hk he => ?_⟩
  ·have h0 := H 0 (by omega)
   unfold Acid.next at h0
   rw [if_pos rfl] at h0
   exact ((cuts_split _ _ _ _ _).1 h0).1
  ·have h1 := H (k + 1) hk
   unfold Acid.next at h1
   rw [if_neg (by omega), prev_succ] at h1
   exact ((cuts_split _ _ _ _ _).1 h1).1
  ·have h1 := H k hk
   unfold Acid.next at h1
   exact ((cuts_split _ _ _ _ _).1 h1).2 i hi he
 ·intro H k hk
  unfold Acid.next
  refine (cuts_split _ _ _ _ _).2 ⟨?_, fun i hi he => H.clue i hi k hk he⟩
  cases k with
  | zero => rw [if_pos rfl]; exact H.first
  | succ k => rw [if_neg (by omega), prev_succ]; exact H.next k hk
/-- how strong an acid can be, at most. -/
structure Acid.small (a : Acid) (h : Nat) : Prop where
 s : 0 ≤ a.s0 ∧ a.s0 ≤ a.s1 ∧ a.s1 ≤ 100
 f : 0 ≤ a.f0 ∧ a.f0 ≤ a.f1 ∧ a.f1 ≤ 20
 add : ∀ k, k < h → 0 ≤ a.add k ∧ a.add k ≤ 100
theorem Acid.small.fine {a : Acid} {h : Nat} (hs : a.small h) : a.fine h := ⟨⟨hs.s.1, hs.s.2.1⟩, ⟨hs.f.1, hs.f.2.1⟩, fun k hk => (hs.add k hk).1⟩
theorem Acid.next_le {a : Acid} {h : Nat} (hs : a.small h) {k : Nat} (hk : k < h) (b : Int × Int) : 0 ≤ (a.next k b).1 ∧ (a.next k b).2 ≤ max 0 (if k = 0 then 0 else b.2) + 200 := by
 have hl := cuts_le (k : Int) a.cl (if k = 0 then (a.s0 + a.add 0, a.s1 + a.add 0) else a.fall k b) a.n
 have h1 := hs.s; have h2 := hs.f; have h3 := hs.add k hk
 unfold Acid.next
 by_cases hz : k = 0
 ·subst hz
  rw [if_pos rfl] at hl ⊢
  rw [if_pos rfl]
  (try dsimp only at hl)
  omega
 ·rw [if_neg hz] at hl ⊢
  rw [if_neg hz]
  unfold Acid.fall at hl ⊢
  (try dsimp only at hl ⊢)
  omega
/-- the strengths of a truth are bounded. -/
theorem Acid.holds_small {a : Acid} {h : Nat} {x : Nat → Int} (hs : a.small h) : ∀ k, k < h → (∀ j, j < k + 1 → (a.next j (prev x j, prev x j)).1 ≤ x j ∧ x j ≤ (a.next j (prev x j, prev x j)).2) → 0 ≤ x k ∧ x k ≤ 200 * (k + 1)
 | 0, hk, H => by
  have h1 := H 0 (by omega); have h2 := Acid.next_le hs hk (prev x 0, prev x 0)
  rw [if_pos rfl] at h2; omega
 | k+1, hk, H => by
  have ih := Acid.holds_small hs k (by omega) (fun j hj => H j (by omega))
  have h1 := H (k+1) (by omega); have h2 := Acid.next_le hs hk (prev x (k+1), prev x (k+1))
  rw [if_neg (by omega), prev_succ] at h2
  rw [prev_succ] at h1
  (try dsimp only at h2)
  omega
/-- the ends of an acid are bounded. -/
theorem Acid.fwd_small {a : Acid} {h : Nat} (hs : a.small h) : ∀ k, k < h → 0 ≤ (a.fwd k).1 ∧ (a.fwd k).2 ≤ 200 * (k + 1)
 | 0, hk => by
  have h2 := Acid.next_le hs hk (0, 0)
  rw [if_pos rfl] at h2
  rw [Acid.fwd]; omega
 | k+1, hk => by
  have ih := Acid.fwd_small hs k (by omega)
  have h2 := Acid.next_le hs hk (a.fwd k)
  rw [if_neg (by omega)] at h2
  rw [Acid.fwd]; omega
end Go.Drum
namespace Go.Proofs.YtlhgkepdoinlnaaGreatDoor
open Go.RowKit Go.Gen Go.Drum
theorem Drm.Ok.small {d : Drm} (h : d.Ok) {i : Nat} (hi : i < d.an) : (d.acid i).small d.dn := ⟨(h.acid' hi).1, (h.acid' hi).2, fun _ hk => h.add' hk⟩
/-- holds' blocks: the acid's, before. -/
structure HX (w : World) (d : Drm) (i : Int) (v : Value) (b : Int) (W : World) : Prop where
 f : PoF w d i v W
 b : Two W (w.heap.size + 1) b b
 lt : w.heap.size + 1 < W.heap.size
theorem HX.below {w : World} {d : Drm} {i : Int} {v : Value} {b : Int} {W W' : World} (h : HX w d i v b W) (hb : Below W.heap.size W W') : HX w d i v b W' :=
 ⟨h.f.below hb, h.b.below hb h.lt, Nat.lt_of_lt_of_le h.lt hb.size⟩
theorem HX.set {w : World} {d : Drm} {i : Int} {v : Value} {b : Int} {W : World} (h : HX w d i v b W) (u : Int) :
  HX w d i v u ((W.setCell ⟨w.heap.size + 1, 0, none⟩ (.int .i64 u)).setCell ⟨w.heap.size + 1, 1, none⟩ (.int .i64 u)) := by
 have hb : Below (w.heap.size + 1) W ((W.setCell ⟨w.heap.size + 1, 0, none⟩ (.int .i64 u)).setCell ⟨w.heap.size + 1, 1, none⟩ (.int .i64 u)) :=
  ((Below.refl _ W).setCell (p := ⟨w.heap.size + 1, 0, none⟩) (Nat.le_refl _) _).setCell (p := ⟨w.heap.size + 1, 1, none⟩) (Nat.le_refl _) _
 exact ⟨h.f.beyond hb, h.b.set01 u u, by rw [World.size_setCell, World.size_setCell]; exact h.lt⟩
set_option maxRecDepth 100000 in
set_option maxHeartbeats 4000000 in
theorem holds_any (d : Drm) (i : Nat) (v : Value) (a : Option Addr) (c : Nat) (F : Nat → Nat → Int) (w : World) (hok : d.Ok) (hd : DIn w d) (hi : i < d.an) (hs : KSl 1 w (.slice a d.dn c) d.dn F) :
  Calls Tryz.prog 63 #[d.fil i v, .slice a d.dn c] w (SaysB ((d.acid i).holds d.dn fun k => F k 0) w) := by
 have hsm := hok.small hi
 have hdn : 1 ≤ d.dn ∧ d.dn ≤ 12 := by have := hok.hours; have := hok.adds; omega
 obtain ⟨hdn1, hdn2⟩ := hdn
 obtain ⟨b, off, cap, e, hbl, hp⟩ := hs.pos (by omega)
 obtain ⟨ea, ec⟩ : a = some ⟨b, off, none⟩ ∧ c = cap := by injection e with e1 e2 e3; exact ⟨e1, e3⟩
 subst ea ec
 clear e hs
 obtain ⟨W1, hW1⟩ : ∃ W, w.alloc (.cells #[.slice d.aa d.an d.ac, .int .i64 d.known, .int .i64 d.hours, .slice d.da d.dn d.dc, .slice d.sa d.sn d.sc, .slice d.ba d.bn d.bc, .int .i64 i, v] 97) = W := ⟨_, rfl⟩
 obtain ⟨W2, hW2⟩ : ∃ W, W1.alloc (.cells #[.int .i64 0, .int .i64 0] 47) = W := ⟨_, rfl⟩
 have hz1 : W1.heap.size = w.heap.size + 1 := by rw [← hW1, World.size_alloc]
 have hH : HX w d i v 0 W2 := by
  rw [← hW2]
  exact ⟨by rw [← hW1]; exact (PoF.new w d i v).alloc _, by rw [← hz1]; exact Two.new W1 _ 0 0, by rw [World.size_alloc]; omega⟩
 go_enter Tryz.func63, Tryz.ntmps63
 go_wp2_with fail
 go_loopw [10] (fun i' wr => ∃ k : Nat, k ≤ d.dn ∧ i' = .int .i64 k ∧ HX w d i v (prev (fun j => F j 0) k) wr ∧ Hdn (∀ j, j < k → ((d.acid i).next j (prev (fun j => F j 0) j, prev (fun j => F j 0) j)).1 ≤ F j 0 ∧ F j 0 ≤ ((d.acid i).next j (prev (fun j => F j 0) j, prev (fun j => F j 0) j)).2)) (fun i' _ => d.dn - (intOf i').toNat)
 case atStart => exact ⟨0, Nat.zero_le _, rfl, by rw [prev_zero]; exact hH, ⟨fun _ h => absurd h (Nat.not_lt_zero _)⟩⟩
 case round =>
  obtain ⟨k, hk5, rfl, hX, hall⟩ := hrel
  have hk6 : (0 : Int) ≤ (k : Int) := Int.natCast_nonneg _
  by_cases hlt : k < d.dn
  ·have hk7 : (k : Int) < (d.dn : Int) := by omega
   have hk77 : (k : Int) < 12 := by omega
   have e0 := (hp.below hX.f.old hbl).one hlt
   obtain ⟨pb, hpb, hbd⟩ : ∃ pb, prev (fun j => F j 0) k = pb ∧ -10000 ≤ pb ∧ pb ≤ 10000 := by
    refine ⟨_, rfl, ?_⟩
    cases k with
    | zero => rw [prev_zero]; omega
    | succ k => rw [prev_succ]; have := Acid.holds_small (x := fun j => F j 0) hsm k (by omega) hall.out; (try dsimp only at this ⊢); omega
   rw [hpb] at hX
   obtain ⟨⟨⟨q0, q1, q2, q3, q4, q5⟩, q6, q7, _, _⟩, ⟨y0, y1, z0, z1⟩, _⟩ := id hX
   have hnx := next_any d i v k pb pb wr hok (hd.below hX.f.old) hi hlt hbd hbd
   obtain ⟨s0, hs0⟩ : ∃ s, ((d.acid i).next k (pb, pb)).1 = s := ⟨_, rfl⟩
   obtain ⟨s1, hs1⟩ : ∃ s, ((d.acid i).next k (pb, pb)).2 = s := ⟨_, rfl⟩
   rw [hs0, hs1] at hnx
   have hli := fun W => lies_any (F k 0) s0 s1 W
   cases hin : inB (F k 0) s0 s1 with
   | false =>
    rw [hin] at hli
    have hno : Hdn (¬ (d.acid i).holds d.dn fun k => F k 0) := ⟨fun H => by
     have h1 := H k hlt
     rw [hpb, hs0, hs1] at h1
     rw [inB_yes h1.1 h1.2] at hin; cases hin⟩
    clear hs0 hs1 hpb hin hall hbd
    go_wp2_with (first
     | (go_at_call 113; (with_reducible refine hnx.mono ?_); rintro e w1 ⟨rfl, hb1⟩)
     | (go_at_call 97; (with_reducible refine (hli _).mono ?_); rintro e w2 ⟨rfl, hb2⟩))
    go_ret
    exact SaysB.no hno.out ((hX.below hb1).below hb2).f.old
   | true =>
    rw [hin] at hli
    have hyes : Hdn (((d.acid i).next k (prev (fun j => F j 0) k, prev (fun j => F j 0) k)).1 ≤ F k 0 ∧ F k 0 ≤ ((d.acid i).next k (prev (fun j => F j 0) k, prev (fun j => F j 0) k)).2) := ⟨by rw [hpb, hs0, hs1]; exact inB_iff.1 hin⟩
    have hbk := Acid.holds_small (x := fun j => F j 0) hsm k hlt (all_succ (p := fun j => ((d.acid i).next j (prev (fun j => F j 0) j, prev (fun j => F j 0) j)).1 ≤ F j 0 ∧ F j 0 ≤ ((d.acid i).next j (prev (fun j => F j 0) j, prev (fun j => F j 0) j)).2) hall.out hyes.out)
    have hbk0 : 0 ≤ F k 0 := hbk.1
    have hbk1 : F k 0 ≤ 10000 := by have := hbk.2; (try dsimp only at this); omega
    have har := fun W => around_any (F k 0) 0 (by omega) (by omega) (by omega) (by omega) W
    rw [Int.sub_zero, Int.add_zero] at har
    have hps : Hdn (prev (fun j => F j 0) (k + 1) = F k 0) := ⟨prev_succ _ _⟩
    clear hs0 hs1 hpb hin hbd hbk
    go_wp2_with (first
     | (go_at_call 113; (with_reducible refine hnx.mono ?_); rintro e w1 ⟨rfl, hb1⟩)
     | (go_at_call 97; (with_reducible refine (hli _).mono ?_); rintro e w2 ⟨rfl, hb2⟩)
     | (go_at_call 114; (with_reducible refine (har _).mono ?_); rintro e w3 ⟨rfl, hb3⟩; have hX3 := ((hX.below hb1).below hb2).below hb3; obtain ⟨_, ⟨c0, c1, g0, g1⟩, _⟩ := id hX3))
    go_roundw
    case rel => exact ⟨k + 1, by omega, by go_num, by rw [hps.out]; exact hX3.set _, ⟨all_succ (p := fun j => ((d.acid i).next j (prev (fun j => F j 0) j, prev (fun j => F j 0) j)).1 ≤ F j 0 ∧ F j 0 ≤ ((d.acid i).next j (prev (fun j => F j 0) j, prev (fun j => F j 0) j)).2) hall.out hyes.out⟩⟩
    case measure => simp [intOf]; omega
  ·have hk8 : ¬ (k : Int) < (d.dn : Int) := by omega
   have hyes : Hdn ((d.acid i).holds d.dn fun k => F k 0) := ⟨fun j hj => hall.out j (by omega)⟩
   clear hall
   go_wp2
   go_ret
   exact SaysB.yes hyes.out hX.f.old
end Go.Proofs.YtlhgkepdoinlnaaGreatDoor
namespace Go.Proofs.YtlhgkepdoinlnaaGreatDoor
open Go.RowKit Go.Gen Go.Drum
theorem two_set0 {W : World} {A : Nat} {x y : Int} (h : Two W A x y) (u : Int) : Two (W.setCell ⟨A, 0, none⟩ (.int .i64 u)) A u y := by
 refine ⟨World.cell?_setCell_same' _ _ _ (by rw [h.k0]; rfl), ?_, ?_, ?_⟩
 ·rw [World.cell?_setCell_other _ _ (a := ⟨A, 0, none⟩) (b := ⟨A, 1, none⟩) (by intro h; cases h)]; exact h.k1
 ·rw [World.frozen?_setCell]; exact h.f0
 ·rw [World.frozen?_setCell]; exact h.f1
/-- back's blocks: the acid's, after, the result, the fall. -/
structure BX (w : World) (d : Drm) (i : Int) (v : Value) (s0 s1 f0 f1 : Int) (W : World) : Prop where
 f : PoF w d i v W
 b : Two W (w.heap.size + 1) s0 s1
 r : Two W (w.heap.size + 1 + 1) 0 0
 a : Two W (w.heap.size + 1 + 1 + 1) f0 f1
 lt : w.heap.size + 1 + 1 + 1 < W.heap.size
theorem BX.beyond {w : World} {d : Drm} {i : Int} {v : Value} {s0 s1 f0 f1 : Int} {W W' : World} (h : BX w d i v s0 s1 f0 f1 W) (hb : Below (w.heap.size + 4) W W') : BX w d i v s0 s1 f0 f1 W' :=
 ⟨h.f.beyond (hb.mono (by omega)), h.b.below hb (by omega), h.r.below hb (by omega), h.a.below hb (by omega), Nat.lt_of_lt_of_le h.lt hb.size⟩
theorem BX.below {w : World} {d : Drm} {i : Int} {v : Value} {s0 s1 f0 f1 : Int} {W W' : World} (h : BX w d i v s0 s1 f0 f1 W) (hb : Below W.heap.size W W') : BX w d i v s0 s1 f0 f1 W' := h.beyond (hb.mono h.lt)
theorem BX.drew {w : World} {d : Drm} {i : Int} {v : Value} {s0 s1 f0 f1 : Int} {W : World} (h : BX w d i v s0 s1 f0 f1 W) : BX w d i v s0 s1 f0 f1 W.drew := h.below (Below.refl _ _).drew
theorem BX.alloc {w : World} {d : Drm} {i : Int} {v : Value} {s0 s1 f0 f1 : Int} {W : World} (h : BX w d i v s0 s1 f0 f1 W) (o : Obj) : BX w d i v s0 s1 f0 f1 (W.alloc o) := h.below ((Below.refl _ _).alloc (Nat.le_refl _) o)
set_option maxRecDepth 100000 in
set_option maxHeartbeats 4000000 in
theorem back_any (d : Drm) (i : Nat) (v : Value) (k : Nat) (s0 s1 : Int) (w : World) (hok : d.Ok) (hd : DIn w d) (hi : i < d.an) (hk : k < d.dn) (hb0 : -10000 ≤ s0 ∧ s0 ≤ 10000) (hb1 : -10000 ≤ s1 ∧ s1 ≤ 10000) :
  Calls Tryz.prog 149 #[d.fil i v, .int .i64 k, .agg #[.int .i64 s0, .int .i64 s1]] w fun e w' => e = .returned (.agg #[.int .i64 ((d.acid i).back k (s0, s1)).1, .int .i64 ((d.acid i).back k (s0, s1)).2]) ∧ Below w.heap.size w w' := by
 obtain ⟨⟨ha0, ha1, ha2⟩, ha3, ha4, ha5⟩ := hok.acid' hi
 have hadd' := hok.add' hk
 obtain ⟨hb00, hb01⟩ := hb0
 obtain ⟨hb10, hb11⟩ := hb1
 obtain ⟨b, off, cap, e, hbl, hp⟩ := hd.acids.pos (by omega)
 obtain ⟨ea, ec⟩ : d.aa = some ⟨b, off, none⟩ ∧ d.ac = cap := by injection e with e1 e2 e3; exact ⟨e1, e3⟩
 clear e
 obtain ⟨bd, od, cd, e', hbd, hpd⟩ := hd.adds.pos (by omega)
 obtain ⟨ed, ef⟩ : d.da = some ⟨bd, od, none⟩ ∧ d.dc = cd := by injection e' with e1 e2 e3; exact ⟨e1, e3⟩
 clear e'
 have hadd := fun (W : World) (hB : Below w.heap.size w W) => (hpd.below hB hbd).one hk
 obtain ⟨l0, hl0⟩ : ∃ l, l = s0 + -d.D k 0 := ⟨_, rfl⟩
 obtain ⟨l1, hl1⟩ : ∃ l, l = s1 + -d.D k 0 := ⟨_, rfl⟩
 have hback : Hdn ((d.acid i).back k (s0, s1) = (if 0 < l0 then l0 + d.A i 2 else 0, l1 + d.A i 3)) := ⟨by rw [hl0, hl1]; rfl⟩
 have hneg' : Hdn (IntKind.i64.wrap (-d.D k 0) = -d.D k 0) := ⟨IntWalk.i64_in _ (by omega)⟩
 have hmv := fun W => moved_any s0 s1 (-d.D k 0) (by omega) (by omega) (by omega) W
 rw [← hl0, ← hl1] at hmv
 have hl2 : -20000 ≤ l0 ∧ l0 ≤ 20000 := by omega
 have hl3 : -20000 ≤ l1 ∧ l1 ≤ 20000 := by omega
 clear hl0 hl1
 obtain ⟨hl4, hl5⟩ := hl2
 obtain ⟨hl6, hl7⟩ := hl3
 obtain ⟨W1, hW1⟩ : ∃ W, w.alloc (.cells #[.slice d.aa d.an d.ac, .int .i64 d.known, .int .i64 d.hours, .slice d.da d.dn d.dc, .slice d.sa d.sn d.sc, .slice d.ba d.bn d.bc, .int .i64 i, v] 97) = W := ⟨_, rfl⟩
 obtain ⟨W2, hW2⟩ : ∃ W, W1.alloc (.cells #[.int .i64 s0, .int .i64 s1] 47) = W := ⟨_, rfl⟩
 obtain ⟨W3, hW3⟩ : ∃ W, W2.alloc (.cells #[.int .i64 0, .int .i64 0] 47) = W := ⟨_, rfl⟩
 obtain ⟨W4, hW4⟩ : ∃ W, W3.alloc (.cells #[.int .i64 (d.A i 2), .int .i64 (d.A i 3)] 47) = W := ⟨_, rfl⟩
 have hz1 : W1.heap.size = w.heap.size + 1 := by rw [← hW1, World.size_alloc]
 have hz2 : W2.heap.size = w.heap.size + 1 + 1 := by rw [← hW2, World.size_alloc, hz1]
 have hz3 : W3.heap.size = w.heap.size + 1 + 1 + 1 := by rw [← hW3, World.size_alloc, hz2]
 have hz4 : W4.heap.size = w.heap.size + 1 + 1 + 1 + 1 := by rw [← hW4, World.size_alloc, hz3]
 have hF1 : PoF w d i v W1 := by rw [← hW1]; exact PoF.new w d i v
 have hF2 : PoF w d i v W2 := by rw [← hW2]; exact hF1.alloc _
 have hF3 : PoF w d i v W3 := by rw [← hW3]; exact hF2.alloc _
 have hF4 : PoF w d i v W4 := by rw [← hW4]; exact hF3.alloc _
 have hT2 : Two W2 (w.heap.size + 1) s0 s1 := by rw [← hW2, ← hz1]; exact Two.new W1 _ _ _
 have hT3 : Two W3 (w.heap.size + 1 + 1) 0 0 := by rw [← hW3, ← hz2]; exact Two.new W2 _ 0 0
 have hT4 : Two W4 (w.heap.size + 1 + 1 + 1) (d.A i 2) (d.A i 3) := by rw [← hW4, ← hz3]; exact Two.new W3 _ _ _
 have hb34 : Below W3.heap.size W3 W4 := by rw [← hW4]; exact (Below.refl _ _).alloc (Nat.le_refl _) _
 have hb23 : Below W2.heap.size W2 W3 := by rw [← hW3]; exact (Below.refl _ _).alloc (Nat.le_refl _) _
 have hB : BX w d i v s0 s1 (d.A i 2) (d.A i 3) W4 := ⟨hF4, hT2.below (hb23.trans (hb34.mono hb23.size)) (by omega), hT3.below hb34 (by omega), hT4, by omega⟩
 clear hF1 hF2 hF4 hT2 hT3 hT4 hb34 hb23
 have hp3 := hp.below hF3.old hbl
 have e2 := hp3 i hi 2 (by decide)
 have e3 := hp3 i hi 3 (by decide)
 obtain ⟨⟨q0, _, _, _, _, _⟩, q6, _, _, _⟩ := hF3
 clear hp3
 rw [ea, ec, ed, ef] at hW1
 rw [ea, ec] at q0
 have hi0 : (0 : Int) ≤ (i : Int) := Int.natCast_nonneg _
 have hi1 : (i : Int) < (d.an : Int) := by omega
 have hk0 : (0 : Int) ≤ (k : Int) := Int.natCast_nonneg _
 have hk1 : (k : Int) < (d.dn : Int) := by omega
 go_enter Tryz.func149, Tryz.ntmps149
 go_wp2_with fail
 refine wp_region_late [10] (fun _ => True) (fun w9 => BX w d i v s0 s1 (d.A i 2) (d.A i 3) w9) (by kernel_rfl) ?_ (fun hHeld => ?_)
 ·exact ⟨trivial, hB.drew⟩
 have hH := hHeld.2
 generalize W4.drew = V5 at hH hHeld ⊢
 refine tkT 0 1 rfl (waits_one [] (by kernel_rfl)) (by intro w9 hSw; have hS := hSw.2; clear hSw; (have z := hS.b.k0; have z2 := hS.b.k1; clear hS; go_simp) <;> with_reducible rfl) hHeld ?_
 refine tk1 1 rfl hHeld ?_
 refine tk1 2 rfl hHeld ?_
 refine tkT 3 1 rfl (waits_one [] (by kernel_rfl)) (by intro w9 hSw; have hS := hSw.2; clear hSw; (have z := hS.f.at'.k3; clear hS; go_simp) <;> with_reducible rfl) hHeld ?_
 refine tk1 4 rfl hHeld ?_
 refine tk1 5 rfl hHeld ?_
 refine tkT 6 1 rfl (waits_one [] (by kernel_rfl)) (by intro w9 hSw; have hS := hSw.2; clear hSw; (have z := hadd w9 hS.f.old; clear hS; go_simp) <;> with_reducible rfl) hHeld ?_
 refine tk2 7 (v := .int .i64 (-d.D k 0)) rfl (by intro w9 hSw; have hS := hSw; clear hSw; have hneg := hneg'.out; clear hS; (go_simp) <;> with_reducible rfl) hHeld ?_
 refine wpAnyP_ready (rs := [8, 9]) (by kernel_rfl) (by simp) ?_
 refine AllReadyP.cons (o := _) rfl (fun K hK => ?_) (AllReadyP.cons (o := _) rfl (fun K hK => ?_) AllReadyP.nil)
 ·skip
  go_simp
  (go_at_call 137; with_reducible refine (hmv _).mono ?_; rintro e w1 ⟨rfl, hb1⟩)
  have hH2 := hH.below hb1
  refine hK.out _ _ ?_ (fun hHeld => ?_)
  ·exact ⟨trivial, hH2⟩
  clear hK K hH
  have hH := hHeld.2
  (try simp only [Act.put, xpA, xpZ, xpS])
  refine rd1 9 rfl (fun K hK => ?_)
  go_simp
  obtain ⟨V6, hV6⟩ : ∃ V, w1.alloc (.cells #[.int .i64 0, .int .i64 0] 47) = V := ⟨_, rfl⟩
  rw [hV6]
  have hL : Two V6 w1.heap.size 0 0 := by rw [← hV6]; exact Two.new w1 _ 0 0
  have hGl : w1.heap.size < V6.heap.size := by rw [← hV6, World.size_alloc]; omega
  have hG : w.heap.size + 4 ≤ w1.heap.size := hH.lt
  have hH2 : BX w d i v s0 s1 (d.A i 2) (d.A i 3) V6 := by rw [← hV6]; exact hH.alloc _
  clear hV6
  refine hK.out _ _ ?_ (fun hHeld => ?_)
  ·exact ⟨trivial, hH2⟩
  clear hK K hH
  have hH := hHeld.2
  (try simp only [Act.put, xpA, xpZ, xpS])
  refine rdL 10 rfl (fun K hK => ?_)
  have c0 := hL.k0
  have c1 := hL.k1
  have z0 := hL.f0
  have z1 := hL.f1
  go_simp
  clear c0 c1 z0 z1
  refine hK.out _ _ ?_ (fun _ => ?_)
  ·trivial
  clear hK K
  (try simp only [Act.put, xpA, xpZ, xpS])
  refine wpAnyP_done (by kernel_rfl) ?_ _
  (try simp only [Act.put, List.getElem_toArray, List.getElem_cons_zero, List.getElem_cons_succ, xpA, xpZ, xpS])
  have hL2 := hL.set01 l0 l1
  have hQ : BX w d i v s0 s1 (d.A i 2) (d.A i 3) ((V6.setCell ⟨w1.heap.size, 0, none⟩ (.int .i64 l0)).setCell ⟨w1.heap.size, 1, none⟩ (.int .i64 l1)) := hH.beyond (((Below.refl _ _).setCell (p := ⟨w1.heap.size, 0, none⟩) hG _).setCell (p := ⟨w1.heap.size, 1, none⟩) hG _)
  have hgl : w1.heap.size < ((V6.setCell ⟨w1.heap.size, 0, none⟩ (.int .i64 l0)).setCell ⟨w1.heap.size, 1, none⟩ (.int .i64 l1)).heap.size := by rw [World.size_setCell, World.size_setCell]; exact hGl
  generalize (V6.setCell ⟨w1.heap.size, 0, none⟩ (.int .i64 l0)).setCell ⟨w1.heap.size, 1, none⟩ (.int .i64 l1) = W7 at hL2 hQ hgl ⊢
  clear hL hH hmv hGl
  generalize w1.heap.size = g at hL2 hG hgl ⊢
  obtain ⟨W8, hW8⟩ : ∃ W, W7.alloc (.cells #[.int .i64 0, .int .i64 (l1 + d.A i 3)] 47) = W := ⟨_, rfl⟩
  have hb8 : Below W7.heap.size W7 W8 := by rw [← hW8]; exact (Below.refl _ _).alloc (Nat.le_refl _) _
  have hz8 : W7.heap.size < W8.heap.size := by rw [← hW8, World.size_alloc]; omega
  have hQ8 := hQ.below hb8
  have hL8 := hL2.below hb8 hgl
  have hS8 : Two W8 W7.heap.size 0 (l1 + d.A i 3) := by rw [← hW8]; exact Two.new W7 _ _ _
  have hlt7 := hQ.lt
  by_cases hpos : 0 < l0
  ·have hbk : Hdn ((d.acid i).back k (s0, s1) = (l0 + d.A i 2, l1 + d.A i 3)) := ⟨by rw [hback.out, if_pos hpos]⟩
   have hS9 : Two (W8.setCell ⟨W7.heap.size, 0, none⟩ (.int .i64 (l0 + d.A i 2))) W7.heap.size (l0 + d.A i 2) (l1 + d.A i 3) := two_set0 hS8 _
   have hQ9 : BX w d i v s0 s1 (d.A i 2) (d.A i 3) (W8.setCell ⟨W7.heap.size, 0, none⟩ (.int .i64 (l0 + d.A i 2))) := hQ8.beyond ((Below.refl _ _).setCell (p := ⟨W7.heap.size, 0, none⟩) (by show _ ≤ W7.heap.size; omega) _)
   obtain ⟨_, _, _, ⟨x2, x3, _, _⟩, _⟩ := id hQ
   obtain ⟨_, _, _, ⟨a2, a3, _, _⟩, _⟩ := id hQ8
   obtain ⟨y0, y1, _, _⟩ := id hL2
   obtain ⟨b0, b1, _, _⟩ := id hL8
   obtain ⟨c0, c1, z0, z1⟩ := id hS8
   have hR := hQ9.r.set01 (l0 + d.A i 2) (l1 + d.A i 3)
   have hO := (hQ9.f.old.setCell (p := ⟨w.heap.size + 1 + 1, 0, none⟩) (by show w.heap.size ≤ w.heap.size + 1 + 1; omega) (.int .i64 (l0 + d.A i 2))).setCell (p := ⟨w.heap.size + 1 + 1, 1, none⟩) (by show w.heap.size ≤ w.heap.size + 1 + 1; omega) (.int .i64 (l1 + d.A i 3))
   obtain ⟨W9, hW9⟩ : ∃ W, W8.setCell ⟨W7.heap.size, 0, none⟩ (.int .i64 (l0 + d.A i 2)) = W := ⟨_, rfl⟩
   rw [hW9] at hS9 hQ9 hR hO
   obtain ⟨r0, r1, _, _⟩ := id hS9
   obtain ⟨p0, p1, g0, g1⟩ := id hQ9.r
   clear hQ hQ8 hQ9 hL2 hL8 hS8 hS9 hb8 hz8
   go_wp2
   clear x2 x3 a2 a3 y0 y1 b0 b1 c0 c1 z0 z1 r0 r1 p0 p1 g0 g1
   generalize (W9.setCell ⟨w.heap.size + 1 + 1, 0, none⟩ (.int .i64 (l0 + d.A i 2))).setCell ⟨w.heap.size + 1 + 1, 1, none⟩ (.int .i64 (l1 + d.A i 3)) = W10 at hR hO ⊢
   obtain ⟨r0, r1, _, _⟩ := hR
   refine bodyPost_ret (v := .agg #[.int .i64 (l0 + d.A i 2), .int .i64 (l1 + d.A i 3)]) ?_ rfl ⟨by rw [hbk.out], hO⟩
   simp [results, Tryz.results149, go_sem, r0, r1]
  ·have hbk : Hdn ((d.acid i).back k (s0, s1) = (0, l1 + d.A i 3)) := ⟨by rw [hback.out, if_neg hpos]⟩
   obtain ⟨_, _, _, ⟨x2, x3, _, _⟩, _⟩ := id hQ
   obtain ⟨y0, y1, _, _⟩ := id hL2
   obtain ⟨b0, b1, _, _⟩ := id hL8
   obtain ⟨c0, c1, z0, z1⟩ := id hS8
   obtain ⟨p0, p1, g0, g1⟩ := id hQ8.r
   have hR := hQ8.r.set01 0 (l1 + d.A i 3)
   have hO := (hQ8.f.old.setCell (p := ⟨w.heap.size + 1 + 1, 0, none⟩) (by show w.heap.size ≤ w.heap.size + 1 + 1; omega) (.int .i64 0)).setCell (p := ⟨w.heap.size + 1 + 1, 1, none⟩) (by show w.heap.size ≤ w.heap.size + 1 + 1; omega) (.int .i64 (l1 + d.A i 3))
   clear hQ hQ8 hL2 hL8 hS8 hb8 hz8
   go_wp2
   clear x2 x3 y0 y1 b0 b1 c0 c1 z0 z1 p0 p1 g0 g1
   generalize (W8.setCell ⟨w.heap.size + 1 + 1, 0, none⟩ (.int .i64 0)).setCell ⟨w.heap.size + 1 + 1, 1, none⟩ (.int .i64 (l1 + d.A i 3)) = W10 at hR hO ⊢
   obtain ⟨r0, r1, _, _⟩ := hR
   refine bodyPost_ret (v := .agg #[.int .i64 0, .int .i64 (l1 + d.A i 3)]) ?_ rfl ⟨by rw [hbk.out], hO⟩
   simp [results, Tryz.results149, go_sem, r0, r1]

 ·skip
  go_simp
  obtain ⟨V6, hV6⟩ : ∃ V, V5.alloc (.cells #[.int .i64 0, .int .i64 0] 47) = V := ⟨_, rfl⟩
  rw [hV6]
  have hL : Two V6 V5.heap.size 0 0 := by rw [← hV6]; exact Two.new V5 _ 0 0
  have hGl : V5.heap.size < V6.heap.size := by rw [← hV6, World.size_alloc]; omega
  have hG : w.heap.size + 4 ≤ V5.heap.size := hH.lt
  have hH2 : BX w d i v s0 s1 (d.A i 2) (d.A i 3) V6 := by rw [← hV6]; exact hH.alloc _
  clear hV6
  refine hK.out _ _ ?_ (fun hHeld => ?_)
  ·exact ⟨trivial, hH2⟩
  clear hK K hH
  have hH := hHeld.2
  (try simp only [Act.put, xpA, xpZ, xpS])
  refine rd1 8 rfl (fun K hK => ?_)
  go_simp
  (go_at_call 137; with_reducible refine (hmv _).mono ?_; rintro e w1 ⟨rfl, hb1⟩)
  have hH2 := hH.below hb1
  replace hL := hL.below hb1 hGl
  replace hGl := Nat.lt_of_lt_of_le hGl hb1.size
  refine hK.out _ _ ?_ (fun hHeld => ?_)
  ·exact ⟨trivial, hH2⟩
  clear hK K hH
  have hH := hHeld.2
  (try simp only [Act.put, xpA, xpZ, xpS])
  refine rdL 10 rfl (fun K hK => ?_)
  have c0 := hL.k0
  have c1 := hL.k1
  have z0 := hL.f0
  have z1 := hL.f1
  go_simp
  clear c0 c1 z0 z1
  refine hK.out _ _ ?_ (fun _ => ?_)
  ·trivial
  clear hK K
  (try simp only [Act.put, xpA, xpZ, xpS])
  refine wpAnyP_done (by kernel_rfl) ?_ _
  (try simp only [Act.put, List.getElem_toArray, List.getElem_cons_zero, List.getElem_cons_succ, xpA, xpZ, xpS])
  have hL2 := hL.set01 l0 l1
  have hQ : BX w d i v s0 s1 (d.A i 2) (d.A i 3) ((w1.setCell ⟨V5.heap.size, 0, none⟩ (.int .i64 l0)).setCell ⟨V5.heap.size, 1, none⟩ (.int .i64 l1)) := hH.beyond (((Below.refl _ _).setCell (p := ⟨V5.heap.size, 0, none⟩) hG _).setCell (p := ⟨V5.heap.size, 1, none⟩) hG _)
  have hgl : V5.heap.size < ((w1.setCell ⟨V5.heap.size, 0, none⟩ (.int .i64 l0)).setCell ⟨V5.heap.size, 1, none⟩ (.int .i64 l1)).heap.size := by rw [World.size_setCell, World.size_setCell]; exact hGl
  generalize (w1.setCell ⟨V5.heap.size, 0, none⟩ (.int .i64 l0)).setCell ⟨V5.heap.size, 1, none⟩ (.int .i64 l1) = W7 at hL2 hQ hgl ⊢
  clear hL hH hmv hGl
  generalize V5.heap.size = g at hL2 hG hgl ⊢
  obtain ⟨W8, hW8⟩ : ∃ W, W7.alloc (.cells #[.int .i64 0, .int .i64 (l1 + d.A i 3)] 47) = W := ⟨_, rfl⟩
  have hb8 : Below W7.heap.size W7 W8 := by rw [← hW8]; exact (Below.refl _ _).alloc (Nat.le_refl _) _
  have hz8 : W7.heap.size < W8.heap.size := by rw [← hW8, World.size_alloc]; omega
  have hQ8 := hQ.below hb8
  have hL8 := hL2.below hb8 hgl
  have hS8 : Two W8 W7.heap.size 0 (l1 + d.A i 3) := by rw [← hW8]; exact Two.new W7 _ _ _
  have hlt7 := hQ.lt
  by_cases hpos : 0 < l0
  ·have hbk : Hdn ((d.acid i).back k (s0, s1) = (l0 + d.A i 2, l1 + d.A i 3)) := ⟨by rw [hback.out, if_pos hpos]⟩
   have hS9 : Two (W8.setCell ⟨W7.heap.size, 0, none⟩ (.int .i64 (l0 + d.A i 2))) W7.heap.size (l0 + d.A i 2) (l1 + d.A i 3) := two_set0 hS8 _
   have hQ9 : BX w d i v s0 s1 (d.A i 2) (d.A i 3) (W8.setCell ⟨W7.heap.size, 0, none⟩ (.int .i64 (l0 + d.A i 2))) := hQ8.beyond ((Below.refl _ _).setCell (p := ⟨W7.heap.size, 0, none⟩) (by show _ ≤ W7.heap.size; omega) _)
   obtain ⟨_, _, _, ⟨x2, x3, _, _⟩, _⟩ := id hQ
   obtain ⟨_, _, _, ⟨a2, a3, _, _⟩, _⟩ := id hQ8
   obtain ⟨y0, y1, _, _⟩ := id hL2
   obtain ⟨b0, b1, _, _⟩ := id hL8
   obtain ⟨c0, c1, z0, z1⟩ := id hS8
   have hR := hQ9.r.set01 (l0 + d.A i 2) (l1 + d.A i 3)
   have hO := (hQ9.f.old.setCell (p := ⟨w.heap.size + 1 + 1, 0, none⟩) (by show w.heap.size ≤ w.heap.size + 1 + 1; omega) (.int .i64 (l0 + d.A i 2))).setCell (p := ⟨w.heap.size + 1 + 1, 1, none⟩) (by show w.heap.size ≤ w.heap.size + 1 + 1; omega) (.int .i64 (l1 + d.A i 3))
   obtain ⟨W9, hW9⟩ : ∃ W, W8.setCell ⟨W7.heap.size, 0, none⟩ (.int .i64 (l0 + d.A i 2)) = W := ⟨_, rfl⟩
   rw [hW9] at hS9 hQ9 hR hO
   obtain ⟨r0, r1, _, _⟩ := id hS9
   obtain ⟨p0, p1, g0, g1⟩ := id hQ9.r
   clear hQ hQ8 hQ9 hL2 hL8 hS8 hS9 hb8 hz8
   go_wp2
   clear x2 x3 a2 a3 y0 y1 b0 b1 c0 c1 z0 z1 r0 r1 p0 p1 g0 g1
   generalize (W9.setCell ⟨w.heap.size + 1 + 1, 0, none⟩ (.int .i64 (l0 + d.A i 2))).setCell ⟨w.heap.size + 1 + 1, 1, none⟩ (.int .i64 (l1 + d.A i 3)) = W10 at hR hO ⊢
   obtain ⟨r0, r1, _, _⟩ := hR
   refine bodyPost_ret (v := .agg #[.int .i64 (l0 + d.A i 2), .int .i64 (l1 + d.A i 3)]) ?_ rfl ⟨by rw [hbk.out], hO⟩
   simp [results, Tryz.results149, go_sem, r0, r1]
  ·have hbk : Hdn ((d.acid i).back k (s0, s1) = (0, l1 + d.A i 3)) := ⟨by rw [hback.out, if_neg hpos]⟩
   obtain ⟨_, _, _, ⟨x2, x3, _, _⟩, _⟩ := id hQ
   obtain ⟨y0, y1, _, _⟩ := id hL2
   obtain ⟨b0, b1, _, _⟩ := id hL8
   obtain ⟨c0, c1, z0, z1⟩ := id hS8
   obtain ⟨p0, p1, g0, g1⟩ := id hQ8.r
   have hR := hQ8.r.set01 0 (l1 + d.A i 3)
   have hO := (hQ8.f.old.setCell (p := ⟨w.heap.size + 1 + 1, 0, none⟩) (by show w.heap.size ≤ w.heap.size + 1 + 1; omega) (.int .i64 0)).setCell (p := ⟨w.heap.size + 1 + 1, 1, none⟩) (by show w.heap.size ≤ w.heap.size + 1 + 1; omega) (.int .i64 (l1 + d.A i 3))
   clear hQ hQ8 hL2 hL8 hS8 hb8 hz8
   go_wp2
   clear x2 x3 y0 y1 b0 b1 c0 c1 z0 z1 p0 p1 g0 g1
   generalize (W8.setCell ⟨w.heap.size + 1 + 1, 0, none⟩ (.int .i64 0)).setCell ⟨w.heap.size + 1 + 1, 1, none⟩ (.int .i64 (l1 + d.A i 3)) = W10 at hR hO ⊢
   obtain ⟨r0, r1, _, _⟩ := hR
   refine bodyPost_ret (v := .agg #[.int .i64 0, .int .i64 (l1 + d.A i 3)]) ?_ rfl ⟨by rw [hbk.out], hO⟩
   simp [results, Tryz.results149, go_sem, r0, r1]


end Go.Proofs.YtlhgkepdoinlnaaGreatDoor
/-! Rows of spans in memory (no program text is mentioned) -/
namespace Go.Gen
open Go.RowKit
/-- the cells of a row of spans. -/
def crsL (f : Nat → Int × Int) : Nat → List Value
 | 0 => []
 | n+1 => crsL f n ++ [.int .i64 (f n).1, .int .i64 (f n).2]
theorem crsL_length (f : Nat → Int × Int) : ∀ n, (crsL f n).length = 2 * n
 | 0 => rfl
 | n+1 => by unfold crsL; rw [List.length_append, crsL_length f n]; simp; omega
theorem crsL_at (f : Nat → Int × Int) : ∀ n i, i < n → (crsL f n)[i * 2]? = some (.int .i64 (f i).1) ∧ (crsL f n)[i * 2 + 1]? = some (.int .i64 (f i).2)
 | 0, i, h => absurd h (Nat.not_lt_zero i)
 | n+1, i, h => by
  have hl := crsL_length f n
  unfold crsL
  by_cases hi : i = n
  ·subst hi
   refine ⟨?_, ?_⟩
   ·rw [List.getElem?_append_right (by omega), show i * 2 - (crsL f i).length = 0 by omega]; rfl
   ·rw [List.getElem?_append_right (by omega), show i * 2 + 1 - (crsL f i).length = 1 by omega]; rfl
  ·obtain ⟨h1, h2⟩ := crsL_at f n i (by omega)
   refine ⟨?_, ?_⟩
   ·rw [List.getElem?_append_left (by omega)]; exact h1
   ·rw [List.getElem?_append_left (by omega)]; exact h2
/-- a row of spans in its block. -/
structure CAt (W : World) (C n : Nat) (f : Nat → Int × Int) : Prop where
 c : ∀ j, j < n → W.cell? ⟨C, j * 2, none⟩ = some (.int .i64 (f j).1) ∧ W.cell? ⟨C, j * 2 + 1, none⟩ = some (.int .i64 (f j).2)
 z : ∀ i, W.frozen? ⟨C, i, none⟩ = false
theorem CAt.far {W W' : World} {C n : Nat} {f : Nat → Int × Int} (h : CAt W C n f) (hh : W'.heap[C]? = W.heap[C]?) : CAt W' C n f :=
 ⟨fun j hj => ⟨(World.cell?_of_block hh).trans (h.c j hj).1, (World.cell?_of_block hh).trans (h.c j hj).2⟩, fun i => (show W'.frozen? ⟨C, i, none⟩ = W.frozen? ⟨C, i, none⟩ by unfold World.frozen?; rw [hh]).trans (h.z i)⟩
theorem CAt.below {W W' : World} {C n B : Nat} {f : Nat → Int × Int} (h : CAt W C n f) (hb : Below B W W') (hl : C < B) : CAt W' C n f := h.far (hb.block C hl)
theorem CAt.store {W : World} {C n : Nat} {f : Nat → Int × Int} (h : CAt W C n f) (k : Nat) (hk : k < n) (x y : Int) : CAt ((W.setCell ⟨C, k * 2, none⟩ (.int .i64 x)).setCell ⟨C, k * 2 + 1, none⟩ (.int .i64 y)) C n (fun j => if j = k then (x, y) else f j) := by
 obtain ⟨k1, k2⟩ := h.c k hk
 refine ⟨fun j hj => ?_, fun i => by rw [World.frozen?_setCell, World.frozen?_setCell]; exact h.z i⟩
 by_cases hjk : j = k
 ·subst hjk
  simp only [if_true]
  constructor
  ·rw [World.cell?_setCell_other _ _ (a := ⟨C, j * 2 + 1, none⟩) (b := ⟨C, j * 2, none⟩) (by intro h; injection h with h1 h2 h3; omega)]; exact World.cell?_setCell_same' _ _ _ (by rw [k1]; rfl)
  ·exact World.cell?_setCell_same' _ _ _ (by rw [World.cell?_setCell_other _ _ (a := ⟨C, j * 2, none⟩) (b := ⟨C, j * 2 + 1, none⟩) (by intro h; injection h with h1 h2 h3; omega), k2]; rfl)
 ·rw [if_neg hjk]
  obtain ⟨j1, j2⟩ := h.c j hj
  constructor
  ·rw [World.cell?_setCell_other _ _ (a := ⟨C, k * 2 + 1, none⟩) (b := ⟨C, j * 2, none⟩) (by intro h; injection h with h1 h2 h3; omega), World.cell?_setCell_other _ _ (a := ⟨C, k * 2, none⟩) (b := ⟨C, j * 2, none⟩) (by intro h; injection h with h1 h2 h3; omega)]; exact j1
  ·rw [World.cell?_setCell_other _ _ (a := ⟨C, k * 2 + 1, none⟩) (b := ⟨C, j * 2 + 1, none⟩) (by intro h; injection h with h1 h2 h3; omega), World.cell?_setCell_other _ _ (a := ⟨C, k * 2, none⟩) (b := ⟨C, j * 2 + 1, none⟩) (by intro h; injection h with h1 h2 h3; omega)]; exact j2
theorem CAt.congr {W : World} {C n : Nat} {f g : Nat → Int × Int} (h : CAt W C n f) (e : ∀ j, j < n → f j = g j) : CAt W C n g := ⟨fun j hj => by rw [← e j hj]; exact h.c j hj, h.z⟩
theorem cat_of_row {w : World} {B g n cap : Nat} {e : TypeId} {f : Nat → Int × Int} (h : w.ownsRow B e 2 (.slice (some ⟨g, 0, none⟩) n cap) n (crsL f n)) : CAt w g n f :=
 ⟨fun j hj => by
  obtain ⟨h1, h2⟩ := crsL_at f n j hj
  exact ⟨(h.cellAt (j * 2) (by omega)).trans h1, (h.cellAt (j * 2 + 1) (by omega)).trans h2⟩, fun i => h.frozenAt i⟩
theorem cells_two (w : World) (a b : Value) (e : TypeId) : ∀ (j : Nat) (u : Value), [a, b][j]? = some u → (w.alloc (Obj.cells #[a, b] e)).cell? ((⟨w.heap.size, 0, none⟩ : Addr).add j) = some u := by
 intro j u h
 match j, h with
 | 0, h => simp at h; subst h; simp [go_sem, Addr.add]
 | 1, h => simp at h; subst h; simp [go_sem, Addr.add]
 | n+2, h => simp at h
theorem row_below {w w' : World} {B : Nat} {e : TypeId} {size : Nat} {v : Value} {n : Nat} {xs : List Value} (h : w.ownsRow B e size v n xs) (hb : Below w.heap.size w w') : w'.ownsRow B e size v n xs := by
 obtain ⟨h1, h2⟩ := h
 refine ⟨h1, ?_⟩
 rcases h2 with h2 | ⟨g, cap, cur, a1, a2, a3, a4⟩
 ·exact .inl h2
 ·have hg : g < w.heap.size := (Array.getElem?_eq_some_iff.1 a3).1
  exact .inr ⟨g, cap, cur, a1, a2, by rw [hb.block g hg]; exact a3, a4⟩
theorem row_slice {w : World} {B : Nat} {e : TypeId} {size : Nat} {v : Value} {n : Nat} {xs : List Value} (h : w.ownsRow B e size v n xs) (hn : 1 ≤ n) : ∃ g cap, v = .slice (some ⟨g, 0, none⟩) n cap ∧ B ≤ g ∧ g < w.heap.size := by
 obtain ⟨h1, ⟨h2, h3⟩ | ⟨g, cap, cur, a1, a2, a3, _⟩⟩ := h
 ·omega
 ·exact ⟨g, cap, a1, a2, (Array.getElem?_eq_some_iff.1 a3).1⟩
end Go.Gen
namespace Go.Drum
/-- the ends of the hour before. -/
def Acid.pre (a : Acid) (k : Nat) : Int × Int := if k = 0 then (0, 0) else a.fwd (k - 1)
theorem Acid.pre_zero (a : Acid) : a.pre 0 = (0, 0) := by unfold Acid.pre; rw [if_pos rfl]
theorem Acid.pre_succ (a : Acid) (k : Nat) : a.pre (k + 1) = a.fwd k := by unfold Acid.pre; rw [if_neg (by omega)]; rfl
theorem Acid.next_pre (a : Acid) (k : Nat) : a.next k (a.pre k) = a.fwd k := by
 cases k with
 | zero => rw [Acid.pre_zero, Acid.fwd]
 | succ k => rw [Acid.pre_succ, Acid.fwd]
theorem Acid.pre_small {a : Acid} {h : Nat} (hs : a.small h) {k : Nat} (hk : k ≤ h) (hh : h ≤ 12) (hc : ∀ j, j < k → (a.fwd j).1 ≤ (a.fwd j).2) : (-10000 ≤ (a.pre k).1 ∧ (a.pre k).1 ≤ 10000) ∧ (-10000 ≤ (a.pre k).2 ∧ (a.pre k).2 ≤ 10000) := by
 cases k with
 | zero => rw [Acid.pre_zero]; exact ⟨⟨by decide, by decide⟩, by decide, by decide⟩
 | succ k =>
  rw [Acid.pre_succ]
  have h1 := Acid.fwd_small hs k (by omega)
  have h2 := hc k (by omega)
  omega
theorem Acid.ends_small {a : Acid} {h : Nat} (hs : a.small h) (hc : a.can h) (hh : h ≤ 12) {k : Nat} (hk : k < h) : 0 ≤ (a.ends h k).1 ∧ (a.ends h k).1 ≤ (a.ends h k).2 ∧ (a.ends h k).2 ≤ 2400 := by
 have h1 := Acid.fwd_small hs k hk
 obtain ⟨⟨h2, h3⟩, h4⟩ := Acid.ends_ok hs.fine hc k hk
 omega
end Go.Drum
namespace Go.Proofs.YtlhgkepdoinlnaaGreatDoor
open Go.RowKit Go.Gen Go.Drum
theorem Tryz.info47 : (Tryz.prog.info? 47).map (fun i => (i.zero, i.size, i.bytes)) = some (some (.agg #[.int .i64 0, .int .i64 0]), 2, 16) := by kernel_rfl
/-- course's blocks: the acid's, before. -/
structure CX (w : World) (d : Drm) (i : Int) (v : Value) (b : Int × Int) (W : World) : Prop where
  f : PoF w d i v W
  b : Two W (w.heap.size + 1) b.1 b.2
  lt : w.heap.size + 1 < W.heap.size
theorem CX.below {w : World} {d : Drm} {i : Int} {v : Value} {b : Int × Int} {W W' : World} (h : CX w d i v b W) (hb : Below W.heap.size W W') : CX w d i v b W' :=
  ⟨h.f.below hb, h.b.below hb h.lt, Nat.lt_of_lt_of_le h.lt hb.size⟩
theorem CX.beyond {w : World} {d : Drm} {i : Int} {v : Value} {b : Int × Int} {W W' : World} (h : CX w d i v b W) (hb : Below (w.heap.size + 2) W W') : CX w d i v b W' :=
  ⟨h.f.beyond (hb.mono (by omega)), h.b.below hb (by omega), Nat.lt_of_lt_of_le h.lt hb.size⟩
theorem CX.set {w : World} {d : Drm} {i : Int} {v : Value} {b : Int × Int} {W : World} (h : CX w d i v b W) (u : Int × Int) :
    CX w d i v u ((W.setCell ⟨w.heap.size + 1, 0, none⟩ (.int .i64 u.1)).setCell ⟨w.heap.size + 1, 1, none⟩ (.int .i64 u.2)) := by
  have hb : Below (w.heap.size + 1) W ((W.setCell ⟨w.heap.size + 1, 0, none⟩ (.int .i64 u.1)).setCell ⟨w.heap.size + 1, 1, none⟩ (.int .i64 u.2)) :=
    ((Below.refl _ W).setCell (p := ⟨w.heap.size + 1, 0, none⟩) (Nat.le_refl _) _).setCell (p := ⟨w.heap.size + 1, 1, none⟩) (Nat.le_refl _) _
  exact ⟨h.f.beyond hb, h.b.set01 u.1 u.2, by rw [World.size_setCell, World.size_setCell]; exact h.lt⟩
/-- the acid's block and a row. -/
structure RX (w : World) (d : Drm) (i : Int) (v : Value) (g n : Nat) (r : Nat → Int × Int) (W : World) : Prop where
  f : PoF w d i v W
  row : CAt W g n r
  lt : g < W.heap.size
theorem RX.below {w : World} {d : Drm} {i : Int} {v : Value} {g n : Nat} {r : Nat → Int × Int} {W W' : World} (h : RX w d i v g n r W) (hb : Below W.heap.size W W') : RX w d i v g n r W' :=
  ⟨h.f.below hb, h.row.below hb h.lt, Nat.lt_of_lt_of_le h.lt hb.size⟩
theorem RX.drew {w : World} {d : Drm} {i : Int} {v : Value} {g n : Nat} {r : Nat → Int × Int} {W : World} (h : RX w d i v g n r W) : RX w d i v g n r W.drew := h.below (Below.refl _ _).drew
theorem RX.put {w : World} {d : Drm} {i : Int} {v : Value} {g n : Nat} {r : Nat → Int × Int} {W : World} (h : RX w d i v g n r W) (hg : w.heap.size + 2 ≤ g) (k : Nat) (hk : k < n) (x y : Int) :
    RX w d i v g n (fun j => if j = k then (x, y) else r j) ((W.setCell ⟨g, k * 2, none⟩ (.int .i64 x)).setCell ⟨g, k * 2 + 1, none⟩ (.int .i64 y)) :=
  ⟨h.f.beyond (((Below.refl _ W).setCell (p := ⟨g, k * 2, none⟩) (by show _ ≤ g; omega) _).setCell (p := ⟨g, k * 2 + 1, none⟩) (by show _ ≤ g; omega) _), h.row.store k hk x y, by rw [World.size_setCell, World.size_setCell]; exact h.lt⟩
/-- what course returns, or how it gives up. -/
def Course (a : Acid) (n : Nat) (w : World) (e : Ending) (w' : World) : Prop :=
  (a.can n ∧ ∃ g cap, e = .returned (.slice (some ⟨g, 0, none⟩) n cap) ∧ w.heap.size ≤ g ∧ g < w'.heap.size ∧ CAt w' g n (a.ends n) ∧ Below w.heap.size w w') ∨ (¬ a.can n ∧ e = .panicked [{ v := .iface 167 (.agg #[]), recovered := false }] ∧ Below w.heap.size w w')
set_option maxRecDepth 100000 in
set_option maxHeartbeats 4000000 in
theorem course_any (d : Drm) (i : Nat) (v : Value) (w : World) (hok : d.Ok) (hd : DIn w d) (hi : i < d.an) :
    Calls Tryz.prog 141 #[d.fil i v] w (Course (d.acid i) d.dn w) := by
  have hsm := hok.small hi
  obtain ⟨i0, hinf, hz0, hz1, hz2⟩ := info_parts Tryz.info47
  have hho : Hdn (d.hours = (d.dn : Int)) := ⟨hok.adds.symm⟩
  have hdn : 1 ≤ d.dn ∧ d.dn ≤ 12 := by have := hok.hours; have := hok.adds; omega
  obtain ⟨hdn1, hdn2⟩ := hdn
  obtain ⟨W1, hW1⟩ : ∃ W, w.alloc (.cells #[.slice d.aa d.an d.ac, .int .i64 d.known, .int .i64 d.hours, .slice d.da d.dn d.dc, .slice d.sa d.sn d.sc, .slice d.ba d.bn d.bc, .int .i64 i, v] 97) = W := ⟨_, rfl⟩
  obtain ⟨W2, hW2⟩ : ∃ W, W1.alloc (.cells #[.int .i64 0, .int .i64 0] 47) = W := ⟨_, rfl⟩
  have hz1' : W1.heap.size = w.heap.size + 1 := by rw [← hW1, World.size_alloc]
  have hF1 : PoF w d i v W1 := by rw [← hW1]; exact PoF.new w d i v
  have hC : CX w d i v (0, 0) W2 := by
    rw [← hW2]
    exact ⟨hF1.alloc _, by rw [← hz1']; exact Two.new W1 _ 0 0, by rw [World.size_alloc]; omega⟩
  clear hF1
  obtain ⟨⟨⟨q0, q1, q2, q3, q4, q5⟩, q6, q7, _, _⟩, _, _⟩ := id hC
  go_enter Tryz.func141, Tryz.ntmps141
  go_wp2_with fail
  go_loopw [3, 11] (fun u i' wr => ∃ k : Nat, k ≤ d.dn ∧ i' = .int .i64 k ∧ CX w d i v ((d.acid i).pre k) wr ∧ wr.ownsRow (w.heap.size + 2) 47 2 u k (crsL (d.acid i).fwd k) ∧ Hdn (∀ j, j < k → ((d.acid i).fwd j).1 ≤ ((d.acid i).fwd j).2)) (fun _ i' _ => d.dn - (intOf i').toNat)
  case atStart => exact ⟨0, Nat.zero_le _, rfl, by rw [Acid.pre_zero]; exact hC, ⟨rfl, .inl ⟨rfl, rfl⟩⟩, ⟨fun _ h => absurd h (Nat.not_lt_zero _)⟩⟩
  case round =>
    obtain ⟨k, hk5, rfl, hX, hown, hall⟩ := hrel
    clear q0 q1 q2 q3 q4 q5 q6 q7 hC
    have hk6 : (0 : Int) ≤ (k : Int) := Int.natCast_nonneg _
    have hd1 : d.hours ≤ 12 := by have := hho.out; omega
    by_cases hlt : k < d.dn
    · have hk7 : (k : Int) < d.hours := by have := hho.out; omega
      obtain ⟨hp0, hp1⟩ := Acid.pre_small hsm (by omega) hdn2 hall.out
      have hnx := next_any d i v k ((d.acid i).pre k).1 ((d.acid i).pre k).2 wr hok (hd.below hX.f.old) hi hlt hp0 hp1
      rw [Acid.next_pre] at hnx
      have hps : Hdn ((d.acid i).pre (k + 1) = (d.acid i).fwd k) := ⟨Acid.pre_succ _ _⟩
      have hcrs : Hdn (crsL (d.acid i).fwd (k + 1) = crsL (d.acid i).fwd k ++ [.int .i64 ((d.acid i).fwd k).1, .int .i64 ((d.acid i).fwd k).2]) := ⟨rfl⟩
      obtain ⟨x, hx⟩ : ∃ x, (d.acid i).fwd k = x := ⟨_, rfl⟩
      obtain ⟨b, hb⟩ : ∃ b, (d.acid i).pre k = b := ⟨_, rfl⟩
      rw [hx] at hps hcrs hnx
      rw [hb] at hX hnx
      have hxH : Hdn ((d.acid i).fwd k = x) := ⟨hx⟩
      clear hb hp0 hp1 hx
      obtain ⟨x0, x1⟩ := x
      obtain ⟨b0, b1⟩ := b
      (try dsimp only at hps hcrs hnx)
      obtain ⟨⟨⟨q0, q1, q2, q3, q4, q5⟩, q6, q7, _, _⟩, ⟨y0, y1, z0, z1⟩, _⟩ := id hX
      (try dsimp only at y0 y1)
      have hie := fun W => isEmpty_any x0 x1 W
      by_cases hem : x1 < x0
      · rw [decide_eq_true hem] at hie
        have hno : Hdn (¬ (d.acid i).can d.dn) := ⟨fun H => by have := H k hlt; rw [hxH.out] at this; (try dsimp only at this); omega⟩
        clear hall hcrs hps hxH
        go_wp2_with (first
          | (go_at_call 113; (with_reducible refine hnx.mono ?_); rintro e w1 ⟨rfl, hb1⟩; have hX1 := hX.below hb1; obtain ⟨_, ⟨c0, c1, g0, g1⟩, _⟩ := id hX1; have hX2 := hX1.set (x0, x1); have hY2 := hX2.b; (try dsimp only at hX2 hY2); obtain ⟨c2, c3, _, _⟩ := hY2)
          | (go_at_call 82; (with_reducible refine (hie _).mono ?_); rintro e w2 ⟨rfl, hb2⟩))
        exact ⟨rfl, .inr ⟨hno.out, rfl, (hX2.below hb2).f.old⟩⟩
      · rw [decide_eq_false hem] at hie
        have hyes : Hdn (((d.acid i).fwd k).1 ≤ ((d.acid i).fwd k).2) := ⟨by rw [hxH.out]; (try dsimp only); omega⟩
        clear hxH
        go_wp2_with (first
          | (go_at_call 113; (with_reducible refine hnx.mono ?_); rintro e w1 ⟨rfl, hb1⟩; have hX1 := hX.below hb1; obtain ⟨_, ⟨c0, c1, g0, g1⟩, _⟩ := id hX1; have hX2 := hX1.set (x0, x1); have hY2 := hX2.b; (try dsimp only at hX2 hY2); obtain ⟨c2, c3, _, _⟩ := hY2)
          | (go_at_call 82; (with_reducible refine (hie _).mono ?_); rintro e w2 ⟨rfl, hb2⟩; have hX3 := hX2.below hb2; have hY3 := hX3.b; (try dsimp only at hY3); obtain ⟨c4, c5, _, _⟩ := hY3)
          | (at_builtin; refine wpList_append_own _ rfl _ _ 41 rfl (w.heap.size + 2) 47 i0 (.agg #[.int .i64 0, .int .i64 0]) 2 16 Tryz.underlying41 hinf hz0 hz1 hz2 rfl (by decide) _ _ _ rfl ((row_below (ownsRow_setCell_below (ownsRow_setCell_below (row_below hown hb1) (a := ⟨w.heap.size + 1, 0, none⟩) (by show w.heap.size + 1 < _; omega) _) (a := ⟨w.heap.size + 1, 1, none⟩) (by show w.heap.size + 1 < _; omega) _) hb2).alloc _) ⟨w2.heap.size, 0, none⟩ 1 1 [.int .i64 x0, .int .i64 x1] rfl rfl ?c1 ?c2 ?c3 ?c4 ?c5 ?_))
        case c1 => exact cells_two _ _ _ _
        case c2 => exact fun u hu => by rcases List.mem_cons.1 hu with rfl | hu; · rfl
                                        · rcases List.mem_cons.1 hu with rfl | hu; · rfl
                                          · cases hu
        case c3 => unfold maxLen; omega
        case c4 => omega
        case c5 => have h1 := hX3.lt; rw [World.size_alloc]; omega
        intro v3 w3 hown3 hgrow _
        have hX4 : CX w d i v (x0, x1) w3 := hX3.beyond ((((Below.refl _ w2).alloc (by have := hX3.lt; omega) _).grown hgrow (by rw [World.size_alloc]; have := hX3.lt; omega) (fun k hk => (hown.lt k hk).1)))
        rw [← hcrs.out] at hown3
        clear hgrow hb1 hb2 hX hX1 hX2 hX3 hown c0 c1 g0 g1 c2 c3 c4 c5 y0 y1 z0 z1 hnx hie hcrs
        go_wp2
        go_roundw
        case rel => exact ⟨k + 1, by omega, by go_num, by rw [hps.out]; exact hX4, hown3, ⟨all_succ (p := fun j => ((d.acid i).fwd j).1 ≤ ((d.acid i).fwd j).2) hall.out hyes.out⟩⟩
        case measure => simp [intOf]; omega
    · have hkd : k = d.dn := by omega
      have hcan : (d.acid i).can d.dn := fun j hj => hall.out j (by omega)
      subst hkd
      obtain ⟨g, cap, rfl, hgB, hgl⟩ := row_slice hown hdn1
      have hR : RX w d i v g d.dn (d.acid i).fwd wr := ⟨hX.f, cat_of_row hown, hgl⟩
      have hk7 : ¬ (d.dn : Int) < d.hours := by have := hho.out; omega
      obtain ⟨⟨q0, q1, q2, q3, q4, q5⟩, q6, q7, _, _⟩ := id hX.f
      clear hown hX hall
      have hend0 : ∀ j, j < d.dn → d.dn ≤ j + 1 + 0 → (d.acid i).fwd j = (d.acid i).ends d.dn j := by
        intro j hj hj2
        obtain rfl : j = d.dn - 1 := by omega
        exact (Acid.ends_last _ _ hdn1).symm
      have hend0 : Hdn _ := ⟨hend0⟩
      have hd12' : d.hours ≤ 12 := by have := hho.out; omega
      have hd1' : 1 ≤ d.hours := by have := hho.out; omega
      go_wp2_with fail
      go_loopw [31] (fun i' wr2 => ∃ m : Nat, m + 1 ≤ d.dn ∧ i' = .int .i64 m ∧ ∃ r, RX w d i v g d.dn r wr2 ∧ Hdn (∀ j, j < d.dn → d.dn ≤ j + 1 + m → r j = (d.acid i).ends d.dn j) ∧ Hdn (∀ j, j < d.dn → j + 1 + m < d.dn → r j = (d.acid i).fwd j)) (fun i' _ => d.dn - (intOf i').toNat)
      case atStart => exact ⟨0, by omega, rfl, _, hR, hend0, ⟨fun _ _ _ => rfl⟩⟩
      case round =>
        obtain ⟨m, hm1, rfl, r, hX2, hhi, hlo⟩ := hrel
        have hm0 : (0 : Int) ≤ (m : Int) := Int.natCast_nonneg _
        have hho2 := hho.out
        have hd12 : d.hours ≤ 12 := by omega
        have hd1 : 1 ≤ d.hours := by omega
        clear q0 q1 q2 q3 q4 q5 q6 q7 hR
        obtain ⟨⟨q0, q1, q2, q3, q4, q5⟩, q6, q7, _, _⟩ := id hX2.f
        by_cases hlt2 : m + 1 < d.dn
        · have hm2 : (m : Int) < d.hours - 1 := by omega
          obtain ⟨h, hh⟩ : ∃ h, d.dn = m + 2 + h := ⟨d.dn - 2 - m, by omega⟩
          have hidx : d.hours - 2 - (m : Int) = (h : Int) := by omega
          have hh0 : (0 : Int) ≤ (h : Int) := Int.natCast_nonneg _
          have hh12 : (h : Int) ≤ 12 := by omega
          have hhn : h < d.dn := by omega
          have hh1 : h + 1 < d.dn := by omega
          have hhi1 : (h : Int) < (d.dn : Int) := by omega
          have hhi2 : (h : Int) + 1 < (d.dn : Int) := by omega
          have hhi3 : (0 : Int) ≤ (h : Int) + 1 := by omega
          have hw1 : Hdn (IntKind.i64.wrap ((h : Int) + 1) = (h : Int) + 1) := ⟨IntWalk.i64_in _ (by omega)⟩
          have hw2 : Hdn (((h : Int) + 1).toNat = h + 1) := ⟨by omega⟩
          have hsm1 := Acid.ends_small hsm hcan hdn2 hh1
          have hst : Hdn ((d.acid i).ends d.dn h = (max ((d.acid i).fwd h).1 ((d.acid i).back (h+1) ((d.acid i).ends d.dn (h+1))).1, min ((d.acid i).fwd h).2 ((d.acid i).back (h+1) ((d.acid i).ends d.dn (h+1))).2)) := ⟨Acid.ends_step _ _ _ hh1⟩
          have hr1 := hhi.out (h + 1) hh1 (by omega)
          have hr0 := hlo.out h hhn (by omega)
          obtain ⟨E, hE⟩ : ∃ E, (d.acid i).ends d.dn (h+1) = E := ⟨_, rfl⟩
          obtain ⟨X, hXe⟩ : ∃ X, (d.acid i).fwd h = X := ⟨_, rfl⟩
          rw [hE] at hst hsm1 hr1
          rw [hXe] at hst hr0
          have hbk := fun (W : World) (hD : DIn W d) => back_any d i v (h + 1) E.1 E.2 W hok hD hi hh1 (by omega) (by omega)
          rw [show ((h + 1 : Nat) : Int) = (h : Int) + 1 by omega] at hbk
          clear hE hXe hsm1
          obtain ⟨B, hBe⟩ : ∃ B, (d.acid i).back (h+1) E = B := ⟨_, rfl⟩
          obtain ⟨y0, y1⟩ := E
          obtain ⟨x0, x1⟩ := X
          (try dsimp only at hbk hst)
          rw [hBe] at hst hbk
          clear hBe
          obtain ⟨z0', z1'⟩ := B
          (try dsimp only at hbk hst)
          have hco := fun W => common_any x0 x1 z0' z1' W
          obtain ⟨X0, hX0⟩ : ∃ X, max x0 z0' = X := ⟨_, rfl⟩
          obtain ⟨X1, hX1⟩ : ∃ X, min x1 z1' = X := ⟨_, rfl⟩
          rw [hX0, hX1] at hco hst
          clear hX0 hX1
          have hrh : Hdn (r h = (x0, x1)) := ⟨hr0⟩
          have hrh1 : Hdn (r (h + 1) = (y0, y1)) := ⟨hr1⟩
          have hhH : Hdn (d.dn = m + 2 + h) := ⟨hh⟩
          clear hr0 hr1 hho2 hh
          go_wp2_with fail
          clear hidx
          refine wp_region_late [17] (fun _ => True) (fun w9 => RX w d i v g d.dn r w9) (by kernel_rfl) ?_ (fun hHeld => ?_)
          · exact ⟨trivial, hX2.drew⟩
          have hH := hHeld.2
          generalize wr.drew = V5 at hH hHeld ⊢
          refine tk1 0 rfl hHeld ?_
          refine tk1 1 rfl hHeld ?_
          refine tk1 2 rfl hHeld ?_
          refine tk1 3 rfl hHeld ?_
          refine tk1 4 rfl hHeld ?_
          refine tkT 5 1 rfl (waits_one [] (by kernel_rfl)) (by intro w9 hSw; have hS := hSw.2; clear hSw; (have z := (hS.row.c h hhn).1; have z2 := (hS.row.c h hhn).2; rw [hrh.out] at z z2; (try dsimp only at z z2); clear hS; go_simp) <;> with_reducible rfl) hHeld ?_
          refine tkT 6 1 rfl (waits_one [] (by kernel_rfl)) (by intro w9 hSw; have hS := hSw.2; clear hSw; (have z0 := hS.f.at'.k0; have z1 := hS.f.at'.k1; have z2 := hS.f.at'.k2; have z3 := hS.f.at'.k3; have z4 := hS.f.at'.k4; have z5 := hS.f.at'.k5; have z6 := hS.f.k6; have z7 := hS.f.k7; clear hS; go_simp) <;> with_reducible rfl) hHeld ?_
          refine tk1 7 rfl hHeld ?_
          refine tk2 8 (v := .int .i64 ((h : Int) + 1)) rfl (by intro w9 hSw; have hS := hSw; clear hSw; have hq := hw1.out; clear hS; (go_simp) <;> with_reducible rfl) hHeld ?_
          refine tk1 9 rfl hHeld ?_
          refine tk1 10 rfl hHeld ?_
          refine tk2 11 (v := .int .i64 ((h : Int) + 1)) rfl (by intro w9 hSw; have hS := hSw; clear hSw; have hq := hw1.out; clear hS; (go_simp) <;> with_reducible rfl) hHeld ?_
          refine tk2 12 (v := .pointer (some ⟨g, (h + 1) * 2, none⟩)) rfl (by intro w9 hSw; have hS := hSw; clear hSw; have hq := hw2.out; clear hS; (go_simp) <;> with_reducible rfl) hHeld ?_
          refine tkT 13 1 rfl (waits_one [] (by kernel_rfl)) (by intro w9 hSw; have hS := hSw.2; clear hSw; (have z := (hS.row.c (h + 1) hh1).1; have z2 := (hS.row.c (h + 1) hh1).2; rw [hrh1.out] at z z2; (try dsimp only at z z2); clear hS; go_simp) <;> with_reducible rfl) hHeld ?_
          refine rd1 14 rfl (fun K hK => ?_)
          go_simp
          (go_at_call 149; with_reducible refine (hbk _ (hd.below hH.f.old)).mono ?_; rintro e w1 ⟨rfl, hb1⟩)
          have hH2 := hH.below hb1
          refine hK.out _ _ ?_ (fun hHeld => ?_)
          · exact ⟨trivial, hH2⟩
          clear hK K hH
          have hH := hHeld.2
          (try simp only [Act.put, xpA, xpZ, xpS])
          refine rd1 15 rfl (fun K hK => ?_)
          go_simp
          (go_at_call 122; with_reducible refine (hco _).mono ?_; rintro e w2 ⟨rfl, hb2⟩)
          have hH3 := hH.below hb2
          refine hK.out _ _ ?_ (fun hHeld => ?_)
          · exact ⟨trivial, hH3⟩
          clear hK K hH
          have hH := hHeld.2
          (try simp only [Act.put, xpA, xpZ, xpS])
          refine tk1 16 rfl hHeld ?_
          refine rdL 17 rfl (fun K hK => ?_)
          have c0 := (hH.row.c h hhn).1
          have c1 := (hH.row.c h hhn).2
          have z0 := hH.row.z (h * 2)
          have z1 := hH.row.z (h * 2 + 1)
          go_simp
          clear c0 c1 z0 z1
          refine hK.out _ _ ?_ (fun _ => ?_)
          · trivial
          clear hK K
          (try simp only [Act.put, xpA, xpZ, xpS])
          refine wpAnyP_done (by kernel_rfl) ?_ _
          (try simp only [Act.put, List.getElem_toArray, List.getElem_cons_zero, List.getElem_cons_succ, xpA, xpZ, xpS])
          have hQ := hH.put hgB h hhn X0 X1
          generalize (w2.setCell ⟨g, h * 2, none⟩ (.int .i64 X0)).setCell ⟨g, h * 2 + 1, none⟩ (.int .i64 X1) = W7 at hQ ⊢
          clear hH hX2 hbk hco q0 q1 q2 q3 q4 q5 q6 q7
          go_wp2
          go_roundw
          case rel =>
            have hh := hhH.out
            refine ⟨m + 1, by omega, by go_num, _, hQ, ⟨fun j hj hj2 => ?_⟩, ⟨fun j hj hj2 => ?_⟩⟩
            · by_cases hjk : j = h
              · rw [if_pos hjk, hjk, hst.out]
              · rw [if_neg hjk]; exact hhi.out j hj (by omega)
            · rw [if_neg (by omega)]; exact hlo.out j hj (by omega)
          case measure => simp [intOf]; omega
        · have hm2 : ¬ (m : Int) < d.hours - 1 := by omega
          have hfe : ∀ j, j < d.dn → r j = (d.acid i).ends d.dn j := fun j hj => hhi.out j hj (by omega)
          have hfin := hX2.row.congr hfe
          have hfl := hX2.lt
          have hfo := hX2.f.old
          clear hX2 hhi hlo hfe
          clear hho2 hd12 hd1
          go_wp2
          refine bodyPost_ret (v := .slice (some ⟨g, 0, none⟩) d.dn cap) (by simp [results, Tryz.results141, go_sem]) rfl ?_
          exact .inl ⟨hcan, g, cap, rfl, by omega, hfl, hfin, hfo⟩
end Go.Proofs.YtlhgkepdoinlnaaGreatDoor
namespace Go.Proofs.YtlhgkepdoinlnaaGreatDoor
open Go.RowKit Go.Gen Go.Drum
theorem assert_contra (w : World) : (Instr.typeAssert (.iface 167 (.agg #[])) 20 167 true).run Tryz.prog w = .ok (.tuple #[.agg #[], .bool true]) w := by kernel_rfl
set_option maxRecDepth 100000 in
set_option maxHeartbeats 1000000 in
theorem catch_idle (p : Addr) (w : World) :
  CallsD Tryz.prog 129 #[.pointer (some p)] .returning w fun e u' w' => e = .returned (.tuple #[]) ∧ u' = .returning ∧ w' = w := by
 refine callsD_of_wpS Tryz.func129 rfl fun c₀ cs hu => ?_
 apply wpS_seq
 apply wpS_region
 simp [wpOpsS, go_sem, recoverD, hu, Tryz.ntmps129, Exit.thenS]
 refine wpS_of_wp ?_
 go_wp2
 simp [bodyPostS, results, Tryz.results129]
 cases c₀
 simp_all
set_option maxRecDepth 100000 in
set_option maxHeartbeats 1000000 in
theorem catch_panicking (b : Nat) (x : Int) (older : List PanicEntry) (w : World) (hb : b < w.heap.size) (hc : w.cell? ⟨b, 0, none⟩ = some (.int .i64 x)) (hz : w.frozen? ⟨b, 0, none⟩ = false) :
  CallsD Tryz.prog 129 #[.pointer (some ⟨b, 0, none⟩)] (.panicking ({ v := .iface 167 (.agg #[]), recovered := false } :: older)) w fun e u' w' =>
   e = .returned (.tuple #[]) ∧ u' = .panicking ({ v := .iface 167 (.agg #[]), recovered := true } :: older) ∧ w' = (w.setCell ⟨b, 0, none⟩ (.int .i64 7)).alloc (Obj.cells #[] 167) := by
 have ha := assert_contra
 have hc1 : (w.alloc (Obj.cells #[] 167)).cell? ⟨b, 0, none⟩ = some (.int .i64 x) := (((Below.refl _ w).alloc (Nat.le_refl _) _).cell (p := ⟨b, 0, none⟩) hb).trans hc
 have hz1 : (w.alloc (Obj.cells #[] 167)).frozen? ⟨b, 0, none⟩ = false := (((Below.refl _ w).alloc (Nat.le_refl _) _).frozen (p := ⟨b, 0, none⟩) hb).trans hz
 refine callsD_of_wpS Tryz.func129 rfl fun c₀ cs hu => ?_
 apply wpS_seq
 apply wpS_region
 simp [wpOpsS, go_sem, recoverD, hu, Tryz.ntmps129, Exit.thenS]
 refine wpS_of_wp ?_
 go_wp2
 simp [bodyPostS, results, Tryz.results129]
set_option maxRecDepth 100000 in
set_option maxHeartbeats 4000000 in
theorem attempt_ok (g : Nat) (w : World) (R : World → Prop)
  (hdo : Calls Tryz.prog 140 #[.pointer (some ⟨g, 0, none⟩)] (w.alloc (Obj.cells #[.int .i64 0] 32)) fun e w' => e = .returned (.tuple #[]) ∧ w'.cell? ⟨w.heap.size, 0, none⟩ = some (.int .i64 0) ∧ w'.frozen? ⟨w.heap.size, 0, none⟩ = false ∧ R (w'.setCell ⟨w.heap.size, 0, none⟩ (.int .i64 0))) :
  Calls Tryz.prog 104 #[.func (.func 140) #[] #[.pointer (some ⟨g, 0, none⟩)]] w fun e w' => e = .returned (.int .i64 0) ∧ R w' := by
 have hmf : ∀ (fn : Fn) (first cap : Array Value) (w : World), (Instr.makeFunc fn first cap).run Tryz.prog w = .ok (.func fn first cap) w := fun _ _ _ _ => rfl
 go_enter_defers Tryz.func104, Tryz.ntmps104
 go_wp2_with (go_at_call 140; with_reducible refine hdo.mono ?_; rintro e w2 ⟨rfl, c2, z2, hR⟩)
 have c3 : (w2.setCell ⟨w.heap.size, 0, none⟩ (.int .i64 0)).cell? ⟨w.heap.size, 0, none⟩ = some (.int .i64 0) := World.cell?_setCell_same' _ _ _ (by rw [c2]; rfl)
 generalize w2.setCell ⟨w.heap.size, 0, none⟩ (.int .i64 0) = w3 at c3 hR ⊢
 refine leaves_cons (f := 129) (args := #[.pointer (some ⟨w.heap.size, 0, none⟩)]) (by simp) (by simp [go_sem]) ?_
 refine (catch_idle ⟨w.heap.size, 0, none⟩ _).mono ?_
 rintro e u' w'' ⟨rfl, rfl, rfl⟩
 simp [Leaves, settle, results, Tryz.results104, go_sem, c3, hR]
set_option maxRecDepth 100000 in
set_option maxHeartbeats 4000000 in
theorem attempt_no (g : Nat) (w : World) (R : World → Prop)
  (hdo : Calls Tryz.prog 140 #[.pointer (some ⟨g, 0, none⟩)] (w.alloc (Obj.cells #[.int .i64 0] 32)) fun e w' => e = .panicked [{ v := .iface 167 (.agg #[]), recovered := false }] ∧ w.heap.size < w'.heap.size ∧ w'.cell? ⟨w.heap.size, 0, none⟩ = some (.int .i64 0) ∧ w'.frozen? ⟨w.heap.size, 0, none⟩ = false ∧ R ((w'.setCell ⟨w.heap.size, 0, none⟩ (.int .i64 7)).alloc (Obj.cells #[] 167))) :
  Calls Tryz.prog 104 #[.func (.func 140) #[] #[.pointer (some ⟨g, 0, none⟩)]] w fun e w' => e = .returned (.int .i64 7) ∧ R w' := by
 have hmf : ∀ (fn : Fn) (first cap : Array Value) (w : World), (Instr.makeFunc fn first cap).run Tryz.prog w = .ok (.func fn first cap) w := fun _ _ _ _ => rfl
 go_enter_defers Tryz.func104, Tryz.ntmps104
 go_wp2_with (go_at_call 140; with_reducible refine hdo.mono ?_; rintro e w2 ⟨rfl, hl, c2, z2, hR⟩)
 refine leaves_cons (f := 129) (args := #[.pointer (some ⟨w.heap.size, 0, none⟩)]) (by simp) (by simp [go_sem]) ?_
 refine (catch_panicking w.heap.size 0 [] _ hl c2 z2).mono ?_
 rintro e u' w'' ⟨rfl, rfl, rfl⟩
 have c3 : ((w2.setCell ⟨w.heap.size, 0, none⟩ (.int .i64 7)).alloc (Obj.cells #[] 167)).cell? ⟨w.heap.size, 0, none⟩ = some (.int .i64 7) := (((Below.refl _ (w2.setCell ⟨w.heap.size, 0, none⟩ (.int .i64 7))).alloc (Nat.le_refl _) _).cell (p := ⟨w.heap.size, 0, none⟩) (by rw [World.size_setCell]; exact hl)).trans (World.cell?_setCell_same' _ _ _ (by rw [c2]; rfl))
 generalize (w2.setCell ⟨w.heap.size, 0, none⟩ (.int .i64 7)).alloc (Obj.cells #[] 167) = w3 at c3 hR ⊢
 simp [Leaves, settle, results, Tryz.results104, go_sem, c3, hR]
/-- an acid in its own block. -/
structure FAt (W : World) (g : Nat) (d : Drm) (i : Int) (v : Value) : Prop where
 at' : DAt W g d
 k6 : W.cell? ⟨g, 6, none⟩ = some (.int .i64 i)
 k7 : W.cell? ⟨g, 7, none⟩ = some v
 z7 : W.frozen? ⟨g, 7, none⟩ = false
theorem FAt.far {W W' : World} {g : Nat} {d : Drm} {i : Int} {v : Value} (h : FAt W g d i v) (hh : W'.heap[g]? = W.heap[g]?) : FAt W' g d i v :=
 have c : ∀ j, W'.cell? ⟨g, j, none⟩ = W.cell? ⟨g, j, none⟩ := fun j => World.cell?_of_block hh
 ⟨⟨(c 0).trans h.at'.k0, (c 1).trans h.at'.k1, (c 2).trans h.at'.k2, (c 3).trans h.at'.k3, (c 4).trans h.at'.k4, (c 5).trans h.at'.k5⟩, (c 6).trans h.k6, (c 7).trans h.k7, (show W'.frozen? ⟨g, 7, none⟩ = W.frozen? ⟨g, 7, none⟩ by unfold World.frozen?; rw [hh]).trans h.z7⟩
theorem FAt.set7 {W : World} {g : Nat} {d : Drm} {i : Int} {v : Value} (h : FAt W g d i v) (u : Value) : FAt (W.setCell ⟨g, 7, none⟩ u) g d i u := by
 have c : ∀ j, j ≠ 7 → (W.setCell ⟨g, 7, none⟩ u).cell? ⟨g, j, none⟩ = W.cell? ⟨g, j, none⟩ := fun j hj => World.cell?_setCell_other _ _ (a := ⟨g, 7, none⟩) (b := ⟨g, j, none⟩) (by intro e; injection e with e1 e2 e3; omega)
 exact ⟨⟨(c 0 (by decide)).trans h.at'.k0, (c 1 (by decide)).trans h.at'.k1, (c 2 (by decide)).trans h.at'.k2, (c 3 (by decide)).trans h.at'.k3, (c 4 (by decide)).trans h.at'.k4, (c 5 (by decide)).trans h.at'.k5⟩, (c 6 (by decide)).trans h.k6, World.cell?_setCell_same' _ _ _ (by rw [h.k7]; rfl), by rw [World.frozen?_setCell]; exact h.z7⟩
theorem FAt.new (w : World) (d : Drm) (i : Int) (v : Value) : FAt (w.alloc (.cells #[.slice d.aa d.an d.ac, .int .i64 d.known, .int .i64 d.hours, .slice d.da d.dn d.dc, .slice d.sa d.sn d.sc, .slice d.ba d.bn d.bc, .int .i64 i, v] 97)) w.heap.size d i v :=
 ⟨⟨cells_new w _ _ rfl, cells_new w _ _ rfl, cells_new w _ _ rfl, cells_new w _ _ rfl, cells_new w _ _ rfl, cells_new w _ _ rfl⟩, cells_new w _ _ rfl, cells_new w _ _ rfl, by simp [go_sem]⟩
def Fill (d : Drm) (i g : Nat) (w : World) (e : Ending) (w' : World) : Prop :=
   ((d.acid i).can d.dn ∧ e = .returned (.tuple #[]) ∧ ∃ r cap W, w' = W.setCell ⟨g, 7, none⟩ (.slice (some ⟨r, 0, none⟩) d.dn cap) ∧ w.heap.size ≤ r ∧ r < W.heap.size ∧ CAt W r d.dn ((d.acid i).ends d.dn) ∧ Below w.heap.size w W)
   ∨ (¬ (d.acid i).can d.dn ∧ e = .panicked [{ v := .iface 167 (.agg #[]), recovered := false }] ∧ Below w.heap.size w w')
set_option maxRecDepth 100000 in
set_option maxHeartbeats 1000000 in
/-- the closure that fills in the strength. -/
theorem fill_any (d : Drm) (i : Nat) (g : Nat) (v : Value) (w : World) (hok : d.Ok) (hd : DIn w d) (hi : i < d.an) (hg : g < w.heap.size) (hF : FAt w g d i v) :
  Calls Tryz.prog 140 #[.pointer (some ⟨g, 0, none⟩)] w (Fill d i g w) := by
 obtain ⟨⟨q0, q1, q2, q3, q4, q5⟩, q6, q7, z7⟩ := id hF
 have hc := course_any d i v w hok hd hi
 by_cases hcan : (d.acid i).can d.dn
 ·have hc2 : Calls Tryz.prog 141 #[d.fil i v] w fun e w' => ∃ g cap, e = .returned (.slice (some ⟨g, 0, none⟩) d.dn cap) ∧ w.heap.size ≤ g ∧ g < w'.heap.size ∧ CAt w' g d.dn ((d.acid i).ends d.dn) ∧ Below w.heap.size w w' := hc.mono fun e w' h => by
   rcases h with ⟨_, h⟩ | ⟨h, _⟩
   ·exact h
   ·exact absurd hcan h
  clear hc
  have hcH : Hdn ((d.acid i).can d.dn) := ⟨hcan⟩
  clear hcan
  go_enter Tryz.func140, Tryz.ntmps140
  go_wp2_with (go_at_call 141; (with_reducible refine hc2.mono ?_); rintro e w1 ⟨r, cap, rfl, h1, h2, h3, hb⟩; have c7 := ((hF.far (hb.block g hg)).k7); have y7 := ((hF.far (hb.block g hg)).z7))
  go_end0
  exact .inl ⟨hcH.out, rfl, r, cap, w1, rfl, h1, h2, h3, hb⟩
 ·have hc2 : Calls Tryz.prog 141 #[d.fil i v] w fun e w' => e = .panicked [{ v := .iface 167 (.agg #[]), recovered := false }] ∧ Below w.heap.size w w' := hc.mono fun e w' h => by
   rcases h with ⟨h, _⟩ | ⟨_, h⟩
   ·exact absurd h hcan
   ·exact h
  clear hc
  have hcH : Hdn (¬ (d.acid i).can d.dn) := ⟨hcan⟩
  clear hcan
  go_enter Tryz.func140, Tryz.ntmps140
  go_wp2_with (go_at_call 141; (with_reducible refine hc2.mono ?_); rintro e w1 ⟨rfl, hb⟩)
  exact ⟨rfl, .inr ⟨hcH.out, rfl, hb⟩⟩
end Go.Proofs.YtlhgkepdoinlnaaGreatDoor
/-! A range over a function whose body goes on in every round, and reads or keeps what lies in memory at what it is handed (no program text is mentioned) -/
namespace Go
open Go.RowKit Go.Shelf
theorem below_putO' {n₀ l : Nat} {W : World} {o o' : Obj} (h : n₀ ≤ l) (ho : W.heap[l]? = some o) : Below n₀ W (W.putObj l o') :=
 (Below.refl n₀ W).grown (grownBy_putObj' W l o') (by have := (Array.getElem?_eq_some_iff.1 ho).1; omega) (fun k e => by cases e; omega)
set_option maxHeartbeats 1000000 in
/-- each round goes on, with its variable in a block of its own; what is handed over may own blocks at or behind s, where s lies behind all that the rounds before hold. -/
theorem wpIn_rangeFunc_boxed {α : Type} {F : Fence} {n : Nat} {P : Program} {g : Operand} {p : Tmp} {assign body : Code} {Q : Exit → Act → World → Prop} {a : Act} {w : World} (n₀ : Nat) (hn0 : n₀ ≤ w.heap.size)
  (hro : F.round = none) (hd : F.depth = none) {gf : Nat} {lb : Array Value} (hg : a.eval g = .func (.func gf) #[] lb) (hFg : F.fn gf) (eg : ∀ args w, (callFunc gf args).run P w = .ok (.enter gf args) w)
  (C : α → Value → Nat → World → Prop) (S : List α → Prop) (N : Nat) (I : List α → Nat → World → Prop)
  (hiter : ∀ (l : Nat) (W1 : World) (J : List α → Nat → World → Prop), Below n₀ w W1 → w.heap.size + 2 ≤ W1.heap.size →
   (∀ pre s W W', J pre s W → Below s W W' → J pre s W') →
   (∀ m pre x v s W, J pre s W → s ≤ W.heap.size → w.heap.size + 2 ≤ s → C x v s W → pre.length < N → YieldAt F m P l #[v] W fun e W' => e = .returned (.bool true) ∧ J (pre ++ [x]) W'.heap.size W' ∧ Below n₀ W W') →
   J [] W1.heap.size W1 →
   CallsIn F (n - 1) P gf (#[.func (.yield l) #[] #[]] ++ lb) W1 fun e W' => (∃ v, e = .returned v) ∧ ∃ xs s, S xs ∧ s ≤ W'.heap.size ∧ J xs s W' ∧ Below n₀ W1 W')
  (hI : ∀ pre s W W', I pre s W → Below s W W' → I pre s W')
  (hIm : ∀ pre s s' W, s ≤ s' → I pre s W → I pre s' W)
  (hIp : ∀ pre s W l (o o' : Obj), w.heap.size ≤ l → W.heap[l]? = some o → o.isCells = false → o'.isCells = false → I pre s W → I pre s (W.putObj l o'))
  (hCp : ∀ x v s W l (o o' : Obj), W.heap[l]? = some o → o.isCells = false → o'.isCells = false → C x v s W → C x v s (W.putObj l o'))
  (h0 : I [] w.heap.size w)
  (hCb : ∀ x v s W W', C x v s W → Below W.heap.size W W' → C x v s W')
  (a₁ : α → Nat → Act) (ob : α → Obj)
  (hassign : ∀ (l m : Nat) (x : α) (v : Value) (s : Nat) (W : World) (K : Act → World → Prop), C x v s W → K (a₁ x W.heap.size) (W.alloc (ob x)) →
   assign.wpIn (F.inRound l) m P (Exit.then K (fun _ _ _ => False)) { tmps := a.tmps.setIfInBounds p v, defers := [] } W)
  (hbody : ∀ (l m : Nat) (pre : List α) (x : α) (v : Value) (s b : Nat) (W : World), I pre s W → s ≤ b → b < W.heap.size → W.heap[b]? = some (ob x) → w.heap.size + 2 ≤ s → Below n₀ w W → C x v s W → pre.length < N →
   body.wpIn (F.inRound l) m P (fun e _ W3 => e = .normal ∧ Below n₀ W W3 ∧ KeepsOthers W W3 ∧ I (pre ++ [x]) W3.heap.size W3) (a₁ x b) W)
  (hdone : ∀ (D : Nat) (xs : List α) (s : Nat) (W : World), w.heap.size ≤ D → S xs → s ≤ W.heap.size → I xs s W → Below n₀ w W → W.heap[D]? = some (.deferred (some [])) → Q .normal { a with defers := { target := .collected D, args := #[] } :: a.defers } W) :
  (Code.rangeFunc g #[p] assign body).wpIn F n P Q a w := by
 refine wpIn_rangeFunc ?_
 intro fn hfn
 rw [hro]
 obtain ⟨rec, hrec⟩ : ∃ rec : LoopState → Option Code → Loop, rec = fun st pe => { state := st, pending := pe, fn, tmps := a.tmps, params := #[p], assign, body, defers := w.heap.size } := ⟨_, rfl⟩
 obtain ⟨W1, hW1⟩ : ∃ W1, (w.alloc (.deferred (some []))).alloc (.loop (rec .ready none)) = W1 := ⟨_, rfl⟩
 have hz1 : W1.heap.size = w.heap.size + 2 := by rw [← hW1, World.size_alloc, World.size_alloc]
 have hL1 : W1.heap[w.heap.size + 1]? = some (.loop (rec .ready none)) := by
  rw [← hW1]; have := World.alloc_heap_new (w.alloc (.deferred (some []))) (.loop (rec .ready none)); rwa [World.size_alloc] at this
 have hK1 : W1.heap[w.heap.size]? = some (.deferred (some [])) := by
  rw [← hW1]; exact (Below.heap_alloc _ _ _ (by simp)).trans (World.alloc_heap_new w _)
 have hb1 : Below w.heap.size w W1 := by
  rw [← hW1]; exact ((Below.refl _ w).alloc (Nat.le_refl _) _).alloc (by simp) _
 refine ⟨w.heap.size + 1, [{ target := .collected w.heap.size, args := #[] }], W1, { target := .fn (.func gf) lb, args := #[.func (.yield (w.heap.size + 1)) #[] #[]] }, W1, gf,
  #[.func (.yield (w.heap.size + 1)) #[] #[]] ++ lb, W1, ?_, ?_, ?_, ?_, (fun h => by rw [hd] at h; cases h), ?_⟩
 ·rw [← hW1, hrec]; exact run_enterLoop_outer _ _ _ _ _
 ·simp only [resolve, hg]
  simp [go_sem]
 ·intro f' hf'; simp [Target.leads] at hf'; subst hf'; exact hFg
 ·simp [invoke, go_sem, eg]
 ·refine (hiter (w.heap.size + 1) W1 (fun pre s W => w.heap.size + 2 ≤ s ∧ I pre s W ∧ Below n₀ w W ∧ W.heap[w.heap.size + 1]? = some (.loop (rec .ready none)) ∧ W.heap[w.heap.size]? = some (.deferred (some [])))
   (hb1.mono hn0) (by omega) ?_ ?_ ?_).mono ?_
  ·rintro pre s W W' ⟨h1, h2, h3, h4, h5⟩ hB
   exact ⟨h1, hI pre s W W' h2 hB, h3.trans (hB.mono (by omega)), (hB.block _ (by omega)).trans h4, (hB.block _ (by omega)).trans h5⟩
  ·rintro m pre x v s W ⟨h1, hi, hbw, hl, hk⟩ hs hs2 hc hlen
   have hlt : w.heap.size + 1 < W.heap.size := (Array.getElem?_eq_some_iff.1 hl).1
   have hy := run_yield (P := P) (args := #[v]) hl (by rw [hrec]; rfl)
   rw [hrec] at hy
   have hz : ((#[p] : Array Tmp).zip #[v]).foldl (fun (tmps : Array Value) (x : Tmp × Value) => tmps.setIfInBounds x.1 x.2) a.tmps = a.tmps.setIfInBounds p v := by simp
   refine ⟨fn, a.tmps.setIfInBounds p v, assign, body, hy.trans (by rw [← hz]), roundIn_of_wpIn hfn ?_⟩
   refine hassign _ m x v s W _ hc ?_
   have hbA : Below W.heap.size W (W.alloc (ob x)) := (Below.refl _ _).alloc (Nat.le_refl _) _
   have hzA : (W.alloc (ob x)).heap.size = W.heap.size + 1 := World.size_alloc _ _
   have hnA : (W.alloc (ob x)).heap[W.heap.size]? = some (ob x) := World.alloc_heap_new W _
   have hbn : s ≤ W.heap.size := hs
   have hB0 : W.heap.size < (W.alloc (ob x)).heap.size := by omega
   replace hi := hI pre s W _ hi (hbA.mono hs)
   replace hc := hCb x v s W _ hc hbA
   replace hl := (hbA.block _ hlt).trans hl
   replace hk := (hbA.block _ (by omega)).trans hk
   replace hlt : w.heap.size + 1 < (W.alloc (ob x)).heap.size := by omega
   have hbAw : Below n₀ W (W.alloc (ob x)) := hbA.mono (by omega)
   replace hbw := hbw.trans hbAw
   clear hy hs
   obtain ⟨b0, hb0⟩ : ∃ b, W.heap.size = b := ⟨_, rfl⟩
   rw [hb0] at hB0 hnA hbn ⊢
   generalize W.alloc (ob x) = WA at *
   refine ⟨_, run_beginRound hl (by rw [hrec]), ?_⟩
   obtain ⟨W2, hW2⟩ : ∃ W2, WA.putObj (w.heap.size + 1) (.loop { rec .ready none with state := .busy }) = W2 := ⟨_, rfl⟩
   rw [hW2]
   have hz2 : W2.heap.size = WA.heap.size := by rw [← hW2]; exact World.putObj_size
   have hl2 : W2.heap[w.heap.size + 1]? = some (.loop { rec .ready none with state := .busy }) := by rw [← hW2]; exact World.putObj_heap_same hlt
   have ho2 : ∀ k, k ≠ w.heap.size + 1 → W2.heap[k]? = WA.heap[k]? := fun k hk => by rw [← hW2]; exact World.putObj_heap_other hk
   have hb2 : Below n₀ WA W2 := by rw [← hW2]; exact below_putO' (by omega) hl
   have hi2 : I pre s W2 := by rw [← hW2]; exact hIp pre s WA _ _ _ (by omega) hl rfl rfl hi
   have hc2 : C x v s W2 := by rw [← hW2]; exact hCp x v s WA _ _ _ hl rfl rfl hc
   refine wpIn_mono (hbody _ m pre x v s b0 W2 hi2 hbn (by omega) ((ho2 _ (by omega)).trans hnA) h1 (hbw.trans hb2) hc2 hlen) ?_
   rintro e a3 W3 ⟨rfl, hb3, hk3, hi3⟩
   have hl3 : W3.heap[w.heap.size + 1]? = some (.loop { rec .ready none with state := .busy }) := hk3.same _ _ hl2 rfl
   have hd3 : W3.heap[w.heap.size]? = some (.deferred (some [])) := hk3.same _ _ ((ho2 _ (by omega)).trans hk) rfl
   have hr := run_endRound (P := P) none hl3
   have hz4 : (W3.putObj (w.heap.size + 1) (.loop (rec .ready none))).heap.size = W3.heap.size := World.putObj_size
   have hsz3 := hb3.size
   have hb4 : Below n₀ W3 (W3.putObj (w.heap.size + 1) (.loop (rec .ready none))) := below_putO' (by omega) hl3
   have hw4 : W3.putObj (w.heap.size + 1) (.loop (rec .ready none)) = W3.putObj (w.heap.size + 1) (Obj.loop { state := LoopState.ready, pending := none, fn, tmps := a.tmps, params := #[p], assign, body, defers := w.heap.size }) := by rw [hrec]
   refine ⟨_, W3.putObj (w.heap.size + 1) (.loop (rec .ready none)), ?_, rfl, ⟨by omega, ?_, ((hbw.trans hb2).trans hb3).trans hb4, World.putObj_heap_same (by omega), (World.putObj_heap_other (by omega)).trans hd3⟩, ((hbAw.trans hb2).trans hb3).trans hb4⟩
   ·rw [hrec] at hr ⊢; exact hr
   ·rw [hz4]; exact hIp _ _ W3 _ _ _ (by omega) hl3 rfl rfl hi3
  ·exact ⟨by omega, hIm [] w.heap.size W1.heap.size W1 (by omega) (hI [] w.heap.size w W1 h0 hb1), hb1.mono hn0, hL1, hK1⟩
  ·rintro e W2 ⟨⟨v, rfl⟩, xs, s, hS, hs, ⟨h1, hi, hbw, hl, hk⟩, hB⟩
   refine ⟨none, _, by have := run_endLoop (P := P) hl (by rw [hrec]; simp); rw [hrec] at this; exact this, hdone _ xs s _ (Nat.le_refl _) hS (by rw [World.putObj_size]; exact hs) (hIp _ _ _ _ _ _ (by omega) hl rfl rfl hi) (hbw.trans (below_putO' (by omega) hl)) ((World.putObj_heap_other (by omega)).trans hk)⟩
end Go
namespace Go.Proofs.YtlhgkepdoinlnaaGreatDoor
open Go.RowKit Go.Gen Go.Drum Go.Shelf
attribute [local go_sem] Oper.semAt_some
/-- an acid that is possible, and where its strengths lie. -/
structure Ch where
 acid : Nat
 r : Nat
 cap : Nat
@[reducible] def Ch.val (d : Drm) (x : Ch) : Value := d.fil x.acid (.slice (some ⟨x.r, 0, none⟩) d.dn x.cap)
def Drm.poss (d : Drm) (i : Nat) : Prop := bitB d.known i = true ∧ (d.acid i).can d.dn
/-- the acids below a number that are possible. -/
def CouldTo (d : Drm) : Nat → List Nat → Prop
 | 0, l => l = []
 | k+1, l => (d.poss k ∧ ∃ l', CouldTo d k l' ∧ l = l' ++ [k]) ∨ (¬ d.poss k ∧ CouldTo d k l)
theorem CouldTo.same {d : Drm} : ∀ {k : Nat} {l m : List Nat}, CouldTo d k l → CouldTo d k m → l = m
 | 0, _, _, h1, h2 => by unfold CouldTo at h1 h2; rw [h1, h2]
 | k+1, _, _, h1, h2 => by
  unfold CouldTo at h1 h2
  rcases h1 with ⟨p1, l', h1, rfl⟩ | ⟨p1, h1⟩ <;> rcases h2 with ⟨p2, m', h2, rfl⟩ | ⟨p2, h2⟩
  ·rw [CouldTo.same h1 h2]
  ·exact absurd p1 p2
  ·exact absurd p2 p1
  ·exact CouldTo.same h1 h2
theorem CouldTo.mem {d : Drm} : ∀ {k : Nat} {l : List Nat}, CouldTo d k l → ∀ i, i ∈ l ↔ i < k ∧ d.poss i
 | 0, _, h, i => by unfold CouldTo at h; subst h; simp
 | k+1, _, h, i => by
  unfold CouldTo at h
  rcases h with ⟨p, l', h, rfl⟩ | ⟨p, h⟩
  ·rw [List.mem_append, CouldTo.mem h i, List.mem_singleton]
   constructor
   ·rintro (⟨h1, h2⟩ | rfl)
    ·exact ⟨by omega, h2⟩
    ·exact ⟨by omega, p⟩
   ·rintro ⟨h1, h2⟩
    by_cases hik : i = k
    ·exact .inr hik
    ·exact .inl ⟨by omega, h2⟩
  ·rw [CouldTo.mem h i]
   constructor
   ·rintro ⟨h1, h2⟩; exact ⟨by omega, h2⟩
   ·rintro ⟨h1, h2⟩
    by_cases hik : i = k
    ·subst hik; exact absurd h2 p
    ·exact ⟨by omega, h2⟩
theorem CouldTo.length_le {d : Drm} : ∀ {k : Nat} {l : List Nat}, CouldTo d k l → l.length ≤ k
 | 0, _, h => by unfold CouldTo at h; subst h; simp
 | k+1, _, h => by
  unfold CouldTo at h
  rcases h with ⟨p, l', h, rfl⟩ | ⟨p, h⟩
  ·have := CouldTo.length_le h; simp; omega
  ·have := CouldTo.length_le h; omega
/-- what an acid that is handed over owns. -/
structure ChC (d : Drm) (x : Ch) (v : Value) (s : Nat) (W : World) : Prop where
 v : v = x.val d
 lo : s ≤ x.r
 hi : x.r < W.heap.size
 row : CAt W x.r d.dn ((d.acid x.acid).ends d.dn)
 lt : x.acid < d.an
theorem ChC.below {d : Drm} {x : Ch} {v : Value} {s : Nat} {W W' : World} (h : ChC d x v s W) (hb : Below W.heap.size W W') : ChC d x v s W' :=
 ⟨h.v, h.lo, Nat.lt_of_lt_of_le h.hi hb.size, h.row.below hb h.hi, h.lt⟩
def AtOk (d : Drm) (i g : Nat) (W : World) (e : Ending) (w' : World) : Prop := e = .returned (.int .i64 0) ∧ ∃ r cap, FAt w' g d i (.slice (some ⟨r, 0, none⟩) d.dn cap) ∧ W.heap.size ≤ r ∧ r < w'.heap.size ∧ CAt w' r d.dn ((d.acid i).ends d.dn) ∧ Below g W w'
theorem attempt_can (d : Drm) (i g : Nat) (v : Value) (w : World) (hok : d.Ok) (hd : DIn w d) (hi : i < d.an) (hg : g < w.heap.size) (hF : FAt w g d i v) (hcan : (d.acid i).can d.dn) :
  Calls Tryz.prog 104 #[.func (.func 140) #[] #[.pointer (some ⟨g, 0, none⟩)]] w (AtOk d i g w) := by
 refine attempt_ok g w (fun w' => ∃ r cap, FAt w' g d i (.slice (some ⟨r, 0, none⟩) d.dn cap) ∧ w.heap.size ≤ r ∧ r < w'.heap.size ∧ CAt w' r d.dn ((d.acid i).ends d.dn) ∧ Below g w w') ?_
 have hb3 : Below w.heap.size w (w.alloc (Obj.cells #[.int .i64 0] 32)) := (Below.refl _ _).alloc (Nat.le_refl _) _
 have c3 : (w.alloc (Obj.cells #[.int .i64 0] 32)).cell? ⟨w.heap.size, 0, none⟩ = some (.int .i64 0) := cells_new w _ _ rfl
 have f3 : (w.alloc (Obj.cells #[.int .i64 0] 32)).frozen? ⟨w.heap.size, 0, none⟩ = false := by simp [go_sem]
 have hz3 : (w.alloc (Obj.cells #[.int .i64 0] 32)).heap.size = w.heap.size + 1 := World.size_alloc _ _
 generalize w.alloc (Obj.cells #[.int .i64 0] 32) = W3 at *
 refine (fill_any d i g v W3 hok (hd.below hb3) hi (by omega) (hF.far (hb3.block g hg))).mono ?_
 rintro e w' (⟨_, rfl, r, cap, W, rfl, h1, h2, h3, hb⟩ | ⟨h, _⟩)
 ·have hne : w.heap.size ≠ g := by omega
  have hblk : (W.setCell ⟨g, 7, none⟩ (.slice (some ⟨r, 0, none⟩) d.dn cap)).heap[w.heap.size]? = W3.heap[w.heap.size]? := (Below.heap_setCell W ⟨g, 7, none⟩ _ w.heap.size hne).trans (hb.block _ (by omega))
  refine ⟨rfl, (World.cell?_of_block hblk).trans c3, (show World.frozen? _ _ = World.frozen? W3 _ by unfold World.frozen?; rw [hblk]).trans f3, r, cap, ?_, by omega, by rw [World.size_setCell, World.size_setCell]; exact h2, ?_, ?_⟩
  ·have hF2 : FAt W g d i v := (hF.far (hb3.block g hg)).far (hb.block g (by omega))
   exact (hF2.set7 _).far (Below.heap_setCell _ ⟨w.heap.size, 0, none⟩ _ g (by show g ≠ w.heap.size; omega))
  ·exact (h3.far (Below.heap_setCell W ⟨g, 7, none⟩ _ r (by show r ≠ g; omega))).far (Below.heap_setCell _ ⟨w.heap.size, 0, none⟩ _ r (by show r ≠ w.heap.size; omega))
  ·have h4 : Below g w W := (hb3.mono (by omega)).trans (hb.mono (by omega))
   exact (h4.setCell (p := ⟨g, 7, none⟩) (Nat.le_refl _) _).setCell (p := ⟨w.heap.size, 0, none⟩) (by show g ≤ w.heap.size; omega) _
 ·exact absurd hcan h
theorem attempt_cant (d : Drm) (i g : Nat) (v : Value) (w : World) (hok : d.Ok) (hd : DIn w d) (hi : i < d.an) (hg : g < w.heap.size) (hF : FAt w g d i v) (hcan : ¬ (d.acid i).can d.dn) :
  Calls Tryz.prog 104 #[.func (.func 140) #[] #[.pointer (some ⟨g, 0, none⟩)]] w fun e w' => e = .returned (.int .i64 7) ∧ Below w.heap.size w w' := by
 refine attempt_no g w (fun w' => Below w.heap.size w w') ?_
 have hb3 : Below w.heap.size w (w.alloc (Obj.cells #[.int .i64 0] 32)) := (Below.refl _ _).alloc (Nat.le_refl _) _
 have c3 : (w.alloc (Obj.cells #[.int .i64 0] 32)).cell? ⟨w.heap.size, 0, none⟩ = some (.int .i64 0) := cells_new w _ _ rfl
 have f3 : (w.alloc (Obj.cells #[.int .i64 0] 32)).frozen? ⟨w.heap.size, 0, none⟩ = false := by simp [go_sem]
 have hz3 : (w.alloc (Obj.cells #[.int .i64 0] 32)).heap.size = w.heap.size + 1 := World.size_alloc _ _
 generalize w.alloc (Obj.cells #[.int .i64 0] 32) = W3 at *
 refine (fill_any d i g v W3 hok (hd.below hb3) hi (by omega) (hF.far (hb3.block g hg))).mono ?_
 rintro e w' (⟨h, _⟩ | ⟨_, rfl, hb⟩)
 ·exact absurd h hcan
 ·have hblk : w'.heap[w.heap.size]? = W3.heap[w.heap.size]? := hb.block _ (by omega)
  have hs := hb.size
  have h4 : Below w.heap.size w (w'.setCell ⟨w.heap.size, 0, none⟩ (.int .i64 7)) := ((hb3.trans (hb.mono (by omega))).setCell (p := ⟨w.heap.size, 0, none⟩) (Nat.le_refl _) _)
  exact ⟨rfl, by omega, (World.cell?_of_block hblk).trans c3, (show World.frozen? _ _ = World.frozen? W3 _ by unfold World.frozen?; rw [hblk]).trans f3, h4.alloc h4.size _⟩
/-- what stands behind the iterator. -/
def Went (d : Drm) (n0 : Nat) (W1 : World) (J : List Ch → Nat → World → Prop) (e : Ending) (W' : World) : Prop := (∃ v, e = .returned v) ∧ ∃ xs s, CouldTo d d.an (xs.map Ch.acid) ∧ s ≤ W'.heap.size ∧ J xs s W' ∧ Below n0 W1 W'
set_option maxRecDepth 100000 in
set_option maxHeartbeats 4000000 in
/-- possible as an iterator. -/
theorem poss_iter (n : Nat) (d : Drm) (bd S0 : Nat) (w : World) (hok : d.Ok) (hd : DIn w d) (hD : DAt w bd d) (hbl : bd < w.heap.size) (l : Nat) (W1 : World) (J : List Ch → Nat → World → Prop)
  (hW1 : Below w.heap.size w W1) (hS0 : w.heap.size ≤ S0) (hsz : S0 + 2 ≤ W1.heap.size) (hJ : ∀ pre s W W', J pre s W → Below s W W' → J pre s W')
  (hY : ∀ m pre x v s W, J pre s W → s ≤ W.heap.size → S0 + 2 ≤ s → ChC d x v s W → pre.length < 4 → YieldAt Fence.wide m Tryz.prog l #[v] W fun e W' => e = .returned (.bool true) ∧ J (pre ++ [x]) W'.heap.size W' ∧ Below w.heap.size W W')
  (h0 : J [] W1.heap.size W1) :
  CallsIn Fence.wide n Tryz.prog 139 (#[.func (.yield l) #[] #[]] ++ #[.pointer (some ⟨bd, 0, none⟩)]) W1 (Went d w.heap.size W1 J) := by
 have han := hok.acids
 obtain ⟨han1, han2⟩ := han
 have hkn : 1 ≤ d.known ∧ d.known < 16 := by
  have h1 := hok.known
  have h2 : d.an = 1 ∨ d.an = 2 ∨ d.an = 3 ∨ d.an = 4 := by omega
  rcases h2 with h | h | h | h <;> rw [h] at h1 <;> omega
 have hD1 : DAt W1 bd d := hD.below hW1 hbl
 have q0 := hD1.k0
 show CallsIn _ _ _ _ #[.func (.yield l) #[] #[], .pointer (some ⟨bd, 0, none⟩)] _ _
 refine callsIn_of_wp Tryz.func139 rfl trivial ?_ rfl
 simp only [Tryz.ntmps139, List.size_toArray, List.length_cons, List.length_nil, Nat.reduceAdd, Nat.reduceSub, Array.replicate_succ, Array.replicate_zero, List.push_toArray, List.append_toArray, List.nil_append, List.cons_append]
 gi_wp2
 gi_loopw [8] (fun i wr => ∃ (k : Nat) (xs : List Ch) (s : Nat), k ≤ d.an ∧ i = .int .i64 k ∧ CouldTo d k (xs.map Ch.acid) ∧ J xs s wr ∧ s ≤ wr.heap.size ∧ S0 + 2 ≤ s ∧ Below w.heap.size W1 wr) (fun i _ => d.an - (intOf i).toNat)
 case atStart => exact ⟨0, [], _, Nat.zero_le _, rfl, rfl, h0, Nat.le_refl _, hsz, Below.refl _ _⟩
 case round =>
  obtain ⟨k, xs, s, hk5, rfl, hxs, hJs, hss, hs2, hB⟩ := hrel
  have hk6 : (0 : Int) ≤ (k : Int) := Int.natCast_nonneg _
  have hBw := hW1.trans hB
  obtain ⟨q0, q1, q2, q3, q4, q5⟩ := (hD1.below hB hbl)
  by_cases hlt : k < d.an
  ·have hk7 : (k : Int) < (d.an : Int) := by omega
   have hk77 : (k : Int) < 4 := by omega
   have hlen : xs.length < 4 := by have := CouldTo.length_le hxs; rw [List.length_map] at this; omega
   obtain ⟨W0, hW0⟩ : ∃ W, wr.alloc (.cells #[.slice d.aa d.an d.ac, .int .i64 d.known, .int .i64 d.hours, .slice d.da d.dn d.dc, .slice d.sa d.sn d.sc, .slice d.ba d.bn d.bc, .int .i64 k, .slice none 0 0] 97) = W := ⟨_, rfl⟩
   obtain ⟨_, _, c70, z70⟩ : FAt W0 wr.heap.size d k (.slice none 0 0) := by rw [← hW0]; exact FAt.new wr d k _
   obtain ⟨W2, hW2⟩ : ∃ W, W0.setCell ⟨wr.heap.size, 7, none⟩ (.slice none 0 0) = W := ⟨_, rfl⟩
   have hF : FAt W2 wr.heap.size d k (.slice none 0 0) := by rw [← hW2, ← hW0]; exact (FAt.new wr d k _).set7 _
   have hb2 : Below wr.heap.size wr W2 := by rw [← hW2, ← hW0]; exact ((Below.refl _ _).alloc (Nat.le_refl _) _).setCell (p := ⟨wr.heap.size, 7, none⟩) (Nat.le_refl _) _
   have hz2 : wr.heap.size < W2.heap.size := by rw [← hW2, ← hW0, World.size_setCell, World.size_alloc]; omega
   have hkw := isKnown_any d k (.slice none 0 0) W2 hkn (by omega)
   obtain ⟨⟨p0, p1, p2, p3, p4, p5⟩, p6, p7, _⟩ := id hF
   cases hbit : bitB d.known k with
   | false =>
    rw [hbit] at hkw
    have hno : ¬ d.poss k := fun h => by have := h.1; rw [hbit] at this; cases this
    have hxs2 : CouldTo d (k + 1) (xs.map Ch.acid) := .inr ⟨hno, hxs⟩
    clear hno hxs hbit
    gi_wp2_with (refine ⟨trivial, fun h => (by cases h), ?_⟩; gi_at_call 62; (with_reducible refine (callsIn_wide.2 hkw).mono ?_); rintro e w3 ⟨rfl, hb3⟩; have hb4 := hb2.trans (hb3.mono (by omega)); have hsz4 := hb4.size)
    refine ⟨trivial, ?_⟩
    gi_wp2
    go_roundw
    case rel => exact ⟨k + 1, xs, s, by omega, by go_num, hxs2, hJ _ _ _ _ hJs (hb4.mono hss), by omega, hs2, hB.trans (hb4.mono hBw.size)⟩
    case measure => simp [intOf]; omega
   | true =>
    rw [hbit] at hkw
    have hmf : ∀ (fn : Fn) (first cap : Array Value) (w : World), (Instr.makeFunc fn first cap).run Tryz.prog w = .ok (.func fn first cap) w := fun _ _ _ _ => rfl
    by_cases hcan : (d.acid k).can d.dn
    ·have hxs2 : ∀ r cap, CouldTo d (k + 1) ((xs ++ [(⟨k, r, cap⟩ : Ch)]).map Ch.acid) := fun r cap => .inl ⟨⟨hbit, hcan⟩, _, hxs, by rw [List.map_append]; rfl⟩
     have hat := fun (W : World) (hB2 : Below w.heap.size w W) (hg : wr.heap.size < W.heap.size) (hF : FAt W wr.heap.size d k (.slice none 0 0)) => attempt_can d k wr.heap.size (.slice none 0 0) W hok (hd.below hB2) hlt hg hF hcan
     clear hxs hbit hcan
     gi_wp2_with (first
      | (refine ⟨trivial, fun h => (by cases h), ?_⟩; gi_at_call 62; (with_reducible refine (callsIn_wide.2 hkw).mono ?_); rintro e w3 ⟨rfl, hb3⟩; have hb4 := hb2.trans (hb3.mono (by omega)); have hsz4 := hb3.size; have hF3 := hF.far (hb3.block _ hz2))
      | (refine ⟨trivial, fun h => (by cases h), ?_⟩; gi_at_call 104; (with_reducible refine (callsIn_wide.2 (hat _ (hBw.trans (hb4.mono hBw.size)) (by omega) hF3)).mono ?_); rintro e w4 ⟨rfl, r, cap, hF4, hr1, hr2, hr3, hb5⟩; obtain ⟨⟨p0, p1, p2, p3, p4, p5⟩, p6, p7, _⟩ := id hF4))
     have hb6 : Below wr.heap.size wr w4 := hb4.trans hb5
     have hsz6 := hb6.size
     have hC : ChC d ⟨k, r, cap⟩ (.agg #[.slice d.aa d.an d.ac, .int .i64 d.known, .int .i64 d.hours, .slice d.da d.dn d.dc, .slice d.sa d.sn d.sc, .slice d.ba d.bn d.bc, .int .i64 k, .slice (some ⟨r, 0, none⟩) d.dn cap]) s w4 := ⟨rfl, by (try dsimp only); omega, hr2, hr3, hlt⟩
     obtain ⟨fn, tmps, assign, body, hy, hR⟩ := hY (n - 1) xs ⟨k, r, cap⟩ (.agg #[.slice d.aa d.an d.ac, .int .i64 d.known, .int .i64 d.hours, .slice d.da d.dn d.dc, .slice d.sa d.sn d.sc, .slice d.ba d.bn d.bc, .int .i64 k, .slice (some ⟨r, 0, none⟩) d.dn cap]) s w4 (hJ _ _ _ _ hJs (hb6.mono hss)) (by omega) hs2 hC hlen
     rw [hy]
     gi_wp2
     refine ⟨fun h => (by cases h), hR.mono ?_⟩
     rintro e w5 ⟨rfl, hJ5, hb7⟩
     have hb8 := (hB.trans (hb6.mono hBw.size)).trans hb7
     have hs8 := hb7.size
     gi_wp2
     go_roundw
     case rel => exact ⟨k + 1, _, _, by omega, by go_num, hxs2 r cap, hJ5, Nat.le_refl _, by omega, hb8⟩
     case measure => simp [intOf]; omega
    ·have hno : ¬ d.poss k := fun h => hcan h.2
     have hxs2 : CouldTo d (k + 1) (xs.map Ch.acid) := .inr ⟨hno, hxs⟩
     have hat := fun (W : World) (hB2 : Below w.heap.size w W) (hg : wr.heap.size < W.heap.size) (hF : FAt W wr.heap.size d k (.slice none 0 0)) => attempt_cant d k wr.heap.size (.slice none 0 0) W hok (hd.below hB2) hlt hg hF hcan
     clear hno hxs hbit hcan
     gi_wp2_with (first
      | (refine ⟨trivial, fun h => (by cases h), ?_⟩; gi_at_call 62; (with_reducible refine (callsIn_wide.2 hkw).mono ?_); rintro e w3 ⟨rfl, hb3⟩; have hb4 := hb2.trans (hb3.mono (by omega)); have hsz4 := hb3.size; have hF3 := hF.far (hb3.block _ hz2))
      | (refine ⟨trivial, fun h => (by cases h), ?_⟩; gi_at_call 104; (with_reducible refine (callsIn_wide.2 (hat _ (hBw.trans (hb4.mono hBw.size)) (by omega) hF3)).mono ?_); rintro e w4 ⟨rfl, hb5⟩; have hb6 := hb4.trans (hb5.mono (by omega)); have hsz6 := hb6.size))
     go_roundw
     case rel => exact ⟨k + 1, xs, s, by omega, by go_num, hxs2, hJ _ _ _ _ hJs (hb6.mono hss), by omega, hs2, hB.trans (hb6.mono hBw.size)⟩
     case measure => simp [intOf]; omega
  ·have hkd : k = d.an := by omega
   have hk8 : ¬ (k : Int) < (d.an : Int) := by omega
   rw [hkd] at hxs
   clear hkd
   gi_wp2
   go_end0
   exact ⟨⟨_, rfl⟩, xs, s, hxs, hss, hJs, hB⟩
end Go.Proofs.YtlhgkepdoinlnaaGreatDoor
