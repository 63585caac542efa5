/- A part of the proof: see the last file. -/
import Derived.Test.YtbgjocgjmjkneaaGreatDoorPbi
import Derived.Test.YtbgjocgjmjkneaaGreatDoorPbh
import Derived.Test.YtbgjocgjmjkneaaGreatDoorPan
import Derived.Test.YtbgjocgjmjkneaaGreatDoorPao
import Derived.Test.YtbgjocgjmjkneaaGreatDoorPap
import Derived.Test.YtbgjocgjmjkneaaGreatDoorPaa
set_option linter.unusedVariables false
set_option linter.unusedSimpArgs false
set_option linter.unusedSectionVars false
namespace Go.Proofs.YtbgjocgjmjkneaaGreatDoor
open Go.RowKit Go.Can
theorem MX.two {w W : World} {m : Mach} {a1 : Option Addr} {n1 c1 : Nat} {a2 : Option Addr} {n2 c2 : Nat} (h : MX w W m a1 n1 c1 a2 n2 c2) (o1 o2 : Obj) : MX w ((W.alloc o1).alloc o2) m a1 n1 c1 a2 n2 c2 :=
  (h.below ((Below.refl _ W).alloc (Nat.le_refl _) o1)).below ((Below.refl _ _).alloc (Nat.le_refl _) o2)
end Go.Proofs.YtbgjocgjmjkneaaGreatDoor
namespace Go.Proofs.YtbgjocgjmjkneaaGreatDoor
open Go.RowKit Go.Can
/-- two spans in blocks of their own. -/
structure AB (W : World) (s : Nat) (x0 x1 z0 z1 : Int) : Prop where
  a0 : W.cell? ⟨s, 0, none⟩ = some (.int .i64 x0)
  a1 : W.cell? ⟨s, 1, none⟩ = some (.int .i64 x1)
  b0 : W.cell? ⟨s + 1, 0, none⟩ = some (.int .i64 z0)
  b1 : W.cell? ⟨s + 1, 1, none⟩ = some (.int .i64 z1)
  big : s + 2 ≤ W.heap.size
theorem AB.new (w : World) (x0 x1 z0 z1 : Int) (t : TypeId) : AB ((w.alloc (Obj.cells #[.int .i64 x0, .int .i64 x1] t)).alloc (Obj.cells #[.int .i64 z0, .int .i64 z1] t)) w.heap.size x0 x1 z0 z1 := by
  have hb : Below (w.alloc (Obj.cells #[.int .i64 x0, .int .i64 x1] t)).heap.size (w.alloc (Obj.cells #[.int .i64 x0, .int .i64 x1] t)) ((w.alloc (Obj.cells #[.int .i64 x0, .int .i64 x1] t)).alloc (Obj.cells #[.int .i64 z0, .int .i64 z1] t)) := (Below.refl _ _).alloc (Nat.le_refl _) _
  have hs := World.size_alloc w (Obj.cells #[.int .i64 x0, .int .i64 x1] t)
  refine ⟨?_, ?_, ?_, ?_, by rw [World.size_alloc, World.size_alloc]; omega⟩
  · exact (hb.cell (p := ⟨w.heap.size, 0, none⟩) (by show w.heap.size < _; omega)).trans (cells_new w _ _ rfl)
  · exact (hb.cell (p := ⟨w.heap.size, 1, none⟩) (by show w.heap.size < _; omega)).trans (cells_new w _ _ rfl)
  · have := cells_new (w.alloc (Obj.cells #[.int .i64 x0, .int .i64 x1] t)) #[.int .i64 z0, .int .i64 z1] t (j := 0) rfl
    rw [hs] at this; exact this
  · have := cells_new (w.alloc (Obj.cells #[.int .i64 x0, .int .i64 x1] t)) #[.int .i64 z0, .int .i64 z1] t (j := 1) rfl
    rw [hs] at this; exact this
theorem AB.below {W W' : World} {s : Nat} {x0 x1 z0 z1 : Int} (h : AB W s x0 x1 z0 z1) (hb : Below W.heap.size W W') : AB W' s x0 x1 z0 z1 :=
  have hg := h.big
  ⟨(hb.cell (p := ⟨s, 0, none⟩) (by show s < _; omega)).trans h.a0, (hb.cell (p := ⟨s, 1, none⟩) (by show s < _; omega)).trans h.a1, (hb.cell (p := ⟨s + 1, 0, none⟩) (by show s + 1 < _; omega)).trans h.b0, (hb.cell (p := ⟨s + 1, 1, none⟩) (by show s + 1 < _; omega)).trans h.b1, Nat.le_trans h.big hb.size⟩
end Go.Proofs.YtbgjocgjmjkneaaGreatDoor
namespace Go.Proofs.YtbgjocgjmjkneaaGreatDoor
open Go.RowKit
theorem PoR.two {w W : World} {m : Mach} (h : PoR w m W) (o1 o2 : Obj) : PoR w m ((W.alloc o1).alloc o2) :=
  (h.below ((Below.refl _ W).alloc (Nat.le_refl _) o1)).below ((Below.refl _ _).alloc (Nat.le_refl _) o2)
theorem AB.two {W : World} {s : Nat} {x0 x1 z0 z1 : Int} (h : AB W s x0 x1 z0 z1) (o1 o2 : Obj) : AB ((W.alloc o1).alloc o2) s x0 x1 z0 z1 :=
  (h.below ((Below.refl _ W).alloc (Nat.le_refl _) o1)).below ((Below.refl _ _).alloc (Nat.le_refl _) o2)
theorem PoR.new (w : World) (m : Mach) : PoR w m (w.alloc (.cells #[.slice m.sa m.sn m.sc, .int .i64 m.c0, .int .i64 m.c1, .int .i64 m.d0, .int .i64 m.d1, .int .i64 m.w0, .int .i64 m.w1, .int .i64 m.v0, .int .i64 m.v1, .slice m.ra m.rn m.rc] 33)) :=
  ⟨MAt.new w m, (Below.refl _ _).alloc (Nat.le_refl _) _, by rw [World.size_alloc]; omega⟩
set_option maxRecDepth 100000 in
set_option maxHeartbeats 4000000 in
theorem able_any (m : Mach) (er : Int) (hA : Able m true er) (w : World) (hs : m.sn ≤ 1000) (hr : m.rn ≤ 1000) (h : MIn w m) :
    Calls Tryz.prog 11 #[m.val] w fun e w' => e = .returned (.int .i64 er) ∧ Below w.heap.size w w' := by
  obtain ⟨W0, hW⟩ : ∃ W0, w.alloc (.cells #[.slice m.sa m.sn m.sc, .int .i64 m.c0, .int .i64 m.c1, .int .i64 m.d0, .int .i64 m.d1, .int .i64 m.w0, .int .i64 m.w1, .int .i64 m.v0, .int .i64 m.v1, .slice m.ra m.rn m.rc] 33) = W0 := ⟨_, rfl⟩
  have hX : PoR w m W0 := by rw [← hW]; exact PoR.new w m
  have hma := fun (W : World) (hB : Below w.heap.size w W) => rmachine_any m W (by omega) (by omega) (h.below hB)
  obtain ⟨q0, q1, q2, q3, q4, q5, q6, q7, q8, q9⟩ := id hX.mat
  cases hok : m.ok with
  | false =>
    obtain rfl := hA.arg (by rw [hok]; rfl)
    rw [hok] at hma
    go_enter Tryz.func11, Tryz.ntmps11
    go_wp2_with (go_at_call 18; with_reducible refine (hma _ hX.old).mono ?_; rintro e w1 ⟨rfl, hb⟩; replace hX := hX.below hb)
    go_ret
    exact ⟨rfl, hX.old⟩
  | true =>
    rw [hok] at hma
    obtain ⟨b, hb, hp⟩ := rpossible_b m hok
    have hpo := fun (W : World) (hB : Below w.heap.size w W) => hp W (h.below hB)
    cases b with
    | false =>
      obtain rfl := hA.rule (by rw [hok]; rfl) (fun hc => by have := hb.2 hc; cases this)
      clear hp hb
      go_enter Tryz.func11, Tryz.ntmps11
      go_wp2_with (first
        | (go_at_call 18; with_reducible refine (hma _ hX.old).mono ?_; rintro e w1 ⟨rfl, hb⟩; replace hX := hX.below hb; obtain ⟨q0, q1, q2, q3, q4, q5, q6, q7, q8, q9⟩ := id hX.mat)
        | (go_at_call 52; with_reducible refine (hpo _ hX.old).mono ?_; rintro e w2 ⟨rfl, hb⟩; replace hX := hX.below hb))
      go_ret
      exact ⟨rfl, hX.old⟩
    | true =>
      obtain rfl := hA.ok (by rw [hok]; rfl) (hb.1 rfl)
      clear hp hb
      go_enter Tryz.func11, Tryz.ntmps11
      go_wp2_with (first
        | (go_at_call 18; with_reducible refine (hma _ hX.old).mono ?_; rintro e w1 ⟨rfl, hb⟩; replace hX := hX.below hb; obtain ⟨q0, q1, q2, q3, q4, q5, q6, q7, q8, q9⟩ := id hX.mat)
        | (go_at_call 52; with_reducible refine (hpo _ hX.old).mono ?_; rintro e w2 ⟨rfl, hb⟩; replace hX := hX.below hb))
      go_ret
      exact ⟨rfl, hX.old⟩
end Go.Proofs.YtbgjocgjmjkneaaGreatDoor
namespace Go.Proofs.YtbgjocgjmjkneaaGreatDoor
open Go.RowKit Go.Can
/-! ### Match, case by case -/
end Go.Proofs.YtbgjocgjmjkneaaGreatDoor
namespace Go.Proofs.YtbgjocgjmjkneaaGreatDoor
open Go.RowKit
end Go.Proofs.YtbgjocgjmjkneaaGreatDoor
namespace Go.Proofs.YtbgjocgjmjkneaaGreatDoor
open Go.RowKit
set_option maxRecDepth 100000 in
theorem few_any (a : Option Addr) (n c : Nat) (r : Int) (w : World) (hn : n ≤ 9223372036854775807) : Calls Tryz.prog 7 #[.agg #[.slice a n c, .int .i64 r]] w fun e w' => e = .returned (.bool (decide (n ≤ 6))) ∧ Below w.heap.size w w' := by
  go_enter Tryz.func7, Tryz.ntmps7
  have h : decide ((n : Int) ≤ 6) = decide (n ≤ 6) := by by_cases h : n ≤ 6 <;> simp [h] <;> omega
  go_wp2
  go_ret
  exact ⟨rfl, (Below.refl _ _).alloc (Nat.le_refl _) _⟩
set_option maxRecDepth 100000 in
theorem rbutton_any (a1 : Option Addr) (n c1 : Nat) (X Y : Nat → Int) (r : Int) (w : World) (hn : n ≤ 1000) (hp : PSl w (.slice a1 n c1) n X Y) : Calls Tryz.prog 12 #[.agg #[.slice a1 n c1, .int .i64 r]] w fun e w' => e = .returned (.bool (butB n X Y r)) ∧ Below w.heap.size w w' := by
  obtain ⟨W0, hW0⟩ : ∃ W0, w.alloc (Obj.cells #[.slice a1 n c1, .int .i64 r] 25) = W0 := ⟨_, rfl⟩
  have hb0 : Below w.heap.size w W0 := by rw [← hW0]; exact (Below.refl _ _).alloc (Nat.le_refl _) _
  have hsz : W0.heap.size = w.heap.size + 1 := by rw [← hW0, World.size_alloc]
  have c0 : W0.cell? ⟨w.heap.size, 0, none⟩ = some (.slice a1 n c1) := by rw [← hW0]; exact cells_new w _ _ rfl
  have c1' : W0.cell? ⟨w.heap.size, 1, none⟩ = some (.int .i64 r) := by rw [← hW0]; exact cells_new w _ _ rfl
  have hpo := points_any (.slice a1 n c1) n 2 4 X Y 80 (by omega) (by omega) W0 hn (hp.below hb0)
  have hwi := fun (W : World) => in_any r 0 4 W
  unfold butB
  rw [arB_pon2]
  generalize ponB n 2 4 X Y 80 = x at hpo ⊢
  generalize inB r 0 4 = y at hwi ⊢
  go_enter Tryz.func12, Tryz.ntmps12
  cases x
  · go_wp2_with (first | (go_at_call 53; with_reducible refine hpo.mono ?_; rintro e w1 ⟨rfl, rfl⟩))
    go_ret
    exact ⟨rfl, hb0⟩
  · go_wp2_with (first | (go_at_call 53; with_reducible refine hpo.mono ?_; rintro e w1 ⟨rfl, rfl⟩) | (go_at_call 54; with_reducible refine (hwi _).mono ?_; rintro e w8 ⟨rfl, rfl⟩))
    go_ret
    exact ⟨rfl, hb0⟩
/-- a list of blanks in memory. -/
def IRow (w : World) (v : Value) (l : List Nat) : Prop := (l = [] ∧ ∃ a c, v = .slice a 0 c) ∨ ∃ g c, v = .slice (some ⟨g, 0, none⟩) l.length c ∧ g < w.heap.size ∧ ∀ i (h : i < l.length), w.cell? ⟨g, i, none⟩ = some (.int .i64 ((l[i] : Nat) : Int))
theorem IRow.below {w w' : World} {v : Value} {l : List Nat} (h : IRow w v l) (hb : Below w.heap.size w w') : IRow w' v l := by
  rcases h with h | ⟨g, c, h1, h2, h3⟩
  · exact .inl h
  · exact .inr ⟨g, c, h1, Nat.lt_of_lt_of_le h2 hb.size, fun i hi => (hb.cell (p := ⟨g, i, none⟩) h2).trans (h3 i hi)⟩
end Go.Proofs.YtbgjocgjmjkneaaGreatDoor
namespace Go.Proofs.YtbgjocgjmjkneaaGreatDoor
open Go.RowKit Go.Can
theorem ints_own {w : World} {B : Nat} {v : Value} {l : List Nat} (h : w.ownsRow B 3 1 v l.length (iCells l)) : ISl w v l.length (fun i => ((l.getD i 0 : Nat) : Int)) := by
  obtain ⟨_, ⟨e, h0⟩ | ⟨g, cap, cur, rfl, hB, hh, hc, hm, _, hx⟩⟩ := id h
  · exact .inl ⟨e, h0⟩
  · have hg : g < w.heap.size := (Array.getElem?_eq_some_iff.1 hh).1
    refine .inr ⟨g, 0, cap, rfl, hg, fun i hi => ?_⟩
    rw [Nat.zero_add]
    refine (h.cellAt i (by omega)).trans ?_
    unfold iCells
    dsimp only
    rw [List.getElem?_map, List.getElem?_eq_getElem hi, List.getD_eq_getElem?_getD, List.getElem?_eq_getElem hi]
    rfl
theorem same_ownL (v u : Value) (l : List Nat) (B1 B2 : Nat) (w : World) (hn : l.length ≤ 1000) (h1 : w.ownsRow B1 3 1 v l.length (iCells l)) (h2 : w.ownsRow B2 3 1 u l.length (iCells l)) :
    Calls Tryz.prog 14 #[v, u] w fun e w' => e = .returned (.bool true) ∧ Below w.heap.size w w' := by
  have k1 := ints_own h1
  have k2 := ints_own h2
  rcases k1 with ⟨rfl, h0⟩ | ⟨b, off, cap, rfl, hb, hI⟩
  · rcases k2 with ⟨rfl, _⟩ | ⟨b2, off2, cap2, rfl, hb2, hI2⟩
    · exact (same_none w).mono fun e w' ⟨he, hw⟩ => ⟨he, by subst hw; exact Below.refl _ _⟩
    · rw [h0]
      exact (same_l _ cap2 w).mono fun e w' ⟨he, hw⟩ => ⟨he, by subst hw; exact Below.refl _ _⟩
  · rcases k2 with ⟨rfl, h0⟩ | ⟨b2, off2, cap2, rfl, hb2, hI2⟩
    · rw [h0]
      exact (same_r _ cap w).mono fun e w' ⟨he, hw⟩ => ⟨he, by subst hw; exact Below.refl _ _⟩
    · exact same_some b off l.length cap b2 off2 cap2 _ w (by omega) hI hI2
theorem could_bn (m : Mach) (a1 : Option Addr) (bn c1 : Nat) (r : Int) (HX HY : Nat → Int) (w : World) (hbn : bn = m.sn) (hn : m.sn ≤ 1000) (hr : m.rn ≤ 9223372036854775807) (h : MIn w m) (hp : PSl w (.slice a1 bn c1) bn HX HY) (hok : m.ok = true) (hc : m.can) (hbu : butB bn HX HY r = true)
    (sg : Nat → Bool) (hsg : ∀ k, k ≤ 12 → (sg k = false ↔ ∀ x y, InBox (m.axX.ends k).1 (m.axX.ends k).2 (m.axY.ends k).1 (m.axY.ends k).2 x y → agreeB m.sn HX HY m.SX m.SY r x y = false)) :
    Calls Tryz.prog 13 #[m.val, .agg #[.slice a1 bn c1, .int .i64 r]] w fun e w' => ∃ v : Value, e = .returned (.tuple #[v, .int .i64 0]) ∧ w'.ownsRow w.heap.size 3 1 v (blanksTo sg 12).length (iCells (blanksTo sg 12)) ∧ Below w.heap.size w w' := by
  subst hbn
  exact Could_ok a1 c1 r HX HY m w hn hr hp h hok hc hbu sg hsg
theorem able_ex (m : Mach) (fine : Bool) : ∃ er, Able m fine er := by
  by_cases h : (m.ok && fine) = true
  · by_cases hc : m.can
    · exact ⟨0, ⟨fun a => (by rw [h] at a; cases a), fun _ b => absurd hc b, fun _ _ => rfl⟩⟩
    · exact ⟨7, ⟨fun a => (by rw [h] at a; cases a), fun _ _ => rfl, fun _ b => absurd b hc⟩⟩
  · exact ⟨2, ⟨fun _ => rfl, fun a => absurd a h, fun a => absurd a h⟩⟩
theorem Able.which {m : Mach} {fine : Bool} {er : Int} (h : Able m fine er) : (er = 2 ∧ (m.ok && fine) = false) ∨ (er = 7 ∧ (m.ok && fine) = true ∧ ¬ m.can) ∨ (er = 0 ∧ (m.ok && fine) = true ∧ m.can) := by
  cases hf : (m.ok && fine) with
  | false => exact .inl ⟨h.arg hf, rfl⟩
  | true =>
    by_cases hc : m.can
    · exact .inr (.inr ⟨h.ok hf hc, rfl, hc⟩)
    · exact .inr (.inl ⟨h.rule hf hc, rfl, hc⟩)
open Classical in
theorem sg_ex (M : Nat → Mach) (HX HY : Nat → Int) (r : Int) : ∃ sg : Nat → Nat → Bool, ∀ i k, (sg i k = false ↔ ∀ x y, InBox ((M i).axX.ends k).1 ((M i).axX.ends k).2 ((M i).axY.ends k).1 ((M i).axY.ends k).2 x y → agreeB (M i).sn HX HY (M i).SX (M i).SY r x y = false) :=
  ⟨fun i k => if (∀ x y, InBox ((M i).axX.ends k).1 ((M i).axX.ends k).2 ((M i).axY.ends k).1 ((M i).axY.ends k).2 x y → agreeB (M i).sn HX HY (M i).SX (M i).SY r x y = false) then false else true, fun i k => by
    constructor
    · intro h
      dsimp only at h
      split at h
      · assumption
      · cases h
    · intro h
      dsimp only
      rw [if_pos h]⟩
/-- the error that is wanted, by the first machines. -/
def WI (e2 : Nat → Int) (j : Nat) (wv : Int) : Prop := (wv = 0 ∧ ∀ k, k < j → e2 k = 0) ∨ (wv = 7 ∧ (∃ k, k < j ∧ e2 k = 7) ∧ ∀ k, k < j → e2 k ≠ 2) ∨ (wv = 2 ∧ ∃ k, k < j ∧ e2 k = 2)
theorem WI.zero (e2 : Nat → Int) : WI e2 0 0 := .inl ⟨rfl, fun k h => absurd h (Nat.not_lt_zero k)⟩
theorem WI.two {e2 : Nat → Int} {j : Nat} {wv : Int} (_ : WI e2 j wv) (h : e2 j = 2) : WI e2 (j + 1) 2 := .inr (.inr ⟨rfl, j, by omega, h⟩)
theorem lt_cases {P : Nat → Prop} {j : Nat} (h : ∀ k, k < j → P k) (hj : P j) : ∀ k, k < j + 1 → P k := fun k hk =>
  (Nat.lt_or_eq_of_le (Nat.le_of_lt_succ hk)).elim (h k) (fun e => by rw [e]; exact hj)
theorem WI.seven {e2 : Nat → Int} {j : Nat} (h : WI e2 j 0) (h7 : e2 j = 7) : WI e2 (j + 1) 7 := by
  rcases h with ⟨_, h⟩ | ⟨h, _⟩ | ⟨h, _⟩
  · exact .inr (.inl ⟨rfl, ⟨j, by omega, h7⟩, lt_cases (P := fun k => e2 k ≠ 2) (fun k hk => by rw [h k hk]; decide) (by show e2 j ≠ 2; rw [h7]; decide)⟩)
  · exact absurd h (by decide)
  · exact absurd h (by decide)
theorem WI.stay7 {e2 : Nat → Int} {j : Nat} {wv : Int} (h : WI e2 j wv) (hw : wv ≠ 0) (h7 : e2 j = 7) : WI e2 (j + 1) wv := by
  rcases h with ⟨h, _⟩ | ⟨h, ⟨k, h1, h2⟩, h3⟩ | ⟨h, k, h1, h2⟩
  · exact absurd h hw
  · exact .inr (.inl ⟨h, ⟨k, by omega, h2⟩, lt_cases (P := fun k => e2 k ≠ 2) h3 (by show e2 j ≠ 2; rw [h7]; decide)⟩)
  · exact .inr (.inr ⟨h, k, by omega, h2⟩)
theorem WI.stay0 {e2 : Nat → Int} {j : Nat} {wv : Int} (h : WI e2 j wv) (h0 : e2 j = 0) : WI e2 (j + 1) wv := by
  rcases h with ⟨h, h1⟩ | ⟨h, ⟨k, h1, h2⟩, h3⟩ | ⟨h, k, h1, h2⟩
  · exact .inl ⟨h, lt_cases (P := fun k => e2 k = 0) h1 h0⟩
  · exact .inr (.inl ⟨h, ⟨k, by omega, h2⟩, lt_cases (P := fun k => e2 k ≠ 2) h3 (by show e2 j ≠ 2; rw [h0]; decide)⟩)
  · exact .inr (.inr ⟨h, k, by omega, h2⟩)
/-- what Who is to return. -/
def WR (w w' : World) (n : Nat) (M : Nat → Mach) (fit : Nat → Bool) (P : Nat → Bool) (wa : Option Addr) (wn wc : Nat) (E : Int) : Prop :=
  (E = 2 ∧ wn = 0 ∧ (4 < n ∨ ∃ i, i < n ∧ fit i = false)) ∨
  (E = 7 ∧ wn = 0 ∧ n ≤ 4 ∧ (∀ i, i < n → fit i = true) ∧ ∃ i, i < n ∧ ¬ (M i).can) ∨
  (E = 0 ∧ n ≤ 4 ∧ (∀ i, i < n → fit i = true) ∧ (∀ i, i < n → (M i).can) ∧ w'.ownsRow w.heap.size 3 1 (.slice wa wn wc) (whoL P n).length (iCells (whoL P n)))
theorem Who_all (b off n lc : Nat) (M : Nat → Mach) (a1 : Option Addr) (bn c1 : Nat) (r : Int) (HX HY : Nat → Int) (sg : Nat → Nat → Bool) (w : World) (hn1 : 1 ≤ n) (hn4 : n ≤ 6) (hbn : bn ≤ 1000) (hM : MLs w b off n M) (hsz : ∀ i, i < n → (M i).sn ≤ 1000 ∧ (M i).rn ≤ 1000)
    (hp : PSl w (.slice a1 bn c1) bn HX HY)
    (hsg : ∀ i, i < n → ∀ k, k ≤ 12 → (sg i k = false ↔ ∀ x y, InBox ((M i).axX.ends k).1 ((M i).axX.ends k).2 ((M i).axY.ends k).1 ((M i).axY.ends k).2 x y → agreeB (M i).sn HX HY (M i).SX (M i).SY r x y = false)) :
    Calls Tryz.prog 10 #[.slice (some ⟨b, off, none⟩) n lc, .agg #[.slice a1 bn c1, .int .i64 r]] w fun e w' => ∃ wa wn wc E, e = .returned (.tuple #[.slice wa wn wc, .int .i64 E]) ∧ Hid (WR w w' n M (fun i => fitB8 bn HX HY r (M i)) (seenB sg) wa wn wc E) ∧ Below w.heap.size w w' := by
  by_cases h4 : n ≤ 4
  · refine (Who_some b off n lc M a1 bn c1 r HX HY sg w hn1 h4 hbn hM hsz hp hsg).mono ?_
    rintro e w' ⟨hb, ⟨h1, rfl⟩ | ⟨h1, h2, rfl⟩ | ⟨h1, h2, v, rfl, h3⟩⟩
    · exact ⟨none, 0, 0, 2, rfl, ⟨.inl ⟨rfl, rfl, .inr h1⟩⟩, hb⟩
    · exact ⟨none, 0, 0, 7, rfl, ⟨.inr (.inl ⟨rfl, rfl, h4, h1, h2⟩)⟩, hb⟩
    · obtain ⟨va, vc, rfl⟩ := ownsRow_slice h3
      exact ⟨va, _, vc, 0, rfl, ⟨.inr (.inr ⟨rfl, h4, h1, h2, h3⟩)⟩, hb⟩
  · refine (Who_odd _ n lc a1 bn c1 r w (by omega) (by omega)).mono ?_
    rintro e w' ⟨rfl, hb⟩
    exact ⟨none, 0, 0, 2, rfl, ⟨.inl ⟨rfl, rfl, .inl (by omega)⟩⟩, hb⟩
/-- what Who returns is what is wanted. -/
theorem WR.wanted {w w' : World} {n : Nat} {M : Nat → Mach} {fit fine : Nat → Bool} {P : Nat → Bool} {wa : Option Addr} {wn wc : Nat} {E wv : Int} {e2 : Nat → Int} (h : WR w w' n M fit P wa wn wc E) (hW : WI e2 n wv) (hA : ∀ i, i < n → Able (M i) (fine i) (e2 i)) (hf : ∀ i, i < n → fit i = ((M i).ok && fine i)) (hn : n ≤ 4) :
    (wv ≠ 0 ∧ E = wv ∧ wn = 0) ∨ (wv = 0 ∧ E = 0 ∧ (∀ i, i < n → fit i = true) ∧ (∀ i, i < n → (M i).can) ∧ w'.ownsRow w.heap.size 3 1 (.slice wa wn wc) (whoL P n).length (iCells (whoL P n))) := by
  rcases h with ⟨h1, h2, h3⟩ | ⟨h1, h2, _, h3, i, h4, h5⟩ | ⟨h1, _, h3, h4, h5⟩
  · rcases h3 with h3 | ⟨i, hi, h3⟩
    · omega
    · rw [hf i hi] at h3
      have he := (hA i hi).arg h3
      rcases hW with ⟨_, h⟩ | ⟨_, _, h⟩ | ⟨h, _⟩
      · have := h i hi; omega
      · exact absurd he (h i hi)
      · exact .inl ⟨by omega, by omega, h2⟩
  · have hfi := h3 i h4
    rw [hf i h4] at hfi
    have he := (hA i h4).rule hfi h5
    rcases hW with ⟨_, h⟩ | ⟨h, _⟩ | ⟨_, k, hk, h⟩
    · have := h i h4; omega
    · exact .inl ⟨by omega, by omega, h2⟩
    · have hfk := h3 k hk
      rw [hf k hk] at hfk
      rcases (hA k hk).which with ⟨_, h8⟩ | ⟨h8, _⟩ | ⟨h8, _⟩
      · rw [hfk] at h8; cases h8
      · omega
      · omega
  · have hz : ∀ k, k < n → e2 k = 0 := fun k hk => by
      have hfk := h3 k hk
      rw [hf k hk] at hfk
      exact (hA k hk).ok hfk (h4 k hk)
    rcases hW with ⟨h, _⟩ | ⟨_, ⟨k, hk, h⟩, _⟩ | ⟨_, k, hk, h⟩
    · exact .inr ⟨h, h1, h3, h4, h5⟩
    · have := hz k hk; omega
    · have := hz k hk; omega
set_option maxRecDepth 100000 in
set_option maxHeartbeats 16000000 in
theorem coulds_some (b off n lc : Nat) (M : Nat → Mach) (a1 : Option Addr) (bn c1 : Nat) (r : Int) (HX HY : Nat → Int) (w : World) (hkg : KG w) (hn1 : 1 ≤ n) (hn6 : n ≤ 6) (hbn6 : bn ≤ 6) (hM : MLs w b off n M) (hsz0 : ∀ i, i < n → (M i).sn ≤ 9223372036854775807 ∧ (M i).rn ≤ 9223372036854775807)
    (hp : PSl w (.slice a1 bn c1) bn HX HY) :
    Calls Tryz.prog 3 #[.slice (some ⟨b, off, none⟩) n lc, .agg #[.slice a1 bn c1, .int .i64 r]] w fun e w' => e = .returned (.bool true) ∧ Below w.heap.size w w' := by
  obtain ⟨sg, hsg⟩ := sg_ex M HX HY r
  obtain ⟨e1f, he1f⟩ := Classical.axiomOfChoice (fun i => able_ex (M i) true)
  obtain ⟨e2f, he2f⟩ := Classical.axiomOfChoice (fun i => able_ex (M i) (butB bn HX HY r && decide (bn = (M i).sn)))
  obtain ⟨W0, hW0⟩ : ∃ W0, w.alloc (Obj.cells #[.slice a1 bn c1, .int .i64 r] 25) = W0 := ⟨_, rfl⟩
  have hB0 : Below w.heap.size w W0 := by rw [← hW0]; exact (Below.refl _ _).alloc (Nat.le_refl _) _
  have hs0' : Hid (W0.heap.size = w.heap.size + 1) := ⟨by rw [← hW0]; exact World.size_alloc _ _⟩
  have c0 : W0.cell? ⟨w.heap.size, 0, none⟩ = some (.slice a1 bn c1) := by rw [← hW0]; exact cells_new w _ _ rfl
  have c1' : W0.cell? ⟨w.heap.size, 1, none⟩ = some (.int .i64 r) := by rw [← hW0]; exact cells_new w _ _ rfl
  have hfw := fun (W : World) => few_any a1 bn c1 r W (by omega)
  rw [show decide (bn ≤ 6) = true from decide_eq_true hbn6] at hfw
  have hng : ¬ (6 : Int) < (n : Int) := by omega
  go_enter Tryz.func3, Tryz.ntmps3
  go_wp2_with (first | (go_at_call 7; with_reducible refine (hfw _).mono ?_; rintro e w1 ⟨rfl, hb1⟩))
  have h01 : Below w.heap.size w w1 := hB0.trans (hb1.mono hB0.size)
  have hsz1 := hs0'.down
  have hz1 := hb1.size
  have hB1 : ∀ W, Below w1.heap.size w1 W → W.cell? ⟨w.heap.size, 0, none⟩ = some (.slice a1 bn c1) ∧ W.cell? ⟨w.heap.size, 1, none⟩ = some (.int .i64 r) := fun W hW => by
    have h0W := hb1.trans (hW.mono hz1)
    exact ⟨(h0W.cell (p := ⟨w.heap.size, 0, none⟩) (by show w.heap.size < _; omega)).trans c0, (h0W.cell (p := ⟨w.heap.size, 1, none⟩) (by show w.heap.size < _; omega)).trans c1'⟩
  clear c0 c1' hfw hng hsz1 hW0
  go_loopw [5] (fun i wr => ∃ q : Nat, q ≤ n ∧ i = .int .i64 q ∧ Below w1.heap.size w1 wr ∧ Hid (∀ k, k < q → (M k).sn ≤ 6 ∧ (M k).rn ≤ 6)) (fun i _ => n - (intOf i).toNat)
  case atStart => exact ⟨0, Nat.zero_le _, rfl, Below.refl _ _, ⟨fun k hk => absurd hk (Nat.not_lt_zero k)⟩⟩
  case round =>
    obtain ⟨q, hq, rfl, hwm, hsl⟩ := hrel
    rename World => wz
    have hq0 : (0 : Int) ≤ (q : Int) := Int.natCast_nonneg _
    have hwz : Below w.heap.size w wz := h01.trans (hwm.mono h01.size)
    by_cases hlq : q < n
    · have hq1 : (q : Int) < (n : Int) := by omega
      obtain ⟨y0, y1, y2, y3, y4, y5, y6, y7, y8, y9⟩ := (hM.cells q hlq).below hwz hM.lt
      have hsm := fun (W : World) => slim_any (M q) W (hsz0 q hlq).1 (hsz0 q hlq).2
      cases hs : (decide ((M q).sn ≤ 6) && decide ((M q).rn ≤ 6)) with
      | false =>
        rw [hs] at hsm
        clear hs
        go_wp2_with (first
          | (go_at_call 9; with_reducible refine (hsm _).mono ?_; rintro e w2 ⟨rfl, hb2⟩; have hw2 := hwz.trans (hb2.mono hwz.size))
          | (go_at_call 8; with_reducible refine (known_ok _ (hkg.below hw2)).mono ?_; rintro e w3 ⟨rfl, hb3⟩))
        go_ret
        exact ⟨rfl, hw2.trans (hb3.mono hw2.size)⟩
      | true =>
        rw [hs] at hsm
        have hs' : Hid ((M q).sn ≤ 6 ∧ (M q).rn ≤ 6) := ⟨by simpa using hs⟩
        clear hs
        go_wp2_with (first
          | (go_at_call 9; with_reducible refine (hsm _).mono ?_; rintro e w2 ⟨rfl, hb2⟩))
        go_roundw
        case rel => exact ⟨q + 1, by omega, by go_num, hwm.trans (hb2.mono hwm.size), ⟨lt_cases (P := fun k => (M k).sn ≤ 6 ∧ (M k).rn ≤ 6) hsl.down hs'.down⟩⟩
        case measure => simp [intOf]; omega
    · obtain rfl : n = q := by omega
      have hsl := hsl.down
      have hsz : ∀ i, i < n → (M i).sn ≤ 1000 ∧ (M i).rn ≤ 1000 := fun i hi => by have := hsl i hi; omega
      obtain ⟨z0, z1⟩ := hB1 wz hwm
      have hwho := Who_all b off n lc M a1 bn c1 r HX HY sg wz hn1 hn6 (by omega) (hM.below hwz) hsz (hp.below hwz) (fun i _ k _ => hsg i k)
      go_wp2_with (first
        | (go_at_call 10; with_reducible refine hwho.mono ?_; rintro e w3 ⟨wa, wn, wc, E, rfl, hWR, hb3⟩))
      have h03 : Below w.heap.size w w3 := hwz.trans (hb3.mono hwz.size)
      have h13 : Below w1.heap.size w1 w3 := hwm.trans (hb3.mono hwm.size)
      have hB3 : ∀ W, Below w3.heap.size w3 W → W.cell? ⟨w.heap.size, 0, none⟩ = some (.slice a1 bn c1) ∧ W.cell? ⟨w.heap.size, 1, none⟩ = some (.int .i64 r) := fun W hW => hB1 W (h13.trans (hW.mono h13.size))
      clear hwho z0 z1 hB1 hb1
      go_loopw [8, 9] (fun wt i wr => ∃ (q : Nat) (wv : Int), q ≤ n ∧ i = .int .i64 q ∧ wt = .int .i64 wv ∧ Below w3.heap.size w3 wr ∧ Hid (WI e2f q wv)) (fun _ i _ => n - (intOf i).toNat)
      case atStart => exact ⟨0, 0, Nat.zero_le _, rfl, rfl, Below.refl _ _, ⟨WI.zero e2f⟩⟩
      case round =>
        clear hwm hwz hb3
        clear hq0
        obtain ⟨q, wv, hq, rfl, rfl, hwm, hWI⟩ := hrel
        rename World => wz
        have hq0 : (0 : Int) ≤ (q : Int) := Int.natCast_nonneg _
        have hwz : Below w.heap.size w wz := h03.trans (hwm.mono h03.size)
        by_cases hlq : q < n
        · have hq1 : (q : Int) < (n : Int) := by omega
          obtain ⟨hsn, hrn⟩ := hsl q hlq
          have hMq := hM.ins q hlq
          have hD : ∀ W, Below wz.heap.size wz W → MOff W b (off + q * 10) (M q) ∧ W.cell? ⟨w.heap.size, 0, none⟩ = some (.slice a1 bn c1) ∧ W.cell? ⟨w.heap.size, 1, none⟩ = some (.int .i64 r) := fun W hW =>
            ⟨(hM.cells q hlq).below (hwz.trans (hW.mono hwz.size)) hM.lt, hB3 W (hwm.trans (hW.mono hwm.size))⟩
          obtain ⟨y0, y1, y2, y3, y4, y5, y6, y7, y8, y9⟩ := (hD wz (Below.refl _ _)).1
          have hab := fun (W : World) (hW : Below w.heap.size w W) => able_any (M q) (e1f q) (he1f q) W (by omega) (by omega) (hMq.below hW)
          have hbt := fun (W : World) (hW : Below w.heap.size w W) => rbutton_any a1 bn c1 HX HY r W (by omega) (hp.below hW)
          have hcn0 : Hid (e2f q ≠ 0 → ∀ W, Below w.heap.size w W → Calls Tryz.prog 13 #[(M q).val, .agg #[.slice a1 bn c1, .int .i64 r]] W fun e w' => e = .returned (.tuple #[.slice none 0 0, .int .i64 (e2f q)]) ∧ Below W.heap.size W w') :=
            ⟨fun hne W hW => Could_no a1 bn c1 r HX HY (M q) W (by omega) (by omega) (by omega) (hp.below hW) (hMq.below hW) (e2f q) (he2f q) hne⟩
          have hA1 := Hid.mk (he1f q).which
          have hA2 := Hid.mk (he2f q).which
          have hE2 : Hid (∀ x, e2f q = x → e2f q = x) := ⟨fun _ h => h⟩
          have h0z := Below.refl wz.heap.size wz
          cases hbut : butB bn HX HY r with
          | false =>
            have he2 : e2f q = 2 := by
              rcases hA2.down with ⟨h, _⟩ | ⟨_, h, _⟩ | ⟨_, h, _⟩
              · exact h
              · rw [hbut] at h; simp at h
              · rw [hbut] at h; simp at h
            have hcn := hcn0.down (by rw [he2]; decide)
            rw [he2] at hcn
            rw [hbut] at hbt
            have he2 := Hid.mk he2
            clear hcn0 hA1 hA2 hE2
            generalize e1f q = e1 at hab
            go_wp2_with (first
              | (go_at_call 11; with_reducible refine (hab _ hwz).mono ?_; rintro e w4 ⟨rfl, h04⟩))
            clear y0 y1 y2 y3 y4 y5 y6 y7 y8 y9 hab
            refine wp_region_late [] (fun w9 => Below wz.heap.size wz w9) (fun w9 => True) (by kernel_rfl) ?_ (fun hHeld => ?_)
            · (exact ⟨h04.trans (Below.refl _ _).drew, trivial⟩)
            generalize w4.drew = V14 at hHeld ⊢
            refine tk0 0 ?_ rfl (Or.inl ⟨by rfl, ?_⟩) hHeld ?_
            rotate_left 1
            · ((intro w9 hSw; have z0 := (hD w9 hSw).2.1; have z1 := (hD w9 hSw).2.2; clear hSw; go_simp) <;> with_reducible rfl)
            (try simp only [Act.put, pA, pZ, pS])
            refine wpAnyP_ready (rs := [1]) (by kernel_rfl) (by simp) ?_
            refine AllReadyP.cons (o := _) rfl (fun K hK => ?_) AllReadyP.nil
            · go_simp
              (go_at_call 12; with_reducible refine (hbt _ (hwz.trans (hHeld.1.mono hwz.size))).mono ?_; rintro e w5 ⟨rfl, hb5⟩)
              refine hK.out _ _ ?_ (fun hHeld => ?_)
              · (exact ⟨hHeld.1.trans (hb5.mono hHeld.1.size), trivial⟩)
              clear hK K
              (try simp only [Act.put, pA, pZ, pS])
              refine tk0 2 ?_ rfl (Or.inl ⟨by rfl, ?_⟩) hHeld ?_
              rotate_left 1
              · ((intro w9 hSw; clear hSw; go_simp) <;> with_reducible rfl)
              (try simp only [Act.put, pA, pZ, pS])
              refine tk0 3 ?_ rfl (Or.inl ⟨by rfl, ?_⟩) hHeld ?_
              rotate_left 1
              · ((intro w9 hSw; clear hSw; go_simp) <;> with_reducible rfl)
              (try simp only [Act.put, pA, pZ, pS])
              refine tk0 4 (undef) rfl (Or.inr ⟨by kernel_rfl, rfl⟩) hHeld ?_
              (try simp only [Act.put, pA, pZ, pS])
              refine tk0 5 (undef) rfl (Or.inr ⟨by kernel_rfl, rfl⟩) hHeld ?_
              (try simp only [Act.put, pA, pZ, pS])
              refine tk0 6 ?_ rfl (Or.inl ⟨by rfl, ?_⟩) hHeld ?_
              rotate_left 1
              · ((intro w9 hSw; clear hSw; go_simp) <;> with_reducible rfl)
              (try simp only [Act.put, pA, pZ, pS])
              refine tk0 7 ?_ rfl (Or.inl ⟨by rfl, ?_⟩) hHeld ?_
              rotate_left 1
              · ((intro w9 hSw; clear hSw; go_simp) <;> with_reducible rfl)
              (try simp only [Act.put, pA, pZ, pS])
              refine tk0 8 (undef) rfl (Or.inr ⟨by kernel_rfl, rfl⟩) hHeld ?_
              (try simp only [Act.put, pA, pZ, pS])
              refine tk0 9 (undef) rfl (Or.inr ⟨by kernel_rfl, rfl⟩) hHeld ?_
              (try simp only [Act.put, pA, pZ, pS])
              refine tk0 10 (undef) rfl (Or.inr ⟨by kernel_rfl, rfl⟩) hHeld ?_
              (try simp only [Act.put, pA, pZ, pS])
              refine tk0 11 (undef) rfl (Or.inr ⟨by kernel_rfl, rfl⟩) hHeld ?_
              (try simp only [Act.put, pA, pZ, pS])
              refine tk0 12 (undef) rfl (Or.inr ⟨by kernel_rfl, rfl⟩) hHeld ?_
              (try simp only [Act.put, pA, pZ, pS])
              refine tk0 13 (undef) rfl (Or.inr ⟨by kernel_rfl, rfl⟩) hHeld ?_
              (try simp only [Act.put, pA, pZ, pS])
              refine tk0 14 (undef) rfl (Or.inr ⟨by kernel_rfl, rfl⟩) hHeld ?_
              (try simp only [Act.put, pA, pZ, pS])
              refine tk0 15 (undef) rfl (Or.inr ⟨by kernel_rfl, rfl⟩) hHeld ?_
              (try simp only [Act.put, pA, pZ, pS])
              refine tk0 16 (undef) rfl (Or.inr ⟨by kernel_rfl, rfl⟩) hHeld ?_
              (try simp only [Act.put, pA, pZ, pS])
              refine tk0 17 (undef) rfl (Or.inr ⟨by kernel_rfl, rfl⟩) hHeld ?_
              (try simp only [Act.put, pA, pZ, pS])
              refine tk0 18 ?_ rfl (Or.inl ⟨by rfl, ?_⟩) hHeld ?_
              rotate_left 1
              · ((intro w9 hSw; clear hSw; go_simp) <;> with_reducible rfl)
              (try simp only [Act.put, pA, pZ, pS])
              refine wpAnyP_done (by kernel_rfl) ?_ _
              (try simp only [Act.put, List.getElem_toArray, List.getElem_cons_zero, List.getElem_cons_succ, pA, pZ, pS])
              have hO5 := hHeld.1
              clear hHeld
              go_wp2_with fail
              refine wp_region_late [] (fun w9 => Below wz.heap.size wz w9) (fun w9 => True) (by kernel_rfl) ?_ (fun hHeld => ?_)
              · (exact ⟨hO5.trans ((Below.refl _ _).drew), trivial⟩)
              generalize w5.drew = V16 at hHeld ⊢
              refine tk0 0 ?_ rfl (Or.inl ⟨by rfl, ?_⟩) hHeld ?_
              rotate_left 1
              · ((intro w9 hSw; clear hSw; go_simp) <;> with_reducible rfl)
              (try simp only [Act.put, pA, pZ, pS])
              refine tk0 1 ?_ rfl (Or.inl ⟨by rfl, ?_⟩) hHeld ?_
              rotate_left 1
              · ((intro w9 hSw; clear hSw; go_simp) <;> with_reducible rfl)
              (try simp only [Act.put, pA, pZ, pS])
              refine tk0 2 ?_ rfl (Or.inl ⟨by rfl, ?_⟩) hHeld ?_
              rotate_left 1
              · ((intro w9 hSw; clear hSw; go_simp) <;> with_reducible rfl)
              (try simp only [Act.put, pA, pZ, pS])
              refine tk0 3 ?_ rfl (Or.inl ⟨by rfl, ?_⟩) hHeld ?_
              rotate_left 1
              · ((intro w9 hSw; obtain ⟨z0, z1, z2, z3, z4, z5, z6, z7, z8, z9⟩ := (hD w9 hSw).1; clear hSw; go_simp) <;> with_reducible rfl)
              (try simp only [Act.put, pA, pZ, pS])
              refine tk0 4 ?_ rfl (Or.inl ⟨by rfl, ?_⟩) hHeld ?_
              rotate_left 1
              · ((intro w9 hSw; have z0 := (hD w9 hSw).2.1; have z1 := (hD w9 hSw).2.2; clear hSw; go_simp) <;> with_reducible rfl)
              (try simp only [Act.put, pA, pZ, pS])
              refine wpAnyP_ready (rs := [5]) (by kernel_rfl) (by simp) ?_
              refine AllReadyP.cons (o := _) rfl (fun K hK => ?_) AllReadyP.nil
              · go_simp
                (go_at_call 13; with_reducible refine (hcn _ (hwz.trans (hHeld.1.mono hwz.size))).mono ?_; rintro e w6 ⟨rfl, hb6⟩)
                refine hK.out _ _ ?_ (fun hHeld => ?_)
                · (exact ⟨hHeld.1.trans (hb6.mono hHeld.1.size), trivial⟩)
                clear hK K
                (try simp only [Act.put, pA, pZ, pS])
                refine tk0 6 ?_ rfl (Or.inl ⟨by rfl, ?_⟩) hHeld ?_
                rotate_left 1
                · ((intro w9 hSw; clear hSw; go_simp) <;> with_reducible rfl)
                (try simp only [Act.put, pA, pZ, pS])
                refine tk0 7 ?_ rfl (Or.inl ⟨by rfl, ?_⟩) hHeld ?_
                rotate_left 1
                · ((intro w9 hSw; clear hSw; go_simp) <;> with_reducible rfl)
                (try simp only [Act.put, pA, pZ, pS])
                refine tk0 8 ?_ rfl (Or.inl ⟨by rfl, ?_⟩) hHeld ?_
                rotate_left 1
                · ((intro w9 hSw; clear hSw; go_simp) <;> with_reducible rfl)
                (try simp only [Act.put, pA, pZ, pS])
                refine tk0 9 ?_ rfl (Or.inl ⟨by rfl, ?_⟩) hHeld ?_
                rotate_left 1
                · ((intro w9 hSw; clear hSw; go_simp) <;> with_reducible rfl)
                (try simp only [Act.put, pA, pZ, pS])
                refine tk0 10 ?_ rfl (Or.inl ⟨by rfl, ?_⟩) hHeld ?_
                rotate_left 1
                · ((intro w9 hSw; clear hSw; go_simp) <;> with_reducible rfl)
                (try simp only [Act.put, pA, pZ, pS])
                refine wpAnyP_done (by kernel_rfl) ?_ _
                (try simp only [Act.put, List.getElem_toArray, List.getElem_cons_zero, List.getElem_cons_succ, pA, pZ, pS])
                have hO6 := hHeld.1
                clear hHeld
                go_wp2
                go_roundw
                case rel => exact ⟨q + 1, 2, by omega, by go_num, rfl, hwm.trans (hO6.mono hwm.size), ⟨hWI.down.two he2.down⟩⟩
                case measure => simp [intOf]; omega
          | true =>
            rw [hbut] at hbt
            by_cases h12 : e1f q = 2
            · have he2 : e2f q = 2 := by
                rcases hA1.down with ⟨_, h⟩ | ⟨h, _⟩ | ⟨h, _⟩
                · exact (he2f q).arg (by rw [Bool.and_true] at h; rw [h]; rfl)
                · omega
                · omega
              have hcn := hcn0.down (by rw [he2]; decide)
              rw [he2] at hcn
              rw [h12] at hab
              have he2 := Hid.mk he2
              clear hcn0 hA1 hA2 h12 hE2
              go_wp2_with (first
                | (go_at_call 11; with_reducible refine (hab _ hwz).mono ?_; rintro e w4 ⟨rfl, h04⟩))
              clear y0 y1 y2 y3 y4 y5 y6 y7 y8 y9 hab
              refine wp_region_late [] (fun w9 => Below wz.heap.size wz w9) (fun w9 => True) (by kernel_rfl) ?_ (fun hHeld => ?_)
              · (exact ⟨h04.trans (Below.refl _ _).drew, trivial⟩)
              generalize w4.drew = V14 at hHeld ⊢
              refine tk0 0 ?_ rfl (Or.inl ⟨by rfl, ?_⟩) hHeld ?_
              rotate_left 1
              · ((intro w9 hSw; have z0 := (hD w9 hSw).2.1; have z1 := (hD w9 hSw).2.2; clear hSw; go_simp) <;> with_reducible rfl)
              (try simp only [Act.put, pA, pZ, pS])
              refine wpAnyP_ready (rs := [1]) (by kernel_rfl) (by simp) ?_
              refine AllReadyP.cons (o := _) rfl (fun K hK => ?_) AllReadyP.nil
              · go_simp
                (go_at_call 12; with_reducible refine (hbt _ (hwz.trans (hHeld.1.mono hwz.size))).mono ?_; rintro e w5 ⟨rfl, hb5⟩)
                refine hK.out _ _ ?_ (fun hHeld => ?_)
                · (exact ⟨hHeld.1.trans (hb5.mono hHeld.1.size), trivial⟩)
                clear hK K
                (try simp only [Act.put, pA, pZ, pS])
                refine tk0 2 ?_ rfl (Or.inl ⟨by rfl, ?_⟩) hHeld ?_
                rotate_left 1
                · ((intro w9 hSw; clear hSw; go_simp) <;> with_reducible rfl)
                (try simp only [Act.put, pA, pZ, pS])
                refine tk0 3 ?_ rfl (Or.inl ⟨by rfl, ?_⟩) hHeld ?_
                rotate_left 1
                · ((intro w9 hSw; clear hSw; go_simp) <;> with_reducible rfl)
                (try simp only [Act.put, pA, pZ, pS])
                refine tk0 4 ?_ rfl (Or.inl ⟨by kernel_rfl, ?_⟩) hHeld ?_
                rotate_left 1
                · ((intro w9 hSw; clear hSw; go_simp) <;> with_reducible rfl)
                (try simp only [Act.put, pA, pZ, pS])
                refine tk0 5 ?_ rfl (Or.inl ⟨by kernel_rfl, ?_⟩) hHeld ?_
                rotate_left 1
                · ((intro w9 hSw; clear hSw; go_simp) <;> with_reducible rfl)
                (try simp only [Act.put, pA, pZ, pS])
                refine tk0 6 ?_ rfl (Or.inl ⟨by rfl, ?_⟩) hHeld ?_
                rotate_left 1
                · ((intro w9 hSw; clear hSw; go_simp) <;> with_reducible rfl)
                (try simp only [Act.put, pA, pZ, pS])
                refine tk0 7 ?_ rfl (Or.inl ⟨by rfl, ?_⟩) hHeld ?_
                rotate_left 1
                · ((intro w9 hSw; clear hSw; go_simp) <;> with_reducible rfl)
                (try simp only [Act.put, pA, pZ, pS])
                refine tk0 8 (undef) rfl (Or.inr ⟨by kernel_rfl, rfl⟩) hHeld ?_
                (try simp only [Act.put, pA, pZ, pS])
                refine tk0 9 (undef) rfl (Or.inr ⟨by kernel_rfl, rfl⟩) hHeld ?_
                (try simp only [Act.put, pA, pZ, pS])
                refine tk0 10 (undef) rfl (Or.inr ⟨by kernel_rfl, rfl⟩) hHeld ?_
                (try simp only [Act.put, pA, pZ, pS])
                refine tk0 11 (undef) rfl (Or.inr ⟨by kernel_rfl, rfl⟩) hHeld ?_
                (try simp only [Act.put, pA, pZ, pS])
                refine tk0 12 (undef) rfl (Or.inr ⟨by kernel_rfl, rfl⟩) hHeld ?_
                (try simp only [Act.put, pA, pZ, pS])
                refine tk0 13 (undef) rfl (Or.inr ⟨by kernel_rfl, rfl⟩) hHeld ?_
                (try simp only [Act.put, pA, pZ, pS])
                refine tk0 14 (undef) rfl (Or.inr ⟨by kernel_rfl, rfl⟩) hHeld ?_
                (try simp only [Act.put, pA, pZ, pS])
                refine tk0 15 (undef) rfl (Or.inr ⟨by kernel_rfl, rfl⟩) hHeld ?_
                (try simp only [Act.put, pA, pZ, pS])
                refine tk0 16 (undef) rfl (Or.inr ⟨by kernel_rfl, rfl⟩) hHeld ?_
                (try simp only [Act.put, pA, pZ, pS])
                refine tk0 17 (undef) rfl (Or.inr ⟨by kernel_rfl, rfl⟩) hHeld ?_
                (try simp only [Act.put, pA, pZ, pS])
                refine tk0 18 ?_ rfl (Or.inl ⟨by rfl, ?_⟩) hHeld ?_
                rotate_left 1
                · ((intro w9 hSw; clear hSw; go_simp) <;> with_reducible rfl)
                (try simp only [Act.put, pA, pZ, pS])
                refine wpAnyP_done (by kernel_rfl) ?_ _
                (try simp only [Act.put, List.getElem_toArray, List.getElem_cons_zero, List.getElem_cons_succ, pA, pZ, pS])
                have hO5 := hHeld.1
                clear hHeld
                go_wp2_with fail
                refine wp_region_late [] (fun w9 => Below wz.heap.size wz w9) (fun w9 => True) (by kernel_rfl) ?_ (fun hHeld => ?_)
                · (exact ⟨hO5.trans ((Below.refl _ _).drew), trivial⟩)
                generalize w5.drew = V16 at hHeld ⊢
                refine tk0 0 ?_ rfl (Or.inl ⟨by rfl, ?_⟩) hHeld ?_
                rotate_left 1
                · ((intro w9 hSw; clear hSw; go_simp) <;> with_reducible rfl)
                (try simp only [Act.put, pA, pZ, pS])
                refine tk0 1 ?_ rfl (Or.inl ⟨by rfl, ?_⟩) hHeld ?_
                rotate_left 1
                · ((intro w9 hSw; clear hSw; go_simp) <;> with_reducible rfl)
                (try simp only [Act.put, pA, pZ, pS])
                refine tk0 2 ?_ rfl (Or.inl ⟨by rfl, ?_⟩) hHeld ?_
                rotate_left 1
                · ((intro w9 hSw; clear hSw; go_simp) <;> with_reducible rfl)
                (try simp only [Act.put, pA, pZ, pS])
                refine tk0 3 ?_ rfl (Or.inl ⟨by rfl, ?_⟩) hHeld ?_
                rotate_left 1
                · ((intro w9 hSw; obtain ⟨z0, z1, z2, z3, z4, z5, z6, z7, z8, z9⟩ := (hD w9 hSw).1; clear hSw; go_simp) <;> with_reducible rfl)
                (try simp only [Act.put, pA, pZ, pS])
                refine tk0 4 ?_ rfl (Or.inl ⟨by rfl, ?_⟩) hHeld ?_
                rotate_left 1
                · ((intro w9 hSw; have z0 := (hD w9 hSw).2.1; have z1 := (hD w9 hSw).2.2; clear hSw; go_simp) <;> with_reducible rfl)
                (try simp only [Act.put, pA, pZ, pS])
                refine wpAnyP_ready (rs := [5]) (by kernel_rfl) (by simp) ?_
                refine AllReadyP.cons (o := _) rfl (fun K hK => ?_) AllReadyP.nil
                · go_simp
                  (go_at_call 13; with_reducible refine (hcn _ (hwz.trans (hHeld.1.mono hwz.size))).mono ?_; rintro e w6 ⟨rfl, hb6⟩)
                  refine hK.out _ _ ?_ (fun hHeld => ?_)
                  · (exact ⟨hHeld.1.trans (hb6.mono hHeld.1.size), trivial⟩)
                  clear hK K
                  (try simp only [Act.put, pA, pZ, pS])
                  refine tk0 6 ?_ rfl (Or.inl ⟨by rfl, ?_⟩) hHeld ?_
                  rotate_left 1
                  · ((intro w9 hSw; clear hSw; go_simp) <;> with_reducible rfl)
                  (try simp only [Act.put, pA, pZ, pS])
                  refine tk0 7 ?_ rfl (Or.inl ⟨by rfl, ?_⟩) hHeld ?_
                  rotate_left 1
                  · ((intro w9 hSw; clear hSw; go_simp) <;> with_reducible rfl)
                  (try simp only [Act.put, pA, pZ, pS])
                  refine tk0 8 ?_ rfl (Or.inl ⟨by rfl, ?_⟩) hHeld ?_
                  rotate_left 1
                  · ((intro w9 hSw; clear hSw; go_simp) <;> with_reducible rfl)
                  (try simp only [Act.put, pA, pZ, pS])
                  refine tk0 9 ?_ rfl (Or.inl ⟨by rfl, ?_⟩) hHeld ?_
                  rotate_left 1
                  · ((intro w9 hSw; clear hSw; go_simp) <;> with_reducible rfl)
                  (try simp only [Act.put, pA, pZ, pS])
                  refine tk0 10 ?_ rfl (Or.inl ⟨by rfl, ?_⟩) hHeld ?_
                  rotate_left 1
                  · ((intro w9 hSw; clear hSw; go_simp) <;> with_reducible rfl)
                  (try simp only [Act.put, pA, pZ, pS])
                  refine wpAnyP_done (by kernel_rfl) ?_ _
                  (try simp only [Act.put, List.getElem_toArray, List.getElem_cons_zero, List.getElem_cons_succ, pA, pZ, pS])
                  have hO6 := hHeld.1
                  clear hHeld
                  go_wp2
                  go_roundw
                  case rel => exact ⟨q + 1, 2, by omega, by go_num, rfl, hwm.trans (hO6.mono hwm.size), ⟨hWI.down.two he2.down⟩⟩
                  case measure => simp [intOf]; omega
            · by_cases hbs : bn = (M q).sn
              · have hfin : (butB bn HX HY r && decide (bn = (M q).sn)) = true := by rw [hbut, decide_eq_true hbs]; rfl
                have hsame : e2f q = e1f q := Able.same (by have := he2f q; rw [hfin] at this; exact this) (he1f q)
                rcases hA1.down with ⟨h, _⟩ | ⟨h7, _⟩ | ⟨h0, hok, hc⟩
                · exact absurd h h12
                · have he2 : e2f q = 7 := by rw [hsame, h7]
                  have hcn := hcn0.down (by rw [he2]; decide)
                  rw [he2] at hcn
                  rw [h7] at hab
                  have he2 := Hid.mk he2
                  clear hcn0 hA1 hA2 h12 h7 hE2 hsame hfin
                  subst hbs
                  go_wp2_with (first
                    | (go_at_call 11; with_reducible refine (hab _ hwz).mono ?_; rintro e w4 ⟨rfl, h04⟩))
                  clear y0 y1 y2 y3 y4 y5 y6 y7 y8 y9 hab
                  refine wp_region_late [] (fun w9 => Below wz.heap.size wz w9) (fun w9 => True) (by kernel_rfl) ?_ (fun hHeld => ?_)
                  · (exact ⟨h04.trans (Below.refl _ _).drew, trivial⟩)
                  generalize w4.drew = V14 at hHeld ⊢
                  refine tk0 0 ?_ rfl (Or.inl ⟨by rfl, ?_⟩) hHeld ?_
                  rotate_left 1
                  · ((intro w9 hSw; have z0 := (hD w9 hSw).2.1; have z1 := (hD w9 hSw).2.2; clear hSw; go_simp) <;> with_reducible rfl)
                  (try simp only [Act.put, pA, pZ, pS])
                  refine wpAnyP_ready (rs := [1]) (by kernel_rfl) (by simp) ?_
                  refine AllReadyP.cons (o := _) rfl (fun K hK => ?_) AllReadyP.nil
                  · go_simp
                    (go_at_call 12; with_reducible refine (hbt _ (hwz.trans (hHeld.1.mono hwz.size))).mono ?_; rintro e w5 ⟨rfl, hb5⟩)
                    refine hK.out _ _ ?_ (fun hHeld => ?_)
                    · (exact ⟨hHeld.1.trans (hb5.mono hHeld.1.size), trivial⟩)
                    clear hK K
                    (try simp only [Act.put, pA, pZ, pS])
                    refine tk0 2 ?_ rfl (Or.inl ⟨by rfl, ?_⟩) hHeld ?_
                    rotate_left 1
                    · ((intro w9 hSw; clear hSw; go_simp) <;> with_reducible rfl)
                    (try simp only [Act.put, pA, pZ, pS])
                    refine tk0 3 ?_ rfl (Or.inl ⟨by rfl, ?_⟩) hHeld ?_
                    rotate_left 1
                    · ((intro w9 hSw; clear hSw; go_simp) <;> with_reducible rfl)
                    (try simp only [Act.put, pA, pZ, pS])
                    refine tk0 4 ?_ rfl (Or.inl ⟨by kernel_rfl, ?_⟩) hHeld ?_
                    rotate_left 1
                    · ((intro w9 hSw; clear hSw; go_simp) <;> with_reducible rfl)
                    (try simp only [Act.put, pA, pZ, pS])
                    refine tk0 5 ?_ rfl (Or.inl ⟨by kernel_rfl, ?_⟩) hHeld ?_
                    rotate_left 1
                    · ((intro w9 hSw; clear hSw; go_simp) <;> with_reducible rfl)
                    (try simp only [Act.put, pA, pZ, pS])
                    refine tk0 6 ?_ rfl (Or.inl ⟨by rfl, ?_⟩) hHeld ?_
                    rotate_left 1
                    · ((intro w9 hSw; clear hSw; go_simp) <;> with_reducible rfl)
                    (try simp only [Act.put, pA, pZ, pS])
                    refine tk0 7 ?_ rfl (Or.inl ⟨by rfl, ?_⟩) hHeld ?_
                    rotate_left 1
                    · ((intro w9 hSw; clear hSw; go_simp) <;> with_reducible rfl)
                    (try simp only [Act.put, pA, pZ, pS])
                    refine tk0 8 ?_ rfl (Or.inl ⟨by kernel_rfl, ?_⟩) hHeld ?_
                    rotate_left 1
                    · ((intro w9 hSw; clear hSw; go_simp) <;> with_reducible rfl)
                    (try simp only [Act.put, pA, pZ, pS])
                    refine tk0 9 ?_ rfl (Or.inl ⟨by kernel_rfl, ?_⟩) hHeld ?_
                    rotate_left 1
                    · ((intro w9 hSw; clear hSw; go_simp) <;> with_reducible rfl)
                    (try simp only [Act.put, pA, pZ, pS])
                    refine tk0 10 ?_ rfl (Or.inl ⟨by kernel_rfl, ?_⟩) hHeld ?_
                    rotate_left 1
                    · ((intro w9 hSw; clear hSw; go_simp) <;> with_reducible rfl)
                    (try simp only [Act.put, pA, pZ, pS])
                    refine tk0 11 ?_ rfl (Or.inl ⟨by kernel_rfl, ?_⟩) hHeld ?_
                    rotate_left 1
                    · ((intro w9 hSw; clear hSw; go_simp) <;> with_reducible rfl)
                    (try simp only [Act.put, pA, pZ, pS])
                    refine tk0 12 ?_ rfl (Or.inl ⟨by kernel_rfl, ?_⟩) hHeld ?_
                    rotate_left 1
                    · ((intro w9 hSw; obtain ⟨z0, z1, z2, z3, z4, z5, z6, z7, z8, z9⟩ := (hD w9 hSw).1; clear hSw; go_simp) <;> with_reducible rfl)
                    (try simp only [Act.put, pA, pZ, pS])
                    refine tk0 13 ?_ rfl (Or.inl ⟨by kernel_rfl, ?_⟩) hHeld ?_
                    rotate_left 1
                    · ((intro w9 hSw; clear hSw; go_simp) <;> with_reducible rfl)
                    (try simp only [Act.put, pA, pZ, pS])
                    refine tk0 14 ?_ rfl (Or.inl ⟨by kernel_rfl, ?_⟩) hHeld ?_
                    rotate_left 1
                    · ((intro w9 hSw; clear hSw; go_simp) <;> with_reducible rfl)
                    (try simp only [Act.put, pA, pZ, pS])
                    refine tk0 15 ?_ rfl (Or.inl ⟨by kernel_rfl, ?_⟩) hHeld ?_
                    rotate_left 1
                    · ((intro w9 hSw; have z0 := (hD w9 hSw).2.1; have z1 := (hD w9 hSw).2.2; clear hSw; go_simp) <;> with_reducible rfl)
                    (try simp only [Act.put, pA, pZ, pS])
                    refine tk0 16 ?_ rfl (Or.inl ⟨by kernel_rfl, ?_⟩) hHeld ?_
                    rotate_left 1
                    · ((intro w9 hSw; clear hSw; go_simp) <;> with_reducible rfl)
                    (try simp only [Act.put, pA, pZ, pS])
                    refine tk0 17 ?_ rfl (Or.inl ⟨by kernel_rfl, ?_⟩) hHeld ?_
                    rotate_left 1
                    · ((intro w9 hSw; clear hSw; go_simp) <;> with_reducible rfl)
                    (try simp only [Act.put, pA, pZ, pS])
                    refine tk0 18 ?_ rfl (Or.inl ⟨by rfl, ?_⟩) hHeld ?_
                    rotate_left 1
                    · ((intro w9 hSw; clear hSw; go_simp) <;> with_reducible rfl)
                    (try simp only [Act.put, pA, pZ, pS])
                    refine wpAnyP_done (by kernel_rfl) ?_ _
                    (try simp only [Act.put, List.getElem_toArray, List.getElem_cons_zero, List.getElem_cons_succ, pA, pZ, pS])
                    have hO5 := hHeld.1
                    clear hHeld
                    go_wp2_with fail
                    refine wp_region_late [] (fun w9 => Below wz.heap.size wz w9) (fun w9 => True) (by kernel_rfl) ?_ (fun hHeld => ?_)
                    · (exact ⟨hO5.trans ((Below.refl _ _).drew), trivial⟩)
                    generalize w5.drew = V16 at hHeld ⊢
                    refine tk0 0 ?_ rfl (Or.inl ⟨by rfl, ?_⟩) hHeld ?_
                    rotate_left 1
                    · ((intro w9 hSw; clear hSw; go_simp) <;> with_reducible rfl)
                    (try simp only [Act.put, pA, pZ, pS])
                    refine tk0 1 ?_ rfl (Or.inl ⟨by rfl, ?_⟩) hHeld ?_
                    rotate_left 1
                    · ((intro w9 hSw; clear hSw; go_simp) <;> with_reducible rfl)
                    (try simp only [Act.put, pA, pZ, pS])
                    refine tk0 2 ?_ rfl (Or.inl ⟨by rfl, ?_⟩) hHeld ?_
                    rotate_left 1
                    · ((intro w9 hSw; clear hSw; go_simp) <;> with_reducible rfl)
                    (try simp only [Act.put, pA, pZ, pS])
                    refine tk0 3 ?_ rfl (Or.inl ⟨by rfl, ?_⟩) hHeld ?_
                    rotate_left 1
                    · ((intro w9 hSw; obtain ⟨z0, z1, z2, z3, z4, z5, z6, z7, z8, z9⟩ := (hD w9 hSw).1; clear hSw; go_simp) <;> with_reducible rfl)
                    (try simp only [Act.put, pA, pZ, pS])
                    refine tk0 4 ?_ rfl (Or.inl ⟨by rfl, ?_⟩) hHeld ?_
                    rotate_left 1
                    · ((intro w9 hSw; have z0 := (hD w9 hSw).2.1; have z1 := (hD w9 hSw).2.2; clear hSw; go_simp) <;> with_reducible rfl)
                    (try simp only [Act.put, pA, pZ, pS])
                    refine wpAnyP_ready (rs := [5]) (by kernel_rfl) (by simp) ?_
                    refine AllReadyP.cons (o := _) rfl (fun K hK => ?_) AllReadyP.nil
                    · go_simp
                      (go_at_call 13; with_reducible refine (hcn _ (hwz.trans (hHeld.1.mono hwz.size))).mono ?_; rintro e w6 ⟨rfl, hb6⟩)
                      refine hK.out _ _ ?_ (fun hHeld => ?_)
                      · (exact ⟨hHeld.1.trans (hb6.mono hHeld.1.size), trivial⟩)
                      clear hK K
                      (try simp only [Act.put, pA, pZ, pS])
                      refine tk0 6 ?_ rfl (Or.inl ⟨by rfl, ?_⟩) hHeld ?_
                      rotate_left 1
                      · ((intro w9 hSw; clear hSw; go_simp) <;> with_reducible rfl)
                      (try simp only [Act.put, pA, pZ, pS])
                      refine tk0 7 ?_ rfl (Or.inl ⟨by rfl, ?_⟩) hHeld ?_
                      rotate_left 1
                      · ((intro w9 hSw; clear hSw; go_simp) <;> with_reducible rfl)
                      (try simp only [Act.put, pA, pZ, pS])
                      refine tk0 8 ?_ rfl (Or.inl ⟨by rfl, ?_⟩) hHeld ?_
                      rotate_left 1
                      · ((intro w9 hSw; clear hSw; go_simp) <;> with_reducible rfl)
                      (try simp only [Act.put, pA, pZ, pS])
                      refine tk0 9 ?_ rfl (Or.inl ⟨by rfl, ?_⟩) hHeld ?_
                      rotate_left 1
                      · ((intro w9 hSw; clear hSw; go_simp) <;> with_reducible rfl)
                      (try simp only [Act.put, pA, pZ, pS])
                      refine tk0 10 ?_ rfl (Or.inl ⟨by rfl, ?_⟩) hHeld ?_
                      rotate_left 1
                      · ((intro w9 hSw; clear hSw; go_simp) <;> with_reducible rfl)
                      (try simp only [Act.put, pA, pZ, pS])
                      refine wpAnyP_done (by kernel_rfl) ?_ _
                      (try simp only [Act.put, List.getElem_toArray, List.getElem_cons_zero, List.getElem_cons_succ, pA, pZ, pS])
                      have hO6 := hHeld.1
                      clear hHeld
                      by_cases hwv : wv = 0
                      · subst hwv
                        go_wp2
                        go_roundw
                        case rel => exact ⟨q + 1, 7, by omega, by go_num, rfl, hwm.trans (hO6.mono hwm.size), ⟨hWI.down.seven he2.down⟩⟩
                        case measure => simp [intOf]; omega
                      · go_wp2
                        go_roundw
                        case rel => exact ⟨q + 1, wv, by omega, by go_num, rfl, hwm.trans (hO6.mono hwm.size), ⟨hWI.down.stay7 hwv he2.down⟩⟩
                        case measure => simp [intOf]; omega
                · have he2 : e2f q = 0 := by rw [hsame, h0]
                  have hok' : (M q).ok = true := by rw [Bool.and_true] at hok; exact hok
                  have hck := fun (W : World) (hW : Below w.heap.size w W) => could_bn (M q) a1 bn c1 r HX HY W hbs (by omega) (by omega) (hMq.below hW) (hp.below hW) hok' hc hbut (sg q) (fun k _ => hsg q k)
                  have hrc := fun (W : World) (hW : Below w.heap.size w W) => rcould_bn (M q) a1 bn c1 r HX HY W hbs (hkg.below hW) (hMq.below hW) (hp.below hW) hok' hc hbut (sg q) (fun k _ => hsg q k)
                  rw [h0] at hab
                  have he2 := Hid.mk he2
                  clear hcn0 hA1 hA2 h12 h0 hE2 hsame hfin
                  subst hbs
                  go_wp2_with (first
                    | (go_at_call 11; with_reducible refine (hab _ hwz).mono ?_; rintro e w4 ⟨rfl, h04⟩))
                  clear y0 y1 y2 y3 y4 y5 y6 y7 y8 y9 hab
                  refine wp_region_late [] (fun w9 => Below wz.heap.size wz w9) (fun w9 => True) (by kernel_rfl) ?_ (fun hHeld => ?_)
                  · (exact ⟨h04.trans (Below.refl _ _).drew, trivial⟩)
                  generalize w4.drew = V14 at hHeld ⊢
                  refine tk0 0 ?_ rfl (Or.inl ⟨by rfl, ?_⟩) hHeld ?_
                  rotate_left 1
                  · ((intro w9 hSw; have z0 := (hD w9 hSw).2.1; have z1 := (hD w9 hSw).2.2; clear hSw; go_simp) <;> with_reducible rfl)
                  (try simp only [Act.put, pA, pZ, pS])
                  refine wpAnyP_ready (rs := [1]) (by kernel_rfl) (by simp) ?_
                  refine AllReadyP.cons (o := _) rfl (fun K hK => ?_) AllReadyP.nil
                  · go_simp
                    (go_at_call 12; with_reducible refine (hbt _ (hwz.trans (hHeld.1.mono hwz.size))).mono ?_; rintro e w5 ⟨rfl, hb5⟩)
                    refine hK.out _ _ ?_ (fun hHeld => ?_)
                    · (exact ⟨hHeld.1.trans (hb5.mono hHeld.1.size), trivial⟩)
                    clear hK K
                    (try simp only [Act.put, pA, pZ, pS])
                    refine tk0 2 ?_ rfl (Or.inl ⟨by rfl, ?_⟩) hHeld ?_
                    rotate_left 1
                    · ((intro w9 hSw; clear hSw; go_simp) <;> with_reducible rfl)
                    (try simp only [Act.put, pA, pZ, pS])
                    refine tk0 3 ?_ rfl (Or.inl ⟨by rfl, ?_⟩) hHeld ?_
                    rotate_left 1
                    · ((intro w9 hSw; clear hSw; go_simp) <;> with_reducible rfl)
                    (try simp only [Act.put, pA, pZ, pS])
                    refine tk0 4 ?_ rfl (Or.inl ⟨by kernel_rfl, ?_⟩) hHeld ?_
                    rotate_left 1
                    · ((intro w9 hSw; clear hSw; go_simp) <;> with_reducible rfl)
                    (try simp only [Act.put, pA, pZ, pS])
                    refine tk0 5 ?_ rfl (Or.inl ⟨by kernel_rfl, ?_⟩) hHeld ?_
                    rotate_left 1
                    · ((intro w9 hSw; clear hSw; go_simp) <;> with_reducible rfl)
                    (try simp only [Act.put, pA, pZ, pS])
                    refine tk0 6 ?_ rfl (Or.inl ⟨by rfl, ?_⟩) hHeld ?_
                    rotate_left 1
                    · ((intro w9 hSw; clear hSw; go_simp) <;> with_reducible rfl)
                    (try simp only [Act.put, pA, pZ, pS])
                    refine tk0 7 ?_ rfl (Or.inl ⟨by rfl, ?_⟩) hHeld ?_
                    rotate_left 1
                    · ((intro w9 hSw; clear hSw; go_simp) <;> with_reducible rfl)
                    (try simp only [Act.put, pA, pZ, pS])
                    refine tk0 8 ?_ rfl (Or.inl ⟨by kernel_rfl, ?_⟩) hHeld ?_
                    rotate_left 1
                    · ((intro w9 hSw; clear hSw; go_simp) <;> with_reducible rfl)
                    (try simp only [Act.put, pA, pZ, pS])
                    refine tk0 9 ?_ rfl (Or.inl ⟨by kernel_rfl, ?_⟩) hHeld ?_
                    rotate_left 1
                    · ((intro w9 hSw; clear hSw; go_simp) <;> with_reducible rfl)
                    (try simp only [Act.put, pA, pZ, pS])
                    refine tk0 10 ?_ rfl (Or.inl ⟨by kernel_rfl, ?_⟩) hHeld ?_
                    rotate_left 1
                    · ((intro w9 hSw; clear hSw; go_simp) <;> with_reducible rfl)
                    (try simp only [Act.put, pA, pZ, pS])
                    refine tk0 11 ?_ rfl (Or.inl ⟨by kernel_rfl, ?_⟩) hHeld ?_
                    rotate_left 1
                    · ((intro w9 hSw; clear hSw; go_simp) <;> with_reducible rfl)
                    (try simp only [Act.put, pA, pZ, pS])
                    refine tk0 12 ?_ rfl (Or.inl ⟨by kernel_rfl, ?_⟩) hHeld ?_
                    rotate_left 1
                    · ((intro w9 hSw; obtain ⟨z0, z1, z2, z3, z4, z5, z6, z7, z8, z9⟩ := (hD w9 hSw).1; clear hSw; go_simp) <;> with_reducible rfl)
                    (try simp only [Act.put, pA, pZ, pS])
                    refine tk0 13 ?_ rfl (Or.inl ⟨by kernel_rfl, ?_⟩) hHeld ?_
                    rotate_left 1
                    · ((intro w9 hSw; clear hSw; go_simp) <;> with_reducible rfl)
                    (try simp only [Act.put, pA, pZ, pS])
                    refine tk0 14 ?_ rfl (Or.inl ⟨by kernel_rfl, ?_⟩) hHeld ?_
                    rotate_left 1
                    · ((intro w9 hSw; clear hSw; go_simp) <;> with_reducible rfl)
                    (try simp only [Act.put, pA, pZ, pS])
                    refine tk0 15 ?_ rfl (Or.inl ⟨by kernel_rfl, ?_⟩) hHeld ?_
                    rotate_left 1
                    · ((intro w9 hSw; have z0 := (hD w9 hSw).2.1; have z1 := (hD w9 hSw).2.2; clear hSw; go_simp) <;> with_reducible rfl)
                    (try simp only [Act.put, pA, pZ, pS])
                    refine tk0 16 ?_ rfl (Or.inl ⟨by kernel_rfl, ?_⟩) hHeld ?_
                    rotate_left 1
                    · ((intro w9 hSw; clear hSw; go_simp) <;> with_reducible rfl)
                    (try simp only [Act.put, pA, pZ, pS])
                    refine tk0 17 ?_ rfl (Or.inl ⟨by kernel_rfl, ?_⟩) hHeld ?_
                    rotate_left 1
                    · ((intro w9 hSw; clear hSw; go_simp) <;> with_reducible rfl)
                    (try simp only [Act.put, pA, pZ, pS])
                    refine tk0 18 ?_ rfl (Or.inl ⟨by rfl, ?_⟩) hHeld ?_
                    rotate_left 1
                    · ((intro w9 hSw; clear hSw; go_simp) <;> with_reducible rfl)
                    (try simp only [Act.put, pA, pZ, pS])
                    refine wpAnyP_done (by kernel_rfl) ?_ _
                    (try simp only [Act.put, List.getElem_toArray, List.getElem_cons_zero, List.getElem_cons_succ, pA, pZ, pS])
                    have hO5 := hHeld.1
                    clear hHeld
                    go_wp2_with fail
                    refine wp_region_late [] (fun w9 => Below wz.heap.size wz w9) (fun w9 => True) (by kernel_rfl) ?_ (fun hHeld => ?_)
                    · (exact ⟨hO5.trans ((Below.refl _ _).drew), trivial⟩)
                    generalize w5.drew = V16 at hHeld ⊢
                    refine tk0 0 ?_ rfl (Or.inl ⟨by rfl, ?_⟩) hHeld ?_
                    rotate_left 1
                    · ((intro w9 hSw; clear hSw; go_simp) <;> with_reducible rfl)
                    (try simp only [Act.put, pA, pZ, pS])
                    refine tk0 1 ?_ rfl (Or.inl ⟨by rfl, ?_⟩) hHeld ?_
                    rotate_left 1
                    · ((intro w9 hSw; clear hSw; go_simp) <;> with_reducible rfl)
                    (try simp only [Act.put, pA, pZ, pS])
                    refine tk0 2 ?_ rfl (Or.inl ⟨by rfl, ?_⟩) hHeld ?_
                    rotate_left 1
                    · ((intro w9 hSw; clear hSw; go_simp) <;> with_reducible rfl)
                    (try simp only [Act.put, pA, pZ, pS])
                    refine tk0 3 ?_ rfl (Or.inl ⟨by rfl, ?_⟩) hHeld ?_
                    rotate_left 1
                    · ((intro w9 hSw; obtain ⟨z0, z1, z2, z3, z4, z5, z6, z7, z8, z9⟩ := (hD w9 hSw).1; clear hSw; go_simp) <;> with_reducible rfl)
                    (try simp only [Act.put, pA, pZ, pS])
                    refine tk0 4 ?_ rfl (Or.inl ⟨by rfl, ?_⟩) hHeld ?_
                    rotate_left 1
                    · ((intro w9 hSw; have z0 := (hD w9 hSw).2.1; have z1 := (hD w9 hSw).2.2; clear hSw; go_simp) <;> with_reducible rfl)
                    (try simp only [Act.put, pA, pZ, pS])
                    refine wpAnyP_ready (rs := [5]) (by kernel_rfl) (by simp) ?_
                    refine AllReadyP.cons (o := _) rfl (fun K hK => ?_) AllReadyP.nil
                    · go_simp
                      (go_at_call 13; with_reducible refine (hck _ (hwz.trans (hHeld.1.mono hwz.size))).mono ?_; rintro e w6 ⟨v6, rfl, hrow6, hb6⟩)
                      obtain ⟨va, vc, rfl⟩ := ownsRow_slice hrow6
                      have hro6 := Hid.mk hrow6
                      clear hrow6
                      refine hK.out _ _ ?_ (fun hHeld => ?_)
                      · (exact ⟨hHeld.1.trans (hb6.mono hHeld.1.size), trivial⟩)
                      clear hK K
                      (try simp only [Act.put, pA, pZ, pS])
                      refine tk0 6 ?_ rfl (Or.inl ⟨by rfl, ?_⟩) hHeld ?_
                      rotate_left 1
                      · ((intro w9 hSw; clear hSw; go_simp) <;> with_reducible rfl)
                      (try simp only [Act.put, pA, pZ, pS])
                      refine tk0 7 ?_ rfl (Or.inl ⟨by rfl, ?_⟩) hHeld ?_
                      rotate_left 1
                      · ((intro w9 hSw; clear hSw; go_simp) <;> with_reducible rfl)
                      (try simp only [Act.put, pA, pZ, pS])
                      refine tk0 8 ?_ rfl (Or.inl ⟨by rfl, ?_⟩) hHeld ?_
                      rotate_left 1
                      · ((intro w9 hSw; clear hSw; go_simp) <;> with_reducible rfl)
                      (try simp only [Act.put, pA, pZ, pS])
                      refine tk0 9 ?_ rfl (Or.inl ⟨by rfl, ?_⟩) hHeld ?_
                      rotate_left 1
                      · ((intro w9 hSw; clear hSw; go_simp) <;> with_reducible rfl)
                      (try simp only [Act.put, pA, pZ, pS])
                      refine tk0 10 ?_ rfl (Or.inl ⟨by rfl, ?_⟩) hHeld ?_
                      rotate_left 1
                      · ((intro w9 hSw; clear hSw; go_simp) <;> with_reducible rfl)
                      (try simp only [Act.put, pA, pZ, pS])
                      refine wpAnyP_done (by kernel_rfl) ?_ _
                      (try simp only [Act.put, List.getElem_toArray, List.getElem_cons_zero, List.getElem_cons_succ, pA, pZ, pS])
                      have hO6 := hHeld.1
                      clear hHeld
                      go_wp2_with fail
                      refine wp_region_late [] (fun w9 => Below wz.heap.size wz w9) (fun w9 => True) (by kernel_rfl) ?_ (fun hHeld => ?_)
                      · (exact ⟨hO6.trans ((Below.refl _ _).drew), trivial⟩)
                      replace hro6 := Hid.mk (World.ownsRow.drew hro6.down)
                      generalize w6.drew = V20 at hHeld hro6 ⊢
                      refine tk0 0 ?_ rfl (Or.inl ⟨by rfl, ?_⟩) hHeld ?_
                      rotate_left 1
                      · ((intro w9 hSw; clear hSw; go_simp) <;> with_reducible rfl)
                      (try simp only [Act.put, pA, pZ, pS])
                      refine tk0 1 ?_ rfl (Or.inl ⟨by rfl, ?_⟩) hHeld ?_
                      rotate_left 1
                      · ((intro w9 hSw; clear hSw; go_simp) <;> with_reducible rfl)
                      (try simp only [Act.put, pA, pZ, pS])
                      refine tk0 2 ?_ rfl (Or.inl ⟨by rfl, ?_⟩) hHeld ?_
                      rotate_left 1
                      · ((intro w9 hSw; clear hSw; go_simp) <;> with_reducible rfl)
                      (try simp only [Act.put, pA, pZ, pS])
                      refine tk0 3 ?_ rfl (Or.inl ⟨by kernel_rfl, ?_⟩) hHeld ?_
                      rotate_left 1
                      · ((intro w9 hSw; clear hSw; go_simp) <;> with_reducible rfl)
                      (try simp only [Act.put, pA, pZ, pS])
                      refine tk0 4 ?_ rfl (Or.inl ⟨by kernel_rfl, ?_⟩) hHeld ?_
                      rotate_left 1
                      · ((intro w9 hSw; clear hSw; go_simp) <;> with_reducible rfl)
                      (try simp only [Act.put, pA, pZ, pS])
                      refine tk0 5 ?_ rfl (Or.inl ⟨by kernel_rfl, ?_⟩) hHeld ?_
                      rotate_left 1
                      · ((intro w9 hSw; clear hSw; go_simp) <;> with_reducible rfl)
                      (try simp only [Act.put, pA, pZ, pS])
                      refine tk0 6 ?_ rfl (Or.inl ⟨by kernel_rfl, ?_⟩) hHeld ?_
                      rotate_left 1
                      · ((intro w9 hSw; clear hSw; go_simp) <;> with_reducible rfl)
                      (try simp only [Act.put, pA, pZ, pS])
                      refine tk0 7 ?_ rfl (Or.inl ⟨by kernel_rfl, ?_⟩) hHeld ?_
                      rotate_left 1
                      · ((intro w9 hSw; obtain ⟨z0, z1, z2, z3, z4, z5, z6, z7, z8, z9⟩ := (hD w9 hSw).1; clear hSw; go_simp) <;> with_reducible rfl)
                      (try simp only [Act.put, pA, pZ, pS])
                      refine tk0 8 ?_ rfl (Or.inl ⟨by kernel_rfl, ?_⟩) hHeld ?_
                      rotate_left 1
                      · ((intro w9 hSw; have z0 := (hD w9 hSw).2.1; have z1 := (hD w9 hSw).2.2; clear hSw; go_simp) <;> with_reducible rfl)
                      (try simp only [Act.put, pA, pZ, pS])
                      refine wpAnyP_ready (rs := [9]) (by kernel_rfl) (by simp) ?_
                      refine AllReadyP.cons (o := _) rfl (fun K hK => ?_) AllReadyP.nil
                      · go_simp
                        (go_at_call 15; with_reducible refine (hrc _ (hwz.trans (hHeld.1.mono hwz.size))).mono ?_; rintro e w7 ⟨v7, rfl, hrow7, hb7⟩)
                        replace hro6 := Hid.mk (ownsRow_below hro6.down hb7)
                        have hro7 := Hid.mk hrow7
                        clear hrow7
                        refine hK.out _ _ ?_ (fun hHeld => ?_)
                        · (exact ⟨hHeld.1.trans (hb7.mono hHeld.1.size), trivial⟩)
                        clear hK K
                        (try simp only [Act.put, pA, pZ, pS])
                        refine wpAnyP_ready (rs := [10]) (by kernel_rfl) (by simp) ?_
                        refine AllReadyP.cons (o := _) rfl (fun K hK => ?_) AllReadyP.nil
                        · go_simp
                          (go_at_call 14; with_reducible refine (same_ownL _ _ _ _ _ _ (by have := blanksTo_length (sg q) 12; omega) hro6.down hro7.down).mono ?_; rintro e w8 ⟨rfl, hb8⟩)
                          refine hK.out _ _ ?_ (fun hHeld => ?_)
                          · (exact ⟨hHeld.1.trans (hb8.mono hHeld.1.size), trivial⟩)
                          clear hK K
                          (try simp only [Act.put, pA, pZ, pS])
                          refine tk0 11 ?_ rfl (Or.inl ⟨by kernel_rfl, ?_⟩) hHeld ?_
                          rotate_left 1
                          · ((intro w9 hSw; clear hSw; go_simp) <;> with_reducible rfl)
                          (try simp only [Act.put, pA, pZ, pS])
                          refine tk0 12 ?_ rfl (Or.inl ⟨by rfl, ?_⟩) hHeld ?_
                          rotate_left 1
                          · ((intro w9 hSw; clear hSw; go_simp) <;> with_reducible rfl)
                          (try simp only [Act.put, pA, pZ, pS])
                          refine wpAnyP_done (by kernel_rfl) ?_ _
                          (try simp only [Act.put, List.getElem_toArray, List.getElem_cons_zero, List.getElem_cons_succ, pA, pZ, pS])
                          have hO8 := hHeld.1
                          clear hHeld
                          go_wp2
                          go_roundw
                          case rel => exact ⟨q + 1, wv, by omega, by go_num, rfl, hwm.trans (hO8.mono hwm.size), ⟨hWI.down.stay0 he2.down⟩⟩
                          case measure => simp [intOf]; omega
              · have he2 : e2f q = 2 := (he2f q).arg (by rw [decide_eq_false hbs, Bool.and_false, Bool.and_false])
                have hcn := hcn0.down (by rw [he2]; decide)
                rw [he2] at hcn
                have he2 := Hid.mk he2
                have hbs' : ¬ ((M q).sn : Int) = (bn : Int) := by omega
                have hbs2 : ((((M q).sn : Nat) : Int) != (bn : Int)) = true := bne_iff_ne.2 hbs'
                clear hcn0 hA1 hA2 hE2
                generalize e1f q = e1 at hab h12
                have h12b : (e1 == 2) = false := by simpa using h12
                go_wp2_with (first
                  | (go_at_call 11; with_reducible refine (hab _ hwz).mono ?_; rintro e w4 ⟨rfl, h04⟩))
                clear y0 y1 y2 y3 y4 y5 y6 y7 y8 y9 hab
                refine wp_region_late [] (fun w9 => Below wz.heap.size wz w9) (fun w9 => True) (by kernel_rfl) ?_ (fun hHeld => ?_)
                · (exact ⟨h04.trans (Below.refl _ _).drew, trivial⟩)
                generalize w4.drew = V14 at hHeld ⊢
                refine tk0 0 ?_ rfl (Or.inl ⟨by rfl, ?_⟩) hHeld ?_
                rotate_left 1
                · ((intro w9 hSw; have z0 := (hD w9 hSw).2.1; have z1 := (hD w9 hSw).2.2; clear hSw; go_simp) <;> with_reducible rfl)
                (try simp only [Act.put, pA, pZ, pS])
                refine wpAnyP_ready (rs := [1]) (by kernel_rfl) (by simp) ?_
                refine AllReadyP.cons (o := _) rfl (fun K hK => ?_) AllReadyP.nil
                · go_simp
                  (go_at_call 12; with_reducible refine (hbt _ (hwz.trans (hHeld.1.mono hwz.size))).mono ?_; rintro e w5 ⟨rfl, hb5⟩)
                  refine hK.out _ _ ?_ (fun hHeld => ?_)
                  · (exact ⟨hHeld.1.trans (hb5.mono hHeld.1.size), trivial⟩)
                  clear hK K
                  (try simp only [Act.put, pA, pZ, pS])
                  refine tk0 2 ?_ rfl (Or.inl ⟨by rfl, ?_⟩) hHeld ?_
                  rotate_left 1
                  · ((intro w9 hSw; clear hSw; go_simp) <;> with_reducible rfl)
                  (try simp only [Act.put, pA, pZ, pS])
                  refine tk0 3 ?_ rfl (Or.inl ⟨by rfl, ?_⟩) hHeld ?_
                  rotate_left 1
                  · ((intro w9 hSw; clear hSw; go_simp) <;> with_reducible rfl)
                  (try simp only [Act.put, pA, pZ, pS])
                  refine tk0 4 ?_ rfl (Or.inl ⟨by kernel_rfl, ?_⟩) hHeld ?_
                  rotate_left 1
                  · ((intro w9 hSw; clear hSw; go_simp) <;> with_reducible rfl)
                  (try simp only [Act.put, pA, pZ, pS])
                  refine tk0 5 (.bool false) rfl (Or.inl ⟨by kernel_rfl, ?_⟩) hHeld ?_
                  · ((intro w9 hSw; clear hSw; go_simp) <;> (first | with_reducible rfl | rw [h12b]))
                  (try simp only [Act.put, pA, pZ, pS])
                  refine tk0 6 ?_ rfl (Or.inl ⟨by rfl, ?_⟩) hHeld ?_
                  rotate_left 1
                  · ((intro w9 hSw; clear hSw; go_simp) <;> with_reducible rfl)
                  (try simp only [Act.put, pA, pZ, pS])
                  refine tk0 7 ?_ rfl (Or.inl ⟨by rfl, ?_⟩) hHeld ?_
                  rotate_left 1
                  · ((intro w9 hSw; clear hSw; go_simp) <;> with_reducible rfl)
                  (try simp only [Act.put, pA, pZ, pS])
                  refine tk0 8 ?_ rfl (Or.inl ⟨by kernel_rfl, ?_⟩) hHeld ?_
                  rotate_left 1
                  · ((intro w9 hSw; clear hSw; go_simp) <;> with_reducible rfl)
                  (try simp only [Act.put, pA, pZ, pS])
                  refine tk0 9 ?_ rfl (Or.inl ⟨by kernel_rfl, ?_⟩) hHeld ?_
                  rotate_left 1
                  · ((intro w9 hSw; clear hSw; go_simp) <;> with_reducible rfl)
                  (try simp only [Act.put, pA, pZ, pS])
                  refine tk0 10 ?_ rfl (Or.inl ⟨by kernel_rfl, ?_⟩) hHeld ?_
                  rotate_left 1
                  · ((intro w9 hSw; clear hSw; go_simp) <;> with_reducible rfl)
                  (try simp only [Act.put, pA, pZ, pS])
                  refine tk0 11 ?_ rfl (Or.inl ⟨by kernel_rfl, ?_⟩) hHeld ?_
                  rotate_left 1
                  · ((intro w9 hSw; clear hSw; go_simp) <;> with_reducible rfl)
                  (try simp only [Act.put, pA, pZ, pS])
                  refine tk0 12 ?_ rfl (Or.inl ⟨by kernel_rfl, ?_⟩) hHeld ?_
                  rotate_left 1
                  · ((intro w9 hSw; obtain ⟨z0, z1, z2, z3, z4, z5, z6, z7, z8, z9⟩ := (hD w9 hSw).1; clear hSw; go_simp) <;> with_reducible rfl)
                  (try simp only [Act.put, pA, pZ, pS])
                  refine tk0 13 ?_ rfl (Or.inl ⟨by kernel_rfl, ?_⟩) hHeld ?_
                  rotate_left 1
                  · ((intro w9 hSw; clear hSw; go_simp) <;> with_reducible rfl)
                  (try simp only [Act.put, pA, pZ, pS])
                  refine tk0 14 ?_ rfl (Or.inl ⟨by kernel_rfl, ?_⟩) hHeld ?_
                  rotate_left 1
                  · ((intro w9 hSw; clear hSw; go_simp) <;> with_reducible rfl)
                  (try simp only [Act.put, pA, pZ, pS])
                  refine tk0 15 ?_ rfl (Or.inl ⟨by kernel_rfl, ?_⟩) hHeld ?_
                  rotate_left 1
                  · ((intro w9 hSw; have z0 := (hD w9 hSw).2.1; have z1 := (hD w9 hSw).2.2; clear hSw; go_simp) <;> with_reducible rfl)
                  (try simp only [Act.put, pA, pZ, pS])
                  refine tk0 16 ?_ rfl (Or.inl ⟨by kernel_rfl, ?_⟩) hHeld ?_
                  rotate_left 1
                  · ((intro w9 hSw; clear hSw; go_simp) <;> with_reducible rfl)
                  (try simp only [Act.put, pA, pZ, pS])
                  refine tk0 17 ?_ rfl (Or.inl ⟨by kernel_rfl, ?_⟩) hHeld ?_
                  rotate_left 1
                  · ((intro w9 hSw; clear hSw; go_simp) <;> with_reducible rfl)
                  (try simp only [Act.put, pA, pZ, pS])
                  refine tk0 18 ?_ rfl (Or.inl ⟨by rfl, ?_⟩) hHeld ?_
                  rotate_left 1
                  · ((intro w9 hSw; clear hSw; go_simp) <;> with_reducible rfl)
                  (try simp only [Act.put, pA, pZ, pS])
                  refine wpAnyP_done (by kernel_rfl) ?_ _
                  (try simp only [Act.put, List.getElem_toArray, List.getElem_cons_zero, List.getElem_cons_succ, pA, pZ, pS])
                  have hO5 := hHeld.1
                  clear hHeld
                  go_wp2_with fail
                  refine wp_region_late [] (fun w9 => Below wz.heap.size wz w9) (fun w9 => True) (by kernel_rfl) ?_ (fun hHeld => ?_)
                  · (exact ⟨hO5.trans ((Below.refl _ _).drew), trivial⟩)
                  generalize w5.drew = V16 at hHeld ⊢
                  refine tk0 0 ?_ rfl (Or.inl ⟨by rfl, ?_⟩) hHeld ?_
                  rotate_left 1
                  · ((intro w9 hSw; clear hSw; go_simp) <;> with_reducible rfl)
                  (try simp only [Act.put, pA, pZ, pS])
                  refine tk0 1 ?_ rfl (Or.inl ⟨by rfl, ?_⟩) hHeld ?_
                  rotate_left 1
                  · ((intro w9 hSw; clear hSw; go_simp) <;> with_reducible rfl)
                  (try simp only [Act.put, pA, pZ, pS])
                  refine tk0 2 ?_ rfl (Or.inl ⟨by rfl, ?_⟩) hHeld ?_
                  rotate_left 1
                  · ((intro w9 hSw; clear hSw; go_simp) <;> with_reducible rfl)
                  (try simp only [Act.put, pA, pZ, pS])
                  refine tk0 3 ?_ rfl (Or.inl ⟨by rfl, ?_⟩) hHeld ?_
                  rotate_left 1
                  · ((intro w9 hSw; obtain ⟨z0, z1, z2, z3, z4, z5, z6, z7, z8, z9⟩ := (hD w9 hSw).1; clear hSw; go_simp) <;> with_reducible rfl)
                  (try simp only [Act.put, pA, pZ, pS])
                  refine tk0 4 ?_ rfl (Or.inl ⟨by rfl, ?_⟩) hHeld ?_
                  rotate_left 1
                  · ((intro w9 hSw; have z0 := (hD w9 hSw).2.1; have z1 := (hD w9 hSw).2.2; clear hSw; go_simp) <;> with_reducible rfl)
                  (try simp only [Act.put, pA, pZ, pS])
                  refine wpAnyP_ready (rs := [5]) (by kernel_rfl) (by simp) ?_
                  refine AllReadyP.cons (o := _) rfl (fun K hK => ?_) AllReadyP.nil
                  · go_simp
                    (go_at_call 13; with_reducible refine (hcn _ (hwz.trans (hHeld.1.mono hwz.size))).mono ?_; rintro e w6 ⟨rfl, hb6⟩)
                    refine hK.out _ _ ?_ (fun hHeld => ?_)
                    · (exact ⟨hHeld.1.trans (hb6.mono hHeld.1.size), trivial⟩)
                    clear hK K
                    (try simp only [Act.put, pA, pZ, pS])
                    refine tk0 6 ?_ rfl (Or.inl ⟨by rfl, ?_⟩) hHeld ?_
                    rotate_left 1
                    · ((intro w9 hSw; clear hSw; go_simp) <;> with_reducible rfl)
                    (try simp only [Act.put, pA, pZ, pS])
                    refine tk0 7 ?_ rfl (Or.inl ⟨by rfl, ?_⟩) hHeld ?_
                    rotate_left 1
                    · ((intro w9 hSw; clear hSw; go_simp) <;> with_reducible rfl)
                    (try simp only [Act.put, pA, pZ, pS])
                    refine tk0 8 ?_ rfl (Or.inl ⟨by rfl, ?_⟩) hHeld ?_
                    rotate_left 1
                    · ((intro w9 hSw; clear hSw; go_simp) <;> with_reducible rfl)
                    (try simp only [Act.put, pA, pZ, pS])
                    refine tk0 9 ?_ rfl (Or.inl ⟨by rfl, ?_⟩) hHeld ?_
                    rotate_left 1
                    · ((intro w9 hSw; clear hSw; go_simp) <;> with_reducible rfl)
                    (try simp only [Act.put, pA, pZ, pS])
                    refine tk0 10 ?_ rfl (Or.inl ⟨by rfl, ?_⟩) hHeld ?_
                    rotate_left 1
                    · ((intro w9 hSw; clear hSw; go_simp) <;> with_reducible rfl)
                    (try simp only [Act.put, pA, pZ, pS])
                    refine wpAnyP_done (by kernel_rfl) ?_ _
                    (try simp only [Act.put, List.getElem_toArray, List.getElem_cons_zero, List.getElem_cons_succ, pA, pZ, pS])
                    have hO6 := hHeld.1
                    clear hHeld
                    go_wp2
                    go_roundw
                    case rel => exact ⟨q + 1, 2, by omega, by go_num, rfl, hwm.trans (hO6.mono hwm.size), ⟨hWI.down.two he2.down⟩⟩
                    case measure => simp [intOf]; omega
        · obtain rfl : n = q := by omega
          have hkk := hkg.below hwz
          by_cases h4 : n ≤ 4
          · have hn4 : ¬ (4 : Int) < (n : Int) := by omega
            have hn0 : ¬ (n : Int) = 0 := by omega
            rcases hWR.down.wanted hWI.down (fine := fun i => (butB bn HX HY r && decide (bn = (M i).sn))) (fun i _ => he2f i) (fun i _ => rfl) h4 with ⟨hne, rfl, rfl⟩ | ⟨rfl, rfl, hfa, hca, hrow⟩
            · go_wp2_with (first
                | (go_at_call 8; with_reducible refine (known_ok _ hkk).mono ?_; rintro e w5 ⟨rfl, hb5⟩))
              go_ret
              exact ⟨rfl, hwz.trans (hb5.mono hwz.size)⟩
            · have hro6 := Hid.mk (ownsRow_below hrow hwm)
              have hrw := fun (W : World) (hW : Below w.heap.size w W) => rWho_some b off n lc M a1 bn c1 r HX HY sg W (hkg.below hW) h4 (hM.below hW) (hp.below hW) hfa hca (fun i _ k _ => hsg i k)
              clear hrow hWR
              obtain ⟨z0, z1⟩ := hB3 wz hwm
              have hkn := fun (W : World) (hW : Below w.heap.size w W) => known_ok W (hkg.below hW)
              go_wp2_with (first
                | (go_at_call 16; with_reducible refine (hrw _ hwz).mono ?_; rintro e w7 ⟨v7, rfl, hrow7, hb7⟩; replace hro6 := Hid.mk (ownsRow_below hro6.down hb7); have hro7 := Hid.mk hrow7; clear hrow7; have hw7 := hwz.trans (hb7.mono hwz.size))
                | (go_at_call 14; with_reducible refine (same_ownL _ _ _ _ _ _ (by have := whoL_length (seenB sg) n; omega) hro6.down hro7.down).mono ?_; rintro e w8 ⟨rfl, hb8⟩; have hw8 := hw7.trans (hb8.mono hw7.size))
                | (go_at_call 8; with_reducible refine (hkn _ hw8).mono ?_; rintro e w9 ⟨rfl, hb9⟩))
              go_ret
              exact ⟨rfl, hw8.trans (hb9.mono hw8.size)⟩
          · have hn4 : (4 : Int) < (n : Int) := by omega
            have hn0 : ¬ (n : Int) = 0 := by omega
            obtain ⟨rfl, rfl⟩ : E = 2 ∧ wn = 0 := by
              rcases hWR.down with ⟨h1, h2, _⟩ | ⟨_, _, h, _⟩ | ⟨_, h, _⟩
              · exact ⟨h1, h2⟩
              · omega
              · omega
            go_wp2_with (first
              | (go_at_call 8; with_reducible refine (known_ok _ hkk).mono ?_; rintro e w5 ⟨rfl, hb5⟩))
            go_ret
            exact ⟨rfl, hwz.trans (hb5.mono hwz.size)⟩
end Go.Proofs.YtbgjocgjmjkneaaGreatDoor
namespace Go.Proofs.YtbgjocgjmjkneaaGreatDoor
open Go.RowKit Go.Can
set_option maxRecDepth 100000 in
set_option maxHeartbeats 1000000 in
theorem coulds_zero (la : Option Addr) (lc : Nat) (a1 : Option Addr) (bn c1 : Nat) (r : Int) (w : World) (hkg : KG w) (hbn6 : bn ≤ 6) :
    Calls Tryz.prog 3 #[.slice la 0 lc, .agg #[.slice a1 bn c1, .int .i64 r]] w fun e w' => e = .returned (.bool true) ∧ Below w.heap.size w w' := by
  obtain ⟨W0, hW0⟩ : ∃ W0, w.alloc (Obj.cells #[.slice a1 bn c1, .int .i64 r] 25) = W0 := ⟨_, rfl⟩
  have hB0 : Below w.heap.size w W0 := by rw [← hW0]; exact (Below.refl _ _).alloc (Nat.le_refl _) _
  have hs0' : Hid (W0.heap.size = w.heap.size + 1) := ⟨by rw [← hW0]; exact World.size_alloc _ _⟩
  have c0 : W0.cell? ⟨w.heap.size, 0, none⟩ = some (.slice a1 bn c1) := by rw [← hW0]; exact cells_new w _ _ rfl
  have c1' : W0.cell? ⟨w.heap.size, 1, none⟩ = some (.int .i64 r) := by rw [← hW0]; exact cells_new w _ _ rfl
  have hfw := fun (W : World) => few_any a1 bn c1 r W (by omega)
  rw [show decide (bn ≤ 6) = true from decide_eq_true hbn6] at hfw
  have hwho := fun (W : World) => Who_odd la 0 lc a1 bn c1 r W (by omega) (by omega)
  go_enter Tryz.func3, Tryz.ntmps3
  go_wp2_with (first | (go_at_call 7; with_reducible refine (hfw _).mono ?_; rintro e w1 ⟨rfl, hb1⟩))
  have h01 : Below w.heap.size w w1 := hB0.trans (hb1.mono hB0.size)
  have hsz1 := hs0'.down
  have d0 := (hb1.cell (p := ⟨w.heap.size, 0, none⟩) (by show w.heap.size < _; omega)).trans c0
  have d1 := (hb1.cell (p := ⟨w.heap.size, 1, none⟩) (by show w.heap.size < _; omega)).trans c1'
  clear c0 c1' hsz1 hW0
  go_loopw [5] (fun i wr => i = .int .i64 0 ∧ wr = w1) (fun i _ => 0)
  case atStart => exact ⟨rfl, rfl⟩
  case round =>
    obtain ⟨rfl, rfl⟩ := hrel
    go_wp2_with (first
      | (go_at_call 10; with_reducible refine (hwho _).mono ?_; rintro e w3 ⟨rfl, hb3⟩))
    have h03 := h01.trans (hb3.mono h01.size)
    go_loopw [8, 9] (fun wt i wr => i = .int .i64 0 ∧ wt = .int .i64 0 ∧ wr = w3) (fun _ i _ => 0)
    case atStart => exact ⟨rfl, rfl, rfl⟩
    case round =>
      obtain ⟨rfl, rfl, rfl⟩ := hrel
      go_wp2_with (first
        | (go_at_call 8; with_reducible refine (known_ok _ (hkg.below h03)).mono ?_; rintro e w5 ⟨rfl, hb5⟩))
      go_ret
      exact ⟨rfl, h03.trans (hb5.mono h03.size)⟩
set_option maxRecDepth 100000 in
set_option maxHeartbeats 1000000 in
theorem coulds_long (la : Option Addr) (n lc : Nat) (a1 : Option Addr) (bn c1 : Nat) (r : Int) (w : World) (hkg : KG w) (hbn : bn ≤ 9223372036854775807) (h : 6 < n ∨ 6 < bn) :
    Calls Tryz.prog 3 #[.slice la n lc, .agg #[.slice a1 bn c1, .int .i64 r]] w fun e w' => e = .returned (.bool true) ∧ Below w.heap.size w w' := by
  obtain ⟨W0, hW0⟩ : ∃ W0, w.alloc (Obj.cells #[.slice a1 bn c1, .int .i64 r] 25) = W0 := ⟨_, rfl⟩
  have hB0 : Below w.heap.size w W0 := by rw [← hW0]; exact (Below.refl _ _).alloc (Nat.le_refl _) _
  have c0 : W0.cell? ⟨w.heap.size, 0, none⟩ = some (.slice a1 bn c1) := by rw [← hW0]; exact cells_new w _ _ rfl
  have c1' : W0.cell? ⟨w.heap.size, 1, none⟩ = some (.int .i64 r) := by rw [← hW0]; exact cells_new w _ _ rfl
  have hfw := fun (W : World) => few_any a1 bn c1 r W hbn
  by_cases hn : 6 < n
  · have hng : (6 : Int) < (n : Int) := by omega
    go_enter Tryz.func3, Tryz.ntmps3
    go_wp2_with (first
      | (go_at_call 8; with_reducible refine (known_ok _ (hkg.below hB0)).mono ?_; rintro e w5 ⟨rfl, hb5⟩))
    go_ret
    exact ⟨rfl, hB0.trans (hb5.mono hB0.size)⟩
  · have hng : ¬ (6 : Int) < (n : Int) := by omega
    rw [show decide (bn ≤ 6) = false from decide_eq_false (by omega)] at hfw
    go_enter Tryz.func3, Tryz.ntmps3
    go_wp2_with (first
      | (go_at_call 7; with_reducible refine (hfw _).mono ?_; rintro e w1 ⟨rfl, hb1⟩; have h01 := hB0.trans (hb1.mono hB0.size))
      | (go_at_call 8; with_reducible refine (known_ok _ (hkg.below h01)).mono ?_; rintro e w5 ⟨rfl, hb5⟩))
    go_ret
    exact ⟨rfl, h01.trans (hb5.mono h01.size)⟩
theorem coulds_all {la : Option Addr} {n lc : Nat} {M : Nat → Mach} {a1 : Option Addr} {bn c1 : Nat} {r : Int} {HX HY : Nat → Int} {w : World} (hkg : KG w) (hbn : bn ≤ 9223372036854775807) (hM : MSl w (.slice la n lc) n M) (hsz : ∀ i, i < n → (M i).sn ≤ 9223372036854775807 ∧ (M i).rn ≤ 9223372036854775807) (hp : PSl w (.slice a1 bn c1) bn HX HY) :
    Calls Tryz.prog 3 #[.slice la n lc, .agg #[.slice a1 bn c1, .int .i64 r]] w fun e w' => e = .returned (.bool true) ∧ Below w.heap.size w w' := by
  by_cases h : 6 < n ∨ 6 < bn
  · exact coulds_long la n lc a1 bn c1 r w hkg hbn h
  · rcases hM with ⟨a, c, e, rfl⟩ | ⟨b, off, c, e, hM⟩
    · exact coulds_zero la lc a1 bn c1 r w hkg (by omega)
    · cases e
      rcases Nat.eq_zero_or_pos n with h0 | h0
      · subst h0; exact coulds_zero _ lc a1 bn c1 r w hkg (by omega)
      · exact coulds_some b off n lc M a1 bn c1 r HX HY w hkg h0 (by omega) (by omega) hM hsz hp
end Go.Proofs.YtbgjocgjmjkneaaGreatDoor
