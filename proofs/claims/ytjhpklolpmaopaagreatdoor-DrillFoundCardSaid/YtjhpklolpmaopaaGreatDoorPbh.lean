/- A part of the proof: see the last file. -/
import Derived.Test.YtjhpklolpmaopaaGreatDoorPbg
import Derived.Test.YtjhpklolpmaopaaGreatDoorPbe
import Derived.Test.YtjhpklolpmaopaaGreatDoorPaa
import Derived.Test.YtjhpklolpmaopaaGreatDoorPaj
import Derived.Test.YtjhpklolpmaopaaGreatDoorPal
import Derived.Test.YtjhpklolpmaopaaGreatDoorPbd
import Derived.Test.YtjhpklolpmaopaaGreatDoorPai
import Derived.Test.YtjhpklolpmaopaaGreatDoorPad
set_option linter.unusedVariables false
set_option linter.unusedSimpArgs false
set_option linter.unusedSectionVars false
namespace Go.Proofs.YtjhpklolpmaopaaGreatDoor
open Go.RowKit
/-- what stays while Gauge goes through the blanks. -/
structure GX (w W : World) (n sb so cap cb b1 o1 k1 bm kk g t : Nat) (SX SY HX HY : Nat → Int) (r : Int) (L : List Value) (Q : Int → Int → Bool) : Prop where
 old : Below w.heap.size w W
 tg : TrialG W n sb so cap cb b1 o1 k1 SX SY HX HY r
 gm : GoodAt W bm kk Q
 st : SAt W g L
 t0 : W.cell? ⟨t, 0, none⟩ = some (.slice (some ⟨sb, so, none⟩) n cap)
 t1 : W.cell? ⟨t, 1, none⟩ = some (.func (.func 111) #[] #[.pointer (some ⟨cb, 0, none⟩)])
 t2 : W.cell? ⟨t, 2, none⟩ = some (.map (some bm))
 lg : g < bm
 lt : bm < t
 big : t < W.heap.size
 ls : sb < bm
 l1 : b1 < bm
 lc : cb < bm
 lw : w.heap.size ≤ bm
theorem GX.below {w W W' : World} {n sb so cap cb b1 o1 k1 bm kk g t : Nat} {SX SY HX HY : Nat → Int} {r : Int} {L : List Value} {Q : Int → Int → Bool} (h : GX w W n sb so cap cb b1 o1 k1 bm kk g t SX SY HX HY r L Q) (hb : Below W.heap.size W W') : GX w W' n sb so cap cb b1 o1 k1 bm kk g t SX SY HX HY r L Q := by
 have h1 := h.lg; have h2 := h.lt; have h3 := h.big
 exact ⟨h.old.trans (hb.mono h.old.size), h.tg.below hb, h.gm.below hb h.gm.lt, h.st.below hb (by omega), (hb.cell (p := ⟨t, 0, none⟩) h3).trans h.t0, (hb.cell (p := ⟨t, 1, none⟩) h3).trans h.t1, (hb.cell (p := ⟨t, 2, none⟩) h3).trans h.t2, h1, h2, Nat.lt_of_lt_of_le h3 hb.size, h.ls, h.l1, h.lc, h.lw⟩
theorem GX.grown {w W W' : World} {n sb so cap cb b1 o1 k1 bm kk kk' g t : Nat} {SX SY HX HY : Nat → Int} {r : Int} {L : List Value} {Q : Int → Int → Bool} (h : GX w W n sb so cap cb b1 o1 k1 bm kk g t SX SY HX HY r L Q) (hg : W.grownBy W' (some bm)) (hgm : GoodAt W' bm kk' Q) : GX w W' n sb so cap cb b1 o1 k1 bm kk' g t SX SY HX HY r L Q := by
 have h1 := h.lg; have h2 := h.lt; have h3 := h.big; have h4 := h.lw; have h5 := h.old.size
 have c : ∀ j, W'.cell? ⟨t, j, none⟩ = W.cell? ⟨t, j, none⟩ := fun j => World.cell?_of_block (hg.block t h3 (by intro e; injection e; omega))
 exact ⟨h.old.grown hg h5 (fun k e => by cases e; exact h4), h.tg.grown hg h.ls h.l1 h.lc, hgm, h.st.far (hg.block g (by omega) (by intro e; injection e; omega)), (c _).trans h.t0, (c _).trans h.t1, (c _).trans h.t2, h1, h2, Nat.lt_of_lt_of_le h3 hg.size, h.ls, h.l1, h.lc, h.lw⟩
theorem GX.mono {w W : World} {n sb so cap cb b1 o1 k1 bm kk kk' g t : Nat} {SX SY HX HY : Nat → Int} {r : Int} {L : List Value} {Q : Int → Int → Bool} (h : GX w W n sb so cap cb b1 o1 k1 bm kk g t SX SY HX HY r L Q) (hk : kk ≤ kk') : GX w W n sb so cap cb b1 o1 k1 bm kk' g t SX SY HX HY r L Q :=
 ⟨h.old, h.tg, h.gm.mono hk, h.st, h.t0, h.t1, h.t2, h.lg, h.lt, h.big, h.ls, h.l1, h.lc, h.lw⟩
end Go.Proofs.YtjhpklolpmaopaaGreatDoor
namespace Go.Proofs.YtjhpklolpmaopaaGreatDoor
open Go.RowKit
/-- a machine and a button in blocks of their own. -/
structure SB (w W : World) (m : Mach) (v1 : Value) (r : Int) : Prop where
 c0 : W.cell? ⟨w.heap.size + 1, 0, none⟩ = some v1
 c1 : W.cell? ⟨w.heap.size + 1, 1, none⟩ = some (.int .i64 r)
 mach : MAt W w.heap.size m
 old : Below w.heap.size w W
 big : w.heap.size + 2 ≤ W.heap.size
theorem SB.below {w W W' : World} {m : Mach} {v1 : Value} {r : Int} (h : SB w W m v1 r) (hb : Below W.heap.size W W') : SB w W' m v1 r := by
 have := h.big
 exact ⟨(hb.cell (p := ⟨w.heap.size + 1, 0, none⟩) (by show w.heap.size + 1 < _; omega)).trans h.c0, (hb.cell (p := ⟨w.heap.size + 1, 1, none⟩) (by show w.heap.size + 1 < _; omega)).trans h.c1, h.mach.below hb (by omega), h.old.trans (hb.mono (by omega)), Nat.le_trans h.big hb.size⟩
theorem SB.alloc {w W : World} {m : Mach} {v1 : Value} {r : Int} (h : SB w W m v1 r) (o : Obj) : SB w (W.alloc o) m v1 r := h.below ((Below.refl _ _).alloc (Nat.le_refl _) o)
theorem SB.drew {w W : World} {m : Mach} {v1 : Value} {r : Int} (h : SB w W m v1 r) : SB w W.drew m v1 r := h.below (Below.refl _ _).drew
theorem SB.put {w W : World} {m : Mach} {v1 : Value} {r : Int} (h : SB w W m v1 r) {g : Nat} (hg : w.heap.size + 2 ≤ g) (L : List Value) : SB w (W.setCells g 0 L) m v1 r := by
 have hl := h.big
 have hbl : Below (w.heap.size + 2) W (W.setCells g 0 L) := below_setCells hg L 0 W (Below.refl _ _)
 exact ⟨(hbl.cell (p := ⟨w.heap.size + 1, 0, none⟩) (by show w.heap.size + 1 < _; omega)).trans h.c0, (hbl.cell (p := ⟨w.heap.size + 1, 1, none⟩) (by show w.heap.size + 1 < _; omega)).trans h.c1, h.mach.below hbl (by omega), below_setCells (by omega) L 0 W h.old, by rw [size_setCells]; exact hl⟩
theorem SB.grown {w W W' : World} {m : Mach} {v1 : Value} {r : Int} {b : Nat} (h : SB w W m v1 r) (hg : W.grownBy W' (some b)) (hb : w.heap.size + 2 ≤ b) : SB w W' m v1 r := by
 have hl := h.big
 have hbl : Below (w.heap.size + 2) W W' := (Below.refl _ _).grown hg hl fun k e => by cases e; exact hb
 exact ⟨(hbl.cell (p := ⟨w.heap.size + 1, 0, none⟩) (by show w.heap.size + 1 < _; omega)).trans h.c0, (hbl.cell (p := ⟨w.heap.size + 1, 1, none⟩) (by show w.heap.size + 1 < _; omega)).trans h.c1, h.mach.below hbl (by omega), h.old.trans (hbl.mono (by omega)), Nat.le_trans hl hg.size⟩
theorem SB.new (w : World) (m : Mach) (v1 : Value) (r : Int) : SB w ((w.alloc (.cells #[.slice m.sa m.sn m.sc, .int .i64 m.c0, .int .i64 m.c1, .int .i64 m.d0, .int .i64 m.d1, .int .i64 m.w0, .int .i64 m.w1, .int .i64 m.v0, .int .i64 m.v1, .slice m.ra m.rn m.rc] 27)).alloc (Obj.cells #[v1, .int .i64 r] 41)) m v1 r := by
 have h := (MAt.new w m).below ((Below.refl _ _).alloc (Nat.le_refl _) (Obj.cells #[v1, .int .i64 r] 41)) (by rw [World.size_alloc]; omega)
 have c := fun j u (hj : (#[v1, .int .i64 r] : Array Value)[j]? = some u) => cells_new (w.alloc (.cells #[.slice m.sa m.sn m.sc, .int .i64 m.c0, .int .i64 m.c1, .int .i64 m.d0, .int .i64 m.d1, .int .i64 m.w0, .int .i64 m.w1, .int .i64 m.v0, .int .i64 m.v1, .slice m.ra m.rn m.rc] 27)) #[v1, .int .i64 r] 41 hj
 rw [World.size_alloc] at c
 exact ⟨c 0 _ rfl, c 1 _ rfl, h, ((Below.refl _ _).alloc (Nat.le_refl _) _).alloc (by rw [World.size_alloc]; omega) _, by rw [World.size_alloc, World.size_alloc]; omega⟩
/-- a button is as defined. -/
def butB (n : Nat) (X Y : Nat → Int) (r : Int) : Bool := arB n 2 X Y 80 && inB r 0 4
theorem but_parts {n : Nat} {X Y : Nat → Int} {r : Int} (h : butB n X Y r = true) : (2 ≤ n ∧ n ≤ 4) ∧ (0 ≤ r ∧ r ≤ 4) ∧ (∀ i, i < n → small (X i, Y i)) := by
 unfold butB arB at h
 simp only [Bool.and_eq_true] at h
 obtain ⟨⟨h1, h2⟩, h3⟩ := h
 have h1 := inB_iff.1 h1
 refine ⟨⟨by omega, by omega⟩, inB_iff.1 h3, fun i hi => ?_⟩
 have := allB_iff.1 h2 i hi
 unfold ptB at this
 rw [Bool.and_eq_true, inB_iff, inB_iff] at this
 exact this
set_option maxRecDepth 100000 in
set_option maxHeartbeats 1000000 in
theorem isOf_any (v1 : Value) (a1 : Option Addr) (n c1 : Nat) (r : Int) (HX HY : Nat → Int) (m : Mach) (w : World) (hv : v1 = .slice a1 n c1) (hn : n ≤ 1000) (hs : m.sn ≤ 9223372036854775807) (hp : PSl w v1 n HX HY) :
  Calls Tryz.prog 47 #[.agg #[v1, .int .i64 r], m.val] w fun e w' => e = .returned (.bool (butB n HX HY r && decide (n = m.sn))) ∧ Below w.heap.size w w' := by
 subst hv
 obtain ⟨W0, hW0⟩ : ∃ W0, (w.alloc (Obj.cells #[.slice a1 n c1, .int .i64 r] 41)).alloc (.cells #[.slice m.sa m.sn m.sc, .int .i64 m.c0, .int .i64 m.c1, .int .i64 m.d0, .int .i64 m.d1, .int .i64 m.w0, .int .i64 m.w1, .int .i64 m.v0, .int .i64 m.v1, .slice m.ra m.rn m.rc] 27) = W0 := ⟨_, rfl⟩
 have hb0 : Below w.heap.size w W0 := by rw [← hW0]; exact ((Below.refl _ _).alloc (Nat.le_refl _) _).alloc (by rw [World.size_alloc]; omega) _
 have hsz : W0.heap.size = w.heap.size + 1 + 1 := by rw [← hW0, World.size_alloc, World.size_alloc]
 have c0 : W0.cell? ⟨w.heap.size, 0, none⟩ = some (.slice a1 n c1) := by rw [← hW0]; exact cell_under w _ _ _ _ rfl
 have c1' : W0.cell? ⟨w.heap.size, 1, none⟩ = some (.int .i64 r) := by rw [← hW0]; exact cell_under w _ _ _ _ rfl
 have d0 : W0.cell? ⟨w.heap.size + 1, 0, none⟩ = some (.slice m.sa m.sn m.sc) := by
  have := (MAt.new (w.alloc (Obj.cells #[.slice a1 n c1, .int .i64 r] 41)) m).k0
  rw [World.size_alloc] at this; rw [← hW0]; exact this
 have har := are_any (.slice a1 n c1) n 2 HX HY 80 (by omega) (by omega) W0 hn (hp.below hb0)
 have hwi := fun (W : World) => within_any r 0 4 W
 unfold butB
 generalize arB n 2 HX HY 80 = x at har ⊢
 generalize inB r 0 4 = y at hwi ⊢
 go_enter Tryz.func47, Tryz.ntmps47
 cases x
 ·go_wp2_with (first | (go_at_call 64; with_reducible refine har.mono ?_; rintro e w1 ⟨rfl, hb1⟩; have p0 := (hb1.cell (p := ⟨w.heap.size, 0, none⟩) (by show w.heap.size < _; omega)).trans c0; have p1 := (hb1.cell (p := ⟨w.heap.size, 1, none⟩) (by show w.heap.size < _; omega)).trans c1'; have q1 := (hb1.cell (p := ⟨w.heap.size + 1, 0, none⟩) (by show w.heap.size + 1 < _; omega)).trans d0) | (go_at_call 49; with_reducible refine (hwi _).mono ?_; rintro e w8 ⟨rfl, rfl⟩))
  go_ret
  exact ⟨rfl, hb0.trans (hb1.mono hb0.size)⟩
 ·cases y
  ·go_wp2_with (first | (go_at_call 64; with_reducible refine har.mono ?_; rintro e w1 ⟨rfl, hb1⟩; have p0 := (hb1.cell (p := ⟨w.heap.size, 0, none⟩) (by show w.heap.size < _; omega)).trans c0; have p1 := (hb1.cell (p := ⟨w.heap.size, 1, none⟩) (by show w.heap.size < _; omega)).trans c1'; have q1 := (hb1.cell (p := ⟨w.heap.size + 1, 0, none⟩) (by show w.heap.size + 1 < _; omega)).trans d0) | (go_at_call 49; with_reducible refine (hwi _).mono ?_; rintro e w8 ⟨rfl, rfl⟩))
   go_ret
   exact ⟨rfl, hb0.trans (hb1.mono hb0.size)⟩
  ·by_cases hnn : n = m.sn
   ·subst hnn
    go_wp2_with (first | (go_at_call 64; with_reducible refine har.mono ?_; rintro e w1 ⟨rfl, hb1⟩; have p0 := (hb1.cell (p := ⟨w.heap.size, 0, none⟩) (by show w.heap.size < _; omega)).trans c0; have p1 := (hb1.cell (p := ⟨w.heap.size, 1, none⟩) (by show w.heap.size < _; omega)).trans c1'; have q1 := (hb1.cell (p := ⟨w.heap.size + 1, 0, none⟩) (by show w.heap.size + 1 < _; omega)).trans d0) | (go_at_call 49; with_reducible refine (hwi _).mono ?_; rintro e w8 ⟨rfl, rfl⟩))
    go_ret
    exact ⟨by simp, hb0.trans (hb1.mono hb0.size)⟩
   ·have hni : ¬ (n : Int) = (m.sn : Int) := by omega
    go_wp2_with (first | (go_at_call 64; with_reducible refine har.mono ?_; rintro e w1 ⟨rfl, hb1⟩; have p0 := (hb1.cell (p := ⟨w.heap.size, 0, none⟩) (by show w.heap.size < _; omega)).trans c0; have p1 := (hb1.cell (p := ⟨w.heap.size, 1, none⟩) (by show w.heap.size < _; omega)).trans c1'; have q1 := (hb1.cell (p := ⟨w.heap.size + 1, 0, none⟩) (by show w.heap.size + 1 < _; omega)).trans d0) | (go_at_call 49; with_reducible refine (hwi _).mono ?_; rintro e w8 ⟨rfl, rfl⟩))
    go_ret
    exact ⟨by simp [hnn, hni], hb0.trans (hb1.mono hb0.size)⟩
end Go.Proofs.YtjhpklolpmaopaaGreatDoor
namespace Go.Proofs.YtjhpklolpmaopaaGreatDoor
open Go.RowKit Go.Can
def box5 (b : Int × Int × Int × Int) : Int × Int × Int × Int × Int := (0, b.1, b.2.1, b.2.2.1, b.2.2.2)
def boxE (b : Int × Int × Int × Int) : Bool := decide (b.2.1 < b.1) || decide (b.2.2.2 < b.2.2.1)
/-- the marks of the boxes up to a turn and an order. -/
structure BoxL (Bx : Nat → Nat → Int × Int × Int × Int) (K : Nat) (t k : Nat) (cnt : Nat) (f : Nat → Int × Int × Int × Int × Int) : Prop where
 few : cnt ≤ t * 24 + k
 made : ∀ i, i < cnt → ∃ t' k', t' < 8 ∧ k' < K ∧ f i = box5 (Bx t' k') ∧ boxE (Bx t' k') = false
 has : ∀ t' k', k' < K → (t' < t ∨ t' = t ∧ k' < k) → boxE (Bx t' k') = false → ∃ i, i < cnt ∧ f i = box5 (Bx t' k')
/-- a fact that nothing shall be rewritten by. -/
structure Hid (p : Prop) : Prop where
 down : p
theorem BoxL.zero {Bx : Nat → Nat → Int × Int × Int × Int} {K : Nat} {f : Nat → Int × Int × Int × Int × Int} : BoxL Bx K 0 0 0 f := ⟨Nat.zero_le _, fun i h => absurd h (Nat.not_lt_zero i), fun t' k' _ h => by omega⟩
theorem BoxL.turn {Bx : Nat → Nat → Int × Int × Int × Int} {K t cnt : Nat} {f : Nat → Int × Int × Int × Int × Int} (h : BoxL Bx K t K cnt f) (hK : K ≤ 24) : BoxL Bx K (t + 1) 0 cnt f :=
 ⟨by have := h.few; omega, h.made, fun t' k' hk ht => h.has t' k' hk (by omega)⟩
theorem BoxL.skip {Bx : Nat → Nat → Int × Int × Int × Int} {K t k cnt : Nat} {f : Nat → Int × Int × Int × Int × Int} (h : BoxL Bx K t k cnt f) (hs : boxE (Bx t k) = true ∨ ∃ i, i < cnt ∧ f i = box5 (Bx t k)) : BoxL Bx K t (k + 1) cnt f :=
 ⟨by have := h.few; omega, h.made, fun t' k' hk ht he => by
  by_cases hh : t' = t ∧ k' = k
  ·obtain ⟨rfl, rfl⟩ := hh
   rcases hs with hs | hs
   ·rw [hs] at he; cases he
   ·exact hs
  ·exact h.has t' k' hk (by omega) he⟩
theorem BoxL.push {Bx : Nat → Nat → Int × Int × Int × Int} {K t k cnt : Nat} {f : Nat → Int × Int × Int × Int × Int} (h : BoxL Bx K t k cnt f) (ht : t < 8) (hk : k < K) (he : boxE (Bx t k) = false) : BoxL Bx K t (k + 1) (cnt + 1) (fun i => if i = cnt then box5 (Bx t k) else f i) := by
 refine ⟨by have := h.few; omega, fun i hi => ?_, fun t' k' hk' ht' he' => ?_⟩
 ·by_cases hc : i = cnt
  ·subst hc; rw [if_pos rfl]; exact ⟨t, k, ht, hk, rfl, he⟩
  ·rw [if_neg hc]; exact h.made i (by omega)
 ·by_cases hh : t' = t ∧ k' = k
  ·obtain ⟨rfl, rfl⟩ := hh
   exact ⟨cnt, by omega, by rw [if_pos rfl]⟩
  ·obtain ⟨i, h1, h2⟩ := h.has t' k' hk' (by omega) he'
   exact ⟨i, by omega, by rw [if_neg (by omega)]; exact h2⟩
/-- a box in the making, in the block behind all that was. -/
structure B13 (wr W : World) (b : Int × Int × Int × Int) : Prop where
 old : Below wr.heap.size wr W
 x : AAt W wr.heap.size 0 b.1 b.2.1 b.2.2.1 (.int .i64 b.2.2.2)
 lt : wr.heap.size < W.heap.size
theorem B13.below {wr W W' : World} {b : Int × Int × Int × Int} (h : B13 wr W b) (hb : Below W.heap.size W W') : B13 wr W' b :=
 ⟨h.old.trans (hb.mono h.old.size), h.x.below hb h.lt, Nat.lt_of_lt_of_le h.lt hb.size⟩
theorem B13.drew {wr W : World} {b : Int × Int × Int × Int} (h : B13 wr W b) : B13 wr W.drew b := h.below (Below.refl _ _).drew
theorem B13.put {wr W : World} {b : Int × Int × Int × Int} (h : B13 wr W b) {P : Nat} (hP : wr.heap.size < P) (u v : Value) : B13 wr ((W.setCell ⟨P, 0, none⟩ u).setCell ⟨P, 1, none⟩ v) b :=
 ⟨(h.old.setCell (p := ⟨P, 0, none⟩) (Nat.le_of_lt hP) u).setCell (p := ⟨P, 1, none⟩) (Nat.le_of_lt hP) v, h.x.far ((Below.heap_setCell _ ⟨P, 1, none⟩ v _ (Nat.ne_of_lt hP)).trans (Below.heap_setCell W ⟨P, 0, none⟩ u _ (Nat.ne_of_lt hP))), by rw [World.size_setCell, World.size_setCell]; exact h.lt⟩
theorem Two.far2 {W : World} {A P : Nat} {x y : Int} (h : Two W A x y) (hne : P ≠ A) (u v : Value) : Two ((W.setCell ⟨P, 0, none⟩ u).setCell ⟨P, 1, none⟩ v) A x y :=
 h.far ((Below.heap_setCell _ ⟨P, 1, none⟩ v _ (Ne.symm hne)).trans (Below.heap_setCell W ⟨P, 0, none⟩ u _ (Ne.symm hne)))
end Go.Proofs.YtjhpklolpmaopaaGreatDoor
namespace Go.Proofs.YtjhpklolpmaopaaGreatDoor
open Go.RowKit
/-- a machine in a block of its own. -/
structure PoR (w : World) (m : Mach) (W : World) : Prop where
 mat : MAt W w.heap.size m
 old : Below w.heap.size w W
 big : w.heap.size < W.heap.size
theorem PoR.below {w : World} {m : Mach} {W W' : World} (h : PoR w m W) (hb : Below W.heap.size W W') : PoR w m W' :=
 ⟨h.mat.below hb h.big, h.old.trans (hb.mono h.old.size), Nat.lt_of_lt_of_le h.big hb.size⟩
structure PoK (w : World) (m : Mach) (W : World) : Prop where
 mat : MAt W w.heap.size m
 old : Below w.heap.size w W
 big : w.heap.size + 3 ≤ W.heap.size
theorem PoK.below {w : World} {m : Mach} {W W' : World} (h : PoK w m W) (hb : Below W.heap.size W W') : PoK w m W' :=
 have := h.big
 ⟨h.mat.below hb (by omega), h.old.trans (hb.mono h.old.size), Nat.le_trans h.big hb.size⟩
structure KcR (w : World) (m : Mach) (gx gy : Nat) (EX EY : Nat → Int × Int) (W : World) : Prop where
 cx : CAt W gx EX
 cy : CAt W gy EY
 old : Below w.heap.size w W
 big : w.heap.size + 3 ≤ W.heap.size
 nx : gx ≠ w.heap.size + 1 ∧ gx ≠ w.heap.size + 1 + 1
 ny : gy ≠ w.heap.size + 1 ∧ gy ≠ w.heap.size + 1 + 1
theorem KcR.put {w : World} {m : Mach} {gx gy : Nat} {EX EY : Nat → Int × Int} {W : World} (h : KcR w m gx gy EX EY W) {D : Nat} (h1 : w.heap.size + 1 ≤ D) (h2 : D ≤ w.heap.size + 2) (x y : Value) : KcR w m gx gy EX EY ((W.setCell ⟨D, 0, none⟩ x).setCell ⟨D, 1, none⟩ y) :=
 have a := h.nx
 have b := h.ny
 ⟨h.cx.far2 (by omega) _ _ _ _, h.cy.far2 (by omega) _ _ _ _, (h.old.setCell (p := ⟨D, 0, none⟩) (by show w.heap.size ≤ D; omega) _).setCell (p := ⟨D, 1, none⟩) (by show w.heap.size ≤ D; omega) _, by rw [World.size_setCell, World.size_setCell]; exact h.big, h.nx, h.ny⟩
end Go.Proofs.YtjhpklolpmaopaaGreatDoor
namespace Go.Proofs.YtjhpklolpmaopaaGreatDoor
open Go.RowKit Go.Can
/-- the marks of a machine, and a box at a blank. -/
def withF (m : Mach) (k : Nat) (b : Int × Int × Int × Int) : Nat → Int × Int × Int × Int × Int := fun i => if i = m.rn then ((k : Int), b.1, b.2.1, b.2.2.1, b.2.2.2) else m.mark i
def wX (m : Mach) (k : Nat) (b : Int × Int × Int × Int) : Axis := mkX m (m.rn + 1) (withF m k b)
def wY (m : Mach) (k : Nat) (b : Int × Int × Int × Int) : Axis := mkY m (m.rn + 1) (withF m k b)
theorem plusX (m : Mach) (k : Nat) (b : Int × Int × Int × Int) : m.axX.Plus (wX m k b) k b.1 b.2.1 :=
 ⟨rfl, rfl, rfl, rfl, rfl, fun i hi => by
  have hi : i < m.rn := hi
  show ((withF m k b i).1, (withF m k b i).2.1, (withF m k b i).2.2.1) = _
  unfold withF; rw [if_neg (by omega)]; rfl, by
  show ((withF m k b m.rn).1, (withF m k b m.rn).2.1, (withF m k b m.rn).2.2.1) = _
  unfold withF; rw [if_pos rfl]⟩
theorem plusY (m : Mach) (k : Nat) (b : Int × Int × Int × Int) : m.axY.Plus (wY m k b) k b.2.2.1 b.2.2.2 :=
 ⟨rfl, rfl, rfl, rfl, rfl, fun i hi => by
  have hi : i < m.rn := hi
  show ((withF m k b i).1, (withF m k b i).2.2.2.1, (withF m k b i).2.2.2.2) = _
  unfold withF; rw [if_neg (by omega)]; rfl, by
  show ((withF m k b m.rn).1, (withF m k b m.rn).2.2.2.1, (withF m k b m.rn).2.2.2.2) = _
  unfold withF; rw [if_pos rfl]⟩
def canW (m : Mach) (k : Nat) (b : Int × Int × Int × Int) : Prop := (wX m k b).can ∧ (wY m k b).can
def bdB (b : Int × Int × Int × Int) : Prop := (-110 ≤ b.1 ∧ b.1 ≤ 110) ∧ (-110 ≤ b.2.1 ∧ b.2.1 ≤ 110) ∧ (-110 ≤ b.2.2.1 ∧ b.2.2.1 ≤ 110) ∧ (-110 ≤ b.2.2.2 ∧ b.2.2.2 ≤ 110)
theorem wX_fine {m : Mach} {k : Nat} {b : Int × Int × Int × Int} (hok : m.ok = true) (hk : k ≤ 12) (hb : bdB b) : (wX m k b).fine :=
 (plusX m k b).fine (Mach.fineX hok) (by have := (Mach.ok_parts hok).2.1; show m.rn ≤ 7; omega) hk hb.1 hb.2.1
theorem wY_fine {m : Mach} {k : Nat} {b : Int × Int × Int × Int} (hok : m.ok = true) (hk : k ≤ 12) (hb : bdB b) : (wY m k b).fine :=
 (plusY m k b).fine (Mach.fineY hok) (by have := (Mach.ok_parts hok).2.1; show m.rn ≤ 7; omega) hk hb.2.2.1 hb.2.2.2
theorem cells_one1 (w : World) (a : Value) (e : TypeId) : ∀ (j : Nat) (u : Value), [a][j]? = some u → (w.alloc (Obj.cells #[a] e)).cell? ((⟨w.heap.size, 0, none⟩ : Addr).add j) = some u := by
 intro j u h
 match j, h with
 | 0, h => simp at h; subst h; simp [go_sem, Addr.add]
 | n+1, h => simp at h
end Go.Proofs.YtjhpklolpmaopaaGreatDoor
namespace Go.Proofs.YtjhpklolpmaopaaGreatDoor
open Go.RowKit
/-- one clue in memory. -/
structure OneC (w : World) (g o : Nat) (k lo hi : Int) : Prop where
 k0 : w.cell? ⟨g, o, none⟩ = some (.int .i64 k)
 k1 : w.cell? ⟨g, o + 1, none⟩ = some (.int .i64 lo)
 k2 : w.cell? ⟨g, o + 2, none⟩ = some (.int .i64 hi)
 lt : g < w.heap.size
theorem OneC.below {w w' : World} {g o : Nat} {k lo hi : Int} (h : OneC w g o k lo hi) (hb : Below w.heap.size w w') : OneC w' g o k lo hi :=
 ⟨(hb.cell (p := ⟨g, o, none⟩) h.lt).trans h.k0, (hb.cell (p := ⟨g, o + 1, none⟩) h.lt).trans h.k1, (hb.cell (p := ⟨g, o + 2, none⟩) h.lt).trans h.k2, Nat.lt_of_lt_of_le h.lt hb.size⟩
theorem OneC.get {w : World} {g o : Nat} {k lo hi : Int} (h : OneC w g o k lo hi) : ∀ (j : Nat) (u : Value), [Value.int .i64 k, .int .i64 lo, .int .i64 hi][j]? = some u → w.cell? ((⟨g, o, none⟩ : Addr).add j) = some u := fun j u hj => by
 match j, hj with
 | 0, hj => cases hj; simpa [Addr.add] using h.k0
 | 1, hj => cases hj; simpa [Addr.add] using h.k1
 | 2, hj => cases hj; simpa [Addr.add] using h.k2
 | j+3, hj => cases hj
theorem clueCells_congr {f g : Nat → Int × Int × Int} : ∀ {n : Nat}, (∀ i, i < n → f i = g i) → clueCells f n = clueCells g n
 | 0, _ => rfl
 | n+1, h => by unfold clueCells; rw [clueCells_congr (n := n) fun i hi => h i (by omega), h n (by omega)]
/-- the clues of an axis with one more. -/
structure PlusC (na : Nat) (cla : Nat → Int × Int × Int) (k lo hi : Int) (a : Axis) : Prop where
 n : a.n = na + 1
 old : ∀ i, i < na → a.cl i = cla i
 new : a.cl na = (k, lo, hi)
theorem PlusC.cells {na : Nat} {cla : Nat → Int × Int × Int} {k lo hi : Int} {a : Axis} (h : PlusC na cla k lo hi a) : clueCells a.cl a.n = clueCells cla na ++ [.int .i64 k, .int .i64 lo, .int .i64 hi] := by
 rw [h.n]
 conv => lhs; unfold clueCells
 rw [clueCells_congr (g := cla) (n := na) h.old, h.new]
set_option maxRecDepth 100000 in
set_option maxHeartbeats 4000000 in
theorem concat_plus (g : Nat) (v : Value) (na : Nat) (cla : Nat → Int × Int × Int) (gm om : Nat) (a : Axis) (w : World) (hn : na ≤ 900) (hg : g < w.heap.size) (e0 : w.cell? ⟨g, 0, none⟩ = some v) (e1 : w.cell? ⟨g, 1, none⟩ = some (.slice (some ⟨gm, om, none⟩) 1 1)) (hp : CSp w v na cla) {k lo hh : Int} (hm : OneC w gm om k lo hh) (hgm : gm < w.heap.size) (hpl : PlusC na cla k lo hh a) :
  Calls Tryz.prog 97 #[.slice (some ⟨g, 0, none⟩) 2 2] w fun e w' => ∃ v, e = .returned v ∧ w'.ownsRow w.heap.size 117 3 v a.n (clueCells a.cl a.n) ∧ Below w.heap.size w w' := by
 obtain ⟨i0, hi, hz0, hz1, hz2⟩ := info_parts Tryz.info117
 have hcells := hpl.cells
 have hnn := hpl.n
 rcases hp with ⟨rfl, rfl⟩ | ⟨h0, b, off, cap, rfl, hb, hp⟩
 ·go_enter Tryz.func97, Tryz.ntmps97
  go_wp2
  refine wp_loop_rounds 3 ?_
  rw [rounds_succ]
  go_wp2
  rw [rounds_succ]
  go_wp2
  rw [rounds_succ]
  go_wp2_with (go_at_call 134; refine (grow_some 1 (by omega) (by omega) _).mono ?_; rintro e w1 ⟨c, rfl, hc, hown, hb1⟩)
  have f0 := (hb1.cell (p := ⟨g, 0, none⟩) hg).trans e0
  have f1 := (hb1.cell (p := ⟨g, 1, none⟩) hg).trans e1
  have hm1 := hm.below hb1
  refine wp_loop_rounds 3 ?_
  rw [rounds_succ]
  go_wp2_with (at_builtin; refine wpList_append_own_none rfl _ _ 112 rfl w.heap.size 117 i0 3 Tryz.underlying112 hi (.slice (some ⟨w.heap.size, 0, none⟩) 0 c) 0 [] rfl hown rfl ?_)
  rw [rounds_succ]
  have hs1 := hb1.size
  go_wp2_with (at_builtin; refine wpList_append_own _ rfl _ _ 112 rfl w.heap.size 117 i0 (.agg #[.int .i64 0, .int .i64 0, .int .i64 0]) 3 24 Tryz.underlying112 hi hz0 hz1 hz2 rfl (by decide) _ 0 [] rfl hown ⟨gm, om, none⟩ 1 1 [.int .i64 k, .int .i64 lo, .int .i64 hh] rfl ?c0 ?c1 ?c2 ?c3 ?c4 ?c5 ?_)
  case c0 => rfl
  case c1 => exact hm1.get
  case c2 => simp [Value.oneCell']
  case c3 => unfold maxLen; omega
  case c4 => omega
  case c5 => omega
  intro v2 w2 hown2 hgrow _
  have hb2 : Below w.heap.size w w2 := hb1.grown hgrow hb1.size fun k hk => by have e := Option.some.inj hk; dsimp only at e; omega
  go_wp2
  rw [rounds_succ]
  go_wp2
  go_ret
  refine ⟨_, rfl, ?_, hb2⟩
  rw [hcells, hnn]
  exact hown2
 ·have hn0 : (0 : Int) ≤ (na : Int) := by omega
  have hn1 : ¬ (na : Int) < 0 := by omega
  have hn2 : ¬ (na : Int) + 1 < 0 := by omega
  have hgr := fun (W : World) => grow_some (na + 1) (by omega) (by omega) W
  rw [show ((na + 1 : Nat) : Int) = (na : Int) + 1 by omega] at hgr
  go_enter Tryz.func97, Tryz.ntmps97
  go_wp2
  refine wp_loop_rounds 3 ?_
  rw [rounds_succ]
  go_wp2
  rw [rounds_succ]
  go_wp2
  rw [rounds_succ]
  go_wp2_with (go_at_call 134; refine (hgr _).mono ?_; rintro e w1 ⟨c, rfl, hc, hown, hb1⟩)
  have f0 := (hb1.cell (p := ⟨g, 0, none⟩) hg).trans e0
  have f1 := (hb1.cell (p := ⟨g, 1, none⟩) hg).trans e1
  have hp1 := hp.below hb1 hb
  have hm1 := hm.below hb1
  have hs1 := hb1.size
  refine wp_loop_rounds 3 ?_
  rw [rounds_succ]
  go_wp2_with (at_builtin; refine wpList_append_own _ rfl _ _ 112 rfl w.heap.size 117 i0 (.agg #[.int .i64 0, .int .i64 0, .int .i64 0]) 3 24 Tryz.underlying112 hi hz0 hz1 hz2 rfl (by decide) _ 0 [] rfl hown ⟨b, off, none⟩ na cap (clueCells cla na) rfl ?c0 ?c1 ?c2 ?c3 ?c4 ?c5 ?_)
  case c0 => rw [clueCells_length]; omega
  case c1 => exact cpts_cells hp1
  case c2 => exact clueCells_one cla na
  case c3 => unfold maxLen; omega
  case c4 => omega
  case c5 => omega
  intro v2 w2 hown2 hgrow _
  have hne : ∀ x, x < w.heap.size → some x ≠ (Value.slice (some ⟨w.heap.size, 0, none⟩) 0 c).ownBlock := fun x hx e => by have e := Option.some.inj e; dsimp only at e; omega
  have f3 := (hgrow.cell_far ⟨g, 1, none⟩ (by show g < _; omega) (hne g hg)).trans f1
  have hm2 : OneC w2 gm om k lo hh := ⟨(hgrow.cell_far ⟨gm, om, none⟩ (by show gm < _; omega) (hne gm hgm)).trans hm1.k0, (hgrow.cell_far ⟨gm, om + 1, none⟩ (by show gm < _; omega) (hne gm hgm)).trans hm1.k1, (hgrow.cell_far ⟨gm, om + 2, none⟩ (by show gm < _; omega) (hne gm hgm)).trans hm1.k2, Nat.lt_of_lt_of_le hm1.lt hgrow.size⟩
  have hb2 : Below w.heap.size w w2 := hb1.grown hgrow hb1.size fun k hk => by have e := Option.some.inj hk; dsimp only at e; omega
  have hs2 := hb2.size
  clear hgrow hown hp1 hp hm1
  go_wp2
  rw [rounds_succ]
  obtain ⟨g2, cp2, e2⟩ := ownsRow_pos (by omega) hown2
  subst e2
  go_wp2_with (at_builtin; refine wpList_append_own _ rfl _ _ 112 rfl w.heap.size 117 i0 (.agg #[.int .i64 0, .int .i64 0, .int .i64 0]) 3 24 Tryz.underlying112 hi hz0 hz1 hz2 rfl (by decide) _ na (clueCells cla na) rfl hown2 ⟨gm, om, none⟩ 1 1 [.int .i64 k, .int .i64 lo, .int .i64 hh] rfl ?c0 ?c1 ?c2 ?c3 ?c4 ?c5 ?_)
  case c0 => rfl
  case c1 => exact hm2.get
  case c2 => simp [Value.oneCell']
  case c3 => unfold maxLen; omega
  case c4 => omega
  case c5 => omega
  intro v3 w3 hown3 hgrow3 _
  have hb3 : Below w.heap.size w w3 := hb2.grown hgrow3 hb2.size fun k hk => (hown2.lt k hk).1
  go_wp2
  rw [rounds_succ]
  go_wp2
  go_ret
  refine ⟨_, rfl, ?_, hb3⟩
  rw [hcells, hnn]
  exact hown3
end Go.Proofs.YtjhpklolpmaopaaGreatDoor
namespace Go.Proofs.YtjhpklolpmaopaaGreatDoor
open Go.RowKit
set_option maxRecDepth 100000 in
set_option maxHeartbeats 8000000 in
theorem course_plus (a : Axis) (v : Value) (na : Nat) (cla : Nat → Int × Int × Int) (gm om : Nat) (bk lo hh : Int) (w : World) (hf : a.fine) (hv : CSp w v na cla) (hm : OneC w gm om bk lo hh) (hpl : PlusC na cla bk lo hh a) :
  Calls Tryz.prog 58 #[.agg #[.int .i64 a.c0, .int .i64 a.c1, .int .i64 a.w0, .int .i64 a.w1, v], .slice (some ⟨gm, om, none⟩) 1 1] w fun e w' => (a.can ∧ e = .returned (.agg (crsL a.ends 13).toArray) ∧ Below w.heap.size w w') ∨ (¬ a.can ∧ e = .panicked [{ v := .iface 225 (.agg #[]), recovered := false }] ∧ Below w.heap.size w w') := by
 have hna : na ≤ 900 := by have h1 := hpl.n; have h2 := hf.few; omega
 obtain ⟨i0, hi, hz0, hz1, hz2⟩ := info_parts Tryz.info24
 have hfw := Axis.fwd_bound hf
 have hff := hf
 obtain ⟨hc, hw, hfew, hcl⟩ := hf
 obtain ⟨va, vc, hvs⟩ := hv.slice
 subst hvs
 obtain ⟨W0, hW0⟩ : ∃ W0, (((w.alloc (Obj.cells #[.int .i64 a.c0, .int .i64 a.c1, .int .i64 a.w0, .int .i64 a.w1, .slice va na vc] 114)).alloc (Obj.cells #[.int .i64 0, .int .i64 0, .int .i64 0, .int .i64 0, .int .i64 0, .int .i64 0, .int .i64 0, .int .i64 0, .int .i64 0, .int .i64 0, .int .i64 0, .int .i64 0, .int .i64 0, .int .i64 0, .int .i64 0, .int .i64 0, .int .i64 0, .int .i64 0, .int .i64 0, .int .i64 0, .int .i64 0, .int .i64 0, .int .i64 0, .int .i64 0, .int .i64 0, .int .i64 0] 90)).alloc (Obj.cells #[.int .i64 0, .int .i64 0, .int .i64 0, .int .i64 0, .int .i64 0, .int .i64 0, .int .i64 0, .int .i64 0, .int .i64 0, .int .i64 0, .int .i64 0, .int .i64 0, .int .i64 0, .int .i64 0, .int .i64 0, .int .i64 0, .int .i64 0, .int .i64 0, .int .i64 0, .int .i64 0, .int .i64 0, .int .i64 0, .int .i64 0, .int .i64 0, .int .i64 0, .int .i64 0] 90)) = W0 := ⟨_, rfl⟩
 have hsz : W0.heap.size = w.heap.size + 1 + 1 + 1 := by rw [← hW0, World.size_alloc, World.size_alloc, World.size_alloc]
 have hb0 : Below w.heap.size w W0 := by rw [← hW0]; exact (((Below.refl _ _).alloc (Nat.le_refl _) _).alloc (by rw [World.size_alloc]; omega) _).alloc (by rw [World.size_alloc, World.size_alloc]; omega) _
 have hA0 : AAt W0 w.heap.size a.c0 a.c1 a.w0 a.w1 (.slice va na vc) := by
  rw [← hW0]
  exact (AAt.new w 114 a.c0 a.c1 a.w0 a.w1 (.slice va na vc)).below (B := w.heap.size + 1) (((Below.refl (w.heap.size + 1) _).alloc (by rw [World.size_alloc]; omega) _).alloc (by rw [World.size_alloc, World.size_alloc]; omega) _) (by omega)
 have hR0 : CAt W0 (w.heap.size + 1) (fun _ => (0, 0)) := by
  have h := cat_new (w.alloc (Obj.cells #[.int .i64 a.c0, .int .i64 a.c1, .int .i64 a.w0, .int .i64 a.w1, .slice va na vc] 114)) 90
  rw [World.size_alloc] at h
  rw [← hW0]
  exact h.below ((Below.refl _ _).alloc (Nat.le_refl _) _) (by rw [World.size_alloc, World.size_alloc]; omega)
 have hC0 : CAt W0 (w.heap.size + 1 + 1) (fun _ => (0, 0)) := by
  have h := cat_new ((w.alloc (Obj.cells #[.int .i64 a.c0, .int .i64 a.c1, .int .i64 a.w0, .int .i64 a.w1, .slice va na vc] 114)).alloc (Obj.cells #[.int .i64 0, .int .i64 0, .int .i64 0, .int .i64 0, .int .i64 0, .int .i64 0, .int .i64 0, .int .i64 0, .int .i64 0, .int .i64 0, .int .i64 0, .int .i64 0, .int .i64 0, .int .i64 0, .int .i64 0, .int .i64 0, .int .i64 0, .int .i64 0, .int .i64 0, .int .i64 0, .int .i64 0, .int .i64 0, .int .i64 0, .int .i64 0, .int .i64 0, .int .i64 0] 90)) 90
  rw [World.size_alloc, World.size_alloc, hW0] at h
  exact h
 go_enter Tryz.func58, Tryz.ntmps58
 go_wp2
 try rw [hW0]
 clear hW0
 go_loopw [15] (fun i wr => ∃ (k : Nat) (f : Nat → Int × Int), k ≤ 13 ∧ i = .int .i64 k ∧ CAt wr (w.heap.size + 1 + 1) f ∧ (∀ j, j < k → f j = a.fwd j ∧ (a.fwd j).1 ≤ (a.fwd j).2) ∧ CAt wr (w.heap.size + 1) (fun _ => (0, 0)) ∧ AAt wr w.heap.size a.c0 a.c1 a.w0 a.w1 (.slice va na vc) ∧ Below w.heap.size w wr ∧ w.heap.size + 1 + 1 + 1 ≤ wr.heap.size) (fun i _ => 13 - (intOf i).toNat)
 case atStart => exact ⟨0, _, Nat.zero_le _, rfl, hC0, fun j hj => absurd hj (Nat.not_lt_zero j), hR0, hA0, hb0, by omega⟩
 case round =>
  clear hC0 hR0 hA0 hb0 hsz W0
  obtain ⟨wo, rfl⟩ : ∃ wo : World, wo = wr := ⟨wr, rfl⟩
  obtain ⟨k, f, hk, rfl, hC, hkn, hR, hA, hbl, hsw⟩ := hrel
  by_cases hlt : k < 13
  ·cases k with
   | zero =>
    have hA' := hA
    obtain ⟨q0, q1, q2, q3, q4, q5, q6, q7, q8, q9⟩ := hA'
    have aq := fun o => (hA.below ((Below.refl wo.heap.size wo).alloc (Nat.le_refl _) o) (by omega)).k4
    have hcc : Calls Tryz.prog 97 #[.slice (some ⟨wo.heap.size + 1, 0, none⟩) 2 2] ((wo.alloc (Obj.cells #[.int .i64 a.c0, .int .i64 a.c1] 24)).alloc (Obj.cells #[.slice va na vc, .slice (some ⟨gm, om, none⟩) 1 1] 112)) fun e w' => ∃ v, e = .returned v ∧ w'.ownsRow (wo.heap.size + 1 + 1) 117 3 v a.n (clueCells a.cl a.n) ∧ Below (wo.heap.size + 1 + 1) ((wo.alloc (Obj.cells #[.int .i64 a.c0, .int .i64 a.c1] 24)).alloc (Obj.cells #[.slice va na vc, .slice (some ⟨gm, om, none⟩) 1 1] 112)) w' := by
     obtain ⟨A1, hA1⟩ : ∃ A, wo.alloc (Obj.cells #[.int .i64 a.c0, .int .i64 a.c1] 24) = A := ⟨_, rfl⟩
     have s1 : A1.heap.size = wo.heap.size + 1 := by rw [← hA1, World.size_alloc]
     have hv1 := ((hv.below hbl).below (w' := A1) (by rw [← hA1]; exact (Below.refl wo.heap.size wo).alloc (Nat.le_refl _) _)).below ((Below.refl A1.heap.size A1).alloc (Nat.le_refl _) (Obj.cells #[.slice va na vc, .slice (some ⟨gm, om, none⟩) 1 1] 112))
     have hm1 := ((hm.below hbl).below (w' := A1) (by rw [← hA1]; exact (Below.refl wo.heap.size wo).alloc (Nat.le_refl _) _)).below ((Below.refl A1.heap.size A1).alloc (Nat.le_refl _) (Obj.cells #[.slice va na vc, .slice (some ⟨gm, om, none⟩) 1 1] 112))
     have h := concat_plus A1.heap.size (.slice va na vc) na cla gm om a (A1.alloc (Obj.cells #[.slice va na vc, .slice (some ⟨gm, om, none⟩) 1 1] 112)) (by omega) (by rw [World.size_alloc]; omega) (cells_new A1 _ _ rfl) (cells_new A1 _ _ rfl) hv1 hm1 hm1.lt hpl
     rw [World.size_alloc, s1] at h
     rw [hA1]
     exact h
    go_wp2_with (go_at_call 97; with_reducible refine hcc.mono ?_; rintro e w1 ⟨v1, rfl, hown1, hb1⟩; obtain ⟨x1, x2, rfl⟩ := ownsRow_slice hown1)
    have hspw : ((wo.alloc (Obj.cells #[.int .i64 a.c0, .int .i64 a.c1] 24)).alloc (Obj.cells #[.slice va na vc, .slice (some ⟨gm, om, none⟩) 1 1] 112)).ownsRow wo.heap.size 24 2 (.slice (some ⟨wo.heap.size, 0, none⟩) 1 1) 1 (spCells [(a.c0, a.c1)]) := (World.ownsRow_lit (base := wo.heap.size) (size := 2) wo #[.int .i64 a.c0, .int .i64 a.c1] 1 (Nat.le_refl _) (by unfold maxLen; omega) rfl).alloc _
    have hbW : Below wo.heap.size wo ((wo.alloc (Obj.cells #[.int .i64 a.c0, .int .i64 a.c1] 24)).alloc (Obj.cells #[.slice va na vc, .slice (some ⟨gm, om, none⟩) 1 1] 112)) := ((Below.refl _ _).alloc (Nat.le_refl _) _).alloc (by rw [World.size_alloc]; omega) _
    have hcr : w1.ownsRow (wo.heap.size + 1 + 1) 117 3 (.slice x1 a.n x2) a.n (clueCells a.cl a.n) := hown1
    have hsp1 : w1.ownsRow wo.heap.size 24 2 (.slice (some ⟨wo.heap.size, 0, none⟩) 1 1) 1 (spCells [(a.c0, a.c1)]) := row_below hspw hb1
    have hbw : Below wo.heap.size wo w1 := hbW.trans (hb1.mono (by omega))
    have hs1 := hb1.size
    clear hown1 hb1 hcc
    go_loopw [7, 48] (fun v i wr => ∃ (j : Nat) (l : List (Int × Int)), j ≤ a.n ∧ i = .int .i64 j ∧ wr.ownsRow wo.heap.size 24 2 v (l.length + 1) (spCells ((a.c0, a.c1) :: l)) ∧ narF ((a.c0, a.c1) :: l) = nar 0 a.cl j (a.c0, a.c1) ∧ l.length ≤ j ∧ Below wo.heap.size wo wr ∧ wr.ownsRow (wo.heap.size + 1 + 1) 117 3 (.slice x1 a.n x2) a.n (clueCells a.cl a.n)) (fun _ i _ => a.n - (intOf i).toNat)
    case atStart => exact ⟨0, [], Nat.zero_le _, rfl, hsp1, rfl, Nat.le_refl _, hbw, hcr⟩
    case round =>
     clear hsp1 hcr hbw hspw hbW hs1
     obtain ⟨j, l, hj, rfl, hsp, hnar, hlj, hb2, hcr⟩ := hrel
     by_cases hltj : j < a.n
     ·obtain ⟨g1, cap1, e1⟩ := ownsRow_pos (by omega) hcr
      obtain ⟨g7, cap7, e7⟩ := ownsRow_pos (by omega) hsp
      rw [Value.slice.injEq] at e1
      obtain ⟨rfl, _, rfl⟩ := e1
      subst e7
      have hj0 : (0 : Int) ≤ (j : Int) := Int.natCast_nonneg _
      have hj1 : (j : Int) < (a.n : Int) := by omega
      obtain ⟨m0, m1, m2⟩ := clueCells_at a.cl a.n j hltj
      have r0 := (hcr.cellAt (j * 3) (by omega)).trans m0
      have r1 := (hcr.cellAt (j * 3 + 1) (by omega)).trans m1
      have r2 := (hcr.cellAt (j * 3 + 2) (by omega)).trans m2
      have hwz := hb2.size
      by_cases hq : (a.cl j).1 = 0
      ·have hq' := hq
       have hnar2 := nar_hit hnar hq
       generalize hy : a.cl j = y at r0 r1 r2 hq hnar2
       obtain ⟨y0, y1, y2⟩ := y
       dsimp only at r0 r1 r2 hq hnar2
       subst hq
       go_wp2_with (at_builtin; refine wpList_append_own _ rfl _ _ 120 rfl wo.heap.size 24 i0 (.agg #[.int .i64 0, .int .i64 0]) 2 16 Tryz.underlying120 hi hz0 hz1 hz2 rfl (by decide) _ _ _ rfl ((hsp.alloc _).alloc _) ⟨wr.heap.size + 1, 0, none⟩ 1 1 [.int .i64 y1, .int .i64 y2] rfl rfl ?c1 ?c2 ?c3 ?c4 ?c5 ?_)
       case c2 => exact ⟨rfl, rfl⟩
       case c3 => unfold maxLen; omega
       case c4 => omega
       case c5 => first | omega | (simp only [World.size_alloc]; omega)
       intro v3 w3 hown3 hgrow _
       have hlb := hsp.lt g7 rfl
       have hb3 : Below wo.heap.size wo w3 := ((hb2.alloc hb2.size _).alloc (by rw [World.size_alloc]; omega) _).grown hgrow (by simp only [World.size_alloc]; omega) fun q hq => by have e := Option.some.inj hq; dsimp only at e; omega
       have hcr3 := rows_kept ((hcr.alloc _).alloc _) ((hsp.alloc _).alloc _) (by decide) hgrow
       have hown4 : w3.ownsRow wo.heap.size 24 2 v3 ((l ++ [(y1, y2)]).length + 1) (spCells ((a.c0, a.c1) :: (l ++ [(y1, y2)]))) := by
        rw [← List.cons_append, spCells_append, List.length_append]; exact hown3
       clear hgrow hown3 hcr hsp hb2
       go_wp2
       go_roundw
       case rel => exact ⟨j + 1, _, by omega, by go_num, hown4, hnar2, by rw [List.length_append]; simp only [List.length_cons, List.length_nil]; omega, hb3, hcr3⟩
       case measure => simp [intOf]; omega
      ·have hnar2 := nar_miss hnar hq
       generalize hy : a.cl j = y at r0 r1 r2 hq
       obtain ⟨y0, y1, y2⟩ := y
       dsimp only at r0 r1 r2 hq
       have hb3 : Below wo.heap.size wo (wr.alloc (Obj.cells #[.int .i64 y0, .int .i64 y1, .int .i64 y2] 117)) := hb2.alloc hb2.size _
       have hcr3 := hcr.alloc (Obj.cells #[.int .i64 y0, .int .i64 y1, .int .i64 y2] 117)
       have hsp3 := hsp.alloc (Obj.cells #[.int .i64 y0, .int .i64 y1, .int .i64 y2] 117)
       go_wp2
       go_roundw
       case rel => exact ⟨j + 1, l, by omega, by go_num, hsp3, hnar2, by omega, hb3, hcr3⟩
       case measure => simp [intOf]; omega
     ·obtain rfl : j = a.n := by omega
      obtain ⟨g7, cap7, e7⟩ := ownsRow_pos (by omega) hsp
      subst e7
      have hlb := hsp.lt g7 rfl
      have hfk : narF ((a.c0, a.c1) :: l) = a.fwd 0 := hnar.trans rfl
      have hnw := narrow_any g7 0 cap7 (a.c0, a.c1) l wr (by omega) (row_cap hsp) hlb.2 (sps_of_row hsp rfl)
      rw [hfk] at hnw
      have hbs2 := hb2.size
      by_cases hne : (a.fwd 0).1 ≤ (a.fwd 0).2
      ·rw [decide_eq_true hne] at hnw
       have hfk2 : (fun j => if j = 0 then a.fwd 0 else f j) = (fun j => if j = 0 then ((a.fwd 0).1, (a.fwd 0).2) else f j) := rfl
       have hbig := hfw 0 (by omega)
       generalize hx : a.fwd 0 = x at hnw hne hbig hfk2
       obtain ⟨X0, X1⟩ := x
       dsimp only at hnw hne hbig hfk2
       have hpo := fun W => possible_yes X0 X1 W
       have hCr := hC.below hb2 (by omega)
       go_wp2_with (first
        | (go_at_call 99; with_reducible refine hnw.mono ?_; rintro e w3 ⟨rfl, hb3⟩)
        | (go_at_call 98; with_reducible refine (hpo _).mono ?_; rintro e w4 ⟨rfl, hb4⟩; have hs3 := hb3.size; have hs4 := hb4.size; have hb5 := (hb2.trans (hb3.mono hbs2)).trans (hb4.mono (by omega)); have hC4 := hC.below hb5 (by omega); obtain ⟨ck0, ck1⟩ := hC4.c 0 (by omega); have cf0 := hC4.z (0 * 2); have cf1 := hC4.z (0 * 2 + 1); simp only [Nat.zero_mul, Nat.zero_add] at ck0 ck1 cf0 cf1))
       obtain ⟨p1, p2, p3, p4, p5⟩ := course_put 0 (by omega) (o1 := 0) (o2 := 1) (by omega) (by omega) X0 X1 hC4 (hR.below hb5 (by omega)) (hA.below hb5 (by omega)) (hbl.trans (hb5.mono hbl.size)) (by omega) (by omega) (Nat.le_trans (Nat.le_succ _) (Nat.le_succ _))
       clear hC4 ck0 ck1 cf0 cf1 hb5 hb3 hb4 hCr hb2 hcr hsp hnw hpo
       go_roundw
       case rel =>
        refine ⟨0 + 1, _, by omega, by go_num, p1, fun j hj => ?_, p2, p3, p4, by omega⟩
        by_cases hjk : j = 0
        ·subst hjk; simp only [if_true]; rw [hx]; exact ⟨rfl, hne⟩
        ·rw [if_neg hjk]; exact hkn j (by omega)
       case measure => first | (simp [intOf]; done) | (simp [intOf]; omega)
      ·rw [decide_eq_false hne] at hnw
       have hbig := hfw 0 (by omega)
       have hno : ¬ a.can := fun h => hne (h 0 (by omega))
       generalize a.fwd 0 = x at hnw hne hbig
       obtain ⟨X0, X1⟩ := x
       dsimp only at hnw hne hbig
       have hpo := fun W => possible_no X0 X1 W
       go_wp2_with (first
        | (go_at_call 99; with_reducible refine hnw.mono ?_; rintro e w3 ⟨rfl, hb3⟩)
        | (go_at_call 98; with_reducible refine (hpo _).mono ?_; rintro e w4 ⟨rfl, hb4⟩; have hs3 := hb3.size; have hs4 := hb4.size; have hb5 := (hb2.trans (hb3.mono hbs2)).trans (hb4.mono (by omega))))
       exact ⟨rfl, .inr ⟨hno, rfl, hbl.trans (hb5.mono hbl.size)⟩⟩
   | succ k =>
    have hA' := hA
    obtain ⟨q0, q1, q2, q3, q4, q5, q6, q7, q8, q9⟩ := hA'
    obtain ⟨hk1, hk2⟩ := hkn k (by omega)
    obtain ⟨c0, c1⟩ := hC.c k (by omega)
    rw [hk1] at c0 c1
    have hbb := hfw k (by omega)
    have hfe : a.fwd (k + 1) = nar ((k : Int) + 1) a.cl a.n ((a.fwd k).1 + a.w0, (a.fwd k).2 + a.w1) := rfl
    generalize hxk : a.fwd k = x at c0 c1 hbb hfe
    obtain ⟨z0, z1⟩ := x
    dsimp only at c0 c1 hbb hfe
    have aq2 := fun o p => (hA.below (((Below.refl wo.heap.size wo).alloc (Nat.le_refl _) o).alloc (by rw [World.size_alloc]; omega) p) (by omega)).k2
    have aq3 := fun o p => (hA.below (((Below.refl wo.heap.size wo).alloc (Nat.le_refl _) o).alloc (by rw [World.size_alloc]; omega) p) (by omega)).k3
    have aq4 := fun o p => (hA.below (((Below.refl wo.heap.size wo).alloc (Nat.le_refl _) o).alloc (by rw [World.size_alloc]; omega) p) (by omega)).k4
    have cq0 := fun o => (((Below.refl wo.heap.size wo).alloc (Nat.le_refl _) o).cell (p := ⟨w.heap.size + 1 + 1, k * 2, none⟩) (by show w.heap.size + 1 + 1 < _; omega)).trans c0
    have cq1 := fun o => (((Below.refl wo.heap.size wo).alloc (Nat.le_refl _) o).cell (p := ⟨w.heap.size + 1 + 1, k * 2 + 1, none⟩) (by show w.heap.size + 1 + 1 < _; omega)).trans c1
    have hki : ((k + 1 : Nat) : Int) - 1 = (k : Int) := by omega
    have hk00 : (0 : Int) ≤ (k : Int) := by omega
    have hk13 : (k : Int) < 13 := by omega
    have hkp : (0 : Int) < ((k + 1 : Nat) : Int) := by omega
    have hcc : Calls Tryz.prog 97 #[.slice (some ⟨wo.heap.size + 1 + 1, 0, none⟩) 2 2] (((wo.alloc (Obj.cells #[.int .i64 (z0 + a.w0), .int .i64 (z1 + a.w1)] 24)).alloc (Obj.cells #[.int .i64 z0, .int .i64 z1] 24)).alloc (Obj.cells #[.slice va na vc, .slice (some ⟨gm, om, none⟩) 1 1] 112)) fun e w' => ∃ v, e = .returned v ∧ w'.ownsRow (wo.heap.size + 1 + 1 + 1) 117 3 v a.n (clueCells a.cl a.n) ∧ Below (wo.heap.size + 1 + 1 + 1) (((wo.alloc (Obj.cells #[.int .i64 (z0 + a.w0), .int .i64 (z1 + a.w1)] 24)).alloc (Obj.cells #[.int .i64 z0, .int .i64 z1] 24)).alloc (Obj.cells #[.slice va na vc, .slice (some ⟨gm, om, none⟩) 1 1] 112)) w' := by
     obtain ⟨A1, hA1⟩ : ∃ A, (wo.alloc (Obj.cells #[.int .i64 (z0 + a.w0), .int .i64 (z1 + a.w1)] 24)).alloc (Obj.cells #[.int .i64 z0, .int .i64 z1] 24) = A := ⟨_, rfl⟩
     have s1 : A1.heap.size = wo.heap.size + 1 + 1 := by rw [← hA1, World.size_alloc, World.size_alloc]
     have hv1 := ((hv.below hbl).below (w' := A1) (by rw [← hA1]; exact ((Below.refl wo.heap.size wo).alloc (Nat.le_refl _) _).alloc (by rw [World.size_alloc]; omega) _)).below ((Below.refl A1.heap.size A1).alloc (Nat.le_refl _) (Obj.cells #[.slice va na vc, .slice (some ⟨gm, om, none⟩) 1 1] 112))
     have hm1 := ((hm.below hbl).below (w' := A1) (by rw [← hA1]; exact ((Below.refl wo.heap.size wo).alloc (Nat.le_refl _) _).alloc (by rw [World.size_alloc]; omega) _)).below ((Below.refl A1.heap.size A1).alloc (Nat.le_refl _) (Obj.cells #[.slice va na vc, .slice (some ⟨gm, om, none⟩) 1 1] 112))
     have h := concat_plus A1.heap.size (.slice va na vc) na cla gm om a (A1.alloc (Obj.cells #[.slice va na vc, .slice (some ⟨gm, om, none⟩) 1 1] 112)) (by omega) (by rw [World.size_alloc]; omega) (cells_new A1 _ _ rfl) (cells_new A1 _ _ rfl) hv1 hm1 hm1.lt hpl
     rw [World.size_alloc, s1] at h
     rw [hA1]
     exact h
    go_wp2_with (go_at_call 97; with_reducible refine hcc.mono ?_; rintro e w1 ⟨v1, rfl, hown1, hb1⟩; obtain ⟨x1, x2, rfl⟩ := ownsRow_slice hown1)
    have hspw : (((wo.alloc (Obj.cells #[.int .i64 (z0 + a.w0), .int .i64 (z1 + a.w1)] 24)).alloc (Obj.cells #[.int .i64 z0, .int .i64 z1] 24)).alloc (Obj.cells #[.slice va na vc, .slice (some ⟨gm, om, none⟩) 1 1] 112)).ownsRow wo.heap.size 24 2 (.slice (some ⟨wo.heap.size, 0, none⟩) 1 1) 1 (spCells [(z0 + a.w0, z1 + a.w1)]) := ((World.ownsRow_lit (base := wo.heap.size) (size := 2) wo #[.int .i64 (z0 + a.w0), .int .i64 (z1 + a.w1)] 1 (Nat.le_refl _) (by unfold maxLen; omega) rfl).alloc _).alloc _
    have hbW : Below wo.heap.size wo (((wo.alloc (Obj.cells #[.int .i64 (z0 + a.w0), .int .i64 (z1 + a.w1)] 24)).alloc (Obj.cells #[.int .i64 z0, .int .i64 z1] 24)).alloc (Obj.cells #[.slice va na vc, .slice (some ⟨gm, om, none⟩) 1 1] 112)) := (((Below.refl _ _).alloc (Nat.le_refl _) _).alloc (by rw [World.size_alloc]; omega) _).alloc (by rw [World.size_alloc, World.size_alloc]; omega) _
    clear aq2 aq3 aq4 cq0 cq1 c0 c1
    have hcr : w1.ownsRow (wo.heap.size + 1 + 1 + 1) 117 3 (.slice x1 a.n x2) a.n (clueCells a.cl a.n) := hown1
    have hsp1 : w1.ownsRow wo.heap.size 24 2 (.slice (some ⟨wo.heap.size, 0, none⟩) 1 1) 1 (spCells [(z0 + a.w0, z1 + a.w1)]) := row_below hspw hb1
    have hbw : Below wo.heap.size wo w1 := hbW.trans (hb1.mono (by omega))
    have hs1 := hb1.size
    clear hown1 hb1 hcc
    go_loopw [7, 48] (fun v i wr => ∃ (j : Nat) (l : List (Int × Int)), j ≤ a.n ∧ i = .int .i64 j ∧ wr.ownsRow wo.heap.size 24 2 v (l.length + 1) (spCells ((z0 + a.w0, z1 + a.w1) :: l)) ∧ narF ((z0 + a.w0, z1 + a.w1) :: l) = nar ((k : Int) + 1) a.cl j (z0 + a.w0, z1 + a.w1) ∧ l.length ≤ j ∧ Below wo.heap.size wo wr ∧ wr.ownsRow (wo.heap.size + 1 + 1 + 1) 117 3 (.slice x1 a.n x2) a.n (clueCells a.cl a.n)) (fun _ i _ => a.n - (intOf i).toNat)
    case atStart => exact ⟨0, [], Nat.zero_le _, rfl, hsp1, rfl, Nat.le_refl _, hbw, hcr⟩
    case round =>
     clear hsp1 hcr hbw hspw hbW hs1
     obtain ⟨j, l, hj, rfl, hsp, hnar, hlj, hb2, hcr⟩ := hrel
     by_cases hltj : j < a.n
     ·obtain ⟨g1, cap1, e1⟩ := ownsRow_pos (by omega) hcr
      obtain ⟨g7, cap7, e7⟩ := ownsRow_pos (by omega) hsp
      rw [Value.slice.injEq] at e1
      obtain ⟨rfl, _, rfl⟩ := e1
      subst e7
      have hj0 : (0 : Int) ≤ (j : Int) := Int.natCast_nonneg _
      have hj1 : (j : Int) < (a.n : Int) := by omega
      obtain ⟨m0, m1, m2⟩ := clueCells_at a.cl a.n j hltj
      have r0 := (hcr.cellAt (j * 3) (by omega)).trans m0
      have r1 := (hcr.cellAt (j * 3 + 1) (by omega)).trans m1
      have r2 := (hcr.cellAt (j * 3 + 2) (by omega)).trans m2
      have hwz := hb2.size
      by_cases hq : (a.cl j).1 = ((k : Int) + 1)
      ·have hq' := hq
       have hnar2 := nar_hit hnar hq
       generalize hy : a.cl j = y at r0 r1 r2 hq hnar2
       obtain ⟨y0, y1, y2⟩ := y
       dsimp only at r0 r1 r2 hq hnar2
       subst hq
       go_wp2_with (at_builtin; refine wpList_append_own _ rfl _ _ 120 rfl wo.heap.size 24 i0 (.agg #[.int .i64 0, .int .i64 0]) 2 16 Tryz.underlying120 hi hz0 hz1 hz2 rfl (by decide) _ _ _ rfl ((hsp.alloc _).alloc _) ⟨wr.heap.size + 1, 0, none⟩ 1 1 [.int .i64 y1, .int .i64 y2] rfl rfl ?d1 ?d2 ?d3 ?d4 ?d5 ?_)
       case d2 => exact ⟨rfl, rfl⟩
       case d3 => unfold maxLen; omega
       case d4 => omega
       case d5 => first | omega | (simp only [World.size_alloc]; omega)
       intro v3 w3 hown3 hgrow _
       have hlb := hsp.lt g7 rfl
       have hb3 : Below wo.heap.size wo w3 := ((hb2.alloc hb2.size _).alloc (by rw [World.size_alloc]; omega) _).grown hgrow (by simp only [World.size_alloc]; omega) fun q hq => by have e := Option.some.inj hq; dsimp only at e; omega
       have hcr3 := rows_kept ((hcr.alloc _).alloc _) ((hsp.alloc _).alloc _) (by decide) hgrow
       have hown4 : w3.ownsRow wo.heap.size 24 2 v3 ((l ++ [(y1, y2)]).length + 1) (spCells ((z0 + a.w0, z1 + a.w1) :: (l ++ [(y1, y2)]))) := by
        rw [← List.cons_append, spCells_append, List.length_append]; exact hown3
       clear hgrow hown3 hcr hsp hb2
       go_wp2
       go_roundw
       case rel => exact ⟨j + 1, _, by omega, by go_num, hown4, hnar2, by rw [List.length_append]; simp only [List.length_cons, List.length_nil]; omega, hb3, hcr3⟩
       case measure => simp [intOf]; omega
      ·have hnar2 := nar_miss hnar hq
       generalize hy : a.cl j = y at r0 r1 r2 hq
       obtain ⟨y0, y1, y2⟩ := y
       dsimp only at r0 r1 r2 hq
       have hb3 : Below wo.heap.size wo (wr.alloc (Obj.cells #[.int .i64 y0, .int .i64 y1, .int .i64 y2] 117)) := hb2.alloc hb2.size _
       have hcr3 := hcr.alloc (Obj.cells #[.int .i64 y0, .int .i64 y1, .int .i64 y2] 117)
       have hsp3 := hsp.alloc (Obj.cells #[.int .i64 y0, .int .i64 y1, .int .i64 y2] 117)
       go_wp2
       go_roundw
       case rel => exact ⟨j + 1, l, by omega, by go_num, hsp3, hnar2, by omega, hb3, hcr3⟩
       case measure => simp [intOf]; omega
     ·obtain rfl : j = a.n := by omega
      obtain ⟨g7, cap7, e7⟩ := ownsRow_pos (by omega) hsp
      subst e7
      have hlb := hsp.lt g7 rfl
      have hfk : narF ((z0 + a.w0, z1 + a.w1) :: l) = a.fwd (k + 1) := hnar.trans hfe.symm
      have hnw := narrow_any g7 0 cap7 (z0 + a.w0, z1 + a.w1) l wr (by omega) (row_cap hsp) hlb.2 (sps_of_row hsp rfl)
      rw [hfk] at hnw
      have hbs2 := hb2.size
      by_cases hne : (a.fwd (k + 1)).1 ≤ (a.fwd (k + 1)).2
      ·rw [decide_eq_true hne] at hnw
       have hfk2 : (fun j => if j = (k + 1) then a.fwd (k + 1) else f j) = (fun j => if j = (k + 1) then ((a.fwd (k + 1)).1, (a.fwd (k + 1)).2) else f j) := rfl
       have hbig := hfw (k + 1) (by omega)
       generalize hx : a.fwd (k + 1) = x at hnw hne hbig hfk2
       obtain ⟨X0, X1⟩ := x
       dsimp only at hnw hne hbig hfk2
       have hpo := fun W => possible_yes X0 X1 W
       have hCr := hC.below hb2 (by omega)
       go_wp2_with (first
        | (go_at_call 99; with_reducible refine hnw.mono ?_; rintro e w3 ⟨rfl, hb3⟩)
        | (go_at_call 98; with_reducible refine (hpo _).mono ?_; rintro e w4 ⟨rfl, hb4⟩; have hs3 := hb3.size; have hs4 := hb4.size; have hb5 := (hb2.trans (hb3.mono hbs2)).trans (hb4.mono (by omega)); have hC4 := hC.below hb5 (by omega); obtain ⟨ck0, ck1⟩ := hC4.c (k + 1) (by omega); have cf0 := hC4.z ((k + 1) * 2); have cf1 := hC4.z ((k + 1) * 2 + 1)))
       obtain ⟨p1, p2, p3, p4, p5⟩ := course_put (k + 1) (by omega) rfl rfl X0 X1 hC4 (hR.below hb5 (by omega)) (hA.below hb5 (by omega)) (hbl.trans (hb5.mono hbl.size)) (by omega) (by omega) (Nat.le_trans (Nat.le_succ _) (Nat.le_succ _))
       clear hC4 ck0 ck1 cf0 cf1 hb5 hb3 hb4 hCr hb2 hcr hsp hnw hpo
       go_roundw
       case rel =>
        refine ⟨(k + 1) + 1, _, by omega, by go_num, p1, fun j hj => ?_, p2, p3, p4, by omega⟩
        by_cases hjk : j = (k + 1)
        ·subst hjk; simp only [if_true]; rw [hx]; exact ⟨rfl, hne⟩
        ·rw [if_neg hjk]; exact hkn j (by omega)
       case measure => first | (simp [intOf]; done) | (simp [intOf]; omega)
      ·rw [decide_eq_false hne] at hnw
       have hbig := hfw (k + 1) (by omega)
       have hno : ¬ a.can := fun h => hne (h (k + 1) (by omega))
       generalize a.fwd (k + 1) = x at hnw hne hbig
       obtain ⟨X0, X1⟩ := x
       dsimp only at hnw hne hbig
       have hpo := fun W => possible_no X0 X1 W
       go_wp2_with (first
        | (go_at_call 99; with_reducible refine hnw.mono ?_; rintro e w3 ⟨rfl, hb3⟩)
        | (go_at_call 98; with_reducible refine (hpo _).mono ?_; rintro e w4 ⟨rfl, hb4⟩; have hs3 := hb3.size; have hs4 := hb4.size; have hb5 := (hb2.trans (hb3.mono hbs2)).trans (hb4.mono (by omega))))
       exact ⟨rfl, .inr ⟨hno, rfl, hbl.trans (hb5.mono hbl.size)⟩⟩
  ·have hk13 : k = 13 := by omega
   have hk14 : ¬ (k : Int) < 13 := by omega
   have hcan : a.can := fun j hj => (hkn j (by omega)).2
   have hfn : ∀ j, j < 13 → f j = a.fwd j := fun j hj => (hkn j (by omega)).1
   clear hkn
   go_wp2
   go_loopw [70] (fun i wr => ∃ (m : Nat) (f : Nat → Int × Int), m ≤ 12 ∧ i = .int .i64 m ∧ CAt wr (w.heap.size + 1 + 1) f ∧ (∀ j, j ≤ 12 - m → f j = if j = 12 - m then a.ends j else a.fwd j) ∧ (∀ j, 12 - m ≤ j → j ≤ 12 → f j = a.ends j) ∧ CAt wr (w.heap.size + 1) (fun _ => (0, 0)) ∧ AAt wr w.heap.size a.c0 a.c1 a.w0 a.w1 (.slice va na vc) ∧ Below w.heap.size w wr ∧ w.heap.size + 1 + 1 + 1 ≤ wr.heap.size) (fun i _ => 12 - (intOf i).toNat)
   case atStart =>
    refine ⟨0, f, Nat.zero_le _, rfl, hC, fun j hj => ?_, fun j hj hj2 => ?_, hR, hA, hbl, hsw⟩
    ·by_cases h : j = 12 - 0
     ·rw [if_pos h, hfn j (by omega), h]; rfl
     ·rw [if_neg h, hfn j (by omega)]
    ·rw [show j = 12 by omega, hfn 12 (by omega)]; rfl
   case round =>
    clear hC hfn hR hA hbl hsw
    obtain ⟨wo, rfl⟩ : ∃ wo : World, wo = wr := ⟨wr, rfl⟩
    obtain ⟨m, f, hm, rfl, hC, hlo, hhi, hR, hA, hbl, hsw⟩ := hrel
    by_cases hlt : m < 12
    ·have hA' := hA
     obtain ⟨q0, q1, q2, q3, q4, q5, q6, q7, q8, q9⟩ := hA'
     have hn1 := hhi (12 - m) (by omega) (by omega)
     have hn0 := hlo (11 - m) (by omega)
     rw [if_neg (by omega)] at hn0
     obtain ⟨c0, c1⟩ := hC.c (11 - m) (by omega)
     obtain ⟨c2, c3⟩ := hC.c (12 - m) (by omega)
     rw [hn0] at c0 c1
     rw [hn1] at c2 c3
     have hst := a.ends_step (11 - m) (by omega)
     rw [show 11 - m + 1 = 12 - m by omega] at hst
     have hb1 := Axis.ends_bound hff hcan (12 - m)
     have hb2 := hfw (11 - m) (by omega)
     have hce := Axis.ends_can hff hcan (11 - m)
     rw [hst] at hce
     obtain ⟨d, hd⟩ : ∃ d : Nat, d + m = 11 := ⟨11 - m, by omega⟩
     rw [show 11 - m = d by omega] at c0 c1 hst hb2 hce hn0
     rw [show 12 - m = d + 1 by omega] at c2 c3 hst hb1 hn1 hce
     generalize hxd : a.fwd d = x at c0 c1 hst hb2 hce
     obtain ⟨x0, x1⟩ := x
     generalize hyd : a.ends (d + 1) = y at c2 c3 hst hb1 hce
     obtain ⟨y0, y1⟩ := y
     dsimp only at c0 c1 hst hb2 hce c2 c3 hb1
     have hdm : (11 : Int) - (m : Int) = (d : Int) := by omega
     have hd0 : (0 : Int) ≤ (d : Int) := by omega
     have hd1 : (d : Int) < 13 := by omega
     have hd2 : (d : Int) + 1 < 13 := by omega
     have hd3 : (0 : Int) ≤ (d : Int) + 1 := by omega
     have hm12 : (m : Int) < 12 := by omega
     have hm0 : (0 : Int) ≤ (m : Int) := by omega
     have aq2 := fun o => (hA.below ((Below.refl wo.heap.size wo).alloc (Nat.le_refl _) o) (by omega)).k2
     have aq3 := fun o => (hA.below ((Below.refl wo.heap.size wo).alloc (Nat.le_refl _) o) (by omega)).k3
     have cq0 := fun o p => ((((Below.refl wo.heap.size wo).alloc (Nat.le_refl _) o).alloc (by rw [World.size_alloc]; omega) p).cell (p := ⟨w.heap.size + 1 + 1, d * 2, none⟩) (by show w.heap.size + 1 + 1 < _; omega)).trans c0
     have cq1 := fun o p => ((((Below.refl wo.heap.size wo).alloc (Nat.le_refl _) o).alloc (by rw [World.size_alloc]; omega) p).cell (p := ⟨w.heap.size + 1 + 1, d * 2 + 1, none⟩) (by show w.heap.size + 1 + 1 < _; omega)).trans c1
     obtain ⟨W3, hW3⟩ : ∃ W, (((wo.alloc (Obj.cells #[.int .i64 y0, .int .i64 y1] 24)).alloc (Obj.cells #[.int .i64 (y0 - a.w1), .int .i64 (y1 - a.w0)] 24)).alloc (Obj.cells #[.int .i64 x0, .int .i64 x1, .int .i64 (y0 - a.w1), .int .i64 (y1 - a.w0)] 24)).drew = W := ⟨_, rfl⟩
     have hs3 : W3.heap.size = wo.heap.size + 1 + 1 + 1 := by rw [← hW3, World.size_drew, World.size_alloc, World.size_alloc, World.size_alloc]
     have hbW : Below wo.heap.size wo W3 := by rw [← hW3]; exact ((((Below.refl _ _).alloc (Nat.le_refl _) _).alloc (by rw [World.size_alloc]; omega) _).alloc (by rw [World.size_alloc, World.size_alloc]; omega) _).drew
     have hnw : Calls Tryz.prog 99 #[.slice (some ⟨wo.heap.size + 1 + 1, 0, none⟩) 2 2] W3 fun e w' => e = .returned (.tuple #[.agg #[.int .i64 (max x0 (y0 - a.w1)), .int .i64 (min x1 (y1 - a.w0))], .bool (decide ((max x0 (y0 - a.w1)) ≤ (min x1 (y1 - a.w0))))]) ∧ Below W3.heap.size W3 w' := by
      refine narrow_any (wo.heap.size + 1 + 1) 0 2 (x0, x1) [(y0 - a.w1, y1 - a.w0)] W3 (by simp) (by simp) (by omega) ?_
      have hz : ((wo.alloc (Obj.cells #[.int .i64 y0, .int .i64 y1] 24)).alloc (Obj.cells #[.int .i64 (y0 - a.w1), .int .i64 (y1 - a.w0)] 24)).heap.size = wo.heap.size + 1 + 1 := by rw [World.size_alloc, World.size_alloc]
      rw [← hz, ← hW3]
      intro j p hj
      match j, hj with
      | 0, hj => simp at hj; subst hj; exact ⟨cells_new _ _ _ rfl, cells_new _ _ _ rfl⟩
      | 1, hj => simp at hj; subst hj; exact ⟨cells_new _ _ _ rfl, cells_new _ _ _ rfl⟩
      | n+2, hj => simp at hj
     rw [decide_eq_true hce] at hnw
     generalize hX0 : max x0 (y0 - a.w1) = X0 at hnw hst hce
     generalize hX1 : min x1 (y1 - a.w0) = X1 at hnw hst hce
     have hpo := fun W => possible_yes X0 X1 W
     have eB0 : ((wo.alloc (Obj.cells #[.int .i64 y0, .int .i64 y1] 24)).alloc (Obj.cells #[.int .i64 (y0 - a.w1), .int .i64 (y1 - a.w0)] 24)).cell? ⟨wo.heap.size + 1, 0, none⟩ = some (.int .i64 (y0 - a.w1)) := by
      have h := cells_new (wo.alloc (Obj.cells #[.int .i64 y0, .int .i64 y1] 24)) #[.int .i64 (y0 - a.w1), .int .i64 (y1 - a.w0)] 24 (j := 0) rfl
      rw [World.size_alloc] at h; exact h
     have eB1 : ((wo.alloc (Obj.cells #[.int .i64 y0, .int .i64 y1] 24)).alloc (Obj.cells #[.int .i64 (y0 - a.w1), .int .i64 (y1 - a.w0)] 24)).cell? ⟨wo.heap.size + 1, 1, none⟩ = some (.int .i64 (y1 - a.w0)) := by
      have h := cells_new (wo.alloc (Obj.cells #[.int .i64 y0, .int .i64 y1] 24)) #[.int .i64 (y0 - a.w1), .int .i64 (y1 - a.w0)] 24 (j := 1) rfl
      rw [World.size_alloc] at h; exact h
     have hne1 : w.heap.size + 1 + 1 ≠ wo.heap.size + 1 := by omega
     have eW0 : W3.cell? ⟨wo.heap.size + 1, 0, none⟩ = some (.int .i64 (y0 - a.w1)) := by
      rw [← hW3]; exact (((Below.refl _ _).alloc (Nat.le_refl _) _).cell (p := ⟨wo.heap.size + 1, 0, none⟩) (by simp)).trans eB0
     have eW1 : W3.cell? ⟨wo.heap.size + 1, 1, none⟩ = some (.int .i64 (y1 - a.w0)) := by
      rw [← hW3]; exact (((Below.refl _ _).alloc (Nat.le_refl _) _).cell (p := ⟨wo.heap.size + 1, 1, none⟩) (by simp)).trans eB1
     go_wp2_with fail
     refine wp_region_late [11] (fun w9 => w9.cell? ⟨wo.heap.size + 1, 0, none⟩ = some (.int .i64 (y0 - a.w1)) ∧ w9.cell? ⟨wo.heap.size + 1, 1, none⟩ = some (.int .i64 (y1 - a.w0))) (fun w9 => w9.cell? ⟨w.heap.size + 1 + 1, d * 2, none⟩ = some (.int .i64 x0) ∧ w9.cell? ⟨w.heap.size + 1 + 1, d * 2 + 1, none⟩ = some (.int .i64 x1)) (by kernel_rfl) ?_ (fun hHeld => ?_)
     ·(exact ⟨⟨eB0, eB1⟩, cq0 _ _, cq1 _ _⟩)
     refine tk2 0 rfl (by (intro w9 hSw; (try dsimp only at hSw); go_simp) <;> with_reducible rfl) hHeld ?_
     refine tk2 1 rfl (by (intro w9 hSw; (try dsimp only at hSw); go_simp) <;> with_reducible rfl) hHeld ?_
     refine tk2 2 rfl (by (intro w9 hSw; (try dsimp only at hSw); go_simp) <;> with_reducible rfl) hHeld ?_
     refine wpAnyP_take 8 (i := 3) (v := ?_) rfl (by kernel_rfl) (by kernel_rfl) (by kernel_rfl) (by kernel_rfl) (by rfl) (by kernel_rfl) (fun _ _ _ h => h) (Or.inl ⟨by rfl, ?_⟩) hHeld ?_
     rotate_left 1
     ·((intro w9 hSw; (try dsimp only at hSw); go_simp) <;> with_reducible rfl)
     (try simp only [Act.put, xpA, xpZ, xpS])
     refine tk2 4 rfl (by (intro w9 hSw; (try dsimp only at hSw); go_simp) <;> with_reducible rfl) hHeld ?_
     refine rd1 5 rfl (fun K hK => ?_)
     go_simp
     refine hK.out _ _ ?_ (fun hHeld => ?_)
     ·(((try rw [hW3]); exact ⟨⟨eW0, eW1⟩, (hbW.cell (p := ⟨w.heap.size + 1 + 1, d * 2, none⟩) (by show w.heap.size + 1 + 1 < _; omega)).trans c0, (hbW.cell (p := ⟨w.heap.size + 1 + 1, d * 2 + 1, none⟩) (by show w.heap.size + 1 + 1 < _; omega)).trans c1⟩))
     clear hK K
     (try simp only [Act.put, xpA, xpZ, xpS])
     refine rd1 6 rfl (fun K hK => ?_)
     go_simp
     (go_at_call 99; (try rw [hW3]); with_reducible refine hnw.mono ?_; rintro e w3 ⟨rfl, hb3⟩; have hz3 := hb3.size)
     refine hK.out _ _ ?_ (fun hHeld => ?_)
     ·(exact ⟨⟨(hb3.cell (p := ⟨wo.heap.size + 1, 0, none⟩) (by show wo.heap.size + 1 < _; omega)).trans hHeld.1.1, (hb3.cell (p := ⟨wo.heap.size + 1, 1, none⟩) (by show wo.heap.size + 1 < _; omega)).trans hHeld.1.2⟩, (hb3.cell (p := ⟨w.heap.size + 1 + 1, d * 2, none⟩) (by show w.heap.size + 1 + 1 < _; omega)).trans hHeld.2.1, (hb3.cell (p := ⟨w.heap.size + 1 + 1, d * 2 + 1, none⟩) (by show w.heap.size + 1 + 1 < _; omega)).trans hHeld.2.2⟩)
     clear hK K
     (try simp only [Act.put, xpA, xpZ, xpS])
     refine tk2 7 rfl (by (intro w9 hSw; (try dsimp only at hSw); go_simp) <;> with_reducible rfl) hHeld ?_
     refine tk2 8 rfl (by (intro w9 hSw; (try dsimp only at hSw); go_simp) <;> with_reducible rfl) hHeld ?_
     refine rd1 9 rfl (fun K hK => ?_)
     go_simp
     (go_at_call 98; with_reducible refine (hpo _).mono ?_; rintro e w4 ⟨rfl, hb4⟩; have hz4 := hb4.size; have hb5 := (hbW.trans (hb3.mono (by omega))).trans (hb4.mono (by omega)); have hC4 := hC.below hb5 (by omega); obtain ⟨ck0, ck1⟩ := hC4.c d (by omega); have cf0 := hC4.z (d * 2); have cf1 := hC4.z (d * 2 + 1))
     refine hK.out _ _ ?_ (fun hHeld => ?_)
     ·(exact ⟨⟨(hb4.cell (p := ⟨wo.heap.size + 1, 0, none⟩) (by show wo.heap.size + 1 < _; omega)).trans hHeld.1.1, (hb4.cell (p := ⟨wo.heap.size + 1, 1, none⟩) (by show wo.heap.size + 1 < _; omega)).trans hHeld.1.2⟩, (hb4.cell (p := ⟨w.heap.size + 1 + 1, d * 2, none⟩) (by show w.heap.size + 1 + 1 < _; omega)).trans hHeld.2.1, (hb4.cell (p := ⟨w.heap.size + 1 + 1, d * 2 + 1, none⟩) (by show w.heap.size + 1 + 1 < _; omega)).trans hHeld.2.2⟩)
     clear hK K
     (try simp only [Act.put, xpA, xpZ, xpS])
     refine tk2 10 rfl (by (intro w9 hSw; (try dsimp only at hSw); go_simp) <;> with_reducible rfl) hHeld ?_
     refine wpAnyP_ready (rs := [11]) (by kernel_rfl) (by simp) ?_
     refine AllReadyP.behind (o := _) rfl (by kernel_rfl) (fun K hK => ?_) AllReadyP.nil
     ·go_simp
      refine hK.out _ _ ?_ (fun hHeld => ?_)
      ·(exact ⟨(by rw [World.cell?_setCell_far _ _ _ _ (by simp; omega), World.cell?_setCell_far _ _ _ _ (by simp; omega)]; exact hHeld.1.1), (by rw [World.cell?_setCell_far _ _ _ _ (by simp; omega), World.cell?_setCell_far _ _ _ _ (by simp; omega)]; exact hHeld.1.2)⟩)
      clear hK K
      (try simp only [Act.put, xpA, xpZ, xpS])
      refine wpAnyP_done (by kernel_rfl) ?_ _
      (try simp only [Act.put, List.getElem_toArray, List.getElem_cons_zero, List.getElem_cons_succ, xpA, xpZ, xpS])
      obtain ⟨p1, p2, p3, p4, p5⟩ := course_put d (by omega) rfl rfl X0 X1 hC4 (hR.below hb5 (by omega)) (hA.below hb5 (by omega)) (hbl.trans (hb5.mono hbl.size)) (by omega) (by omega) (Nat.le_trans (Nat.le_succ _) (Nat.le_succ _))
      clear hC4 ck0 ck1 cf0 cf1 hb5 hb3 hb4 hnw hpo aq2 aq3 cq0 cq1 hbW
      go_wp2
      go_roundw
      case rel =>
       refine ⟨m + 1, _, by omega, by go_num, p1, fun j hj => ?_, fun j hj hj2 => ?_, p2, p3, p4, by omega⟩
       ·by_cases hjk : j = d
        ·subst hjk; rw [if_pos rfl, if_pos (by omega), hst]
        ·rw [if_neg hjk, if_neg (by omega), hlo j (by omega), if_neg (by omega)]
       ·by_cases hjk : j = d
        ·subst hjk; rw [if_pos rfl, hst]
        ·rw [if_neg hjk]; exact hhi j (by omega) hj2
      case measure => simp [intOf]; omega
    ·have hm12 : m = 12 := by omega
     have hm13 : ¬ (m : Int) < 12 := by omega
     have hfe : ∀ j, j < 13 → f j = a.ends j := fun j hj => hhi j (by omega) (by omega)
     have hrg := cat_range hC
     rw [crsL_congr hfe] at hrg
     have hth : wo.there (w.heap.size + 1) 0 (crsL a.ends 13).toArray.size := fun j hj => by
      rw [List.size_toArray, crsL_length] at hj
      refine ⟨?_, hR.z _⟩
      rw [Nat.zero_add]
      obtain ⟨e0, e1⟩ := hR.c (j / 2) (by omega)
      have hm2 : j % 2 = 0 ∨ j % 2 = 1 := by omega
      rcases hm2 with h | h
      ·rw [show j / 2 * 2 = j by omega] at e0; rw [e0]; rfl
      ·rw [show j / 2 * 2 + 1 = j by omega] at e1; rw [e1]; rfl
     have hi1 : (Tryz.prog.info? 90).map (·.size) = some 26 := by kernel_rfl
     have hi2 : (Tryz.prog.info? 90).map (·.size) = some (crsL a.ends 13).length := by rw [crsL_length]; exact hi1
     have hi3 : (Tryz.prog.info? 90).map (·.size) = some (crsL a.ends 13).toArray.size := by rw [List.size_toArray]; exact hi2
     have hone := all_oneCell_toArray (crsL_one a.ends 13)
     have hrw := World.rangeAt_setCells_same wo (w.heap.size + 1) 0 (crsL a.ends 13) (by rw [List.size_toArray] at hth; exact hth)
     have hlast := run_loadVar_mid (P := Tryz.prog) _ (w.heap.size + 1) 0 90 (crsL a.ends 13) _ hrw Tryz.underlying90 rfl hi2
     have hbz : Below w.heap.size w (wo.setCells (w.heap.size + 1) 0 (crsL a.ends 13)) := below_setCells (Nat.le_succ _) _ 0 _ hbl
     generalize hL : crsL a.ends 13 = L at *
     clear hi1
     go_wp2_with (first
      | (refine wpList_load_mid rfl 90 _ rfl (w.heap.size + 1 + 1) 0 rfl L _ hrg Tryz.underlying90 rfl hi2 ?_)
      | (refine wpList_store_mid rfl 90 _ _ rfl (w.heap.size + 1) 0 L.toArray rfl rfl hth hi3 hone ?_))
     refine bodyPost_ret (v := .agg L.toArray) (by simp [results, Tryz.results58]; exact hlast) rfl ?_
     first
      | exact ⟨rfl, hbz⟩
      | exact ⟨by rw [hL], hbz⟩
      | exact .inl ⟨hcan, by rw [hL], hbz⟩
end Go.Proofs.YtjhpklolpmaopaaGreatDoor
namespace Go.Proofs.YtjhpklolpmaopaaGreatDoor
open Go.RowKit Go.Shelf
attribute [local go_sem] Oper.semAt_some
/-- the points that pass, among those gone through. -/
def passL {x0 x1 y0 y1 : Int} (Q : Int → Int → Bool) (pre : List (BoxPt x0 x1 y0 y1)) : List (Int × Int) := (pre.map (·.1)).filter fun p => Q p.1 p.2
theorem passL_no {x0 x1 y0 y1 : Int} {Q : Int → Int → Bool} {pre : List (BoxPt x0 x1 y0 y1)} {x : BoxPt x0 x1 y0 y1} (h : Q x.1.1 x.1.2 = false) : passL Q (pre ++ [x]) = passL Q pre := by
 unfold passL; rw [List.map_append, List.filter_append]; simp [h]
theorem passL_yes {x0 x1 y0 y1 : Int} {Q : Int → Int → Bool} {pre : List (BoxPt x0 x1 y0 y1)} {x : BoxPt x0 x1 y0 y1} (h : Q x.1.1 x.1.2 = true) : passL Q (pre ++ [x]) = passL Q pre ++ [x.1] := by
 unfold passL; rw [List.map_append, List.filter_append]; simp [h]
theorem passL_mem {x0 x1 y0 y1 : Int} {Q : Int → Int → Bool} {pre : List (BoxPt x0 x1 y0 y1)} {x y : Int} (hS : ∀ h : InBox x0 x1 y0 y1 x y, (⟨(x, y), h⟩ : BoxPt x0 x1 y0 y1) ∈ pre) : (x, y) ∈ passL Q pre ↔ InBox x0 x1 y0 y1 x y ∧ Q x y = true := by
 unfold passL
 rw [List.mem_filter, List.mem_map]
 constructor
 ·rintro ⟨⟨p, hp, e⟩, hq⟩
  refine ⟨?_, hq⟩
  have := p.2
  rw [e] at this
  exact this
 ·rintro ⟨hb, hq⟩
  exact ⟨⟨_, hS hb, rfl⟩, hq⟩
set_option maxRecDepth 100000 in
set_option maxHeartbeats 2000000 in
theorem passing_list (u0 u1 : Value) (bm k n : Nat) (Q : Int → Int → Bool) (x0 x1 y0 y1 : Int) (w : World) (h1 : -48 ≤ x0) (h2 : x1 ≤ 48) (h3 : -48 ≤ y0) (h4 : y1 ≤ 48) (h5 : x0 ≤ 1000) (h6 : y0 ≤ 1000)
  (hb : bm < w.heap.size) (hm : GoodAt w bm k Q) (hk : k ≤ 1000000) (hn : 3 ≤ n)
  (hdoes : ∀ (W : World) (j : Nat) (x y : Int), w.grownBy W (some bm) → GoodAt W bm j Q → j ≤ 1000000000 → (-48 ≤ x ∧ x ≤ 48) → (-48 ≤ y ∧ y ≤ 48) →
   Calls Tryz.prog 93 #[.agg #[u0, u1, .map (some bm)], ptV x y] W fun e w' => e = .returned (.bool (Q x y)) ∧ GoodAt w' bm (j + 1) Q ∧ W.grownBy w' (some bm)) :
  CallsIn Fence.wide n Tryz.prog 51 #[.agg #[u0, u1, .map (some bm)], .agg #[.int .i64 x0, .int .i64 x1, .int .i64 y0, .int .i64 y1]] w fun e w' => ∃ a c L, e = .returned (.slice a L.length c) ∧ L.length ≤ 40401 ∧ (∀ x y, (x, y) ∈ L ↔ InBox x0 x1 y0 y1 x y ∧ Q x y = true) ∧ w'.ownsRow w.heap.size 43 2 (.slice a L.length c) L.length (spCells L) ∧ GoodAt w' bm (k + 40401) Q ∧ w.grownBy w' (some bm) := by
 refine callsIn_of_wp_marks Tryz.func51 rfl trivial ?_ rfl
 obtain ⟨i0, hi, hz0, hz1, hz2⟩ := info_parts Tryz.info43
 simp only [Tryz.ntmps51, List.size_toArray, List.length_cons, List.length_nil, Nat.reduceAdd, Nat.reduceSub, Array.replicate_succ, Array.replicate_zero, List.push_toArray, List.append_toArray, List.nil_append, List.cons_append]
 gi_wp2_with (refine ⟨trivial, fun h => (by cases h), ?_⟩; gi_at_call 92; refine (callsIn_wide.2 (points_make x0 x1 y0 y1 _)).mono ?_; rintro e w2 ⟨rfl, rfl⟩)
 rename_i Q' K hKK
 obtain ⟨hX0, hW0z, hbx⟩ := psx_start w u0 u1 (.map (some bm)) x0 x1 y0 y1 bm k Q hb hm
 generalize ((((w.alloc (Obj.cells #[u0, u1, Value.map (some bm)] 103)).alloc (Obj.cells #[.int .i64 x0, .int .i64 x1, .int .i64 y0, .int .i64 y1] 99)).alloc (Obj.cells #[.slice none 0 0] 22)).alloc (Obj.cells #[.int .i64 x0, .int .i64 x1, .int .i64 y0, .int .i64 y1] 99)) = W0 at hX0 hW0z hbx ⊢
 refine wpIn_rangeFunc_ownH (α := BoxPt x0 x1 y0 y1) rfl (by omega) (gf := 132) (lb := #[.pointer (some ⟨w.heap.size + 1 + 1 + 1, 0, none⟩)]) rfl trivial (enters_of Tryz.func132 (by kernel_rfl) rfl)
  (points1_stops (n - 1) (w.heap.size + 1 + 1 + 1) x0 x1 y0 y1 W0 (by omega) (by omega) (by omega) (by omega) h5 h6 (by omega) (hbx 0 _ rfl) (hbx 1 _ rfl) (hbx 2 _ rfl) (hbx 3 _ rfl)) (fun h k => KpB.trans h k)
  (fun W l o o' hl ho _ _ => ⟨by rw [World.putObj_size]; exact Nat.le_refl _, World.putObj_heap_other (by omega)⟩) (Below.refl _ _) (fun _ => rfl)
  (fun pre W => ∃ v cnt xs, PsX w W u0 u1 (.map (some bm)) bm (k + pre.length) Q v cnt xs ∧ Hid (xs = spCells (passL Q pre) ∧ cnt = (passL Q pre).length) ∧ cnt ≤ pre.length ∧ pre.length ≤ 40401)
  (fun c pre W => False)
  (fun pre A B row hs hg hr => by
   obtain ⟨v, cnt, xs, g1, g2⟩ := hs
   exact ⟨v, cnt, xs, g1.step hb hg fun r e => ⟨by have := (hr r e).1; omega, (hr r e).2⟩, g2⟩)
  (fun c pre A B row hs hg hr => hs)
  ⟨_, 0, [], hX0, ⟨⟨rfl, rfl⟩⟩, by simp, by simp⟩
  (fun x a' W => ∃ Bx, w.heap.size + 4 ≤ Bx ∧ Bx < W.heap.size ∧ W.cell? ⟨Bx, 0, none⟩ = some (.int .i64 x.1.1) ∧ W.cell? ⟨Bx, 1, none⟩ = some (.int .i64 x.1.2) ∧ a' = { tmps := #[.agg #[u0, u1, .map (some bm)], .agg #[.int .i64 x0, .int .i64 x1, .int .i64 y0, .int .i64 y1], .pointer (some ⟨w.heap.size, 0, none⟩), .pointer (some ⟨w.heap.size + 1, 0, none⟩), .slice none 0 0, .pointer (some ⟨w.heap.size + 1 + 1, 0, none⟩), .pointer (some ⟨Bx, 0, none⟩), .agg #[.int .i64 x0, .int .i64 x1, .int .i64 y0, .int .i64 y1], .func (.func 132) #[] #[.pointer (some ⟨w.heap.size + 1 + 1 + 1, 0, none⟩)], ptV x.1.1 x.1.2, undef, undef, undef, undef, undef, undef, undef, undef], defers := [] })
  (fun x a' _ A B row hs hg hr => by
   obtain ⟨Bx, g1, g2, g3, g4, g5⟩ := hs
   exact ⟨Bx, g1, Nat.lt_of_lt_of_le g2 hg.size, cell_kept g3 hg (fun r e => (hr r e).2), cell_kept g4 hg (fun r e => (hr r e).2), g5⟩)
  ?assign ?body ?done ?stop
 case assign =>
  rintro l pre x W K2 ⟨v, cnt, xs, hX, hr⟩ hK2
  dsimp only [ptEnc]
  gi_wp2
  exact hK2 _ _ ((KeepsOthers.alloc _ _).from _) ⟨by rw [World.size_alloc]; omega, Below.heap_alloc _ _ _ (by have := hX.big; omega)⟩ ⟨v, cnt, xs, hX.alloc hb _, hr⟩ ⟨W.heap.size, hX.big, by rw [World.size_alloc]; omega, cells_new W _ _ rfl, cells_new W _ _ rfl, rfl⟩
 case body =>
  rintro l pre x a' W hl ⟨r, hr⟩ ⟨v, cnt, xs, hX, hcn, hcl, hlp⟩ ⟨Bx, hBx, hlt, e0, e1, rfl⟩ hlen
  have hd := hdoes W (k + pre.length) x.1.1 x.1.2 hX.old hX.gm (by omega) ⟨by have := x.2.1; omega, by have := x.2.2.1; omega⟩ ⟨by have := x.2.2.2.1; omega, by have := x.2.2.2.2; omega⟩
  have hlen' : (pre ++ [x]).length = pre.length + 1 := by simp
  have hbig := hX.big
  have hne : some Bx ≠ some bm := by intro e; simp at e; omega
  have c0 := hX.t0
  have c1 := hX.t1
  have c2 := hX.t2
  obtain ⟨va, vc, rfl⟩ := ownsRow_slice hX.row
  cases hq : Q x.1.1 x.1.2
  ·rw [hq] at hd
   have tok : True := trivial
   gi_wp2_with (have _t := tok; refine ⟨trivial, fun h => (by cases h), ?_⟩; gi_at_call 93; with_reducible refine (CallsIn.inRound l (callsIn_wide.2 hd)).mono ?_; rintro e w3 ⟨rfl, hgm3, hg3⟩; have hX3 := PLift.up (hX.does hb hg3 hgm3); clear tok _t hd hdoes hX hr hgm3)
   have hkf := KeepsFrom.of_grownBy (B := W0.heap.size) hg3 (fun j e => by cases e; omega)
   have hkp : w3.heap[w.heap.size + 1 + 1 + 1]? = W.heap[w.heap.size + 1 + 1 + 1]? := hg3.block _ (by omega) (fun e => by cases e; omega)
   exact ⟨hkf, ⟨hg3.size, hkp⟩, _, cnt, xs, hX3.down.mono (by omega), ⟨by rw [passL_no hq]; exact hcn.down⟩, by omega, by omega⟩
  ·rw [hq] at hd
   have tok : True := trivial
   gi_wp2_with (first
    | (have _t := tok; refine ⟨trivial, fun h => (by cases h), ?_⟩; gi_at_call 93; with_reducible refine (CallsIn.inRound l (callsIn_wide.2 hd)).mono ?_; rintro e w3 ⟨rfl, hgm3, hg3⟩; have hX3 := PLift.up (hX.does hb hg3 hgm3); have q1 := hX3.down.f0; have q2 := hX3.down.ff; have e03 := (hg3.cell (a := ⟨Bx, 0, none⟩) e0 hne); have e13 := (hg3.cell (a := ⟨Bx, 1, none⟩) e1 hne); have hs3 := hg3.size; clear tok _t hd hdoes hX hr hgm3)
    | (gi_at_builtin; go_loud (refine wpListIn_append_own _ rfl _ _ 22 rfl (w.heap.size + 4) 43 i0 (.agg #[.int .i64 0, .int .i64 0]) 2 16 Tryz.underlying22 hi hz0 hz1 hz2 rfl (by decide) _ _ _ rfl (hX3.down.alloc hb _).row ⟨w3.heap.size, 0, none⟩ 1 1 [.int .i64 x.1.1, .int .i64 x.1.2] rfl rfl (cells_two w3 (.int .i64 x.1.1) (.int .i64 x.1.2) 43) (by simp [Value.oneCell']) (by unfold maxLen; omega) (by omega) (by have := hX3.down.big; simp only [World.size_alloc]; omega) ?_; intro v4 w4 hown4 hgrow4 _; obtain ⟨g4, c4, rfl, hb4, hf4, hX4'⟩ := hX3.down.pushed hb _ hgrow4 (Nat.le_add_left _ _) hown4; have hX4 := PLift.up hX4'; clear hX4')))
   have hkf := (KeepsFrom.of_grownBy (B := W0.heap.size) hg3 (fun j e => by cases e; omega)).trans (hW0z ▸ hX4.down.2.1)
   have hkp : KpB (w.heap.size + 1 + 1 + 1) W w3 := ⟨hg3.size, hg3.block _ (by omega) (fun e => by cases e; omega)⟩
   exact ⟨hkf, hkp.trans hX4.down.2.2, _, cnt + 1, _, hX4.down.1.mono (by omega), ⟨by rw [passL_yes hq, spCells_append, List.length_append]; exact ⟨by rw [hcn.down.1]; rfl, by rw [hcn.down.2]; rfl⟩⟩, by omega, by omega⟩
 case done =>
  rintro D pre W' hD hS ⟨v, cnt, xs, hX, hcn, hcl, hlp⟩ hDl
  apply hKK
  have hbig := hX.big
  have c0 := hX.f0
  have c1 := hX.ff
  obtain ⟨va, vc, rfl⟩ := ownsRow_slice hX.row
  obtain ⟨rfl, rfl⟩ := hcn.down
  have hmem : ∀ x y, (x, y) ∈ passL Q pre ↔ InBox x0 x1 y0 y1 x y ∧ Q x y = true := fun x y => passL_mem (fun h => hS ⟨(x, y), h⟩)
  generalize passL Q pre = L at *
  have hX' := PLift.up hX
  clear hX hcn
  gi_wp2
  refine ⟨by simp, .inl ⟨_, _, rfl, run_takeDeferred hDl, ?_⟩⟩
  have hF := hX'.down.step hb (grownBy_putObj' W' D (.deferred none)) (fun r e => by cases e; exact ⟨by omega, _, hDl, rfl⟩)
  have r2 := hF.f0
  exact ⟨.slice va L.length vc, by simp [results, Tryz.results51, go_sem, r2], va, vc, L, rfl, by omega, hmem, hF.row.mono (by omega), hF.gm.mono (by omega), hF.old⟩
 case stop =>
  rintro D c pre W' hD _ h
  exact h.elim
end Go.Proofs.YtjhpklolpmaopaaGreatDoor
namespace Go.Proofs.YtjhpklolpmaopaaGreatDoor
open Go.RowKit
/-! ### What a button proves: the hull of the points, and the boxes one by one -/
/-- the hull of points, as the program gathers it. -/
def hullL (L : List (Int × Int)) : Int × Int × Int × Int := L.foldl (fun b p => (min b.1 p.1, max b.2.1 p.1, min b.2.2.1 p.2, max b.2.2.2 p.2)) (80, -80, 80, -80)
theorem hullL_snoc (L : List (Int × Int)) (p : Int × Int) : hullL (L ++ [p]) = (min (hullL L).1 p.1, max (hullL L).2.1 p.1, min (hullL L).2.2.1 p.2, max (hullL L).2.2.2 p.2) := by unfold hullL; rw [List.foldl_append]; rfl
theorem snoc_cases {α : Type} (l : List α) : l = [] ∨ ∃ m x, l = m ++ [x] := by
 rcases List.eq_nil_or_concat l with h | ⟨m, x, h⟩
 ·exact .inl h
 ·exact .inr ⟨m, x, by simpa using h⟩
theorem hullL_spec : ∀ (n : Nat) (L : List (Int × Int)), L.length = n → (∀ p ∈ L, (-48 ≤ p.1 ∧ p.1 ≤ 48) ∧ (-48 ≤ p.2 ∧ p.2 ≤ 48)) → bdB (hullL L) ∧ (∀ p ∈ L, (hullL L).1 ≤ p.1 ∧ p.1 ≤ (hullL L).2.1 ∧ (hullL L).2.2.1 ≤ p.2 ∧ p.2 ≤ (hullL L).2.2.2) ∧
  (L = [] → hullL L = (80, -80, 80, -80)) ∧ (L ≠ [] → (∃ p ∈ L, p.1 = (hullL L).1) ∧ (∃ p ∈ L, p.1 = (hullL L).2.1) ∧ (∃ p ∈ L, p.2 = (hullL L).2.2.1) ∧ ∃ p ∈ L, p.2 = (hullL L).2.2.2)
 | 0, L, hl, _ => by
  obtain rfl := List.eq_nil_of_length_eq_zero hl
  refine ⟨?_, fun p h => (by cases h), fun _ => rfl, fun h => absurd rfl h⟩
  show bdB (80, -80, 80, -80)
  unfold bdB; decide
 | n+1, L, hl, hb => by
  rcases snoc_cases L with rfl | ⟨M, x, rfl⟩
  ·cases hl
  ·have hM : M.length = n := by simpa using hl
   obtain ⟨h1, h2, h3, h4⟩ := hullL_spec n M hM fun p hp => hb p (List.mem_append_left _ hp)
   have hx := hb x (by simp)
   have hs := hullL_snoc M x
   have hbd : bdB (hullL (M ++ [x])) := by
    rw [hs]; unfold bdB at *; dsimp only; omega
   refine ⟨hbd, fun p hp => ?_, fun h => absurd h (by simp), fun _ => ?_⟩
   ·rw [hs]
    dsimp only
    rcases List.mem_append.1 hp with hp | hp
    ·have := h2 p hp; omega
    ·rw [List.mem_singleton.1 hp]; omega
   ·rw [hs]
    dsimp only
    by_cases hM0 : M = []
    ·subst hM0
     rw [h3 rfl]
     dsimp only
     refine ⟨⟨x, by simp, by omega⟩, ⟨x, by simp, by omega⟩, ⟨x, by simp, by omega⟩, ⟨x, by simp, by omega⟩⟩
    ·obtain ⟨⟨p1, m1, e1⟩, ⟨p2, m2, e2⟩, ⟨p3, m3, e3⟩, ⟨p4, m4, e4⟩⟩ := h4 hM0
     refine ⟨?_, ?_, ?_, ?_⟩
     ·by_cases h : (hullL M).1 ≤ x.1
      ·exact ⟨p1, List.mem_append_left _ m1, by omega⟩
      ·exact ⟨x, by simp, by omega⟩
     ·by_cases h : x.1 ≤ (hullL M).2.1
      ·exact ⟨p2, List.mem_append_left _ m2, by omega⟩
      ·exact ⟨x, by simp, by omega⟩
     ·by_cases h : (hullL M).2.2.1 ≤ x.2
      ·exact ⟨p3, List.mem_append_left _ m3, by omega⟩
      ·exact ⟨x, by simp, by omega⟩
     ·by_cases h : x.2 ≤ (hullL M).2.2.2
      ·exact ⟨p4, List.mem_append_left _ m4, by omega⟩
      ·exact ⟨x, by simp, by omega⟩
end Go.Proofs.YtjhpklolpmaopaaGreatDoor
