/- A part of the proof: see the last file. -/
import Derived.Test.YtjhpklolpmaopaaGreatDoorPbg
import Derived.Test.YtjhpklolpmaopaaGreatDoorPbe
import Derived.Test.YtjhpklolpmaopaaGreatDoorPaa
import Derived.Test.YtjhpklolpmaopaaGreatDoorPaj
import Derived.Test.YtjhpklolpmaopaaGreatDoorPal
import Derived.Test.YtjhpklolpmaopaaGreatDoorPbd
import Derived.Test.YtjhpklolpmaopaaGreatDoorPai
set_option linter.unusedVariables false
set_option linter.unusedSimpArgs false
set_option linter.unusedSectionVars false
namespace Go.Proofs.YtjhpklolpmaopaaGreatDoor
open Go.RowKit
/-- what stays while Gauge goes through the blanks. -/
structure GX (w W : World) (n sb so cap cb b1 o1 k1 bm kk g t : Nat) (SX SY HX HY : Nat → Int) (r : Int) (L : List Value) (Q : Int → Int → Bool) : Prop where
 old : Below w.heap.size w W
 tg : TrialG W n sb so cap cb b1 o1 k1 SX SY HX HY r
 gm : GoodAt W bm kk Q
 st : SAt W g L
 t0 : W.cell? ⟨t, 0, none⟩ = some (.slice (some ⟨sb, so, none⟩) n cap)
 t1 : W.cell? ⟨t, 1, none⟩ = some (.func (.func 111) #[] #[.pointer (some ⟨cb, 0, none⟩)])
 t2 : W.cell? ⟨t, 2, none⟩ = some (.map (some bm))
 lg : g < bm
 lt : bm < t
 big : t < W.heap.size
 ls : sb < bm
 l1 : b1 < bm
 lc : cb < bm
 lw : w.heap.size ≤ bm
theorem GX.below {w W W' : World} {n sb so cap cb b1 o1 k1 bm kk g t : Nat} {SX SY HX HY : Nat → Int} {r : Int} {L : List Value} {Q : Int → Int → Bool} (h : GX w W n sb so cap cb b1 o1 k1 bm kk g t SX SY HX HY r L Q) (hb : Below W.heap.size W W') : GX w W' n sb so cap cb b1 o1 k1 bm kk g t SX SY HX HY r L Q := by
 have h1 := h.lg; have h2 := h.lt; have h3 := h.big
 exact ⟨h.old.trans (hb.mono h.old.size), h.tg.below hb, h.gm.below hb h.gm.lt, h.st.below hb (by omega), (hb.cell (p := ⟨t, 0, none⟩) h3).trans h.t0, (hb.cell (p := ⟨t, 1, none⟩) h3).trans h.t1, (hb.cell (p := ⟨t, 2, none⟩) h3).trans h.t2, h1, h2, Nat.lt_of_lt_of_le h3 hb.size, h.ls, h.l1, h.lc, h.lw⟩
theorem GX.grown {w W W' : World} {n sb so cap cb b1 o1 k1 bm kk kk' g t : Nat} {SX SY HX HY : Nat → Int} {r : Int} {L : List Value} {Q : Int → Int → Bool} (h : GX w W n sb so cap cb b1 o1 k1 bm kk g t SX SY HX HY r L Q) (hg : W.grownBy W' (some bm)) (hgm : GoodAt W' bm kk' Q) : GX w W' n sb so cap cb b1 o1 k1 bm kk' g t SX SY HX HY r L Q := by
 have h1 := h.lg; have h2 := h.lt; have h3 := h.big; have h4 := h.lw; have h5 := h.old.size
 have c : ∀ j, W'.cell? ⟨t, j, none⟩ = W.cell? ⟨t, j, none⟩ := fun j => World.cell?_of_block (hg.block t h3 (by intro e; injection e; omega))
 exact ⟨h.old.grown hg h5 (fun k e => by cases e; exact h4), h.tg.grown hg h.ls h.l1 h.lc, hgm, h.st.far (hg.block g (by omega) (by intro e; injection e; omega)), (c _).trans h.t0, (c _).trans h.t1, (c _).trans h.t2, h1, h2, Nat.lt_of_lt_of_le h3 hg.size, h.ls, h.l1, h.lc, h.lw⟩
theorem GX.mono {w W : World} {n sb so cap cb b1 o1 k1 bm kk kk' g t : Nat} {SX SY HX HY : Nat → Int} {r : Int} {L : List Value} {Q : Int → Int → Bool} (h : GX w W n sb so cap cb b1 o1 k1 bm kk g t SX SY HX HY r L Q) (hk : kk ≤ kk') : GX w W n sb so cap cb b1 o1 k1 bm kk' g t SX SY HX HY r L Q :=
 ⟨h.old, h.tg, h.gm.mono hk, h.st, h.t0, h.t1, h.t2, h.lg, h.lt, h.big, h.ls, h.l1, h.lc, h.lw⟩
end Go.Proofs.YtjhpklolpmaopaaGreatDoor
namespace Go.Proofs.YtjhpklolpmaopaaGreatDoor
open Go.RowKit
/-- a machine and a button in blocks of their own. -/
structure SB (w W : World) (m : Mach) (v1 : Value) (r : Int) : Prop where
 c0 : W.cell? ⟨w.heap.size + 1, 0, none⟩ = some v1
 c1 : W.cell? ⟨w.heap.size + 1, 1, none⟩ = some (.int .i64 r)
 mach : MAt W w.heap.size m
 old : Below w.heap.size w W
 big : w.heap.size + 2 ≤ W.heap.size
theorem SB.below {w W W' : World} {m : Mach} {v1 : Value} {r : Int} (h : SB w W m v1 r) (hb : Below W.heap.size W W') : SB w W' m v1 r := by
 have := h.big
 exact ⟨(hb.cell (p := ⟨w.heap.size + 1, 0, none⟩) (by show w.heap.size + 1 < _; omega)).trans h.c0, (hb.cell (p := ⟨w.heap.size + 1, 1, none⟩) (by show w.heap.size + 1 < _; omega)).trans h.c1, h.mach.below hb (by omega), h.old.trans (hb.mono (by omega)), Nat.le_trans h.big hb.size⟩
theorem SB.alloc {w W : World} {m : Mach} {v1 : Value} {r : Int} (h : SB w W m v1 r) (o : Obj) : SB w (W.alloc o) m v1 r := h.below ((Below.refl _ _).alloc (Nat.le_refl _) o)
theorem SB.drew {w W : World} {m : Mach} {v1 : Value} {r : Int} (h : SB w W m v1 r) : SB w W.drew m v1 r := h.below (Below.refl _ _).drew
theorem SB.put {w W : World} {m : Mach} {v1 : Value} {r : Int} (h : SB w W m v1 r) {g : Nat} (hg : w.heap.size + 2 ≤ g) (L : List Value) : SB w (W.setCells g 0 L) m v1 r := by
 have hl := h.big
 have hbl : Below (w.heap.size + 2) W (W.setCells g 0 L) := below_setCells hg L 0 W (Below.refl _ _)
 exact ⟨(hbl.cell (p := ⟨w.heap.size + 1, 0, none⟩) (by show w.heap.size + 1 < _; omega)).trans h.c0, (hbl.cell (p := ⟨w.heap.size + 1, 1, none⟩) (by show w.heap.size + 1 < _; omega)).trans h.c1, h.mach.below hbl (by omega), below_setCells (by omega) L 0 W h.old, by rw [size_setCells]; exact hl⟩
theorem SB.grown {w W W' : World} {m : Mach} {v1 : Value} {r : Int} {b : Nat} (h : SB w W m v1 r) (hg : W.grownBy W' (some b)) (hb : w.heap.size + 2 ≤ b) : SB w W' m v1 r := by
 have hl := h.big
 have hbl : Below (w.heap.size + 2) W W' := (Below.refl _ _).grown hg hl fun k e => by cases e; exact hb
 exact ⟨(hbl.cell (p := ⟨w.heap.size + 1, 0, none⟩) (by show w.heap.size + 1 < _; omega)).trans h.c0, (hbl.cell (p := ⟨w.heap.size + 1, 1, none⟩) (by show w.heap.size + 1 < _; omega)).trans h.c1, h.mach.below hbl (by omega), h.old.trans (hbl.mono (by omega)), Nat.le_trans hl hg.size⟩
theorem SB.new (w : World) (m : Mach) (v1 : Value) (r : Int) : SB w ((w.alloc (.cells #[.slice m.sa m.sn m.sc, .int .i64 m.c0, .int .i64 m.c1, .int .i64 m.d0, .int .i64 m.d1, .int .i64 m.w0, .int .i64 m.w1, .int .i64 m.v0, .int .i64 m.v1, .slice m.ra m.rn m.rc] 27)).alloc (Obj.cells #[v1, .int .i64 r] 41)) m v1 r := by
 have h := (MAt.new w m).below ((Below.refl _ _).alloc (Nat.le_refl _) (Obj.cells #[v1, .int .i64 r] 41)) (by rw [World.size_alloc]; omega)
 have c := fun j u (hj : (#[v1, .int .i64 r] : Array Value)[j]? = some u) => cells_new (w.alloc (.cells #[.slice m.sa m.sn m.sc, .int .i64 m.c0, .int .i64 m.c1, .int .i64 m.d0, .int .i64 m.d1, .int .i64 m.w0, .int .i64 m.w1, .int .i64 m.v0, .int .i64 m.v1, .slice m.ra m.rn m.rc] 27)) #[v1, .int .i64 r] 41 hj
 rw [World.size_alloc] at c
 exact ⟨c 0 _ rfl, c 1 _ rfl, h, ((Below.refl _ _).alloc (Nat.le_refl _) _).alloc (by rw [World.size_alloc]; omega) _, by rw [World.size_alloc, World.size_alloc]; omega⟩
/-- a button is as defined. -/
def butB (n : Nat) (X Y : Nat → Int) (r : Int) : Bool := arB n 2 X Y 80 && inB r 0 4
theorem but_parts {n : Nat} {X Y : Nat → Int} {r : Int} (h : butB n X Y r = true) : (2 ≤ n ∧ n ≤ 4) ∧ (0 ≤ r ∧ r ≤ 4) ∧ (∀ i, i < n → small (X i, Y i)) := by
 unfold butB arB at h
 simp only [Bool.and_eq_true] at h
 obtain ⟨⟨h1, h2⟩, h3⟩ := h
 have h1 := inB_iff.1 h1
 refine ⟨⟨by omega, by omega⟩, inB_iff.1 h3, fun i hi => ?_⟩
 have := allB_iff.1 h2 i hi
 unfold ptB at this
 rw [Bool.and_eq_true, inB_iff, inB_iff] at this
 exact this
set_option maxRecDepth 100000 in
set_option maxHeartbeats 1000000 in
theorem isOf_any (v1 : Value) (a1 : Option Addr) (n c1 : Nat) (r : Int) (HX HY : Nat → Int) (m : Mach) (w : World) (hv : v1 = .slice a1 n c1) (hn : n ≤ 1000) (hs : m.sn ≤ 9223372036854775807) (hp : PSl w v1 n HX HY) :
  Calls Tryz.prog 47 #[.agg #[v1, .int .i64 r], m.val] w fun e w' => e = .returned (.bool (butB n HX HY r && decide (n = m.sn))) ∧ Below w.heap.size w w' := by
 subst hv
 obtain ⟨W0, hW0⟩ : ∃ W0, (w.alloc (Obj.cells #[.slice a1 n c1, .int .i64 r] 41)).alloc (.cells #[.slice m.sa m.sn m.sc, .int .i64 m.c0, .int .i64 m.c1, .int .i64 m.d0, .int .i64 m.d1, .int .i64 m.w0, .int .i64 m.w1, .int .i64 m.v0, .int .i64 m.v1, .slice m.ra m.rn m.rc] 27) = W0 := ⟨_, rfl⟩
 have hb0 : Below w.heap.size w W0 := by rw [← hW0]; exact ((Below.refl _ _).alloc (Nat.le_refl _) _).alloc (by rw [World.size_alloc]; omega) _
 have hsz : W0.heap.size = w.heap.size + 1 + 1 := by rw [← hW0, World.size_alloc, World.size_alloc]
 have c0 : W0.cell? ⟨w.heap.size, 0, none⟩ = some (.slice a1 n c1) := by rw [← hW0]; exact cell_under w _ _ _ _ rfl
 have c1' : W0.cell? ⟨w.heap.size, 1, none⟩ = some (.int .i64 r) := by rw [← hW0]; exact cell_under w _ _ _ _ rfl
 have d0 : W0.cell? ⟨w.heap.size + 1, 0, none⟩ = some (.slice m.sa m.sn m.sc) := by
  have := (MAt.new (w.alloc (Obj.cells #[.slice a1 n c1, .int .i64 r] 41)) m).k0
  rw [World.size_alloc] at this; rw [← hW0]; exact this
 have har := are_any (.slice a1 n c1) n 2 HX HY 80 (by omega) (by omega) W0 hn (hp.below hb0)
 have hwi := fun (W : World) => within_any r 0 4 W
 unfold butB
 generalize arB n 2 HX HY 80 = x at har ⊢
 generalize inB r 0 4 = y at hwi ⊢
 go_enter Tryz.func47, Tryz.ntmps47
 cases x
 ·go_wp2_with (first | (go_at_call 64; with_reducible refine har.mono ?_; rintro e w1 ⟨rfl, hb1⟩; have p0 := (hb1.cell (p := ⟨w.heap.size, 0, none⟩) (by show w.heap.size < _; omega)).trans c0; have p1 := (hb1.cell (p := ⟨w.heap.size, 1, none⟩) (by show w.heap.size < _; omega)).trans c1'; have q1 := (hb1.cell (p := ⟨w.heap.size + 1, 0, none⟩) (by show w.heap.size + 1 < _; omega)).trans d0) | (go_at_call 49; with_reducible refine (hwi _).mono ?_; rintro e w8 ⟨rfl, rfl⟩))
  go_ret
  exact ⟨rfl, hb0.trans (hb1.mono hb0.size)⟩
 ·cases y
  ·go_wp2_with (first | (go_at_call 64; with_reducible refine har.mono ?_; rintro e w1 ⟨rfl, hb1⟩; have p0 := (hb1.cell (p := ⟨w.heap.size, 0, none⟩) (by show w.heap.size < _; omega)).trans c0; have p1 := (hb1.cell (p := ⟨w.heap.size, 1, none⟩) (by show w.heap.size < _; omega)).trans c1'; have q1 := (hb1.cell (p := ⟨w.heap.size + 1, 0, none⟩) (by show w.heap.size + 1 < _; omega)).trans d0) | (go_at_call 49; with_reducible refine (hwi _).mono ?_; rintro e w8 ⟨rfl, rfl⟩))
   go_ret
   exact ⟨rfl, hb0.trans (hb1.mono hb0.size)⟩
  ·by_cases hnn : n = m.sn
   ·subst hnn
    go_wp2_with (first | (go_at_call 64; with_reducible refine har.mono ?_; rintro e w1 ⟨rfl, hb1⟩; have p0 := (hb1.cell (p := ⟨w.heap.size, 0, none⟩) (by show w.heap.size < _; omega)).trans c0; have p1 := (hb1.cell (p := ⟨w.heap.size, 1, none⟩) (by show w.heap.size < _; omega)).trans c1'; have q1 := (hb1.cell (p := ⟨w.heap.size + 1, 0, none⟩) (by show w.heap.size + 1 < _; omega)).trans d0) | (go_at_call 49; with_reducible refine (hwi _).mono ?_; rintro e w8 ⟨rfl, rfl⟩))
    go_ret
    exact ⟨by simp, hb0.trans (hb1.mono hb0.size)⟩
   ·have hni : ¬ (n : Int) = (m.sn : Int) := by omega
    go_wp2_with (first | (go_at_call 64; with_reducible refine har.mono ?_; rintro e w1 ⟨rfl, hb1⟩; have p0 := (hb1.cell (p := ⟨w.heap.size, 0, none⟩) (by show w.heap.size < _; omega)).trans c0; have p1 := (hb1.cell (p := ⟨w.heap.size, 1, none⟩) (by show w.heap.size < _; omega)).trans c1'; have q1 := (hb1.cell (p := ⟨w.heap.size + 1, 0, none⟩) (by show w.heap.size + 1 < _; omega)).trans d0) | (go_at_call 49; with_reducible refine (hwi _).mono ?_; rintro e w8 ⟨rfl, rfl⟩))
    go_ret
    exact ⟨by simp [hnn, hni], hb0.trans (hb1.mono hb0.size)⟩
end Go.Proofs.YtjhpklolpmaopaaGreatDoor
namespace Go.Proofs.YtjhpklolpmaopaaGreatDoor
open Go.RowKit Go.Can
/-- the box of the turn t and the order with the number k. -/
def boxS (m : Mach) (HX HY : Nat → Int) (r : Int) (t k : Nat) : Int × Int × Int × Int := boxB m.SX m.SY HX HY r t ((ords m.sn).getD k []) m.sn
def box5 (b : Int × Int × Int × Int) : Int × Int × Int × Int × Int := (0, b.1, b.2.1, b.2.2.1, b.2.2.2)
def boxE (b : Int × Int × Int × Int) : Bool := decide (b.2.1 < b.1) || decide (b.2.2.2 < b.2.2.1)
/-- the marks of the boxes up to a turn and an order. -/
structure BoxL (Bx : Nat → Nat → Int × Int × Int × Int) (K : Nat) (t k : Nat) (cnt : Nat) (f : Nat → Int × Int × Int × Int × Int) : Prop where
  few : cnt ≤ t * 24 + k
  made : ∀ i, i < cnt → ∃ t' k', t' < 8 ∧ k' < K ∧ f i = box5 (Bx t' k') ∧ boxE (Bx t' k') = false
  has : ∀ t' k', k' < K → (t' < t ∨ t' = t ∧ k' < k) → boxE (Bx t' k') = false → ∃ i, i < cnt ∧ f i = box5 (Bx t' k')
/-- a fact that nothing shall be rewritten by. -/
structure Hid (p : Prop) : Prop where
  down : p
theorem if5 {α : Type} {a b c d e : Prop} [Decidable a] [Decidable b] [Decidable c] [Decidable d] [Decidable e] (x y : α) : (if a then if b then if c then if d then if e then x else y else y else y else y else y) = if a ∧ b ∧ c ∧ d ∧ e then x else y := by
  by_cases ha : a <;> by_cases hb : b <;> by_cases hc : c <;> by_cases hd : d <;> by_cases he : e <;> simp [ha, hb, hc, hd, he]
theorem BoxL.zero {Bx : Nat → Nat → Int × Int × Int × Int} {K : Nat} {f : Nat → Int × Int × Int × Int × Int} : BoxL Bx K 0 0 0 f := ⟨Nat.zero_le _, fun i h => absurd h (Nat.not_lt_zero i), fun t' k' _ h => by omega⟩
theorem BoxL.turn {Bx : Nat → Nat → Int × Int × Int × Int} {K t cnt : Nat} {f : Nat → Int × Int × Int × Int × Int} (h : BoxL Bx K t K cnt f) (hK : K ≤ 24) : BoxL Bx K (t + 1) 0 cnt f :=
  ⟨by have := h.few; omega, h.made, fun t' k' hk ht => h.has t' k' hk (by omega)⟩
theorem BoxL.skip {Bx : Nat → Nat → Int × Int × Int × Int} {K t k cnt : Nat} {f : Nat → Int × Int × Int × Int × Int} (h : BoxL Bx K t k cnt f) (hs : boxE (Bx t k) = true ∨ ∃ i, i < cnt ∧ f i = box5 (Bx t k)) : BoxL Bx K t (k + 1) cnt f :=
  ⟨by have := h.few; omega, h.made, fun t' k' hk ht he => by
    by_cases hh : t' = t ∧ k' = k
    · obtain ⟨rfl, rfl⟩ := hh
      rcases hs with hs | hs
      · rw [hs] at he; cases he
      · exact hs
    · exact h.has t' k' hk (by omega) he⟩
theorem BoxL.push {Bx : Nat → Nat → Int × Int × Int × Int} {K t k cnt : Nat} {f : Nat → Int × Int × Int × Int × Int} (h : BoxL Bx K t k cnt f) (ht : t < 8) (hk : k < K) (he : boxE (Bx t k) = false) : BoxL Bx K t (k + 1) (cnt + 1) (fun i => if i = cnt then box5 (Bx t k) else f i) := by
  refine ⟨by have := h.few; omega, fun i hi => ?_, fun t' k' hk' ht' he' => ?_⟩
  · by_cases hc : i = cnt
    · subst hc; rw [if_pos rfl]; exact ⟨t, k, ht, hk, rfl, he⟩
    · rw [if_neg hc]; exact h.made i (by omega)
  · by_cases hh : t' = t ∧ k' = k
    · obtain ⟨rfl, rfl⟩ := hh
      exact ⟨cnt, by omega, by rw [if_pos rfl]⟩
    · obtain ⟨i, h1, h2⟩ := h.has t' k' hk' (by omega) he'
      exact ⟨i, by omega, by rw [if_neg (by omega)]; exact h2⟩
/-- a box in the making, in the block behind all that was. -/
structure B13 (wr W : World) (b : Int × Int × Int × Int) : Prop where
  old : Below wr.heap.size wr W
  x : AAt W wr.heap.size 0 b.1 b.2.1 b.2.2.1 (.int .i64 b.2.2.2)
  lt : wr.heap.size < W.heap.size
theorem B13.below {wr W W' : World} {b : Int × Int × Int × Int} (h : B13 wr W b) (hb : Below W.heap.size W W') : B13 wr W' b :=
  ⟨h.old.trans (hb.mono h.old.size), h.x.below hb h.lt, Nat.lt_of_lt_of_le h.lt hb.size⟩
theorem B13.drew {wr W : World} {b : Int × Int × Int × Int} (h : B13 wr W b) : B13 wr W.drew b := h.below (Below.refl _ _).drew
theorem B13.put {wr W : World} {b : Int × Int × Int × Int} (h : B13 wr W b) {P : Nat} (hP : wr.heap.size < P) (u v : Value) : B13 wr ((W.setCell ⟨P, 0, none⟩ u).setCell ⟨P, 1, none⟩ v) b :=
  ⟨(h.old.setCell (p := ⟨P, 0, none⟩) (Nat.le_of_lt hP) u).setCell (p := ⟨P, 1, none⟩) (Nat.le_of_lt hP) v, h.x.far ((Below.heap_setCell _ ⟨P, 1, none⟩ v _ (Nat.ne_of_lt hP)).trans (Below.heap_setCell W ⟨P, 0, none⟩ u _ (Nat.ne_of_lt hP))), by rw [World.size_setCell, World.size_setCell]; exact h.lt⟩
theorem Two.far2 {W : World} {A P : Nat} {x y : Int} (h : Two W A x y) (hne : P ≠ A) (u v : Value) : Two ((W.setCell ⟨P, 0, none⟩ u).setCell ⟨P, 1, none⟩ v) A x y :=
  h.far ((Below.heap_setCell _ ⟨P, 1, none⟩ v _ (Ne.symm hne)).trans (Below.heap_setCell W ⟨P, 0, none⟩ u _ (Ne.symm hne)))
theorem AAt.set12 {W : World} {A : Nat} {c0 c1 w0 w1 : Int} {v : Value} (h : AAt W A c0 c1 w0 w1 v) (x y : Int) : AAt ((W.setCell ⟨A, 1, none⟩ (.int .i64 x)).setCell ⟨A, 2, none⟩ (.int .i64 y)) A c0 x y w1 v := by
  have o : ∀ (i j : Nat) (V : World) (u : Value), i ≠ j → (V.setCell ⟨A, i, none⟩ u).cell? ⟨A, j, none⟩ = V.cell? ⟨A, j, none⟩ := fun i j V u hij => World.cell?_setCell_other V u (a := ⟨A, i, none⟩) (b := ⟨A, j, none⟩) (by intro h; cases h; exact hij rfl)
  refine ⟨?_, ?_, ?_, ?_, ?_, ?_, ?_, ?_, ?_, ?_⟩
  · rw [o 2 0 _ _ (by decide), o 1 0 _ _ (by decide)]; exact h.k0
  · rw [o 2 1 _ _ (by decide)]; exact World.cell?_setCell_same' _ _ _ (by rw [h.k1]; rfl)
  · exact World.cell?_setCell_same' _ _ _ (by rw [o 1 2 _ _ (by decide), h.k2]; rfl)
  · rw [o 2 3 _ _ (by decide), o 1 3 _ _ (by decide)]; exact h.k3
  · rw [o 2 4 _ _ (by decide), o 1 4 _ _ (by decide)]; exact h.k4
  all_goals rw [World.frozen?_setCell, World.frozen?_setCell]
  · exact h.f0
  · exact h.f1
  · exact h.f2
  · exact h.f3
  · exact h.f4
theorem AAt.set34 {W : World} {A : Nat} {c0 c1 w0 w1 y1 : Int} (h : AAt W A c0 c1 w0 w1 (.int .i64 y1)) (x y : Int) : AAt ((W.setCell ⟨A, 3, none⟩ (.int .i64 x)).setCell ⟨A, 4, none⟩ (.int .i64 y)) A c0 c1 w0 x (.int .i64 y) := by
  have o : ∀ (i j : Nat) (V : World) (u : Value), i ≠ j → (V.setCell ⟨A, i, none⟩ u).cell? ⟨A, j, none⟩ = V.cell? ⟨A, j, none⟩ := fun i j V u hij => World.cell?_setCell_other V u (a := ⟨A, i, none⟩) (b := ⟨A, j, none⟩) (by intro h; cases h; exact hij rfl)
  refine ⟨?_, ?_, ?_, ?_, ?_, ?_, ?_, ?_, ?_, ?_⟩
  · rw [o 4 0 _ _ (by decide), o 3 0 _ _ (by decide)]; exact h.k0
  · rw [o 4 1 _ _ (by decide), o 3 1 _ _ (by decide)]; exact h.k1
  · rw [o 4 2 _ _ (by decide), o 3 2 _ _ (by decide)]; exact h.k2
  · rw [o 4 3 _ _ (by decide)]; exact World.cell?_setCell_same' _ _ _ (by rw [h.k3]; rfl)
  · exact World.cell?_setCell_same' _ _ _ (by rw [o 3 4 _ _ (by decide), h.k4]; rfl)
  all_goals rw [World.frozen?_setCell, World.frozen?_setCell]
  · exact h.f0
  · exact h.f1
  · exact h.f2
  · exact h.f3
  · exact h.f4
theorem B13.setX {wr W : World} {b : Int × Int × Int × Int} (h : B13 wr W b) (x y : Int) : B13 wr ((W.setCell ⟨wr.heap.size, 1, none⟩ (.int .i64 x)).setCell ⟨wr.heap.size, 2, none⟩ (.int .i64 y)) (x, y, b.2.2.1, b.2.2.2) :=
  ⟨(h.old.setCell (p := ⟨wr.heap.size, 1, none⟩) (Nat.le_refl _) _).setCell (p := ⟨wr.heap.size, 2, none⟩) (Nat.le_refl _) _, h.x.set12 x y, by rw [World.size_setCell, World.size_setCell]; exact h.lt⟩
theorem B13.setY {wr W : World} {b : Int × Int × Int × Int} (h : B13 wr W b) (x y : Int) : B13 wr ((W.setCell ⟨wr.heap.size, 3, none⟩ (.int .i64 x)).setCell ⟨wr.heap.size, 4, none⟩ (.int .i64 y)) (b.1, b.2.1, x, y) :=
  ⟨(h.old.setCell (p := ⟨wr.heap.size, 3, none⟩) (Nat.le_refl _) _).setCell (p := ⟨wr.heap.size, 4, none⟩) (Nat.le_refl _) _, h.x.set34 x y, by rw [World.size_setCell, World.size_setCell]; exact h.lt⟩
theorem Two.farX {W : World} {A P o1 o2 : Nat} {x y : Int} (h : Two W A x y) (hne : P ≠ A) (u v : Value) : Two ((W.setCell ⟨P, o1, none⟩ u).setCell ⟨P, o2, none⟩ v) A x y :=
  h.far ((Below.heap_setCell _ ⟨P, o2, none⟩ v _ (Ne.symm hne)).trans (Below.heap_setCell W ⟨P, o1, none⟩ u _ (Ne.symm hne)))
theorem box_new (wr : World) : B13 wr (wr.alloc (Obj.cells #[.int .i64 0, .int .i64 (-1000), .int .i64 1000, .int .i64 (-1000), .int .i64 1000] 126)) (-1000, 1000, -1000, 1000) :=
  ⟨(Below.refl _ _).alloc (Nat.le_refl _) _, AAt.new wr _ 0 (-1000) 1000 (-1000) (.int .i64 1000), by rw [World.size_alloc]; omega⟩
set_option maxRecDepth 100000 in
set_option maxHeartbeats 16000000 in
theorem rboxes_any (m : Mach) (a1 : Option Addr) (c1 : Nat) (r : Int) (HX HY : Nat → Int) (w : World) (hk : KG w) (h : MIn w m) (hp : PSl w (.slice a1 m.sn c1) m.sn HX HY) (hn1 : 2 ≤ m.sn) (hn2 : m.sn ≤ 4) (hr : 0 ≤ r ∧ r ≤ 4)
    (hS : ∀ i, i < m.sn → (-20 ≤ m.SX i ∧ m.SX i ≤ 20) ∧ (-20 ≤ m.SY i ∧ m.SY i ≤ 20)) (hH : ∀ i, i < m.sn → small (HX i, HY i)) :
    Calls Tryz.prog 60 #[m.val, .agg #[.slice a1 m.sn c1, .int .i64 r]] w fun e w' => ∃ v cnt f, e = .returned v ∧ MkSl w' v cnt f ∧ BoxL (boxS m HX HY r) (ords m.sn).length 8 0 cnt f ∧ Below w.heap.size w w' := by
  obtain ⟨i0, hi, hz0, hz1, hz2⟩ := info_parts Tryz.info126
  obtain ⟨b1, o1, c1', e1, l1, p1⟩ := PSl_posD hp (by omega)
  cases e1
  obtain ⟨sb, so, k0, e0, lsb, pS⟩ := PSl_posD h.stops (by omega)
  have hsa : PLift (m.sa = some ⟨sb, so, none⟩) := ⟨by injection e0⟩
  clear e0
  obtain ⟨W0, hW0⟩ : ∃ W0, (w.alloc (.cells #[.slice m.sa m.sn m.sc, .int .i64 m.c0, .int .i64 m.c1, .int .i64 m.d0, .int .i64 m.d1, .int .i64 m.w0, .int .i64 m.w1, .int .i64 m.v0, .int .i64 m.v1, .slice m.ra m.rn m.rc] 27)).alloc (Obj.cells #[.slice (some ⟨b1, o1, none⟩) m.sn c1, .int .i64 r] 41) = W0 := ⟨_, rfl⟩
  have hSX : SB w W0 m (.slice (some ⟨b1, o1, none⟩) m.sn c1) r := by rw [← hW0]; exact SB.new w m _ r
  have hkW := hk.below hSX.old
  have c0 := hSX.c0
  go_enter Tryz.func60, Tryz.ntmps60
  go_wp2_with (first | (go_at_call 100; refine (rorders_any m.sn hn1 hn2 _ hkW).mono ?_; rintro e w1 ⟨v, rfl, hv, hb1⟩))
  obtain ⟨lb, lo, lc, rfl, ll, hL⟩ := hv
  have hlen : (ordI m.sn).length = (ords m.sn).length := by unfold ordI; rw [List.length_map]
  have hL' : ∀ i (h : i < (ords m.sn).length), ∃ u, w1.cell? ⟨lb, lo + i, none⟩ = some u ∧ SlI w1 u (((ords m.sn)[i]).map Int.ofNat) := fun i h => by
    obtain ⟨u, g1, g2⟩ := hL i (by omega)
    refine ⟨u, g1, ?_⟩
    have : (ordI m.sn)[i]'(by omega) = ((ords m.sn)[i]).map Int.ofNat := by simp [ordI]
    rw [← this]; exact g2
  have hLn : (ords m.sn).length ≤ 24 := by
    obtain h | h | h : m.sn = 2 ∨ m.sn = 3 ∨ m.sn = 4 := by omega
    · rw [h, ords2]; decide
    · rw [h, ords3]; decide
    · rw [h, ords4]; decide
  have hperm := ords_perm hn1 hn2
  have hbx : ∀ t k (h : k < (ords m.sn).length), boxS m HX HY r t k = boxB m.SX m.SY HX HY r t (ords m.sn)[k] m.sn := fun t k h => by unfold boxS; rw [List.getD_eq_getElem?_getD, List.getElem?_eq_getElem h]; rfl
  rw [hlen]
  have hb01 : Below w.heap.size w w1 := hSX.old.trans (hb1.mono (by have := hSX.big; omega))
  have hSB1 := hSX.below hb1
  clear hL hlen hb1 hkW hSX c0 hk
  generalize hLL : ords m.sn = L at *
  have hrow0 : w1.ownsRow w1.heap.size 126 5 (.slice none 0 0) 0 (markCells (fun _ => (0, 0, 0, 0, 0)) 0) := ⟨rfl, .inl ⟨rfl, rfl⟩⟩
  go_loopw [5, 7] (fun v i wr => ∃ (t cnt : Nat) (f : Nat → Int × Int × Int × Int × Int), t ≤ 8 ∧ i = .int .i64 t ∧ Below w1.heap.size w1 wr ∧ wr.ownsRow w1.heap.size 126 5 v cnt (markCells f cnt) ∧ BoxL (boxS m HX HY r) L.length t 0 cnt f) (fun _ i _ => 8 - (intOf i).toNat)
  case atStart => exact ⟨0, 0, fun _ => (0, 0, 0, 0, 0), by omega, rfl, Below.refl _ _, hrow0, BoxL.zero⟩
  case round =>
    clear hrow0
    obtain ⟨t, cnt, f, ht, rfl, hbl, hrow, hbx0⟩ := hrel
    by_cases hlt : t < 8
    · have hlt' : (t : Int) < 8 := by omega
      go_wp2
      go_loopw [5, 8] (fun v i wr => ∃ (k cnt : Nat) (f : Nat → Int × Int × Int × Int × Int), k ≤ L.length ∧ i = .int .i64 k ∧ Below w1.heap.size w1 wr ∧ wr.ownsRow w1.heap.size 126 5 v cnt (markCells f cnt) ∧ BoxL (boxS m HX HY r) L.length t k cnt f) (fun _ i _ => L.length - (intOf i).toNat)
      case atStart => exact ⟨0, cnt, f, Nat.zero_le _, rfl, hbl, hrow, hbx0⟩
      case round =>
        clear hbl hrow hbx0
        clear cnt f
        obtain ⟨k, cnt, f, hkl, rfl, hbl, hrow, hbx0⟩ := hrel
        rename World => wm
        by_cases hlk : k < L.length
        · have hk0 : (0 : Int) ≤ (k : Int) := Int.natCast_nonneg _
          have hk1 : (k : Int) < (L.length : Int) := by omega
          have hnew := box_new wm
          go_wp2_with fail
          go_loopw [10] (fun i wx => ∃ (q : Nat), q ≤ m.sn ∧ i = .int .i64 q ∧ B13 wm wx (boxB m.SX m.SY HX HY r t L[k] q)) (fun i _ => m.sn - (intOf i).toNat)
          case atStart => exact ⟨0, Nat.zero_le _, rfl, hnew⟩
          case round =>
            clear hnew
            obtain ⟨i, hin, rfl, hB⟩ := hrel
            rename World => wx
            have hSBr := hSB1.below hbl
            have hbig := hSBr.big
            have hzw := hb01.size
            have hzl := hbl.size
            have hM0 := fun (W : World) (hW : Below wm.heap.size wm W) => (hW.cell (p := ⟨w.heap.size, 0, none⟩) (by show w.heap.size < _; omega)).trans hSBr.mach.k0
            have zm := hM0 wx hB.old
            by_cases hlt2 : i < m.sn
            · have hi0 : (0 : Int) ≤ (i : Int) := Int.natCast_nonneg _
              have hi1 : (i : Int) < (m.sn : Int) := by omega
              obtain ⟨u, e1, e2⟩ := hL' k hlk
              obtain ⟨g1, g2⟩ := hperm _ (List.getElem_mem hlk)
              obtain ⟨ob, oo, oc, rfl, q0, q1, q2⟩ := SlI_ord e2
              rw [g1] at q0 q2 e1
              have hj := g2 i hlt2
              have d3 := q2 i hlt2
              have hcut : boxB m.SX m.SY HX HY r t L[k] (i + 1) = cutB r (m.SX i, m.SY i) (trn t (HX (L[k].getD i 0), HY (L[k].getD i 0))) (boxB m.SX m.SY HX HY r t L[k] i) := rfl
              generalize hjj : L[k].getD i 0 = j at hj d3 hcut
              obtain ⟨d7, d8⟩ := pS i hlt2
              obtain ⟨d4, d5⟩ := p1 j hj
              obtain ⟨⟨u1, u2⟩, u3, u4⟩ := hH j hj
              obtain ⟨⟨v1, v2⟩, v3, v4⟩ := trn_small (t := t) (hH j hj)
              obtain ⟨⟨s1, s2⟩, s3, s4⟩ := hS i hlt2
              have hT := fun W => rturn_any t hlt (HX j) (HY j) u1 u2 u3 u4 W
              have hj0 : (0 : Int) ≤ (j : Int) := Int.natCast_nonneg _
              have hj1 : (j : Int) < (m.sn : Int) := by omega
              have hD : ∀ W, Below wm.heap.size wm W → W.cell? ⟨w.heap.size + 1, 0, none⟩ = some (.slice (some ⟨b1, o1, none⟩) m.sn c1) ∧ W.cell? ⟨w.heap.size + 1, 1, none⟩ = some (.int .i64 r) ∧ W.cell? ⟨lb, lo + k, none⟩ = some (.slice (some ⟨ob, oo, none⟩) m.sn oc) ∧ W.cell? ⟨ob, oo + i, none⟩ = some (.int .i64 j) ∧ W.cell? ⟨b1, o1 + j * 2, none⟩ = some (.int .i64 (HX j)) ∧ W.cell? ⟨b1, o1 + j * 2 + 1, none⟩ = some (.int .i64 (HY j)) ∧ W.cell? ⟨w.heap.size, 0, none⟩ = some (.slice (some ⟨sb, so, none⟩) m.sn m.sc) ∧ W.cell? ⟨sb, so + i * 2, none⟩ = some (.int .i64 (m.SX i)) ∧ W.cell? ⟨sb, so + i * 2 + 1, none⟩ = some (.int .i64 (m.SY i)) := fun W hW => by
                have old : ∀ b off, b < w.heap.size → W.cell? ⟨b, off, none⟩ = w.cell? ⟨b, off, none⟩ := fun b off hb => (hW.cell (p := ⟨b, off, none⟩) (by show b < _; omega)).trans (hSBr.old.cell (p := ⟨b, off, none⟩) hb)
                have mid : ∀ b off, b < w1.heap.size → W.cell? ⟨b, off, none⟩ = w1.cell? ⟨b, off, none⟩ := fun b off hb => (hW.cell (p := ⟨b, off, none⟩) (by show b < _; omega)).trans (hbl.cell (p := ⟨b, off, none⟩) hb)
                refine ⟨(hW.cell (p := ⟨w.heap.size + 1, 0, none⟩) (by show w.heap.size + 1 < _; omega)).trans hSBr.c0, (hW.cell (p := ⟨w.heap.size + 1, 1, none⟩) (by show w.heap.size + 1 < _; omega)).trans hSBr.c1, (mid _ _ ll).trans e1, (mid _ _ q1).trans d3, (old _ _ l1).trans d4, (old _ _ l1).trans d5, ?_, (old _ _ lsb).trans d7, (old _ _ lsb).trans d8⟩
                rw [hM0 W hW, hsa.down]
              generalize hpx : (trn t (HX j, HY j)).1 = px at *
              generalize hpy : (trn t (HX j, HY j)).2 = py at *
              generalize hsx : m.SX i = sx at *
              generalize hsy : m.SY i = sy at *
              generalize hbb : boxB m.SX m.SY HX HY r t L[k] i = bb at *
              clear d3 d4 d5 d7 d8 e1 e2 q1 q2 u1 u2 u3 u4 hjj
              go_wp2_with fail
              rename_i Q' K hKK
              refine (fun (fin : ∀ (P S : Nat) (W' : World), B13 wm W' bb → Two W' P px py → Two W' S sx sy → wm.heap.size < P → wm.heap.size < S → P ≠ S → P < W'.heap.size → S < W'.heap.size → K ((?F : Nat → Nat → Act) P S) W') => ?leafs) ?fin
              case leafs =>
                refine wp_region_late [] (fun w9 => B13 wm w9 bb) (fun w9 => True) (by kernel_rfl) ?_ (fun hHeld => ?_)
                · (exact ⟨hB.drew, trivial⟩)
                generalize wx.drew = V at hHeld ⊢
                refine tk1 0 rfl hHeld ?_
                refine tk2 1 rfl (by (intro w9 hSw; have z0 := (hD w9 hSw.old).1; clear hSw; go_simp) <;> with_reducible rfl) hHeld ?_
                refine tk1 2 rfl hHeld ?_
                refine tk1 3 rfl hHeld ?_
                refine tk1 4 rfl hHeld ?_
                refine tk2 5 rfl (by (intro w9 hSw; have z0 := (hD w9 hSw.old).2.2.1; clear hSw; go_simp) <;> with_reducible rfl) hHeld ?_
                refine tk1 6 rfl hHeld ?_
                refine tk1 7 rfl hHeld ?_
                refine tk2 8 rfl (by (intro w9 hSw; have z0 := (hD w9 hSw.old).2.2.2.1; clear hSw; go_simp) <;> with_reducible rfl) hHeld ?_
                refine tk1 9 rfl hHeld ?_
                refine tk2 10 rfl (by (intro w9 hSw; have z0 := (hD w9 hSw.old).2.2.2.2.1; have z1 := (hD w9 hSw.old).2.2.2.2.2.1; clear hSw; go_simp) <;> with_reducible rfl) hHeld ?_
                refine tk1 11 rfl hHeld ?_
                refine tk1 13 rfl hHeld ?_
                refine tk2 14 rfl (by (intro w9 hSw; have z0 := (hD w9 hSw.old).2.2.2.2.2.2.1; clear hSw; go_simp) <;> with_reducible rfl) hHeld ?_
                refine tk1 15 rfl hHeld ?_
                refine tk1 16 rfl hHeld ?_
                refine tk2 17 rfl (by (intro w9 hSw; have z0 := (hD w9 hSw.old).2.2.2.2.2.2.2.1; have z1 := (hD w9 hSw.old).2.2.2.2.2.2.2.2; clear hSw; go_simp) <;> with_reducible rfl) hHeld ?_
                refine wpAnyP_ready (rs := [12, 18, 19]) (by kernel_rfl) (by simp) ?_
                refine AllReadyP.cons (o := _) rfl (fun K hK => ?_) (AllReadyP.cons (o := _) rfl (fun K hK => ?_) (AllReadyP.cons (o := _) rfl (fun K hK => ?_) AllReadyP.nil))
                · go_simp
                  (go_at_call 14; with_reducible refine (hT _).mono ?_; rintro e w1 ⟨rfl, hb1⟩)
                  have hK18 := hHeld.1.below hb1
                  clear hb1
                  refine hK.out _ _ ?_ (fun hHeld => ?_)
                  · (exact ⟨hK18, trivial⟩)
                  clear hK K
                  (try simp only [Act.put, pA, pZ, pS])
                  refine wpAnyP_ready (rs := [18, 19]) (by kernel_rfl) (by simp) ?_
                  refine AllReadyP.cons (o := _) rfl (fun K hK => ?_) (AllReadyP.cons (o := _) rfl (fun K hK => ?_) AllReadyP.nil)
                  · go_simp
                    have hgP := hHeld.1.lt
                    have hbn : Below w1.heap.size w1 (w1.alloc (Obj.cells #[.int .i64 0, .int .i64 0] 43)) := (Below.refl _ _).alloc (Nat.le_refl _) _
                    have hP := Two.new w1 43 0 0
                    have ltP : w1.heap.size < (w1.alloc (Obj.cells #[.int .i64 0, .int .i64 0] 43)).heap.size := by rw [World.size_alloc]; omega
                    have hK18 := hHeld.1.below hbn
                    clear hbn
                    generalize (w1.alloc (Obj.cells #[.int .i64 0, .int .i64 0] 43)) = VP at hP ltP hK18 ⊢
                    generalize w1.heap.size = P at hgP hP ltP ⊢
                    refine hK.out _ _ ?_ (fun hHeld => ?_)
                    · (exact ⟨hK18, trivial⟩)
                    clear hK K
                    (try simp only [Act.put, pA, pZ, pS])
                    refine rd1 19 rfl (fun K hK => ?_)
                    go_simp
                    have hgS := hHeld.1.lt
                    have hbn : Below VP.heap.size VP (VP.alloc (Obj.cells #[.int .i64 0, .int .i64 0] 43)) := (Below.refl _ _).alloc (Nat.le_refl _) _
                    have hS := Two.new VP 43 0 0
                    have ltS : VP.heap.size < (VP.alloc (Obj.cells #[.int .i64 0, .int .i64 0] 43)).heap.size := by rw [World.size_alloc]; omega
                    have hK18 := hHeld.1.below hbn
                    replace hP := hP.below hbn ltP
                    have hne := Nat.ne_of_lt ltP
                    replace ltP := Nat.lt_of_lt_of_le ltP hbn.size
                    clear hbn
                    generalize (VP.alloc (Obj.cells #[.int .i64 0, .int .i64 0] 43)) = VS at hS ltS hK18 hP ltP ⊢
                    generalize VP.heap.size = S at hgS hS ltS hne ⊢
                    refine hK.out _ _ ?_ (fun hHeld => ?_)
                    · (exact ⟨hK18, trivial⟩)
                    clear hK K
                    (try simp only [Act.put, pA, pZ, pS])
                    refine rd1 20 rfl (fun K hK => ?_)
                    have c0 := hP.k0
                    have c1 := hP.k1
                    have y0 := hP.f0
                    have y1 := hP.f1
                    go_simp
                    clear c0 c1 y0 y1
                    have hK18 := hHeld.1.put hgP (.int .i64 px) (.int .i64 py)
                    replace hP := hP.set01 px py
                    replace hS := hS.far2 hne (.int .i64 px) (.int .i64 py)
                    refine hK.out _ _ ?_ (fun hHeld => ?_)
                    · (exact ⟨hK18, trivial⟩)
                    clear hK K
                    (try simp only [Act.put, pA, pZ, pS])
                    refine rd1 21 rfl (fun K hK => ?_)
                    have c0 := hS.k0
                    have c1 := hS.k1
                    have y0 := hS.f0
                    have y1 := hS.f1
                    go_simp
                    clear c0 c1 y0 y1
                    have hK18 := hHeld.1.put hgS (.int .i64 sx) (.int .i64 sy)
                    replace hS := hS.set01 sx sy
                    replace hP := hP.far2 (Ne.symm hne) (.int .i64 sx) (.int .i64 sy)
                    refine hK.out _ _ ?_ (fun hHeld => ?_)
                    · (exact ⟨hK18, trivial⟩)
                    clear hK K
                    (try simp only [Act.put, pA, pZ, pS])
                    refine wpAnyP_done (by kernel_rfl) ?_ _
                    (try simp only [Act.put, List.getElem_toArray, List.getElem_cons_zero, List.getElem_cons_succ, pA, pZ, pS])
                    exact fin P S _ hHeld.1 hP hS hgP hgS hne (by simpa only [World.size_setCell] using ltP) (by simpa only [World.size_setCell] using ltS)
                  · go_simp
                    have hgS := hHeld.1.lt
                    have hbn : Below w1.heap.size w1 (w1.alloc (Obj.cells #[.int .i64 0, .int .i64 0] 43)) := (Below.refl _ _).alloc (Nat.le_refl _) _
                    have hS := Two.new w1 43 0 0
                    have ltS : w1.heap.size < (w1.alloc (Obj.cells #[.int .i64 0, .int .i64 0] 43)).heap.size := by rw [World.size_alloc]; omega
                    have hK18 := hHeld.1.below hbn
                    clear hbn
                    generalize (w1.alloc (Obj.cells #[.int .i64 0, .int .i64 0] 43)) = VS at hS ltS hK18 ⊢
                    generalize w1.heap.size = S at hgS hS ltS ⊢
                    refine hK.out _ _ ?_ (fun hHeld => ?_)
                    · (exact ⟨hK18, trivial⟩)
                    clear hK K
                    (try simp only [Act.put, pA, pZ, pS])
                    refine rd1 18 rfl (fun K hK => ?_)
                    go_simp
                    have hgP := hHeld.1.lt
                    have hbn : Below VS.heap.size VS (VS.alloc (Obj.cells #[.int .i64 0, .int .i64 0] 43)) := (Below.refl _ _).alloc (Nat.le_refl _) _
                    have hP := Two.new VS 43 0 0
                    have ltP : VS.heap.size < (VS.alloc (Obj.cells #[.int .i64 0, .int .i64 0] 43)).heap.size := by rw [World.size_alloc]; omega
                    have hK18 := hHeld.1.below hbn
                    replace hS := hS.below hbn ltS
                    have hne := Nat.ne_of_gt ltS
                    replace ltS := Nat.lt_of_lt_of_le ltS hbn.size
                    clear hbn
                    generalize (VS.alloc (Obj.cells #[.int .i64 0, .int .i64 0] 43)) = VP at hP ltP hK18 hS ltS ⊢
                    generalize VS.heap.size = P at hgP hP ltP hne ⊢
                    refine hK.out _ _ ?_ (fun hHeld => ?_)
                    · (exact ⟨hK18, trivial⟩)
                    clear hK K
                    (try simp only [Act.put, pA, pZ, pS])
                    refine rd1 20 rfl (fun K hK => ?_)
                    have c0 := hP.k0
                    have c1 := hP.k1
                    have y0 := hP.f0
                    have y1 := hP.f1
                    go_simp
                    clear c0 c1 y0 y1
                    have hK18 := hHeld.1.put hgP (.int .i64 px) (.int .i64 py)
                    replace hP := hP.set01 px py
                    replace hS := hS.far2 hne (.int .i64 px) (.int .i64 py)
                    refine hK.out _ _ ?_ (fun hHeld => ?_)
                    · (exact ⟨hK18, trivial⟩)
                    clear hK K
                    (try simp only [Act.put, pA, pZ, pS])
                    refine rd1 21 rfl (fun K hK => ?_)
                    have c0 := hS.k0
                    have c1 := hS.k1
                    have y0 := hS.f0
                    have y1 := hS.f1
                    go_simp
                    clear c0 c1 y0 y1
                    have hK18 := hHeld.1.put hgS (.int .i64 sx) (.int .i64 sy)
                    replace hS := hS.set01 sx sy
                    replace hP := hP.far2 (Ne.symm hne) (.int .i64 sx) (.int .i64 sy)
                    refine hK.out _ _ ?_ (fun hHeld => ?_)
                    · (exact ⟨hK18, trivial⟩)
                    clear hK K
                    (try simp only [Act.put, pA, pZ, pS])
                    refine wpAnyP_done (by kernel_rfl) ?_ _
                    (try simp only [Act.put, List.getElem_toArray, List.getElem_cons_zero, List.getElem_cons_succ, pA, pZ, pS])
                    exact fin P S _ hHeld.1 hP hS hgP hgS hne (by simpa only [World.size_setCell] using ltP) (by simpa only [World.size_setCell] using ltS)
                · go_simp
                  have hgP := hHeld.1.lt
                  have hbn : Below V.heap.size V (V.alloc (Obj.cells #[.int .i64 0, .int .i64 0] 43)) := (Below.refl _ _).alloc (Nat.le_refl _) _
                  have hP := Two.new V 43 0 0
                  have ltP : V.heap.size < (V.alloc (Obj.cells #[.int .i64 0, .int .i64 0] 43)).heap.size := by rw [World.size_alloc]; omega
                  have hK18 := hHeld.1.below hbn
                  clear hbn
                  generalize (V.alloc (Obj.cells #[.int .i64 0, .int .i64 0] 43)) = VP at hP ltP hK18 ⊢
                  generalize V.heap.size = P at hgP hP ltP ⊢
                  refine hK.out _ _ ?_ (fun hHeld => ?_)
                  · (exact ⟨hK18, trivial⟩)
                  clear hK K
                  (try simp only [Act.put, pA, pZ, pS])
                  refine wpAnyP_ready (rs := [12, 19]) (by kernel_rfl) (by simp) ?_
                  refine AllReadyP.cons (o := _) rfl (fun K hK => ?_) (AllReadyP.cons (o := _) rfl (fun K hK => ?_) AllReadyP.nil)
                  · go_simp
                    (go_at_call 14; with_reducible refine (hT _).mono ?_; rintro e w1 ⟨rfl, hb1⟩)
                    have hK18 := hHeld.1.below hb1
                    replace hP := hP.below hb1 ltP
                    replace ltP := Nat.lt_of_lt_of_le ltP hb1.size
                    clear hb1
                    refine hK.out _ _ ?_ (fun hHeld => ?_)
                    · (exact ⟨hK18, trivial⟩)
                    clear hK K
                    (try simp only [Act.put, pA, pZ, pS])
                    refine rd1 19 rfl (fun K hK => ?_)
                    go_simp
                    have hgS := hHeld.1.lt
                    have hbn : Below w1.heap.size w1 (w1.alloc (Obj.cells #[.int .i64 0, .int .i64 0] 43)) := (Below.refl _ _).alloc (Nat.le_refl _) _
                    have hS := Two.new w1 43 0 0
                    have ltS : w1.heap.size < (w1.alloc (Obj.cells #[.int .i64 0, .int .i64 0] 43)).heap.size := by rw [World.size_alloc]; omega
                    have hK18 := hHeld.1.below hbn
                    replace hP := hP.below hbn ltP
                    have hne := Nat.ne_of_lt ltP
                    replace ltP := Nat.lt_of_lt_of_le ltP hbn.size
                    clear hbn
                    generalize (w1.alloc (Obj.cells #[.int .i64 0, .int .i64 0] 43)) = VS at hS ltS hK18 hP ltP ⊢
                    generalize w1.heap.size = S at hgS hS ltS hne ⊢
                    refine hK.out _ _ ?_ (fun hHeld => ?_)
                    · (exact ⟨hK18, trivial⟩)
                    clear hK K
                    (try simp only [Act.put, pA, pZ, pS])
                    refine rd1 20 rfl (fun K hK => ?_)
                    have c0 := hP.k0
                    have c1 := hP.k1
                    have y0 := hP.f0
                    have y1 := hP.f1
                    go_simp
                    clear c0 c1 y0 y1
                    have hK18 := hHeld.1.put hgP (.int .i64 px) (.int .i64 py)
                    replace hP := hP.set01 px py
                    replace hS := hS.far2 hne (.int .i64 px) (.int .i64 py)
                    refine hK.out _ _ ?_ (fun hHeld => ?_)
                    · (exact ⟨hK18, trivial⟩)
                    clear hK K
                    (try simp only [Act.put, pA, pZ, pS])
                    refine rd1 21 rfl (fun K hK => ?_)
                    have c0 := hS.k0
                    have c1 := hS.k1
                    have y0 := hS.f0
                    have y1 := hS.f1
                    go_simp
                    clear c0 c1 y0 y1
                    have hK18 := hHeld.1.put hgS (.int .i64 sx) (.int .i64 sy)
                    replace hS := hS.set01 sx sy
                    replace hP := hP.far2 (Ne.symm hne) (.int .i64 sx) (.int .i64 sy)
                    refine hK.out _ _ ?_ (fun hHeld => ?_)
                    · (exact ⟨hK18, trivial⟩)
                    clear hK K
                    (try simp only [Act.put, pA, pZ, pS])
                    refine wpAnyP_done (by kernel_rfl) ?_ _
                    (try simp only [Act.put, List.getElem_toArray, List.getElem_cons_zero, List.getElem_cons_succ, pA, pZ, pS])
                    exact fin P S _ hHeld.1 hP hS hgP hgS hne (by simpa only [World.size_setCell] using ltP) (by simpa only [World.size_setCell] using ltS)
                  · go_simp
                    have hgS := hHeld.1.lt
                    have hbn : Below VP.heap.size VP (VP.alloc (Obj.cells #[.int .i64 0, .int .i64 0] 43)) := (Below.refl _ _).alloc (Nat.le_refl _) _
                    have hS := Two.new VP 43 0 0
                    have ltS : VP.heap.size < (VP.alloc (Obj.cells #[.int .i64 0, .int .i64 0] 43)).heap.size := by rw [World.size_alloc]; omega
                    have hK18 := hHeld.1.below hbn
                    replace hP := hP.below hbn ltP
                    have hne := Nat.ne_of_lt ltP
                    replace ltP := Nat.lt_of_lt_of_le ltP hbn.size
                    clear hbn
                    generalize (VP.alloc (Obj.cells #[.int .i64 0, .int .i64 0] 43)) = VS at hS ltS hK18 hP ltP ⊢
                    generalize VP.heap.size = S at hgS hS ltS hne ⊢
                    refine hK.out _ _ ?_ (fun hHeld => ?_)
                    · (exact ⟨hK18, trivial⟩)
                    clear hK K
                    (try simp only [Act.put, pA, pZ, pS])
                    refine rd1 12 rfl (fun K hK => ?_)
                    go_simp
                    (go_at_call 14; with_reducible refine (hT _).mono ?_; rintro e w1 ⟨rfl, hb1⟩)
                    have hK18 := hHeld.1.below hb1
                    replace hP := hP.below hb1 ltP
                    replace ltP := Nat.lt_of_lt_of_le ltP hb1.size
                    replace hS := hS.below hb1 ltS
                    replace ltS := Nat.lt_of_lt_of_le ltS hb1.size
                    clear hb1
                    refine hK.out _ _ ?_ (fun hHeld => ?_)
                    · (exact ⟨hK18, trivial⟩)
                    clear hK K
                    (try simp only [Act.put, pA, pZ, pS])
                    refine rd1 20 rfl (fun K hK => ?_)
                    have c0 := hP.k0
                    have c1 := hP.k1
                    have y0 := hP.f0
                    have y1 := hP.f1
                    go_simp
                    clear c0 c1 y0 y1
                    have hK18 := hHeld.1.put hgP (.int .i64 px) (.int .i64 py)
                    replace hP := hP.set01 px py
                    replace hS := hS.far2 hne (.int .i64 px) (.int .i64 py)
                    refine hK.out _ _ ?_ (fun hHeld => ?_)
                    · (exact ⟨hK18, trivial⟩)
                    clear hK K
                    (try simp only [Act.put, pA, pZ, pS])
                    refine rd1 21 rfl (fun K hK => ?_)
                    have c0 := hS.k0
                    have c1 := hS.k1
                    have y0 := hS.f0
                    have y1 := hS.f1
                    go_simp
                    clear c0 c1 y0 y1
                    have hK18 := hHeld.1.put hgS (.int .i64 sx) (.int .i64 sy)
                    replace hS := hS.set01 sx sy
                    replace hP := hP.far2 (Ne.symm hne) (.int .i64 sx) (.int .i64 sy)
                    refine hK.out _ _ ?_ (fun hHeld => ?_)
                    · (exact ⟨hK18, trivial⟩)
                    clear hK K
                    (try simp only [Act.put, pA, pZ, pS])
                    refine wpAnyP_done (by kernel_rfl) ?_ _
                    (try simp only [Act.put, List.getElem_toArray, List.getElem_cons_zero, List.getElem_cons_succ, pA, pZ, pS])
                    exact fin P S _ hHeld.1 hP hS hgP hgS hne (by simpa only [World.size_setCell] using ltP) (by simpa only [World.size_setCell] using ltS)
                · go_simp
                  have hgS := hHeld.1.lt
                  have hbn : Below V.heap.size V (V.alloc (Obj.cells #[.int .i64 0, .int .i64 0] 43)) := (Below.refl _ _).alloc (Nat.le_refl _) _
                  have hS := Two.new V 43 0 0
                  have ltS : V.heap.size < (V.alloc (Obj.cells #[.int .i64 0, .int .i64 0] 43)).heap.size := by rw [World.size_alloc]; omega
                  have hK18 := hHeld.1.below hbn
                  clear hbn
                  generalize (V.alloc (Obj.cells #[.int .i64 0, .int .i64 0] 43)) = VS at hS ltS hK18 ⊢
                  generalize V.heap.size = S at hgS hS ltS ⊢
                  refine hK.out _ _ ?_ (fun hHeld => ?_)
                  · (exact ⟨hK18, trivial⟩)
                  clear hK K
                  (try simp only [Act.put, pA, pZ, pS])
                  refine wpAnyP_ready (rs := [12, 18]) (by kernel_rfl) (by simp) ?_
                  refine AllReadyP.cons (o := _) rfl (fun K hK => ?_) (AllReadyP.cons (o := _) rfl (fun K hK => ?_) AllReadyP.nil)
                  · go_simp
                    (go_at_call 14; with_reducible refine (hT _).mono ?_; rintro e w1 ⟨rfl, hb1⟩)
                    have hK18 := hHeld.1.below hb1
                    replace hS := hS.below hb1 ltS
                    replace ltS := Nat.lt_of_lt_of_le ltS hb1.size
                    clear hb1
                    refine hK.out _ _ ?_ (fun hHeld => ?_)
                    · (exact ⟨hK18, trivial⟩)
                    clear hK K
                    (try simp only [Act.put, pA, pZ, pS])
                    refine rd1 18 rfl (fun K hK => ?_)
                    go_simp
                    have hgP := hHeld.1.lt
                    have hbn : Below w1.heap.size w1 (w1.alloc (Obj.cells #[.int .i64 0, .int .i64 0] 43)) := (Below.refl _ _).alloc (Nat.le_refl _) _
                    have hP := Two.new w1 43 0 0
                    have ltP : w1.heap.size < (w1.alloc (Obj.cells #[.int .i64 0, .int .i64 0] 43)).heap.size := by rw [World.size_alloc]; omega
                    have hK18 := hHeld.1.below hbn
                    replace hS := hS.below hbn ltS
                    have hne := Nat.ne_of_gt ltS
                    replace ltS := Nat.lt_of_lt_of_le ltS hbn.size
                    clear hbn
                    generalize (w1.alloc (Obj.cells #[.int .i64 0, .int .i64 0] 43)) = VP at hP ltP hK18 hS ltS ⊢
                    generalize w1.heap.size = P at hgP hP ltP hne ⊢
                    refine hK.out _ _ ?_ (fun hHeld => ?_)
                    · (exact ⟨hK18, trivial⟩)
                    clear hK K
                    (try simp only [Act.put, pA, pZ, pS])
                    refine rd1 20 rfl (fun K hK => ?_)
                    have c0 := hP.k0
                    have c1 := hP.k1
                    have y0 := hP.f0
                    have y1 := hP.f1
                    go_simp
                    clear c0 c1 y0 y1
                    have hK18 := hHeld.1.put hgP (.int .i64 px) (.int .i64 py)
                    replace hP := hP.set01 px py
                    replace hS := hS.far2 hne (.int .i64 px) (.int .i64 py)
                    refine hK.out _ _ ?_ (fun hHeld => ?_)
                    · (exact ⟨hK18, trivial⟩)
                    clear hK K
                    (try simp only [Act.put, pA, pZ, pS])
                    refine rd1 21 rfl (fun K hK => ?_)
                    have c0 := hS.k0
                    have c1 := hS.k1
                    have y0 := hS.f0
                    have y1 := hS.f1
                    go_simp
                    clear c0 c1 y0 y1
                    have hK18 := hHeld.1.put hgS (.int .i64 sx) (.int .i64 sy)
                    replace hS := hS.set01 sx sy
                    replace hP := hP.far2 (Ne.symm hne) (.int .i64 sx) (.int .i64 sy)
                    refine hK.out _ _ ?_ (fun hHeld => ?_)
                    · (exact ⟨hK18, trivial⟩)
                    clear hK K
                    (try simp only [Act.put, pA, pZ, pS])
                    refine wpAnyP_done (by kernel_rfl) ?_ _
                    (try simp only [Act.put, List.getElem_toArray, List.getElem_cons_zero, List.getElem_cons_succ, pA, pZ, pS])
                    exact fin P S _ hHeld.1 hP hS hgP hgS hne (by simpa only [World.size_setCell] using ltP) (by simpa only [World.size_setCell] using ltS)
                  · go_simp
                    have hgP := hHeld.1.lt
                    have hbn : Below VS.heap.size VS (VS.alloc (Obj.cells #[.int .i64 0, .int .i64 0] 43)) := (Below.refl _ _).alloc (Nat.le_refl _) _
                    have hP := Two.new VS 43 0 0
                    have ltP : VS.heap.size < (VS.alloc (Obj.cells #[.int .i64 0, .int .i64 0] 43)).heap.size := by rw [World.size_alloc]; omega
                    have hK18 := hHeld.1.below hbn
                    replace hS := hS.below hbn ltS
                    have hne := Nat.ne_of_gt ltS
                    replace ltS := Nat.lt_of_lt_of_le ltS hbn.size
                    clear hbn
                    generalize (VS.alloc (Obj.cells #[.int .i64 0, .int .i64 0] 43)) = VP at hP ltP hK18 hS ltS ⊢
                    generalize VS.heap.size = P at hgP hP ltP hne ⊢
                    refine hK.out _ _ ?_ (fun hHeld => ?_)
                    · (exact ⟨hK18, trivial⟩)
                    clear hK K
                    (try simp only [Act.put, pA, pZ, pS])
                    refine rd1 12 rfl (fun K hK => ?_)
                    go_simp
                    (go_at_call 14; with_reducible refine (hT _).mono ?_; rintro e w1 ⟨rfl, hb1⟩)
                    have hK18 := hHeld.1.below hb1
                    replace hP := hP.below hb1 ltP
                    replace ltP := Nat.lt_of_lt_of_le ltP hb1.size
                    replace hS := hS.below hb1 ltS
                    replace ltS := Nat.lt_of_lt_of_le ltS hb1.size
                    clear hb1
                    refine hK.out _ _ ?_ (fun hHeld => ?_)
                    · (exact ⟨hK18, trivial⟩)
                    clear hK K
                    (try simp only [Act.put, pA, pZ, pS])
                    refine rd1 20 rfl (fun K hK => ?_)
                    have c0 := hP.k0
                    have c1 := hP.k1
                    have y0 := hP.f0
                    have y1 := hP.f1
                    go_simp
                    clear c0 c1 y0 y1
                    have hK18 := hHeld.1.put hgP (.int .i64 px) (.int .i64 py)
                    replace hP := hP.set01 px py
                    replace hS := hS.far2 hne (.int .i64 px) (.int .i64 py)
                    refine hK.out _ _ ?_ (fun hHeld => ?_)
                    · (exact ⟨hK18, trivial⟩)
                    clear hK K
                    (try simp only [Act.put, pA, pZ, pS])
                    refine rd1 21 rfl (fun K hK => ?_)
                    have c0 := hS.k0
                    have c1 := hS.k1
                    have y0 := hS.f0
                    have y1 := hS.f1
                    go_simp
                    clear c0 c1 y0 y1
                    have hK18 := hHeld.1.put hgS (.int .i64 sx) (.int .i64 sy)
                    replace hS := hS.set01 sx sy
                    replace hP := hP.far2 (Ne.symm hne) (.int .i64 sx) (.int .i64 sy)
                    refine hK.out _ _ ?_ (fun hHeld => ?_)
                    · (exact ⟨hK18, trivial⟩)
                    clear hK K
                    (try simp only [Act.put, pA, pZ, pS])
                    refine wpAnyP_done (by kernel_rfl) ?_ _
                    (try simp only [Act.put, List.getElem_toArray, List.getElem_cons_zero, List.getElem_cons_succ, pA, pZ, pS])
                    exact fin P S _ hHeld.1 hP hS hgP hgS hne (by simpa only [World.size_setCell] using ltP) (by simpa only [World.size_setCell] using ltS)
              case fin =>
                intro P S W' hB hP hS hgP hgS hne ltP ltS
                refine hKK _ _ ?_
                have hcX := fun W => rcommon_any bb.1 bb.2.1 (px - sx - r) (px - sx + r) W
                have hcY := fun W => rcommon_any bb.2.2.1 bb.2.2.2 (py - sy - r) (py - sy + r) W
                have d1 := (hD W' hB.old).2.1
                have x1 := hB.x.k1
                have x2 := hB.x.k2
                have y0 := hP.k0
                have y1 := hS.k0
                have tok : True := trivial
                go_wp2_with (first
                  | (have _t := tok; go_at_call 101; with_reducible refine (hcX _).mono ?_; rintro e w2 ⟨rfl, hb2⟩
                     clear d1 x1 x2 y0 y1
                     replace hB := hB.below hb2; replace hP := hP.below hb2 ltP; replace hS := hS.below hb2 ltS
                     have x1 := hB.x.k1; have x2 := hB.x.k2; have g1 := hB.x.f1; have g2 := hB.x.f2
                     obtain ⟨W3, hW3⟩ : ∃ W3, (w2.setCell ⟨wm.heap.size, 1, none⟩ (.int .i64 (max bb.1 (px - sx - r)))).setCell ⟨wm.heap.size, 2, none⟩ (.int .i64 (min bb.2.1 (px - sx + r))) = W3 := ⟨_, rfl⟩
                     have hB3 := hB.setX (max bb.1 (px - sx - r)) (min bb.2.1 (px - sx + r))
                     have hP3 := hP.farX (P := wm.heap.size) (o1 := 1) (o2 := 2) (by omega) (.int .i64 (max bb.1 (px - sx - r))) (.int .i64 (min bb.2.1 (px - sx + r)))
                     have hS3 := hS.farX (P := wm.heap.size) (o1 := 1) (o2 := 2) (by omega) (.int .i64 (max bb.1 (px - sx - r))) (.int .i64 (min bb.2.1 (px - sx + r)))
                     rw [hW3] at hB3 hP3 hS3
                     have d1 := (hD W3 hB3.old).2.1
                     have y3 := hB3.x.k3; have y4 := hB3.x.k4; have y5 := hP3.k1; have y6 := hS3.k1
                     clear tok _t)
                  | (go_at_call 101; with_reducible refine (hcY _).mono ?_; rintro e w4 ⟨rfl, hb4⟩
                     replace hB3 := hB3.below hb4
                     have x3 := hB3.x.k3; have x4 := hB3.x.k4; have g3 := hB3.x.f3; have g4 := hB3.x.f4
                     obtain ⟨W5, hW5⟩ : ∃ W5, (w4.setCell ⟨wm.heap.size, 3, none⟩ (.int .i64 (max bb.2.2.1 (py - sy - r)))).setCell ⟨wm.heap.size, 4, none⟩ (.int .i64 (min bb.2.2.2 (py - sy + r))) = W5 := ⟨_, rfl⟩
                     have hB5 := hB3.setY (max bb.2.2.1 (py - sy - r)) (min bb.2.2.2 (py - sy + r))
                     rw [hW5] at hB5))
                go_roundw
                case rel => exact ⟨i + 1, by omega, by go_num, by rw [hcut]; unfold cutB; rw [hpx, hpy]; exact hB5⟩
                case measure => simp [intOf]; omega
            · have hii : i = m.sn := by omega
              subst hii
              have x1 := hB.x.k1
              have x2 := hB.x.k2
              have x3 := hB.x.k3
              have x4 := hB.x.k4
              have hbe := hbx t k hlk
              generalize boxB m.SX m.SY HX HY r t L[k] m.sn = bb at *
              obtain ⟨ga, gc, hge, hgm⟩ := own_marks hrow
              have hfew : cnt ≤ 216 := by have := hbx0.few; omega
              have hcase : (bb.2.1 < bb.1) ∨ (¬ (bb.2.1 < bb.1) ∧ bb.2.2.2 < bb.2.2.1) ∨ (¬ (bb.2.1 < bb.1) ∧ ¬ (bb.2.2.2 < bb.2.2.1)) := by omega
              rcases hcase with hE1 | ⟨hE1, hE2⟩ | ⟨hE1, hE2⟩
              · have hbE : boxE bb = true := by unfold boxE; first | (rw [decide_eq_true hE1]; rfl) | (rw [decide_eq_true hE2]; simp)
                go_wp2
                go_loopw [13, 14] (fun mt j wz => ∃ (q : Nat), q ≤ cnt ∧ j = .int .i64 q ∧ mt = .bool true ∧ Below wx.heap.size wx wz) (fun _ j _ => cnt - (intOf j).toNat)
                case atStart => exact ⟨0, Nat.zero_le _, rfl, rfl, Below.refl _ _⟩
                case round =>
                  obtain ⟨q, hqc, rfl, rfl, hbz⟩ := hrel
                  rename World => wz
                  have hq0 : (0 : Int) ≤ (q : Int) := Int.natCast_nonneg _
                  clear x1 x2 x3 x4
                  have hwz : Below w1.heap.size w1 wz := hbl.trans ((hB.old.trans (hbz.mono hB.old.size)).mono hbl.size)
                  have hrowz := ownsRow_below hrow (hB.old.trans (hbz.mono hB.old.size))
                  subst hge
                  by_cases hlq : q < cnt
                  · have hq1 : (q : Int) < (cnt : Int) := by omega
                    go_wp2_with fail
                    refine wp_region_late [] (fun w9 => Below wx.heap.size wx w9) (fun w9 => True) (by kernel_rfl) ?_ (fun hHeld => ?_)
                    · (exact ⟨hbz.drew, trivial⟩)
                    generalize wz.drew = V at hHeld ⊢
                    refine tk1 0 rfl hHeld ?_
                    refine tk1 1 rfl hHeld ?_
                    refine tk0 2 (undef) rfl (Or.inr ⟨by kernel_rfl, rfl⟩) hHeld ?_
                    (try simp only [Act.put, pA, pZ, pS])
                    refine tk0 3 (undef) rfl (Or.inr ⟨by kernel_rfl, rfl⟩) hHeld ?_
                    (try simp only [Act.put, pA, pZ, pS])
                    refine tk0 4 (undef) rfl (Or.inr ⟨by kernel_rfl, rfl⟩) hHeld ?_
                    (try simp only [Act.put, pA, pZ, pS])
                    refine tk0 5 (undef) rfl (Or.inr ⟨by kernel_rfl, rfl⟩) hHeld ?_
                    (try simp only [Act.put, pA, pZ, pS])
                    refine tk0 6 (undef) rfl (Or.inr ⟨by kernel_rfl, rfl⟩) hHeld ?_
                    (try simp only [Act.put, pA, pZ, pS])
                    refine tk0 7 (undef) rfl (Or.inr ⟨by kernel_rfl, rfl⟩) hHeld ?_
                    (try simp only [Act.put, pA, pZ, pS])
                    refine tk1 8 rfl hHeld ?_
                    refine tk1 9 rfl hHeld ?_
                    refine wpAnyP_done (by kernel_rfl) ?_ _
                    (try simp only [Act.put, List.getElem_toArray, List.getElem_cons_zero, List.getElem_cons_succ, pA, pZ, pS])
                    have hO9 := hHeld.1
                    clear hHeld
                    go_wp2
                    go_roundw
                    case rel => exact ⟨q + 1, by omega, by go_num, rfl, hO9⟩
                    case measure => simp [intOf]; omega
                  · obtain rfl : q = cnt := by omega
                    go_wp2
                    go_roundw
                    case rel => exact ⟨k + 1, q, f, by omega, by go_num, hwz, hrowz, hbx0.skip (by rw [hbe]; exact .inl hbE)⟩
                    case measure => simp [intOf]; omega
              · have hbE : boxE bb = true := by unfold boxE; first | (rw [decide_eq_true hE1]; rfl) | (rw [decide_eq_true hE2]; simp)
                go_wp2
                go_loopw [13, 14] (fun mt j wz => ∃ (q : Nat), q ≤ cnt ∧ j = .int .i64 q ∧ mt = .bool true ∧ Below wx.heap.size wx wz) (fun _ j _ => cnt - (intOf j).toNat)
                case atStart => exact ⟨0, Nat.zero_le _, rfl, rfl, Below.refl _ _⟩
                case round =>
                  obtain ⟨q, hqc, rfl, rfl, hbz⟩ := hrel
                  rename World => wz
                  have hq0 : (0 : Int) ≤ (q : Int) := Int.natCast_nonneg _
                  clear x1 x2 x3 x4
                  have hwz : Below w1.heap.size w1 wz := hbl.trans ((hB.old.trans (hbz.mono hB.old.size)).mono hbl.size)
                  have hrowz := ownsRow_below hrow (hB.old.trans (hbz.mono hB.old.size))
                  subst hge
                  by_cases hlq : q < cnt
                  · have hq1 : (q : Int) < (cnt : Int) := by omega
                    go_wp2_with fail
                    refine wp_region_late [] (fun w9 => Below wx.heap.size wx w9) (fun w9 => True) (by kernel_rfl) ?_ (fun hHeld => ?_)
                    · (exact ⟨hbz.drew, trivial⟩)
                    generalize wz.drew = V at hHeld ⊢
                    refine tk1 0 rfl hHeld ?_
                    refine tk1 1 rfl hHeld ?_
                    refine tk0 2 (undef) rfl (Or.inr ⟨by kernel_rfl, rfl⟩) hHeld ?_
                    (try simp only [Act.put, pA, pZ, pS])
                    refine tk0 3 (undef) rfl (Or.inr ⟨by kernel_rfl, rfl⟩) hHeld ?_
                    (try simp only [Act.put, pA, pZ, pS])
                    refine tk0 4 (undef) rfl (Or.inr ⟨by kernel_rfl, rfl⟩) hHeld ?_
                    (try simp only [Act.put, pA, pZ, pS])
                    refine tk0 5 (undef) rfl (Or.inr ⟨by kernel_rfl, rfl⟩) hHeld ?_
                    (try simp only [Act.put, pA, pZ, pS])
                    refine tk0 6 (undef) rfl (Or.inr ⟨by kernel_rfl, rfl⟩) hHeld ?_
                    (try simp only [Act.put, pA, pZ, pS])
                    refine tk0 7 (undef) rfl (Or.inr ⟨by kernel_rfl, rfl⟩) hHeld ?_
                    (try simp only [Act.put, pA, pZ, pS])
                    refine tk1 8 rfl hHeld ?_
                    refine tk1 9 rfl hHeld ?_
                    refine wpAnyP_done (by kernel_rfl) ?_ _
                    (try simp only [Act.put, List.getElem_toArray, List.getElem_cons_zero, List.getElem_cons_succ, pA, pZ, pS])
                    have hO9 := hHeld.1
                    clear hHeld
                    go_wp2
                    go_roundw
                    case rel => exact ⟨q + 1, by omega, by go_num, rfl, hO9⟩
                    case measure => simp [intOf]; omega
                  · obtain rfl : q = cnt := by omega
                    go_wp2
                    go_roundw
                    case rel => exact ⟨k + 1, q, f, by omega, by go_num, hwz, hrowz, hbx0.skip (by rw [hbe]; exact .inl hbE)⟩
                    case measure => simp [intOf]; omega
              · have hbE : boxE bb = false := by unfold boxE; rw [decide_eq_false hE1, decide_eq_false hE2]; rfl
                go_wp2
                go_loopw [13, 14] (fun mt j wz => ∃ (q : Nat) (b : Bool), q ≤ cnt ∧ j = .int .i64 q ∧ mt = .bool b ∧ Below wx.heap.size wx wz ∧ Hid (b = true ↔ ∃ i, i < q ∧ f i = box5 bb)) (fun _ j _ => cnt - (intOf j).toNat)
                case atStart => exact ⟨0, false, Nat.zero_le _, rfl, rfl, Below.refl _ _, ⟨⟨fun h => (by cases h), fun ⟨i, h1, _⟩ => absurd h1 (Nat.not_lt_zero i)⟩⟩⟩
                case round =>
                  obtain ⟨q, b, hqc, rfl, rfl, hbz, hbm⟩ := hrel
                  rename World => wz
                  have hq0 : (0 : Int) ≤ (q : Int) := Int.natCast_nonneg _
                  clear x1 x2 x3 x4
                  have hwz : Below w1.heap.size w1 wz := hbl.trans ((hB.old.trans (hbz.mono hB.old.size)).mono hbl.size)
                  have hBz := hB.below hbz
                  have hrowz := ownsRow_below hrow (hB.old.trans (hbz.mono hB.old.size))
                  subst hge
                  by_cases hlq : q < cnt
                  · have hq1 : (q : Int) < (cnt : Int) := by omega
                    obtain ⟨gb, go_, rfl, hgl, hgp⟩ := hgm (by omega)
                    cases b with
                    | true =>
                      replace hbm : PLift (∃ i, i < q ∧ f i = box5 bb) := ⟨hbm.down.1 rfl⟩
                      go_wp2_with fail
                      refine wp_region_late [] (fun w9 => Below wx.heap.size wx w9) (fun w9 => True) (by kernel_rfl) ?_ (fun hHeld => ?_)
                      · (exact ⟨hbz.drew, trivial⟩)
                      generalize wz.drew = V at hHeld ⊢
                      refine tk1 0 rfl hHeld ?_
                      refine tk1 1 rfl hHeld ?_
                      refine tk0 2 (undef) rfl (Or.inr ⟨by kernel_rfl, rfl⟩) hHeld ?_
                      (try simp only [Act.put, pA, pZ, pS])
                      refine tk0 3 (undef) rfl (Or.inr ⟨by kernel_rfl, rfl⟩) hHeld ?_
                      (try simp only [Act.put, pA, pZ, pS])
                      refine tk0 4 (undef) rfl (Or.inr ⟨by kernel_rfl, rfl⟩) hHeld ?_
                      (try simp only [Act.put, pA, pZ, pS])
                      refine tk0 5 (undef) rfl (Or.inr ⟨by kernel_rfl, rfl⟩) hHeld ?_
                      (try simp only [Act.put, pA, pZ, pS])
                      refine tk0 6 (undef) rfl (Or.inr ⟨by kernel_rfl, rfl⟩) hHeld ?_
                      (try simp only [Act.put, pA, pZ, pS])
                      refine tk0 7 (undef) rfl (Or.inr ⟨by kernel_rfl, rfl⟩) hHeld ?_
                      (try simp only [Act.put, pA, pZ, pS])
                      refine tk1 8 rfl hHeld ?_
                      refine tk1 9 rfl hHeld ?_
                      refine wpAnyP_done (by kernel_rfl) ?_ _
                      (try simp only [Act.put, List.getElem_toArray, List.getElem_cons_zero, List.getElem_cons_succ, pA, pZ, pS])
                      have hO9 := hHeld.1
                      clear hHeld
                      go_wp2
                      go_roundw
                      case rel => exact ⟨q + 1, true, by omega, by go_num, rfl, hO9, ⟨⟨fun _ => (by obtain ⟨i, h1, h2⟩ := hbm.down; exact ⟨i, by omega, h2⟩), fun _ => rfl⟩⟩⟩
                      case measure => simp [intOf]; omega
                    | false =>
                      replace hbm : PLift (¬ ∃ i, i < q ∧ f i = box5 bb) := ⟨fun h => (by have := hbm.down.2 h; cases this)⟩
                      have hX9 : ∀ W, Below wx.heap.size wx W → W.cell? ⟨wm.heap.size, 0, none⟩ = some (.int .i64 0) ∧ W.cell? ⟨wm.heap.size, 1, none⟩ = some (.int .i64 bb.1) ∧ W.cell? ⟨wm.heap.size, 2, none⟩ = some (.int .i64 bb.2.1) ∧ W.cell? ⟨wm.heap.size, 3, none⟩ = some (.int .i64 bb.2.2.1) ∧ W.cell? ⟨wm.heap.size, 4, none⟩ = some (.int .i64 bb.2.2.2) := fun W hW => by
                        have h9 := (hB.below hW).x
                        exact ⟨h9.k0, h9.k1, h9.k2, h9.k3, h9.k4⟩
                      obtain ⟨f0, f1, f2, f3, f4⟩ := hgp q hlq
                      have hF : ∀ W, Below wx.heap.size wx W → W.cell? ⟨gb, go_ + q * 5, none⟩ = some (.int .i64 (f q).1) ∧ W.cell? ⟨gb, go_ + q * 5 + 1, none⟩ = some (.int .i64 (f q).2.1) ∧ W.cell? ⟨gb, go_ + q * 5 + 2, none⟩ = some (.int .i64 (f q).2.2.1) ∧ W.cell? ⟨gb, go_ + q * 5 + 3, none⟩ = some (.int .i64 (f q).2.2.2.1) ∧ W.cell? ⟨gb, go_ + q * 5 + 4, none⟩ = some (.int .i64 (f q).2.2.2.2) := fun W hW => by
                        have old : ∀ off, W.cell? ⟨gb, off, none⟩ = wm.cell? ⟨gb, off, none⟩ := fun off => (hW.cell (p := ⟨gb, off, none⟩) (by have := hB.lt; show gb < _; omega)).trans (hB.old.cell (p := ⟨gb, off, none⟩) hgl)
                        exact ⟨(old _).trans f0, (old _).trans f1, (old _).trans f2, (old _).trans f3, (old _).trans f4⟩
                      clear f0 f1 f2 f3 f4
                      have heqv : PLift (f q = box5 bb ↔ ((f q).1 = 0 ∧ (f q).2.1 = bb.1 ∧ (f q).2.2.1 = bb.2.1 ∧ (f q).2.2.2.1 = bb.2.2.1 ∧ (f q).2.2.2.2 = bb.2.2.2)) := ⟨⟨fun e => by rw [e]; exact ⟨rfl, rfl, rfl, rfl, rfl⟩, fun ⟨t0, t1, t2, t3, t4⟩ => Prod.ext t0 (Prod.ext t1 (Prod.ext t2 (Prod.ext t3 t4)))⟩⟩
                      generalize (f q).1 = y0 at hF heqv
                      generalize (f q).2.1 = y1 at hF heqv
                      generalize (f q).2.2.1 = y2 at hF heqv
                      generalize (f q).2.2.2.1 = y3 at hF heqv
                      generalize (f q).2.2.2.2 = y4 at hF heqv
                      by_cases heq : y0 = 0 ∧ y1 = bb.1 ∧ y2 = bb.2.1 ∧ y3 = bb.2.2.1 ∧ y4 = bb.2.2.2
                      · replace heqv : PLift (f q = box5 bb) := ⟨heqv.down.2 heq⟩
                        have heq' := PLift.up heq
                        clear heq
                        go_wp2_with fail
                        refine wp_region_late [] (fun w9 => Below wx.heap.size wx w9) (fun w9 => True) (by kernel_rfl) ?_ (fun hHeld => ?_)
                        · (exact ⟨hbz.drew, trivial⟩)
                        generalize wz.drew = V at hHeld ⊢
                        refine tk1 0 rfl hHeld ?_
                        refine tk1 1 rfl hHeld ?_
                        refine tk3 2 rfl (by (intro w9 hSw; clear hSw; go_simp) <;> with_reducible rfl) hHeld ?_
                        refine tk3 3 rfl (by (intro w9 hSw; clear hSw; go_simp) <;> with_reducible rfl) hHeld ?_
                        refine tk3 4 rfl (by (intro w9 hSw; clear hSw; go_simp) <;> with_reducible rfl) hHeld ?_
                        refine tk3 5 rfl (by (intro w9 hSw; have z0 := (hF w9 hSw).1; have z1 := (hF w9 hSw).2.1; have z2 := (hF w9 hSw).2.2.1; have z3 := (hF w9 hSw).2.2.2.1; have z4 := (hF w9 hSw).2.2.2.2; clear hSw; go_simp) <;> with_reducible rfl) hHeld ?_
                        refine tk3 6 rfl (by (intro w9 hSw; have z0 := (hX9 w9 hSw).1; have z1 := (hX9 w9 hSw).2.1; have z2 := (hX9 w9 hSw).2.2.1; have z3 := (hX9 w9 hSw).2.2.2.1; have z4 := (hX9 w9 hSw).2.2.2.2; clear hSw; go_simp) <;> with_reducible rfl) hHeld ?_
                        refine tk0 7 ?_ rfl (Or.inl ⟨by kernel_rfl, ?_⟩) hHeld ?_
                        rotate_left 1
                        · ((intro w9 hSw; clear hSw; go_simp; rw [if5, if_pos heq'.down]))
                        (try simp only [Act.put, pA, pZ, pS])
                        refine tk1 8 rfl hHeld ?_
                        refine tk1 9 rfl hHeld ?_
                        refine wpAnyP_done (by kernel_rfl) ?_ _
                        (try simp only [Act.put, List.getElem_toArray, List.getElem_cons_zero, List.getElem_cons_succ, pA, pZ, pS])
                        have hO9 := hHeld.1
                        clear hHeld
                        go_wp2
                        go_roundw
                        case rel => exact ⟨q + 1, true, by omega, by go_num, rfl, hO9, ⟨⟨fun _ => ⟨q, by omega, heqv.down⟩, fun _ => rfl⟩⟩⟩
                        case measure => simp [intOf]; omega
                      · replace heqv : PLift (¬ f q = box5 bb) := ⟨fun h => heq (heqv.down.1 h)⟩
                        have heq' := PLift.up heq
                        clear heq
                        go_wp2_with fail
                        refine wp_region_late [] (fun w9 => Below wx.heap.size wx w9) (fun w9 => True) (by kernel_rfl) ?_ (fun hHeld => ?_)
                        · (exact ⟨hbz.drew, trivial⟩)
                        generalize wz.drew = V at hHeld ⊢
                        refine tk1 0 rfl hHeld ?_
                        refine tk1 1 rfl hHeld ?_
                        refine tk3 2 rfl (by (intro w9 hSw; clear hSw; go_simp) <;> with_reducible rfl) hHeld ?_
                        refine tk3 3 rfl (by (intro w9 hSw; clear hSw; go_simp) <;> with_reducible rfl) hHeld ?_
                        refine tk3 4 rfl (by (intro w9 hSw; clear hSw; go_simp) <;> with_reducible rfl) hHeld ?_
                        refine tk3 5 rfl (by (intro w9 hSw; have z0 := (hF w9 hSw).1; have z1 := (hF w9 hSw).2.1; have z2 := (hF w9 hSw).2.2.1; have z3 := (hF w9 hSw).2.2.2.1; have z4 := (hF w9 hSw).2.2.2.2; clear hSw; go_simp) <;> with_reducible rfl) hHeld ?_
                        refine tk3 6 rfl (by (intro w9 hSw; have z0 := (hX9 w9 hSw).1; have z1 := (hX9 w9 hSw).2.1; have z2 := (hX9 w9 hSw).2.2.1; have z3 := (hX9 w9 hSw).2.2.2.1; have z4 := (hX9 w9 hSw).2.2.2.2; clear hSw; go_simp) <;> with_reducible rfl) hHeld ?_
                        refine tk0 7 ?_ rfl (Or.inl ⟨by kernel_rfl, ?_⟩) hHeld ?_
                        rotate_left 1
                        · ((intro w9 hSw; clear hSw; go_simp; rw [if5, if_neg heq'.down]))
                        (try simp only [Act.put, pA, pZ, pS])
                        refine tk1 8 rfl hHeld ?_
                        refine tk1 9 rfl hHeld ?_
                        refine wpAnyP_done (by kernel_rfl) ?_ _
                        (try simp only [Act.put, List.getElem_toArray, List.getElem_cons_zero, List.getElem_cons_succ, pA, pZ, pS])
                        have hO9 := hHeld.1
                        clear hHeld
                        go_wp2
                        go_roundw
                        case rel => exact ⟨q + 1, false, by omega, by go_num, rfl, hO9, ⟨⟨fun h => (by cases h), fun ⟨i, h1, h2⟩ => absurd ⟨i, (Nat.lt_or_eq_of_le (Nat.le_of_lt_succ h1)).elim id fun hi => absurd (hi ▸ h2) heqv.down, h2⟩ hbm.down⟩⟩⟩
                        case measure => simp [intOf]; omega
                  · obtain rfl : q = cnt := by omega
                    cases b with
                    | true =>
                      replace hbm : PLift (∃ i, i < q ∧ f i = box5 bb) := ⟨hbm.down.1 rfl⟩
                      go_wp2
                      go_roundw
                      case rel => exact ⟨k + 1, q, f, by omega, by go_num, hwz, hrowz, hbx0.skip (by rw [hbe]; exact .inr hbm.down)⟩
                      case measure => simp [intOf]; omega
                    | false =>
                      have hN := AAt.new wz 126 0 bb.1 bb.2.1 bb.2.2.1 (.int .i64 bb.2.2.2)
                      have x0 := hBz.x.k0
                      have x1 := hBz.x.k1
                      have x2 := hBz.x.k2
                      have x3 := hBz.x.k3
                      have x4 := hBz.x.k4
                      clear hbm
                      go_wp2_with (at_builtin; refine wpList_mark _ rfl _ _ rfl w1.heap.size _ q f rfl (ownsRow_below hrowz ((Below.refl _ _).alloc (Nat.le_refl _) (Obj.cells #[.int .i64 0, .int .i64 bb.1, .int .i64 bb.2.1, .int .i64 bb.2.2.1, .int .i64 bb.2.2.2] 126))) (by omega) wz.heap.size 0 bb.1 bb.2.1 bb.2.2.1 bb.2.2.2 rfl hN.k0 hN.k1 hN.k2 hN.k3 hN.k4 (by rw [World.size_alloc]; have := hwz.size; omega) ?_; intro g c w6 hr6 hb6)
                      go_roundw
                      case rel =>
                        refine ⟨k + 1, q + 1, _, by omega, by go_num, (hwz.alloc hwz.size _).trans hb6, hr6, ?_⟩
                        have := hbx0.push hlt hlk (by rw [hbe]; exact hbE)
                        rw [hbe] at this
                        exact this
                      case measure => simp [intOf]; omega
        · obtain rfl : L.length = k := by omega
          go_wp2
          go_roundw
          case rel => exact ⟨t + 1, cnt, f, by omega, by go_num, hbl, hrow, hbx0.turn hLn⟩
          case measure => simp [intOf]; omega
    · obtain rfl : t = 8 := by omega
      go_wp2
      go_ret
      exact ⟨_, cnt, f, rfl, own_marks hrow, by rw [hLL]; exact hbx0, hb01.trans (hbl.mono hb01.size)⟩
end Go.Proofs.YtjhpklolpmaopaaGreatDoor
namespace Go.Proofs.YtjhpklolpmaopaaGreatDoor
open Go.RowKit
theorem rbounds_m (m : Mach) (hok : m.ok = true) : ∃ b : Bool, (b = true ↔ m.can) ∧ ∀ (v : Value) (W : World), MkSl W v m.rn m.mark → Calls Tryz.prog 61 #[m.val, v] W fun e w' => ∃ vx vy, e = .returned (.tuple #[vx, vy, .bool b]) ∧ (b = true → ∃ gx cx gy cy, vx = .slice (some ⟨gx, 0, none⟩) 13 cx ∧ vy = .slice (some ⟨gy, 0, none⟩) 13 cy ∧ W.heap.size ≤ gx ∧ W.heap.size ≤ gy ∧ gx < w'.heap.size ∧ gy < w'.heap.size ∧ CAt w' gx m.axX.ends ∧ CAt w' gy m.axY.ends) ∧ Below W.heap.size W w' := by
 by_cases hc : m.can
 ·refine ⟨true, ⟨fun _ => hc, fun _ => rfl⟩, fun v W hm => ?_⟩
  obtain ⟨b, hb, hC⟩ := rbounds_any m v m.rn m.mark W (Mach.fineX hok) (Mach.fineY hok) hm
  obtain rfl : b = true := hb.2 hc
  exact hC
 ·refine ⟨false, ⟨fun h => (by cases h), fun h => absurd h hc⟩, fun v W hm => ?_⟩
  obtain ⟨b, hb, hC⟩ := rbounds_any m v m.rn m.mark W (Mach.fineX hok) (Mach.fineY hok) hm
  obtain rfl : b = false := by
   cases b with
   | false => rfl
   | true => exact absurd (hb.1 rfl) hc
  exact hC
/-- a machine in a block of its own. -/
structure PoR (w : World) (m : Mach) (W : World) : Prop where
 mat : MAt W w.heap.size m
 old : Below w.heap.size w W
 big : w.heap.size < W.heap.size
theorem PoR.below {w : World} {m : Mach} {W W' : World} (h : PoR w m W) (hb : Below W.heap.size W W') : PoR w m W' :=
 ⟨h.mat.below hb h.big, h.old.trans (hb.mono h.old.size), Nat.lt_of_lt_of_le h.big hb.size⟩
structure PoK (w : World) (m : Mach) (W : World) : Prop where
 mat : MAt W w.heap.size m
 old : Below w.heap.size w W
 big : w.heap.size + 3 ≤ W.heap.size
theorem PoK.below {w : World} {m : Mach} {W W' : World} (h : PoK w m W) (hb : Below W.heap.size W W') : PoK w m W' :=
 have := h.big
 ⟨h.mat.below hb (by omega), h.old.trans (hb.mono h.old.size), Nat.le_trans h.big hb.size⟩
structure KcR (w : World) (m : Mach) (gx gy : Nat) (EX EY : Nat → Int × Int) (W : World) : Prop where
 cx : CAt W gx EX
 cy : CAt W gy EY
 old : Below w.heap.size w W
 big : w.heap.size + 3 ≤ W.heap.size
 nx : gx ≠ w.heap.size + 1 ∧ gx ≠ w.heap.size + 1 + 1
 ny : gy ≠ w.heap.size + 1 ∧ gy ≠ w.heap.size + 1 + 1
theorem KcR.put {w : World} {m : Mach} {gx gy : Nat} {EX EY : Nat → Int × Int} {W : World} (h : KcR w m gx gy EX EY W) {D : Nat} (h1 : w.heap.size + 1 ≤ D) (h2 : D ≤ w.heap.size + 2) (x y : Value) : KcR w m gx gy EX EY ((W.setCell ⟨D, 0, none⟩ x).setCell ⟨D, 1, none⟩ y) :=
 have a := h.nx
 have b := h.ny
 ⟨h.cx.far2 (by omega) _ _ _ _, h.cy.far2 (by omega) _ _ _ _, (h.old.setCell (p := ⟨D, 0, none⟩) (by show w.heap.size ≤ D; omega) _).setCell (p := ⟨D, 1, none⟩) (by show w.heap.size ≤ D; omega) _, by rw [World.size_setCell, World.size_setCell]; exact h.big, h.nx, h.ny⟩
set_option maxRecDepth 100000 in
set_option maxHeartbeats 4000000 in
theorem rpossible_b (m : Mach) (hok : m.ok = true) : ∃ b : Bool, (b = true ↔ m.can) ∧ ∀ w, MIn w m → Calls Tryz.prog 59 #[m.val] w fun e w' => e = .returned (.bool b) ∧ Below w.heap.size w w' := by
 obtain ⟨b, hb, hbounds⟩ := rbounds_m m hok
 refine ⟨b, hb, fun w h => ?_⟩
 obtain ⟨W0, hW⟩ : ∃ W0, w.alloc (.cells #[.slice m.sa m.sn m.sc, .int .i64 m.c0, .int .i64 m.c1, .int .i64 m.d0, .int .i64 m.d1, .int .i64 m.w0, .int .i64 m.w1, .int .i64 m.v0, .int .i64 m.v1, .slice m.ra m.rn m.rc] 27) = W0 := ⟨_, rfl⟩
 have hO : Below w.heap.size w W0 := by rw [← hW]; exact (Below.refl _ _).alloc (Nat.le_refl _) _
 have hM : MAt W0 w.heap.size m := by rw [← hW]; exact MAt.new w m
 have hsz : W0.heap.size = w.heap.size + 1 := by rw [← hW, World.size_alloc]
 have hP : PoR w m W0.drew := (⟨hM, hO, by omega⟩ : PoR w m W0).below (Below.refl _ _).drew
 have hmarks := fun (W : World) (hB : Below w.heap.size w W) => rmarks_any m W hok (h.below hB)
 clear hb
 go_enter Tryz.func59, Tryz.ntmps59
 go_wp2_with fail
 refine wp_region_late [] (fun w9 => PoR w m w9) (fun w9 => True) (by kernel_rfl) ?_ (fun hHeld => ?_)
 ·(exact ⟨hP, trivial⟩)
 refine tk2 0 rfl (by (intro w9 hSw; obtain ⟨⟨q0, q1, q2, q3, q4, q5, q6, q7, q8, q9⟩, _, _⟩ := hSw; go_simp) <;> with_reducible rfl) hHeld ?_
 refine tk2 1 rfl (by (intro w9 hSw; obtain ⟨⟨q0, q1, q2, q3, q4, q5, q6, q7, q8, q9⟩, _, _⟩ := hSw; go_simp) <;> with_reducible rfl) hHeld ?_
 refine rd1 2 rfl (fun K hK => ?_)
 go_simp
 (go_at_call 63; with_reducible refine (hmarks _ hHeld.1.old).mono ?_; rintro e w5 ⟨v5, rfl, hms, hb5⟩)
 refine hK.out _ _ ?_ (fun hHeld => ?_)
 ·(exact ⟨hHeld.1.below hb5, trivial⟩)
 clear hK K
 (try simp only [Act.put, pA, pZ, pS])
 refine rd1 3 rfl (fun K hK => ?_)
 go_simp
 (go_at_call 61; with_reducible refine (hbounds _ _ hms).mono ?_; rintro e w6 ⟨vx, vy, rfl, hyes, hb6⟩)
 refine hK.out _ _ ?_ (fun hHeld => ?_)
 ·(exact ⟨hHeld.1.below hb6, trivial⟩)
 clear hK K
 (try simp only [Act.put, pA, pZ, pS])
 refine tk2 4 rfl (by (intro w9 hSw; obtain ⟨⟨q0, q1, q2, q3, q4, q5, q6, q7, q8, q9⟩, _, _⟩ := hSw; go_simp) <;> with_reducible rfl) hHeld ?_
 refine tk2 5 rfl (by (intro w9 hSw; obtain ⟨⟨q0, q1, q2, q3, q4, q5, q6, q7, q8, q9⟩, _, _⟩ := hSw; go_simp) <;> with_reducible rfl) hHeld ?_
 refine tk2 6 rfl (by (intro w9 hSw; obtain ⟨⟨q0, q1, q2, q3, q4, q5, q6, q7, q8, q9⟩, _, _⟩ := hSw; go_simp) <;> with_reducible rfl) hHeld ?_
 refine tk2 7 rfl (by (intro w9 hSw; obtain ⟨⟨q0, q1, q2, q3, q4, q5, q6, q7, q8, q9⟩, _, _⟩ := hSw; go_simp) <;> with_reducible rfl) hHeld ?_
 refine tk2 8 rfl (by (intro w9 hSw; obtain ⟨⟨q0, q1, q2, q3, q4, q5, q6, q7, q8, q9⟩, _, _⟩ := hSw; go_simp) <;> with_reducible rfl) hHeld ?_
 refine tk2 9 rfl (by (intro w9 hSw; obtain ⟨⟨q0, q1, q2, q3, q4, q5, q6, q7, q8, q9⟩, _, _⟩ := hSw; go_simp) <;> with_reducible rfl) hHeld ?_
 refine tk2 10 rfl (by (intro w9 hSw; obtain ⟨⟨q0, q1, q2, q3, q4, q5, q6, q7, q8, q9⟩, _, _⟩ := hSw; go_simp) <;> with_reducible rfl) hHeld ?_
 refine wpAnyP_done (by kernel_rfl) ?_ _
 (try simp only [Act.put, List.getElem_toArray, List.getElem_cons_zero, List.getElem_cons_succ, pA, pZ, pS])
 have hB6 := hHeld.1.old
 clear hHeld hyes hms hmarks hbounds
 go_wp2
 go_ret
 exact ⟨rfl, hB6⟩
end Go.Proofs.YtjhpklolpmaopaaGreatDoor
namespace Go.Proofs.YtjhpklolpmaopaaGreatDoor
open Go.RowKit Go.Can
/-- the marks of a machine, and a box at a blank. -/
def withF (m : Mach) (k : Nat) (b : Int × Int × Int × Int) : Nat → Int × Int × Int × Int × Int := fun i => if i = m.rn then ((k : Int), b.1, b.2.1, b.2.2.1, b.2.2.2) else m.mark i
def wX (m : Mach) (k : Nat) (b : Int × Int × Int × Int) : Axis := mkX m (m.rn + 1) (withF m k b)
def wY (m : Mach) (k : Nat) (b : Int × Int × Int × Int) : Axis := mkY m (m.rn + 1) (withF m k b)
theorem plusX (m : Mach) (k : Nat) (b : Int × Int × Int × Int) : m.axX.Plus (wX m k b) k b.1 b.2.1 :=
 ⟨rfl, rfl, rfl, rfl, rfl, fun i hi => by
  have hi : i < m.rn := hi
  show ((withF m k b i).1, (withF m k b i).2.1, (withF m k b i).2.2.1) = _
  unfold withF; rw [if_neg (by omega)]; rfl, by
  show ((withF m k b m.rn).1, (withF m k b m.rn).2.1, (withF m k b m.rn).2.2.1) = _
  unfold withF; rw [if_pos rfl]⟩
theorem plusY (m : Mach) (k : Nat) (b : Int × Int × Int × Int) : m.axY.Plus (wY m k b) k b.2.2.1 b.2.2.2 :=
 ⟨rfl, rfl, rfl, rfl, rfl, fun i hi => by
  have hi : i < m.rn := hi
  show ((withF m k b i).1, (withF m k b i).2.2.2.1, (withF m k b i).2.2.2.2) = _
  unfold withF; rw [if_neg (by omega)]; rfl, by
  show ((withF m k b m.rn).1, (withF m k b m.rn).2.2.2.1, (withF m k b m.rn).2.2.2.2) = _
  unfold withF; rw [if_pos rfl]⟩
def canW (m : Mach) (k : Nat) (b : Int × Int × Int × Int) : Prop := (wX m k b).can ∧ (wY m k b).can
def bdB (b : Int × Int × Int × Int) : Prop := (-110 ≤ b.1 ∧ b.1 ≤ 110) ∧ (-110 ≤ b.2.1 ∧ b.2.1 ≤ 110) ∧ (-110 ≤ b.2.2.1 ∧ b.2.2.1 ≤ 110) ∧ (-110 ≤ b.2.2.2 ∧ b.2.2.2 ≤ 110)
theorem wX_fine {m : Mach} {k : Nat} {b : Int × Int × Int × Int} (hok : m.ok = true) (hk : k ≤ 12) (hb : bdB b) : (wX m k b).fine :=
 (plusX m k b).fine (Mach.fineX hok) (by have := (Mach.ok_parts hok).2.1; show m.rn ≤ 7; omega) hk hb.1 hb.2.1
theorem wY_fine {m : Mach} {k : Nat} {b : Int × Int × Int × Int} (hok : m.ok = true) (hk : k ≤ 12) (hb : bdB b) : (wY m k b).fine :=
 (plusY m k b).fine (Mach.fineY hok) (by have := (Mach.ok_parts hok).2.1; show m.rn ≤ 7; omega) hk hb.2.2.1 hb.2.2.2
theorem rb_with (m : Mach) (hok : m.ok = true) (k : Nat) (hk : k ≤ 12) (bx : Int × Int × Int × Int) (hb : bdB bx) : ∃ b : Bool, (b = true ↔ canW m k bx) ∧ ∀ (v : Value) (W : World), MkSl W v (m.rn + 1) (withF m k bx) → Calls Tryz.prog 61 #[m.val, v] W fun e w' => ∃ vx vy, e = .returned (.tuple #[vx, vy, .bool b]) ∧ (b = true → ∃ gx cx gy cy, vx = .slice (some ⟨gx, 0, none⟩) 13 cx ∧ vy = .slice (some ⟨gy, 0, none⟩) 13 cy ∧ W.heap.size ≤ gx ∧ W.heap.size ≤ gy ∧ gx < w'.heap.size ∧ gy < w'.heap.size ∧ CAt w' gx (wX m k bx).ends ∧ CAt w' gy (wY m k bx).ends) ∧ Below W.heap.size W w' := by
 by_cases hc : canW m k bx
 ·refine ⟨true, ⟨fun _ => hc, fun _ => rfl⟩, fun v W hm => ?_⟩
  obtain ⟨b, hb, hC⟩ := rbounds_any m v (m.rn + 1) (withF m k bx) W (wX_fine hok hk hb) (wY_fine hok hk hb) hm
  obtain rfl : b = true := hb.2 hc
  exact hC
 ·refine ⟨false, ⟨fun h => (by cases h), fun h => absurd h hc⟩, fun v W hm => ?_⟩
  obtain ⟨b, hb, hC⟩ := rbounds_any m v (m.rn + 1) (withF m k bx) W (wX_fine hok hk hb) (wY_fine hok hk hb) hm
  obtain rfl : b = false := by cases b with | false => rfl | true => exact absurd (hb.1 rfl) hc
  exact hC
def un5 (f : Int × Int × Int × Int × Int) : Int × Int × Int × Int := f.2
theorem boxS_bd {m : Mach} {HX HY : Nat → Int} {r : Int} (hn1 : 2 ≤ m.sn) (hn2 : m.sn ≤ 4) (hr : 0 ≤ r ∧ r ≤ 4) (hS : ∀ i, i < m.sn → (-20 ≤ m.SX i ∧ m.SX i ≤ 20) ∧ (-20 ≤ m.SY i ∧ m.SY i ≤ 20)) (hH : ∀ i, i < m.sn → small (HX i, HY i)) (t k : Nat) (hk : k < (ords m.sn).length) : bdB (boxS m HX HY r t k) := by
 unfold boxS
 have hq := ords_perm hn1 hn2 _ (List.getElem_mem hk)
 rw [List.getD_eq_getElem?_getD, List.getElem?_eq_getElem hk]
 have := boxB_bound (t := t) (q := (ords m.sn)[k]) (r := r) hr hS (HX := HX) (HY := HY) (fun i hi => hH _ (hq.2 i hi)) m.sn (Nat.le_refl _) (by omega)
 show bdB (boxB m.SX m.SY HX HY r t (ords m.sn)[k] m.sn)
 unfold bdB
 omega
theorem box_bd {m : Mach} {HX HY : Nat → Int} {r : Int} {cnt : Nat} {f : Nat → Int × Int × Int × Int × Int} (hn1 : 2 ≤ m.sn) (hn2 : m.sn ≤ 4) (hr : 0 ≤ r ∧ r ≤ 4) (hS : ∀ i, i < m.sn → (-20 ≤ m.SX i ∧ m.SX i ≤ 20) ∧ (-20 ≤ m.SY i ∧ m.SY i ≤ 20)) (hH : ∀ i, i < m.sn → small (HX i, HY i)) (h : BoxL (boxS m HX HY r) (ords m.sn).length 8 0 cnt f) {i : Nat} (hi : i < cnt) : bdB (un5 (f i)) := by
 obtain ⟨t', k', _, h2, h3, _⟩ := h.made i hi
 rw [h3]
 exact boxS_bd hn1 hn2 hr hS hH t' k' h2
end Go.Proofs.YtjhpklolpmaopaaGreatDoor
