/- A part of the proof: see the last file. -/
import Derived.Test.YtjhpklolpmaopaaGreatDoorPaa
import Derived.Test.YtjhpklolpmaopaaGreatDoorPbi
import Derived.Test.YtjhpklolpmaopaaGreatDoorPbj
set_option linter.unusedVariables false
set_option linter.unusedSimpArgs false
set_option linter.unusedSectionVars false
namespace Go.Proofs.YtjhpklolpmaopaaGreatDoor
open Go.RowKit Go.Maps
/-- all but two blocks stand as they stood. -/
structure RP (w w1 : World) (sX sY : Nat) (W : World) : Prop where
 old : Below w.heap.size w W
 big : w1.heap.size ≤ W.heap.size
 kept : ∀ b, b < w1.heap.size → b ≠ sX → b ≠ sY → W.heap[b]? = w1.heap[b]?
theorem RP.below {w w1 : World} {sX sY : Nat} {W W' : World} (h : RP w w1 sX sY W) (hb : Below W.heap.size W W') : RP w w1 sX sY W' :=
 ⟨h.old.trans (hb.mono h.old.size), Nat.le_trans h.big hb.size, fun b h1 h2 h3 => (hb.block b (by have := h.big; omega)).trans (h.kept b h1 h2 h3)⟩
theorem RP.put {w w1 : World} {sX sY : Nat} {W : World} (h : RP w w1 sX sY W) {g : Nat} (hg : g = sX ∨ g = sY) (hw : w.heap.size ≤ g) (u v : Value) : RP w w1 sX sY ((W.setCell ⟨g, 0, none⟩ u).setCell ⟨g, 1, none⟩ v) :=
 ⟨(h.old.setCell (p := ⟨g, 0, none⟩) hw u).setCell (p := ⟨g, 1, none⟩) hw v, by rw [World.size_setCell, World.size_setCell]; exact h.big, fun b h1 h2 h3 => by
  have hn : b ≠ g := by rcases hg with e | e <;> rw [e] <;> assumption
  exact ((Below.heap_setCell _ ⟨g, 1, none⟩ v b hn).trans (Below.heap_setCell _ ⟨g, 0, none⟩ u b hn)).trans (h.kept b h1 h2 h3)⟩
theorem RP.cell {w w1 : World} {sX sY : Nat} {W : World} (h : RP w w1 sX sY W) {b o : Nat} (h1 : b < w1.heap.size) (h2 : b ≠ sX) (h3 : b ≠ sY) : W.cell? ⟨b, o, none⟩ = w1.cell? ⟨b, o, none⟩ := World.cell?_of_block (h.kept b h1 h2 h3)
/-- the two slices of ends beside it. -/
structure QP (w w1 : World) (sX sY gx gy : Nat) (EX EY : Nat → Int × Int) (W : World) : Prop where
 rp : RP w w1 sX sY W
 cx : CAt W gx EX
 cy : CAt W gy EY
theorem QP.drew {w w1 : World} {sX sY gx gy : Nat} {EX EY : Nat → Int × Int} {W : World} (h : QP w w1 sX sY gx gy EX EY W) : QP w w1 sX sY gx gy EX EY W.drew := ⟨h.rp.below (Below.refl _ _).drew, h.cx.far rfl, h.cy.far rfl⟩
theorem QP.put {w w1 : World} {sX sY gx gy : Nat} {EX EY : Nat → Int × Int} {W : World} (h : QP w w1 sX sY gx gy EX EY W) {g : Nat} (hg : g = sX ∨ g = sY) (hw : w.heap.size ≤ g) (h1 : gx ≠ g) (h2 : gy ≠ g) (u v : Value) : QP w w1 sX sY gx gy EX EY ((W.setCell ⟨g, 0, none⟩ u).setCell ⟨g, 1, none⟩ v) :=
 ⟨h.rp.put hg hw u v, h.cx.far ((Below.heap_setCell _ ⟨g, 1, none⟩ v gx h1).trans (Below.heap_setCell _ ⟨g, 0, none⟩ u gx h1)), h.cy.far ((Below.heap_setCell _ ⟨g, 1, none⟩ v gy h2).trans (Below.heap_setCell _ ⟨g, 0, none⟩ u gy h2))⟩
theorem cell_two_none (w : World) (e : TypeId) (x y : Value) (j : Nat) (hj : 2 ≤ j) : (w.alloc (Obj.cells #[x, y] e)).cell? ⟨w.heap.size, j, none⟩ = none := by
 have : (#[x, y] : Array Value)[j]? = none := by rw [Array.getElem?_eq_none_iff]; simpa using hj
 simp [go_sem, this]
set_option maxRecDepth 100000 in
set_option maxHeartbeats 16000000 in
theorem rproves_any (m : Mach) (a1 : Option Addr) (c1 : Nat) (r : Int) (HX HY : Nat → Int) (k bl : Nat) (w : World) (hkg : KG w) (h : MIn w m) (hp : PSl w (.slice a1 m.sn c1) m.sn HX HY) (hok : m.ok = true) (hc : m.can) (hbu : butB m.sn HX HY r = true) (hk1 : 1 ≤ k) (hk : k ≤ 12) (hbl : bl ≤ 12) :
  Calls Tryz.prog 24 #[m.val, .agg #[.slice a1 m.sn c1, .int .i64 r], .int .i64 k, .int .i64 bl] w fun e w' => ∃ (cnt : Nat) (f : Nat → Int × Int × Int × Int × Int) (b : Bool) (x0 x1 y0 y1 : Int), BoxL (boxS m HX HY r) (ords m.sn).length 8 0 cnt f ∧
   LH (fun i => (wX m k (un5 (f i))).ends bl) (fun i => canW m k (un5 (f i))) cnt b x0 x1 ∧ LH (fun i => (wY m k (un5 (f i))).ends bl) (fun i => canW m k (un5 (f i))) cnt b y0 y1 ∧
   e = .returned (.tuple #[.agg #[.int .i64 x0, .int .i64 x1], .agg #[.int .i64 y0, .int .i64 y1], .bool b]) ∧ Below w.heap.size w w' := by
 obtain ⟨⟨q1, q2⟩, hr, hH⟩ := but_parts hbu
 have hst := (Mach.ok_parts hok).1
 have hfewr := (Mach.ok_parts hok).2.1
 have hS : ∀ i, i < m.sn → (-20 ≤ m.SX i ∧ m.SX i ≤ 20) ∧ (-20 ≤ m.SY i ∧ m.SY i ≤ 20) := fun i hi => by
  unfold Mach.okStops arB at hst
  rw [Bool.and_eq_true, allB_iff] at hst
  have := hst.2 i hi
  unfold ptB at this
  rw [Bool.and_eq_true, inB_iff, inB_iff] at this
  omega
 obtain ⟨A1, hA1⟩ : ∃ A, (w.alloc (.cells #[.slice m.sa m.sn m.sc, .int .i64 m.c0, .int .i64 m.c1, .int .i64 m.d0, .int .i64 m.d1, .int .i64 m.w0, .int .i64 m.w1, .int .i64 m.v0, .int .i64 m.v1, .slice m.ra m.rn m.rc] 27)).alloc (Obj.cells #[.slice a1 m.sn c1, .int .i64 r] 41) = A := ⟨_, rfl⟩
 obtain ⟨A2, hA2⟩ : ∃ A, A1.alloc (Obj.cells #[.int .i64 0, .int .i64 0] 24) = A := ⟨_, rfl⟩
 obtain ⟨A3, hA3⟩ : ∃ A, A2.alloc (Obj.cells #[.int .i64 0, .int .i64 0] 24) = A := ⟨_, rfl⟩
 obtain ⟨A4, hA4⟩ : ∃ A, A3.alloc (Obj.cells #[.int .i64 0, .int .i64 0] 24) = A := ⟨_, rfl⟩
 obtain ⟨W0, hW0⟩ : ∃ A, A4.alloc (Obj.cells #[.int .i64 0, .int .i64 0] 24) = A := ⟨_, rfl⟩
 have hSB : SB w A1 m (.slice a1 m.sn c1) r := by rw [← hA1]; exact SB.new w m _ r
 have s1 : A1.heap.size = w.heap.size + 1 + 1 := by rw [← hA1, World.size_alloc, World.size_alloc]
 have s2 : A2.heap.size = w.heap.size + 1 + 1 + 1 := by rw [← hA2, World.size_alloc, s1]
 have s3 : A3.heap.size = w.heap.size + 1 + 1 + 1 + 1 := by rw [← hA3, World.size_alloc, s2]
 have s4 : A4.heap.size = w.heap.size + 1 + 1 + 1 + 1 + 1 := by rw [← hA4, World.size_alloc, s3]
 have s5 : W0.heap.size = w.heap.size + 1 + 1 + 1 + 1 + 1 + 1 := by rw [← hW0, World.size_alloc, s4]
 have b12 : Below A1.heap.size A1 A2 := by rw [← hA2]; exact (Below.refl _ _).alloc (Nat.le_refl _) _
 have b23 : Below A2.heap.size A2 A3 := by rw [← hA3]; exact (Below.refl _ _).alloc (Nat.le_refl _) _
 have b34 : Below A3.heap.size A3 A4 := by rw [← hA4]; exact (Below.refl _ _).alloc (Nat.le_refl _) _
 have b45 : Below A4.heap.size A4 W0 := by rw [← hW0]; exact (Below.refl _ _).alloc (Nat.le_refl _) _
 have b35 := b34.trans (b45.mono b34.size)
 have b25 := b23.trans (b35.mono b23.size)
 have b15 := b12.trans (b25.mono b12.size)
 have t6 : Two W0 (w.heap.size + 1 + 1) 0 0 := by have := Two.new A1 24 0 0; rw [s1, hA2] at this; exact this.below b25 (by omega)
 have t7 : Two W0 (w.heap.size + 1 + 1 + 1) 0 0 := by have := Two.new A2 24 0 0; rw [s2, hA3] at this; exact this.below b35 (by omega)
 have t8 : Two W0 (w.heap.size + 1 + 1 + 1 + 1) 0 0 := by have := Two.new A3 24 0 0; rw [s3, hA4] at this; exact this.below b45 (by omega)
 have t9 : Two W0 (w.heap.size + 1 + 1 + 1 + 1 + 1) 0 0 := by have := Two.new A4 24 0 0; rw [s4, hW0] at this; exact this
 have n8 : ∀ j, 2 ≤ j → W0.cell? ⟨w.heap.size + 1 + 1 + 1 + 1, j, none⟩ = none := fun j hj => by
  have := cell_two_none A3 24 (.int .i64 0) (.int .i64 0) j hj
  rw [s3, hA4] at this
  exact (b45.cell (p := ⟨w.heap.size + 1 + 1 + 1 + 1, j, none⟩) (by show w.heap.size + 1 + 1 + 1 + 1 < _; omega)).trans this
 have n9 : ∀ j, 2 ≤ j → W0.cell? ⟨w.heap.size + 1 + 1 + 1 + 1 + 1, j, none⟩ = none := fun j hj => by
  have := cell_two_none A4 24 (.int .i64 0) (.int .i64 0) j hj
  rw [s4, hW0] at this
  exact this
 have hSX := hSB.below b15
 clear hSB b12 b23 b34 b45 b35 b25 b15
 have hkW := hkg.below hSX.old
 have hbxs := rboxes_any m a1 c1 r HX HY W0 hkW (h.below hSX.old) (hp.below hSX.old) q1 q2 hr hS hH
 have c0 := hSX.c0
 have c1' := hSX.c1
 obtain ⟨y0, y1, y2, y3, y4, y5, y6, y7, y8, y9⟩ := hSX.mach
 clear hst
 go_enter Tryz.func24, Tryz.ntmps24
 go_wp2_with (first | (go_at_call 60; with_reducible refine hbxs.mono ?_; rintro e w1 ⟨v, cnt, f, rfl, hmk, hbl8, hb1⟩))
 clear c0 c1' y0 y1 y2 y3 y4 y5 y6 y7 y8 y9 hbxs hkW
 have hSB1 := hSX.below hb1
 have hb01 : Below w.heap.size w w1 := hSB1.old
 have hM1 : MIn w1 m := h.below hb01
 have hbd := fun i (hi : i < cnt) => box_bd q1 q2 hr hS hH hbl8 hi
 have hmade : ∀ i, i < cnt → (f i).1 = 0 := fun i hi => by obtain ⟨_, _, _, _, h3, _⟩ := hbl8.made i hi; rw [h3]; rfl
 have hfew : cnt ≤ 216 := by have := hbl8.few; omega
 have hlt9 := Nat.lt_of_lt_of_le (show w.heap.size + 1 + 1 + 1 + 1 + 1 < W0.heap.size by omega) hb1.size
 replace t6 := t6.below hb1 (by omega)
 replace t7 := t7.below hb1 (by omega)
 replace t8 := t8.below hb1 (by omega)
 replace t9 := t9.below hb1 (by omega)
 obtain ⟨ba, bc, rfl, hmp⟩ := hmk
 clear hSX hS hH
 generalize hsX : w.heap.size + 1 + 1 + 1 + 1 = sX at *
 generalize hsY : sX + 1 = sY at *
 go_loopw [13, 15] (fun c i wr => ∃ (q : Nat) (b : Bool) (x0 x1 y0 y1 : Int), q ≤ cnt ∧ i = .int .i64 q ∧ c = .bool b ∧ RP w w1 sX sY wr ∧ Two wr sX x0 x1 ∧ Two wr sY y0 y1 ∧ Hid (LH (fun i => (wX m k (un5 (f i))).ends bl) (fun i => canW m k (un5 (f i))) q b x0 x1) ∧ Hid (LH (fun i => (wY m k (un5 (f i))).ends bl) (fun i => canW m k (un5 (f i))) q b y0 y1)) (fun _ i _ => cnt - (intOf i).toNat)
 case atStart => exact ⟨0, false, 0, 0, 0, 0, Nat.zero_le _, rfl, rfl, ⟨hb01, Nat.le_refl _, fun _ _ _ _ => rfl⟩, t8, t9, ⟨LH.start _ _⟩, ⟨LH.start _ _⟩⟩
 case round =>
  obtain ⟨q, b, x0, x1, y0, y1, hqc, rfl, rfl, hR, hTx, hTy, hLx, hLy⟩ := hrel
  rename World => wz
  by_cases hlq : q < cnt
  ·have hq1 : (q : Int) < (cnt : Int) := by omega
   have hq0 : (0 : Int) ≤ (q : Int) := Int.natCast_nonneg _
   obtain ⟨gb, go_, rfl, hgl, hgp⟩ := hmp (by omega)
   obtain ⟨d0, d1, d2, d3, d4⟩ := hgp q hlq
   have hne1 : gb ≠ sX := fun e => by
    have := (hb1.cell (p := ⟨sX, go_ + q * 5 + 4, none⟩) (by show sX < _; omega)).trans (n8 _ (by omega))
    rw [← e, d4] at this; cases this
   have hne2 : gb ≠ sY := fun e => by
    have := (hb1.cell (p := ⟨sY, go_ + q * 5 + 4, none⟩) (by show sY < _; omega)).trans (n9 _ (by omega))
    rw [← e, d4] at this; cases this
   have hD : ∀ W, Below wz.heap.size wz W → MAt W w.heap.size m ∧ W.cell? ⟨gb, go_ + q * 5, none⟩ = some (.int .i64 0) ∧ W.cell? ⟨gb, go_ + q * 5 + 1, none⟩ = some (.int .i64 (un5 (f q)).1) ∧ W.cell? ⟨gb, go_ + q * 5 + 2, none⟩ = some (.int .i64 (un5 (f q)).2.1) ∧ W.cell? ⟨gb, go_ + q * 5 + 3, none⟩ = some (.int .i64 (un5 (f q)).2.2.1) ∧ W.cell? ⟨gb, go_ + q * 5 + 4, none⟩ = some (.int .i64 (un5 (f q)).2.2.2) := fun W hW => by
    have hWW := hR.below hW
    have old : ∀ off, W.cell? ⟨gb, off, none⟩ = w1.cell? ⟨gb, off, none⟩ := fun off => hWW.cell hgl hne1 hne2
    have oldm : ∀ off, W.cell? ⟨w.heap.size, off, none⟩ = w1.cell? ⟨w.heap.size, off, none⟩ := fun off => hWW.cell (by omega) (by omega) (by omega)
    obtain ⟨z0, z1, z2, z3, z4, z5, z6, z7, z8, z9⟩ := hSB1.mach
    refine ⟨⟨(oldm _).trans z0, (oldm _).trans z1, (oldm _).trans z2, (oldm _).trans z3, (oldm _).trans z4, (oldm _).trans z5, (oldm _).trans z6, (oldm _).trans z7, (oldm _).trans z8, (oldm _).trans z9⟩, ?_, (old _).trans d1, (old _).trans d2, (old _).trans d3, (old _).trans d4⟩
    rw [old, d0, hmade q hlq]
   have hmr := fun (W : World) (hW : Below wz.heap.size wz W) => rmarks_any m W hok (h.below (hR.below hW).old)
   obtain ⟨cb, hcb, hbo⟩ := rb_with m hok k hk (un5 (f q)) (hbd q hlq)
   clear d0 d1 d2 d3 d4
   have hXq : ∀ i, (wX m k (un5 (f i))).ends bl = (fun i => (wX m k (un5 (f i))).ends bl) i := fun _ => rfl
   generalize hbx : un5 (f q) = bx at hD hcb hbo
   replace hbx : PLift (un5 (f q) = bx) := ⟨hbx⟩
   obtain ⟨e0, e1, e2, e3⟩ := bx
   dsimp only at hD
   go_wp2_with fail
   refine wp_region_late [] (fun w9 => Below wz.heap.size wz w9) (fun w9 => True) (by kernel_rfl) ?_ (fun hHeld => ?_)
   ·(exact ⟨(Below.refl _ _).drew, trivial⟩)
   generalize wz.drew = V at hHeld ⊢
   refine tk2 0 rfl (by (intro w9 hSw; obtain ⟨z0, z1, z2, z3, z4, z5, z6, z7, z8, z9⟩ := (hD w9 hSw).1; clear hSw; go_simp) <;> with_reducible rfl) hHeld ?_
   refine tk2 1 rfl (by (intro w9 hSw; obtain ⟨z0, z1, z2, z3, z4, z5, z6, z7, z8, z9⟩ := (hD w9 hSw).1; clear hSw; go_simp) <;> with_reducible rfl) hHeld ?_
   refine tk1 3 rfl hHeld ?_
   refine tk1 4 rfl hHeld ?_
   refine tk1 5 rfl hHeld ?_
   refine tk2 6 rfl (by (intro w9 hSw; have z0 := (hD w9 hSw).2.1; have z1 := (hD w9 hSw).2.2.1; have z2 := (hD w9 hSw).2.2.2.1; have z3 := (hD w9 hSw).2.2.2.2.1; have z4 := (hD w9 hSw).2.2.2.2.2; clear hSw; go_simp) <;> with_reducible rfl) hHeld ?_
   refine tk1 7 rfl hHeld ?_
   refine rd1 2 rfl (fun K hK => ?_)
   go_simp
   (go_at_call 63; with_reducible refine (hmr _ hHeld.1).mono ?_; rintro e w5 ⟨vm, rfl, hmk5, hb5⟩)
   obtain ⟨ma, mc, rfl, _⟩ := id hmk5
   refine hK.out _ _ ?_ (fun hHeld => ?_)
   ·(exact ⟨hHeld.1.trans (hb5.mono hHeld.1.size), trivial⟩)
   clear hK K
   (try simp only [Act.put, pA, pZ, pS])
   refine rd1 8 rfl (fun K hK => ?_)
   go_simp
   (go_at_call 62; with_reducible refine (rwith_any ma m.rn mc m.mark 0 e0 e1 e2 e3 (k : Int) _ hmk5 (by omega)).mono ?_; rintro e w6 ⟨vw, rfl, hmk6, hb6⟩)
   have hmk7 : MkSl w6 vw (m.rn + 1) (withF m k (e0, e1, e2, e3)) := hmk6
   refine hK.out _ _ ?_ (fun hHeld => ?_)
   ·(exact ⟨hHeld.1.trans (hb6.mono hHeld.1.size), trivial⟩)
   clear hK K
   (try simp only [Act.put, pA, pZ, pS])
   refine rd1 9 rfl (fun K hK => ?_)
   go_simp
   (go_at_call 61; with_reducible refine (hbo _ _ hmk7).mono ?_; rintro e w7 ⟨vx, vy, rfl, hent, hb7⟩)
   have hz6 := hHeld.1.size
   refine hK.out _ _ ?_ (fun hHeld => ?_)
   ·(exact ⟨hHeld.1.trans (hb7.mono hHeld.1.size), trivial⟩)
   clear hK K
   (try simp only [Act.put, pA, pZ, pS])
   refine tk1 10 rfl hHeld ?_
   refine tk1 11 rfl hHeld ?_
   refine tk1 12 rfl hHeld ?_
   refine tk1 13 rfl hHeld ?_
   refine tk1 14 rfl hHeld ?_
   refine tk1 15 rfl hHeld ?_
   refine tk1 16 rfl hHeld ?_
   refine wpAnyP_done (by kernel_rfl) ?_ _
   (try simp only [Act.put, List.getElem_toArray, List.getElem_cons_zero, List.getElem_cons_succ, pA, pZ, pS])
   have hO9 := hHeld.1
   clear hHeld
   have hR9 := hR.below hO9
   have hRb := hR.big
   have hTx9 := hTx.below hO9 (by have := hR.big; omega)
   have hTy9 := hTy.below hO9 (by have := hR.big; omega)
   clear hD hmr hbo hmk7 hmk5 hTx hTy hR
   cases cb with
   | false =>
    have hno : ¬ canW m k (un5 (f q)) := fun hh => by rw [hbx.down] at hh; have := hcb.2 hh; cases this
    clear hcb hent
    go_wp2
    go_roundw
    case rel => exact ⟨q + 1, b, x0, x1, y0, y1, by omega, by go_num, rfl, hR9, hTx9, hTy9, ⟨hLx.down.skip hno⟩, ⟨hLy.down.skip hno⟩⟩
    case measure => simp [intOf]; omega
   | true =>
    have hyes : canW m k (un5 (f q)) := by rw [hbx.down]; exact hcb.1 rfl
    obtain ⟨gx, cx, gy, cy, rfl, rfl, hgx1, hgy1, hgx2, hgy2, hCx, hCy⟩ := hent rfl
    rw [← hbx.down] at hCx hCy
    clear hcb hent
    have hbl0 : (0 : Int) ≤ (bl : Int) := Int.natCast_nonneg _
    have hbl1 : (bl : Int) < 13 := by omega
    have hXb : PLift ((wX m k (un5 (f q))).ends bl = (wX m k (un5 (f q))).ends bl) := ⟨rfl⟩
    obtain ⟨EX, hEX⟩ : ∃ E, (wX m k (un5 (f q))).ends = E := ⟨_, rfl⟩
    obtain ⟨EY, hEY⟩ : ∃ E, (wY m k (un5 (f q))).ends = E := ⟨_, rfl⟩
    rw [hEX] at hCx
    rw [hEY] at hCy
    replace hXb : PLift ((wX m k (un5 (f q))).ends bl = EX bl) := ⟨by rw [hEX]⟩
    have hYb : PLift ((wY m k (un5 (f q))).ends bl = EY bl) := ⟨by rw [hEY]⟩
    clear hEX hEY
    have hQ : QP w w1 sX sY gx gy EX EY w7 := ⟨hR9, hCx, hCy⟩
    clear hCx hCy
    replace hTx9 := hTx9.drew
    replace hTy9 := hTy9.drew
    cases b with
    | false =>
     go_wp2
     refine wp_region_late [] (fun w9 => QP w w1 sX sY gx gy EX EY w9) (fun w9 => True) (by kernel_rfl) ?_ (fun hHeld => ?_)
     ·(exact ⟨hQ.drew, trivial⟩)
     generalize w7.drew = V1 at hHeld hTx9 hTy9 ⊢
     refine tk1 0 rfl hHeld ?_
     refine tk1 1 rfl hHeld ?_
     refine tk1 2 rfl hHeld ?_
     refine tk2 3 rfl (by (intro w9 hSw; have z0 := (hSw.cx.c bl (by omega)).1; have z1 := (hSw.cx.c bl (by omega)).2; clear hSw; go_simp) <;> with_reducible rfl) hHeld ?_
     refine tk1 4 rfl hHeld ?_
     refine tk1 5 rfl hHeld ?_
     refine tk1 6 rfl hHeld ?_
     refine tk2 7 rfl (by (intro w9 hSw; have z0 := (hSw.cy.c bl (by omega)).1; have z1 := (hSw.cy.c bl (by omega)).2; clear hSw; go_simp) <;> with_reducible rfl) hHeld ?_
     refine rd1 8 rfl (fun K hK => ?_)
     have d0 := hTx9.k0
     have d1 := hTx9.k1
     have d2 := hTx9.f0
     have d3 := hTx9.f1
     go_simp
     clear d0 d1 d2 d3
     have hK8 := hHeld.1.put (Or.inl rfl) (by omega) (by omega) (by omega) (.int .i64 (EX bl).1) (.int .i64 (EX bl).2)
     replace hTx9 := hTx9.set01 (EX bl).1 (EX bl).2
     replace hTy9 := hTy9.far2 (P := sX) (by omega) (.int .i64 (EX bl).1) (.int .i64 (EX bl).2)
     refine hK.out _ _ ?_ (fun hHeld => ?_)
     ·(exact ⟨hK8, trivial⟩)
     clear hK K
     (try simp only [Act.put, pA, pZ, pS])
     refine rd1 9 rfl (fun K hK => ?_)
     have d0 := hTy9.k0
     have d1 := hTy9.k1
     have d2 := hTy9.f0
     have d3 := hTy9.f1
     go_simp
     clear d0 d1 d2 d3
     have hK8 := hHeld.1.put (Or.inr rfl) (by omega) (by omega) (by omega) (.int .i64 (EY bl).1) (.int .i64 (EY bl).2)
     replace hTy9 := hTy9.set01 (EY bl).1 (EY bl).2
     replace hTx9 := hTx9.far2 (P := sY) (by omega) (.int .i64 (EY bl).1) (.int .i64 (EY bl).2)
     refine hK.out _ _ ?_ (fun hHeld => ?_)
     ·(exact ⟨hK8, trivial⟩)
     clear hK K
     (try simp only [Act.put, pA, pZ, pS])
     refine tk1 10 rfl hHeld ?_
     refine wpAnyP_done (by kernel_rfl) ?_ _
     (try simp only [Act.put, List.getElem_toArray, List.getElem_cons_zero, List.getElem_cons_succ, pA, pZ, pS])
     have hP9 := hHeld.1.rp
     have hK9 := hHeld.1
     clear hHeld hK8
     have hTx8 := hTx9
     have hTy8 := hTy9
     clear hTx9 hTy9
     generalize (((V1.setCell ⟨sX, 0, none⟩ (.int .i64 (EX bl).1)).setCell ⟨sX, 1, none⟩ (.int .i64 (EX bl).2)).setCell ⟨sY, 0, none⟩ (.int .i64 (EY bl).1)).setCell ⟨sY, 1, none⟩ (.int .i64 (EY bl).2) = W9 at hP9 hK9 hTx8 hTy8 ⊢
     have hLx1 : ∃ x0 x1, Two W9 sX x0 x1 ∧ Hid (LH (fun i => (wX m k (un5 (f i))).ends bl) (fun i => canW m k (un5 (f i))) (q + 1) true (min x0 (EX bl).1) (max x1 (EX bl).2)) := ⟨_, _, hTx8, ⟨by have := hLx.down.first hyes; simp only [hXb.down] at this; simpa using this⟩⟩
     have hLy1 : ∃ x0 x1, Two W9 sY x0 x1 ∧ Hid (LH (fun i => (wY m k (un5 (f i))).ends bl) (fun i => canW m k (un5 (f i))) (q + 1) true (min x0 (EY bl).1) (max x1 (EY bl).2)) := ⟨_, _, hTy8, ⟨by have := hLy.down.first hyes; simp only [hYb.down] at this; simpa using this⟩⟩
     clear hTx8 hTy8 hLx hLy
     obtain ⟨x0, x1, hTx9, hLx1⟩ := hLx1
     obtain ⟨y0, y1, hTy9, hLy1⟩ := hLy1
     replace hTx9 := hTx9.drew
     replace hTy9 := hTy9.drew
     have hQ9 := hK9
     clear hQ hK9 hP9
     have hQ := hQ9
     clear hQ9
     go_wp2
     refine wp_region_late [17] (fun w9 => QP w w1 sX sY gx gy EX EY w9) (fun w9 => Two w9 sX x0 x1) (by kernel_rfl) ?_ (fun hHeld => ?_)
     ·(exact ⟨hQ.drew, hTx9⟩)
     generalize W9.drew = V1 at hHeld hTx9 hTy9 ⊢
     refine tk1 0 rfl hHeld ?_
     refine wpAnyP_take 1 (i := 1) (v := ?_) rfl (by kernel_rfl) (by kernel_rfl) (by kernel_rfl) (by kernel_rfl) (by rfl) (waits_one [] (by kernel_rfl)) (fun _ _ _ h => h) (Or.inl ⟨by rfl, ?_⟩) hHeld ?_
     rotate_left 1
     ·((intro w9 hSw; have z0 := hSw.2.k0; clear hSw; go_simp) <;> with_reducible rfl)
     (try simp only [Act.put, pA, pZ, pS])
     refine tk1 2 rfl hHeld ?_
     refine tk1 3 rfl hHeld ?_
     refine tk1 4 rfl hHeld ?_
     refine tk1 5 rfl hHeld ?_
     refine tk2 6 rfl (by (intro w9 hSw; have z0 := (hSw.cx.c bl (by omega)).1; clear hSw; go_simp) <;> with_reducible rfl) hHeld ?_
     refine tk1 7 rfl hHeld ?_
     refine tk1 8 rfl hHeld ?_
     refine wpAnyP_take 1 (i := 9) (v := ?_) rfl (by kernel_rfl) (by kernel_rfl) (by kernel_rfl) (by kernel_rfl) (by rfl) (waits_one [] (by kernel_rfl)) (fun _ _ _ h => h) (Or.inl ⟨by rfl, ?_⟩) hHeld ?_
     rotate_left 1
     ·((intro w9 hSw; have z0 := hSw.2.k1; clear hSw; go_simp) <;> with_reducible rfl)
     (try simp only [Act.put, pA, pZ, pS])
     refine tk1 10 rfl hHeld ?_
     refine tk1 11 rfl hHeld ?_
     refine tk1 12 rfl hHeld ?_
     refine tk1 13 rfl hHeld ?_
     refine tk2 14 rfl (by (intro w9 hSw; have z0 := (hSw.cx.c bl (by omega)).2; clear hSw; go_simp) <;> with_reducible rfl) hHeld ?_
     refine tk1 15 rfl hHeld ?_
     refine tk1 16 rfl hHeld ?_
     refine wpAnyP_ready (rs := [17]) (by kernel_rfl) (by simp) ?_
     refine AllReadyP.behind (o := _) rfl (by kernel_rfl) (fun K hK => ?_) AllReadyP.nil
     ·have d0 := hHeld.2.k0
      have d1 := hHeld.2.k1
      have d2 := hHeld.2.f0
      have d3 := hHeld.2.f1
      go_simp
      clear d0 d1 d2 d3
      try rw [if_min]
      try rw [if_max]
      have hK1 := hHeld.1.put (Or.inl rfl) (by omega) (by omega) (by omega) (.int .i64 (min x0 (EX bl).1)) (.int .i64 (max x1 (EX bl).2))
      have hB := hHeld.2.set01 (min x0 (EX bl).1) (max x1 (EX bl).2)
      refine hK.out _ _ ?_ (fun hHeld => ?_)
      ·(exact hK1)
      clear hK K
      (try simp only [Act.put, pA, pZ, pS])
      refine wpAnyP_done (by kernel_rfl) ?_ _
      (try simp only [Act.put, List.getElem_toArray, List.getElem_cons_zero, List.getElem_cons_succ, pA, pZ, pS])
      have hQ1 := hHeld
      clear hHeld hK1
      have hTy8 := hTy9.far2 (P := sX) (by omega) (.int .i64 (min x0 (EX bl).1)) (.int .i64 (max x1 (EX bl).2))
      clear hTx9 hTy9
      have hTx9 := hB
      have hTy9 := hTy8
      clear hB hTy8 hQ
      have hQ := hQ1
      clear hQ1
      generalize (V1.setCell ⟨sX, 0, none⟩ (.int .i64 (min x0 (EX bl).1))).setCell ⟨sX, 1, none⟩ (.int .i64 (max x1 (EX bl).2)) = W8 at hQ hTx9 hTy9 ⊢
      replace hTx9 := hTx9.drew
      replace hTy9 := hTy9.drew
      go_wp2
      refine wp_region_late [17] (fun w9 => QP w w1 sX sY gx gy EX EY w9) (fun w9 => Two w9 sY y0 y1) (by kernel_rfl) ?_ (fun hHeld => ?_)
      ·(exact ⟨hQ.drew, hTy9⟩)
      generalize W8.drew = V2 at hHeld hTx9 hTy9 ⊢
      refine tk1 0 rfl hHeld ?_
      refine wpAnyP_take 1 (i := 1) (v := ?_) rfl (by kernel_rfl) (by kernel_rfl) (by kernel_rfl) (by kernel_rfl) (by rfl) (waits_one [] (by kernel_rfl)) (fun _ _ _ h => h) (Or.inl ⟨by rfl, ?_⟩) hHeld ?_
      rotate_left 1
      ·((intro w9 hSw; have z0 := hSw.2.k0; clear hSw; go_simp) <;> with_reducible rfl)
      (try simp only [Act.put, pA, pZ, pS])
      refine tk1 2 rfl hHeld ?_
      refine tk1 3 rfl hHeld ?_
      refine tk1 4 rfl hHeld ?_
      refine tk1 5 rfl hHeld ?_
      refine tk2 6 rfl (by (intro w9 hSw; have z0 := (hSw.cy.c bl (by omega)).1; clear hSw; go_simp) <;> with_reducible rfl) hHeld ?_
      refine tk1 7 rfl hHeld ?_
      refine tk1 8 rfl hHeld ?_
      refine wpAnyP_take 1 (i := 9) (v := ?_) rfl (by kernel_rfl) (by kernel_rfl) (by kernel_rfl) (by kernel_rfl) (by rfl) (waits_one [] (by kernel_rfl)) (fun _ _ _ h => h) (Or.inl ⟨by rfl, ?_⟩) hHeld ?_
      rotate_left 1
      ·((intro w9 hSw; have z0 := hSw.2.k1; clear hSw; go_simp) <;> with_reducible rfl)
      (try simp only [Act.put, pA, pZ, pS])
      refine tk1 10 rfl hHeld ?_
      refine tk1 11 rfl hHeld ?_
      refine tk1 12 rfl hHeld ?_
      refine tk1 13 rfl hHeld ?_
      refine tk2 14 rfl (by (intro w9 hSw; have z0 := (hSw.cy.c bl (by omega)).2; clear hSw; go_simp) <;> with_reducible rfl) hHeld ?_
      refine tk1 15 rfl hHeld ?_
      refine tk1 16 rfl hHeld ?_
      refine wpAnyP_ready (rs := [17]) (by kernel_rfl) (by simp) ?_
      refine AllReadyP.behind (o := _) rfl (by kernel_rfl) (fun K hK => ?_) AllReadyP.nil
      ·have d0 := hHeld.2.k0
       have d1 := hHeld.2.k1
       have d2 := hHeld.2.f0
       have d3 := hHeld.2.f1
       go_simp
       clear d0 d1 d2 d3
       try rw [if_min]
       try rw [if_max]
       have hK1 := hHeld.1.put (Or.inr rfl) (by omega) (by omega) (by omega) (.int .i64 (min y0 (EY bl).1)) (.int .i64 (max y1 (EY bl).2))
       have hB := hHeld.2.set01 (min y0 (EY bl).1) (max y1 (EY bl).2)
       refine hK.out _ _ ?_ (fun hHeld => ?_)
       ·(exact hK1)
       clear hK K
       (try simp only [Act.put, pA, pZ, pS])
       refine wpAnyP_done (by kernel_rfl) ?_ _
       (try simp only [Act.put, List.getElem_toArray, List.getElem_cons_zero, List.getElem_cons_succ, pA, pZ, pS])
       have hP9 := hHeld.rp
       clear hHeld hK1
       have hTx8 := hTx9.far2 (P := sY) (by omega) (.int .i64 (min y0 (EY bl).1)) (.int .i64 (max y1 (EY bl).2))
       generalize (V2.setCell ⟨sY, 0, none⟩ (.int .i64 (min y0 (EY bl).1))).setCell ⟨sY, 1, none⟩ (.int .i64 (max y1 (EY bl).2)) = W9 at hP9 hTx8 hB ⊢
       clear hTx9 hTy9
       go_wp2
       go_roundw
       case rel => exact ⟨q + 1, true, _, _, _, _, by omega, by go_num, rfl, hP9, hTx8, hB, hLx1, hLy1⟩
       case measure => simp [intOf]; omega
    | true =>
     have hLx1 : Hid (LH (fun i => (wX m k (un5 (f i))).ends bl) (fun i => canW m k (un5 (f i))) (q + 1) true (min x0 (EX bl).1) (max x1 (EX bl).2)) := ⟨by have := hLx.down.more hyes; simp only [hXb.down] at this; exact this⟩
     have hLy1 : Hid (LH (fun i => (wY m k (un5 (f i))).ends bl) (fun i => canW m k (un5 (f i))) (q + 1) true (min y0 (EY bl).1) (max y1 (EY bl).2)) := ⟨by have := hLy.down.more hyes; simp only [hYb.down] at this; exact this⟩
     go_wp2
     refine wp_region_late [17] (fun w9 => QP w w1 sX sY gx gy EX EY w9) (fun w9 => Two w9 sX x0 x1) (by kernel_rfl) ?_ (fun hHeld => ?_)
     ·(exact ⟨hQ.drew, hTx9⟩)
     generalize w7.drew = V1 at hHeld hTx9 hTy9 ⊢
     refine tk1 0 rfl hHeld ?_
     refine wpAnyP_take 1 (i := 1) (v := ?_) rfl (by kernel_rfl) (by kernel_rfl) (by kernel_rfl) (by kernel_rfl) (by rfl) (waits_one [] (by kernel_rfl)) (fun _ _ _ h => h) (Or.inl ⟨by rfl, ?_⟩) hHeld ?_
     rotate_left 1
     ·((intro w9 hSw; have z0 := hSw.2.k0; clear hSw; go_simp) <;> with_reducible rfl)
     (try simp only [Act.put, pA, pZ, pS])
     refine tk1 2 rfl hHeld ?_
     refine tk1 3 rfl hHeld ?_
     refine tk1 4 rfl hHeld ?_
     refine tk1 5 rfl hHeld ?_
     refine tk2 6 rfl (by (intro w9 hSw; have z0 := (hSw.cx.c bl (by omega)).1; clear hSw; go_simp) <;> with_reducible rfl) hHeld ?_
     refine tk1 7 rfl hHeld ?_
     refine tk1 8 rfl hHeld ?_
     refine wpAnyP_take 1 (i := 9) (v := ?_) rfl (by kernel_rfl) (by kernel_rfl) (by kernel_rfl) (by kernel_rfl) (by rfl) (waits_one [] (by kernel_rfl)) (fun _ _ _ h => h) (Or.inl ⟨by rfl, ?_⟩) hHeld ?_
     rotate_left 1
     ·((intro w9 hSw; have z0 := hSw.2.k1; clear hSw; go_simp) <;> with_reducible rfl)
     (try simp only [Act.put, pA, pZ, pS])
     refine tk1 10 rfl hHeld ?_
     refine tk1 11 rfl hHeld ?_
     refine tk1 12 rfl hHeld ?_
     refine tk1 13 rfl hHeld ?_
     refine tk2 14 rfl (by (intro w9 hSw; have z0 := (hSw.cx.c bl (by omega)).2; clear hSw; go_simp) <;> with_reducible rfl) hHeld ?_
     refine tk1 15 rfl hHeld ?_
     refine tk1 16 rfl hHeld ?_
     refine wpAnyP_ready (rs := [17]) (by kernel_rfl) (by simp) ?_
     refine AllReadyP.behind (o := _) rfl (by kernel_rfl) (fun K hK => ?_) AllReadyP.nil
     ·have d0 := hHeld.2.k0
      have d1 := hHeld.2.k1
      have d2 := hHeld.2.f0
      have d3 := hHeld.2.f1
      go_simp
      clear d0 d1 d2 d3
      try rw [if_min]
      try rw [if_max]
      have hK1 := hHeld.1.put (Or.inl rfl) (by omega) (by omega) (by omega) (.int .i64 (min x0 (EX bl).1)) (.int .i64 (max x1 (EX bl).2))
      have hB := hHeld.2.set01 (min x0 (EX bl).1) (max x1 (EX bl).2)
      refine hK.out _ _ ?_ (fun hHeld => ?_)
      ·(exact hK1)
      clear hK K
      (try simp only [Act.put, pA, pZ, pS])
      refine wpAnyP_done (by kernel_rfl) ?_ _
      (try simp only [Act.put, List.getElem_toArray, List.getElem_cons_zero, List.getElem_cons_succ, pA, pZ, pS])
      have hQ1 := hHeld
      clear hHeld hK1
      have hTy8 := hTy9.far2 (P := sX) (by omega) (.int .i64 (min x0 (EX bl).1)) (.int .i64 (max x1 (EX bl).2))
      clear hTx9 hTy9
      have hTx9 := hB
      have hTy9 := hTy8
      clear hB hTy8 hQ
      have hQ := hQ1
      clear hQ1
      generalize (V1.setCell ⟨sX, 0, none⟩ (.int .i64 (min x0 (EX bl).1))).setCell ⟨sX, 1, none⟩ (.int .i64 (max x1 (EX bl).2)) = W8 at hQ hTx9 hTy9 ⊢
      replace hTx9 := hTx9.drew
      replace hTy9 := hTy9.drew
      go_wp2
      refine wp_region_late [17] (fun w9 => QP w w1 sX sY gx gy EX EY w9) (fun w9 => Two w9 sY y0 y1) (by kernel_rfl) ?_ (fun hHeld => ?_)
      ·(exact ⟨hQ.drew, hTy9⟩)
      generalize W8.drew = V2 at hHeld hTx9 hTy9 ⊢
      refine tk1 0 rfl hHeld ?_
      refine wpAnyP_take 1 (i := 1) (v := ?_) rfl (by kernel_rfl) (by kernel_rfl) (by kernel_rfl) (by kernel_rfl) (by rfl) (waits_one [] (by kernel_rfl)) (fun _ _ _ h => h) (Or.inl ⟨by rfl, ?_⟩) hHeld ?_
      rotate_left 1
      ·((intro w9 hSw; have z0 := hSw.2.k0; clear hSw; go_simp) <;> with_reducible rfl)
      (try simp only [Act.put, pA, pZ, pS])
      refine tk1 2 rfl hHeld ?_
      refine tk1 3 rfl hHeld ?_
      refine tk1 4 rfl hHeld ?_
      refine tk1 5 rfl hHeld ?_
      refine tk2 6 rfl (by (intro w9 hSw; have z0 := (hSw.cy.c bl (by omega)).1; clear hSw; go_simp) <;> with_reducible rfl) hHeld ?_
      refine tk1 7 rfl hHeld ?_
      refine tk1 8 rfl hHeld ?_
      refine wpAnyP_take 1 (i := 9) (v := ?_) rfl (by kernel_rfl) (by kernel_rfl) (by kernel_rfl) (by kernel_rfl) (by rfl) (waits_one [] (by kernel_rfl)) (fun _ _ _ h => h) (Or.inl ⟨by rfl, ?_⟩) hHeld ?_
      rotate_left 1
      ·((intro w9 hSw; have z0 := hSw.2.k1; clear hSw; go_simp) <;> with_reducible rfl)
      (try simp only [Act.put, pA, pZ, pS])
      refine tk1 10 rfl hHeld ?_
      refine tk1 11 rfl hHeld ?_
      refine tk1 12 rfl hHeld ?_
      refine tk1 13 rfl hHeld ?_
      refine tk2 14 rfl (by (intro w9 hSw; have z0 := (hSw.cy.c bl (by omega)).2; clear hSw; go_simp) <;> with_reducible rfl) hHeld ?_
      refine tk1 15 rfl hHeld ?_
      refine tk1 16 rfl hHeld ?_
      refine wpAnyP_ready (rs := [17]) (by kernel_rfl) (by simp) ?_
      refine AllReadyP.behind (o := _) rfl (by kernel_rfl) (fun K hK => ?_) AllReadyP.nil
      ·have d0 := hHeld.2.k0
       have d1 := hHeld.2.k1
       have d2 := hHeld.2.f0
       have d3 := hHeld.2.f1
       go_simp
       clear d0 d1 d2 d3
       try rw [if_min]
       try rw [if_max]
       have hK1 := hHeld.1.put (Or.inr rfl) (by omega) (by omega) (by omega) (.int .i64 (min y0 (EY bl).1)) (.int .i64 (max y1 (EY bl).2))
       have hB := hHeld.2.set01 (min y0 (EY bl).1) (max y1 (EY bl).2)
       refine hK.out _ _ ?_ (fun hHeld => ?_)
       ·(exact hK1)
       clear hK K
       (try simp only [Act.put, pA, pZ, pS])
       refine wpAnyP_done (by kernel_rfl) ?_ _
       (try simp only [Act.put, List.getElem_toArray, List.getElem_cons_zero, List.getElem_cons_succ, pA, pZ, pS])
       have hP9 := hHeld.rp
       clear hHeld hK1
       have hTx8 := hTx9.far2 (P := sY) (by omega) (.int .i64 (min y0 (EY bl).1)) (.int .i64 (max y1 (EY bl).2))
       generalize (V2.setCell ⟨sY, 0, none⟩ (.int .i64 (min y0 (EY bl).1))).setCell ⟨sY, 1, none⟩ (.int .i64 (max y1 (EY bl).2)) = W9 at hP9 hTx8 hB ⊢
       clear hTx9 hTy9
       go_wp2
       go_roundw
       case rel => exact ⟨q + 1, true, _, _, _, _, by omega, by go_num, rfl, hP9, hTx8, hB, hLx1, hLy1⟩
       case measure => simp [intOf]; omega
  ·obtain rfl : q = cnt := by omega
   have ht6 : Two wz (w.heap.size + 1 + 1) 0 0 := t6.far (hR.kept _ (by omega) (by omega) (by omega))
   have ht7 : Two wz (w.heap.size + 1 + 1 + 1) 0 0 := t7.far (hR.kept _ (by omega) (by omega) (by omega))
   replace ht6 := ht6.drew
   replace ht7 := ht7.drew
   clear t6 t7 t8 t9 n8 n9 hmp
   go_wp2
   refine wp_region_late [] (fun w9 => Two w9 sX x0 x1 ∧ Two w9 sY y0 y1 ∧ Below w.heap.size w w9) (fun w9 => True) (by kernel_rfl) ?_ (fun hHeld => ?_)
   ·(exact ⟨⟨hTx.drew, hTy.drew, hR.old.drew⟩, trivial⟩)
   generalize wz.drew = V1 at hHeld ht6 ht7 ⊢
   refine tk2 0 rfl (by (intro w9 hSw; have z0 := hSw.1.k0; have z1 := hSw.1.k1; clear hSw; go_simp) <;> with_reducible rfl) hHeld ?_
   refine tk2 1 rfl (by (intro w9 hSw; have z0 := hSw.2.1.k0; have z1 := hSw.2.1.k1; clear hSw; go_simp) <;> with_reducible rfl) hHeld ?_
   refine tk1 2 rfl hHeld ?_
   refine rd1 3 rfl (fun K hK => ?_)
   have d0 := ht6.k0
   have d1 := ht6.k1
   have d2 := ht6.f0
   have d3 := ht6.f1
   go_simp
   clear d0 d1 d2 d3
   have hK4 : Two _ sX x0 x1 ∧ Two _ sY y0 y1 ∧ Below w.heap.size w _ := ⟨(hHeld.1.1).far2 (P := w.heap.size + 1 + 1) (by omega) (.int .i64 x0) (.int .i64 x1), (hHeld.1.2.1).far2 (P := w.heap.size + 1 + 1) (by omega) (.int .i64 x0) (.int .i64 x1), (hHeld.1.2.2.setCell (p := ⟨w.heap.size + 1 + 1, 0, none⟩) (by show w.heap.size ≤ w.heap.size + 1 + 1; omega) (.int .i64 x0)).setCell (p := ⟨w.heap.size + 1 + 1, 1, none⟩) (by show w.heap.size ≤ w.heap.size + 1 + 1; omega) (.int .i64 x1)⟩
   replace ht6 := ht6.set01 x0 x1
   replace ht7 := ht7.far2 (P := w.heap.size + 1 + 1) (by omega) (.int .i64 x0) (.int .i64 x1)
   refine hK.out _ _ ?_ (fun hHeld => ?_)
   ·(exact ⟨hK4, trivial⟩)
   clear hK K
   (try simp only [Act.put, pA, pZ, pS])
   refine rd1 4 rfl (fun K hK => ?_)
   have d0 := ht7.k0
   have d1 := ht7.k1
   have d2 := ht7.f0
   have d3 := ht7.f1
   go_simp
   clear d0 d1 d2 d3
   have hK4 : Two _ sX x0 x1 ∧ Two _ sY y0 y1 ∧ Below w.heap.size w _ := ⟨(hHeld.1.1).far2 (P := w.heap.size + 1 + 1 + 1) (by omega) (.int .i64 y0) (.int .i64 y1), (hHeld.1.2.1).far2 (P := w.heap.size + 1 + 1 + 1) (by omega) (.int .i64 y0) (.int .i64 y1), (hHeld.1.2.2.setCell (p := ⟨w.heap.size + 1 + 1 + 1, 0, none⟩) (by show w.heap.size ≤ w.heap.size + 1 + 1 + 1; omega) (.int .i64 y0)).setCell (p := ⟨w.heap.size + 1 + 1 + 1, 1, none⟩) (by show w.heap.size ≤ w.heap.size + 1 + 1 + 1; omega) (.int .i64 y1)⟩
   replace ht7 := ht7.set01 y0 y1
   replace ht6 := ht6.far2 (P := w.heap.size + 1 + 1 + 1) (by omega) (.int .i64 y0) (.int .i64 y1)
   refine hK.out _ _ ?_ (fun hHeld => ?_)
   ·(exact ⟨hK4, trivial⟩)
   clear hK K
   (try simp only [Act.put, pA, pZ, pS])
   refine tk1 5 rfl hHeld ?_
   refine wpAnyP_done (by kernel_rfl) ?_ _
   (try simp only [Act.put, List.getElem_toArray, List.getElem_cons_zero, List.getElem_cons_succ, pA, pZ, pS])
   have hO := hHeld.1.2.2
   clear hHeld hK4
   generalize (((V1.setCell ⟨w.heap.size + 1 + 1, 0, none⟩ (.int .i64 x0)).setCell ⟨w.heap.size + 1 + 1, 1, none⟩ (.int .i64 x1)).setCell ⟨w.heap.size + 1 + 1 + 1, 0, none⟩ (.int .i64 y0)).setCell ⟨w.heap.size + 1 + 1 + 1, 1, none⟩ (.int .i64 y1) = W15 at hO ht6 ht7 ⊢
   go_wp2
   refine bodyPost_ret (v := .tuple #[.agg #[.int .i64 x0, .int .i64 x1], .agg #[.int .i64 y0, .int .i64 y1], .bool b]) (by simp [results, Tryz.results24, go_sem, ht6.k0, ht6.k1, ht7.k0, ht7.k1]) rfl ⟨q, f, b, x0, x1, y0, y1, hbl8, hLx.down, hLy.down, rfl, hO⟩
end Go.Proofs.YtjhpklolpmaopaaGreatDoor
namespace Go.Proofs.YtjhpklolpmaopaaGreatDoor
open Go.RowKit Go.Maps
/-- what a proof's function boxes. -/
structure PV (w : World) (m : Mach) (v1 : Value) (r : Int) (k bl : Nat) (W : World) : Prop where
  old : Below w.heap.size w W
  mach : MAt W w.heap.size m
  c0 : W.cell? ⟨w.heap.size + 1, 0, none⟩ = some v1
  c1 : W.cell? ⟨w.heap.size + 1, 1, none⟩ = some (.int .i64 r)
  ka : W.cell? ⟨w.heap.size + 2, 0, none⟩ = some (.int .i64 k)
  kb : W.cell? ⟨w.heap.size + 3, 0, none⟩ = some (.int .i64 bl)
  t8 : Two W (w.heap.size + 4) 0 0
  t9 : Two W (w.heap.size + 5) 0 0
  big : w.heap.size + 6 ≤ W.heap.size
theorem PV.of_far {w : World} {m : Mach} {v1 : Value} {r : Int} {k bl : Nat} {W W' : World} (h : PV w m v1 r k bl W) (hh : ∀ b, b < w.heap.size + 6 → W'.heap[b]? = W.heap[b]?) (ho : Below w.heap.size w W') (hz : W.heap.size ≤ W'.heap.size) : PV w m v1 r k bl W' := by
  have c : ∀ b o, b < w.heap.size + 6 → W'.cell? ⟨b, o, none⟩ = W.cell? ⟨b, o, none⟩ := fun b o hb => World.cell?_of_block (hh b hb)
  obtain ⟨y0, y1, y2, y3, y4, y5, y6, y7, y8, y9⟩ := h.mach
  exact ⟨ho, ⟨(c _ 0 (by omega)).trans y0, (c _ 1 (by omega)).trans y1, (c _ 2 (by omega)).trans y2, (c _ 3 (by omega)).trans y3, (c _ 4 (by omega)).trans y4, (c _ 5 (by omega)).trans y5, (c _ 6 (by omega)).trans y6, (c _ 7 (by omega)).trans y7, (c _ 8 (by omega)).trans y8, (c _ 9 (by omega)).trans y9⟩,
    (c _ 0 (by omega)).trans h.c0, (c _ 1 (by omega)).trans h.c1, (c _ 0 (by omega)).trans h.ka, (c _ 0 (by omega)).trans h.kb, h.t8.far (hh _ (by omega)), h.t9.far (hh _ (by omega)), Nat.le_trans h.big hz⟩
theorem PV.far {w : World} {m : Mach} {v1 : Value} {r : Int} {k bl : Nat} {W W' : World} {B : Nat} (h : PV w m v1 r k bl W) (hB : w.heap.size + 6 ≤ B) (hb : Below B W W') : PV w m v1 r k bl W' :=
  h.of_far (fun b hl => hb.block b (by omega)) (h.old.trans (hb.mono (by omega))) hb.size
theorem PV.below {w : World} {m : Mach} {v1 : Value} {r : Int} {k bl : Nat} {W W' : World} (h : PV w m v1 r k bl W) (hb : Below W.heap.size W W') : PV w m v1 r k bl W' := h.far h.big hb
theorem PV.drew {w : World} {m : Mach} {v1 : Value} {r : Int} {k bl : Nat} {W : World} (h : PV w m v1 r k bl W) : PV w m v1 r k bl W.drew := h.below (Below.refl _ _).drew
theorem PV.alloc {w : World} {m : Mach} {v1 : Value} {r : Int} {k bl : Nat} {W : World} (h : PV w m v1 r k bl W) (o : Obj) : PV w m v1 r k bl (W.alloc o) := h.below ((Below.refl _ _).alloc (Nat.le_refl _) o)
theorem PV.put {w : World} {m : Mach} {v1 : Value} {r : Int} {k bl : Nat} {W : World} (h : PV w m v1 r k bl W) {g : Nat} (hg : w.heap.size + 6 ≤ g) (L : List Value) : PV w m v1 r k bl (W.setCells g 0 L) :=
  h.far (Nat.le_refl _) (below_setCells hg L 0 W (Below.refl _ _))
/-- the studied machine and the hull in blocks of their own, below B. -/
structure PW (w : World) (m : Mach) (v1 : Value) (r : Int) (k bl : Nat) (L : List Value) (g gof B : Nat) (W : World) : Prop where
  pv : PV w m v1 r k bl W
  st : SAt W g L
  g1 : w.heap.size + 6 ≤ g
  g2 : g < gof
  g3 : gof < B
  lb0 : B ≤ W.heap.size
theorem PW.lb {w : World} {m : Mach} {v1 : Value} {r : Int} {k bl : Nat} {L : List Value} {g gof B : Nat} {W : World} (h : PW w m v1 r k bl L g gof B W) : gof < W.heap.size := Nat.lt_of_lt_of_le h.g3 h.lb0
theorem PW.lsz {w : World} {m : Mach} {v1 : Value} {r : Int} {k bl : Nat} {L : List Value} {g gof B : Nat} {W : World} (h : PW w m v1 r k bl L g gof B W) : w.heap.size < B := by have := h.g1; have := h.g2; have := h.g3; omega
theorem PW.of_far {w : World} {m : Mach} {v1 : Value} {r : Int} {k bl : Nat} {L : List Value} {g gof B : Nat} {W W' : World} (h : PW w m v1 r k bl L g gof B W) (hh : ∀ b, b < gof → W'.heap[b]? = W.heap[b]?) (ho : Below w.heap.size w W') (hz : W.heap.size ≤ W'.heap.size) : PW w m v1 r k bl L g gof B W' := by
  have h1 := h.g1; have h2 := h.g2
  exact ⟨h.pv.of_far (fun b hb => hh b (by omega)) ho hz, h.st.far (hh g h2), h1, h2, h.g3, Nat.le_trans h.lb0 hz⟩
theorem PW.far {w : World} {m : Mach} {v1 : Value} {r : Int} {k bl : Nat} {L : List Value} {g gof B : Nat} {W W' : World} (h : PW w m v1 r k bl L g gof B W) (hb : Below (gof + 1) W W') : PW w m v1 r k bl L g gof B W' := by
  have h1 := h.g1; have h2 := h.g2
  exact h.of_far (fun b hl => hb.block b (by omega)) (h.pv.old.trans (hb.mono (by omega))) hb.size
theorem PW.below {w : World} {m : Mach} {v1 : Value} {r : Int} {k bl : Nat} {L : List Value} {g gof B : Nat} {W W' : World} (h : PW w m v1 r k bl L g gof B W) (hb : Below W.heap.size W W') : PW w m v1 r k bl L g gof B W' := h.far (hb.mono h.lb)
theorem PW.drew {w : World} {m : Mach} {v1 : Value} {r : Int} {k bl : Nat} {L : List Value} {g gof B : Nat} {W : World} (h : PW w m v1 r k bl L g gof B W) : PW w m v1 r k bl L g gof B W.drew := h.below (Below.refl _ _).drew
/-- one point of the list in a block of its own. -/
structure P9 (w : World) (m : Mach) (v1 : Value) (r : Int) (k bl : Nat) (L : List Value) (g gof B : Nat) (la : Option Addr) (PL : List (Int × Int)) (lc gp : Nat) (x y : Int) (W : World) : Prop where
  pw : PW w m v1 r k bl L g gof B W
  two : Two W gp x y
  lg : gof < gp
  lp : gp < W.heap.size
  row : W.ownsRow B 43 2 (.slice la PL.length lc) PL.length (spCells PL)
theorem P9.below {w : World} {m : Mach} {v1 : Value} {r : Int} {k bl : Nat} {L : List Value} {g gof B : Nat} {la : Option Addr} {PL : List (Int × Int)} {lc gp : Nat} {x y : Int} {W W' : World} (h : P9 w m v1 r k bl L g gof B la PL lc gp x y W) (hb : Below W.heap.size W W') : P9 w m v1 r k bl L g gof B la PL lc gp x y W' :=
  ⟨h.pw.below hb, h.two.below hb h.lp, h.lg, Nat.lt_of_lt_of_le h.lp hb.size, ownsRow_below h.row hb⟩
theorem P9.drew {w : World} {m : Mach} {v1 : Value} {r : Int} {k bl : Nat} {L : List Value} {g gof B : Nat} {la : Option Addr} {PL : List (Int × Int)} {lc gp : Nat} {x y : Int} {W : World} (h : P9 w m v1 r k bl L g gof B la PL lc gp x y W) : P9 w m v1 r k bl L g gof B la PL lc gp x y W.drew := h.below (Below.refl _ _).drew
theorem P9.put {w : World} {m : Mach} {v1 : Value} {r : Int} {k bl : Nat} {L : List Value} {g gof B : Nat} {la : Option Addr} {PL : List (Int × Int)} {lc gp : Nat} {x y : Int} {W : World} (h : P9 w m v1 r k bl L g gof B la PL lc gp x y W) (i0 i1 i2 i3 : Int) : P9 w m v1 r k bl L g gof B la PL lc gp x y ((((W.setCell ⟨gof, 0, none⟩ (.int .i64 i0)).setCell ⟨gof, 1, none⟩ (.int .i64 i1)).setCell ⟨gof, 2, none⟩ (.int .i64 i2)).setCell ⟨gof, 3, none⟩ (.int .i64 i3)) := by
  have h1 := h.pw.g1; have h2 := h.pw.g2; have h3 := h.pw.g3; have h4 := h.lg
  have f : ∀ (V : World) (j : Nat) (u : Value) (b : Nat), b ≠ gof → (V.setCell ⟨gof, j, none⟩ u).heap[b]? = V.heap[b]? := fun V j u b hb => Below.heap_setCell V ⟨gof, j, none⟩ u b hb
  have far : ∀ b, b ≠ gof → ((((W.setCell ⟨gof, 0, none⟩ (.int .i64 i0)).setCell ⟨gof, 1, none⟩ (.int .i64 i1)).setCell ⟨gof, 2, none⟩ (.int .i64 i2)).setCell ⟨gof, 3, none⟩ (.int .i64 i3)).heap[b]? = W.heap[b]? := fun b hb => (f _ 3 _ b hb).trans ((f _ 2 _ b hb).trans ((f _ 1 _ b hb).trans (f _ 0 _ b hb)))
  have z : ((((W.setCell ⟨gof, 0, none⟩ (.int .i64 i0)).setCell ⟨gof, 1, none⟩ (.int .i64 i1)).setCell ⟨gof, 2, none⟩ (.int .i64 i2)).setCell ⟨gof, 3, none⟩ (.int .i64 i3)).heap.size = W.heap.size := by rw [World.size_setCell, World.size_setCell, World.size_setCell, World.size_setCell]
  have ho := (((h.pw.pv.old.setCell (p := ⟨gof, 0, none⟩) (by show w.heap.size ≤ gof; omega) (.int .i64 i0)).setCell (p := ⟨gof, 1, none⟩) (by show w.heap.size ≤ gof; omega) (.int .i64 i1)).setCell (p := ⟨gof, 2, none⟩) (by show w.heap.size ≤ gof; omega) (.int .i64 i2)).setCell (p := ⟨gof, 3, none⟩) (by show w.heap.size ≤ gof; omega) (.int .i64 i3)
  exact ⟨h.pw.of_far (fun b hb => far b (by omega)) ho (by rw [z]; exact Nat.le_refl _), h.two.far (far gp (by omega)), h.lg, by rw [z]; exact h.lp, ownsRow_setCell_below (ownsRow_setCell_below (ownsRow_setCell_below (ownsRow_setCell_below h.row (a := ⟨gof, 0, none⟩) h3 _) (a := ⟨gof, 1, none⟩) h3 _) (a := ⟨gof, 2, none⟩) h3 _) (a := ⟨gof, 3, none⟩) h3 _⟩
set_option maxRecDepth 100000 in
set_option maxHeartbeats 16000000 in
theorem Proves_ok (a1 : Option Addr) (c1 : Nat) (r : Int) (HX HY : Nat → Int) (m : Mach) (k bl : Nat) (w : World) (hn : m.sn ≤ 1000) (hr : m.rn ≤ 9223372036854775807) (hp : PSl w (.slice a1 m.sn c1) m.sn HX HY) (h : MIn w m) (hok : m.ok = true) (hc : m.can)
    (hbu : butB m.sn HX HY r = true) (hk1 : 1 ≤ k) (hk : k ≤ 12) (hbl : bl ≤ 12) :
    Calls Tryz.prog 19 #[m.val, .agg #[.slice a1 m.sn c1, .int .i64 r], .int .i64 k, .int .i64 bl] w fun e w' => ∃ PL : List (Int × Int), (∀ x y, (x, y) ∈ PL ↔ InBox (m.axX.ends k).1 (m.axX.ends k).2 (m.axY.ends k).1 (m.axY.ends k).2 x y ∧ agreeB m.sn HX HY m.SX m.SY r x y = true) ∧
      ((canW m k (hullL PL) ∧ e = .returned (.tuple #[.agg #[.int .i64 ((wX m k (hullL PL)).ends bl).1, .int .i64 ((wX m k (hullL PL)).ends bl).2], .agg #[.int .i64 ((wY m k (hullL PL)).ends bl).1, .int .i64 ((wY m k (hullL PL)).ends bl).2], .int .i64 0])) ∨
       (¬ canW m k (hullL PL) ∧ e = .returned (.tuple #[.agg #[.int .i64 0, .int .i64 0], .agg #[.int .i64 0, .int .i64 0], .int .i64 7]))) ∧ Below w.heap.size w w' := by
  obtain ⟨⟨q1, q2⟩, ⟨q3, q4⟩, q5⟩ := but_parts hbu
  obtain ⟨b1, o1, k1, e1, l1, p1⟩ := PSl_posD hp (by omega)
  cases e1
  obtain ⟨sb, so, k0, e0, lsb, pS⟩ := PSl_posD h.stops (by omega)
  have hsa : PLift (m.sa = some ⟨sb, so, none⟩) := ⟨by injection e0⟩
  clear e0
  have hst := (Mach.ok_parts hok).1
  have hsS : ∀ i, i < m.sn → (-20 ≤ m.SX i ∧ m.SX i ≤ 20) ∧ (-20 ≤ m.SY i ∧ m.SY i ≤ 20) := fun i hi => by
    unfold Mach.okStops arB at hst
    rw [Bool.and_eq_true, allB_iff] at hst
    have := hst.2 i hi
    unfold ptB at this
    rw [Bool.and_eq_true, inB_iff, inB_iff] at this
    omega
  have hbX0 := Axis.any_bound (Mach.fineX hok) k hk
  have hbY0 := Axis.any_bound (Mach.fineY hok) k hk
  have hbX : -48 ≤ (m.axX.ends k).1 ∧ (m.axX.ends k).2 ≤ 48 ∧ (m.axX.ends k).1 ≤ 1000 := ⟨hbX0.1, hbX0.2.1, by omega⟩
  have hbY : -48 ≤ (m.axY.ends k).1 ∧ (m.axY.ends k).2 ≤ 48 ∧ (m.axY.ends k).1 ≤ 1000 := ⟨hbY0.1, hbY0.2.1, by omega⟩
  obtain ⟨L, er, hE, hC⟩ := examine_any m true w hn hr h
  obtain ⟨hLe, rfl⟩ := hE.ok (by rw [hok]; rfl) hc
  have hif := fun (W : World) (hB : Below w.heap.size w W) => isOf_any (.slice (some ⟨b1, o1, none⟩) m.sn c1) (some ⟨b1, o1, none⟩) m.sn c1 r HX HY m W rfl hn (by omega) (hp.below hB)
  rw [show (butB m.sn HX HY r && decide (m.sn = m.sn)) = true by rw [hbu]; simp] at hif
  have hwa := fun (W : World) => within_any (k : Int) 1 12 W
  rw [show inB (k : Int) 1 12 = true from inB_yes (by omega) (by omega)] at hwa
  have hwb := fun (W : World) => within_any (bl : Int) 0 12 W
  rw [show inB (bl : Int) 0 12 = true from inB_yes (by omega) (by omega)] at hwb
  obtain ⟨A1, hA1⟩ : ∃ A, (w.alloc (.cells #[.slice m.sa m.sn m.sc, .int .i64 m.c0, .int .i64 m.c1, .int .i64 m.d0, .int .i64 m.d1, .int .i64 m.w0, .int .i64 m.w1, .int .i64 m.v0, .int .i64 m.v1, .slice m.ra m.rn m.rc] 27)).alloc (Obj.cells #[.slice (some ⟨b1, o1, none⟩) m.sn c1, .int .i64 r] 41) = A := ⟨_, rfl⟩
  obtain ⟨A2, hA2⟩ : ∃ A, A1.alloc (Obj.cells #[.int .i64 (k : Int)] 3) = A := ⟨_, rfl⟩
  obtain ⟨A3, hA3⟩ : ∃ A, A2.alloc (Obj.cells #[.int .i64 (bl : Int)] 3) = A := ⟨_, rfl⟩
  obtain ⟨A4, hA4⟩ : ∃ A, A3.alloc (Obj.cells #[.int .i64 0, .int .i64 0] 24) = A := ⟨_, rfl⟩
  obtain ⟨W0, hW0⟩ : ∃ A, A4.alloc (Obj.cells #[.int .i64 0, .int .i64 0] 24) = A := ⟨_, rfl⟩
  have hSB : SB w A1 m (.slice (some ⟨b1, o1, none⟩) m.sn c1) r := by rw [← hA1]; exact SB.new w m _ r
  have s1 : A1.heap.size = w.heap.size + 1 + 1 := by rw [← hA1, World.size_alloc, World.size_alloc]
  have s2 : A2.heap.size = w.heap.size + 1 + 1 + 1 := by rw [← hA2, World.size_alloc, s1]
  have s3 : A3.heap.size = w.heap.size + 1 + 1 + 1 + 1 := by rw [← hA3, World.size_alloc, s2]
  have s4 : A4.heap.size = w.heap.size + 1 + 1 + 1 + 1 + 1 := by rw [← hA4, World.size_alloc, s3]
  have s5 : W0.heap.size = w.heap.size + 1 + 1 + 1 + 1 + 1 + 1 := by rw [← hW0, World.size_alloc, s4]
  have b12 : Below A1.heap.size A1 A2 := by rw [← hA2]; exact (Below.refl _ _).alloc (Nat.le_refl _) _
  have b23 : Below A2.heap.size A2 A3 := by rw [← hA3]; exact (Below.refl _ _).alloc (Nat.le_refl _) _
  have b34 : Below A3.heap.size A3 A4 := by rw [← hA4]; exact (Below.refl _ _).alloc (Nat.le_refl _) _
  have b45 : Below A4.heap.size A4 W0 := by rw [← hW0]; exact (Below.refl _ _).alloc (Nat.le_refl _) _
  have b35 := b34.trans (b45.mono b34.size)
  have b25 := b23.trans (b35.mono b23.size)
  have b15 := b12.trans (b25.mono b12.size)
  have ka : A2.cell? ⟨w.heap.size + 2, 0, none⟩ = some (.int .i64 k) := by have := cells_new A1 #[.int .i64 (k : Int)] 3 (j := 0) rfl; rw [s1, hA2] at this; exact this
  have kb : A3.cell? ⟨w.heap.size + 3, 0, none⟩ = some (.int .i64 bl) := by have := cells_new A2 #[.int .i64 (bl : Int)] 3 (j := 0) rfl; rw [s2, hA3] at this; exact this
  have t8 : Two A4 (w.heap.size + 4) 0 0 := by have := Two.new A3 24 0 0; rw [s3, hA4] at this; exact this
  have t9 : Two W0 (w.heap.size + 5) 0 0 := by have := Two.new A4 24 0 0; rw [s4, hW0] at this; exact this
  have hSB0 := hSB.below b15
  have hPV : PV w m (.slice (some ⟨b1, o1, none⟩) m.sn c1) r k bl W0 := ⟨hSB0.old, hSB0.mach, hSB0.c0, hSB0.c1, (b25.cell (p := ⟨w.heap.size + 2, 0, none⟩) (by show w.heap.size + 2 < _; omega)).trans ka, (b35.cell (p := ⟨w.heap.size + 3, 0, none⟩) (by show w.heap.size + 3 < _; omega)).trans kb, t8.below b45 (by omega), t9, by omega⟩
  have hal := zst_lit
  have hlz : zst.length = 62 := zM.st_length rfl rfl
  have hlL := hE.length
  have hoL := all_oneCell_toArray hE.one
  have hi0 : (Tryz.prog.info? 93).map (·.size) = some 62 := by kernel_rfl
  have hiL : (Tryz.prog.info? 93).map (·.size) = some L.length := by rw [hlL]; exact hi0
  have hiA : (Tryz.prog.info? 93).map (·.size) = some L.toArray.size := by rw [List.size_toArray, hlL]; exact hi0
  have hS0 := fun (W : World) => SAt.new W zst 93
  have hth := fun (W : World) (g : Nat) (H : SAt W g zst) => H.there 0 L.toArray.size (by rw [List.size_toArray, hlL, hlz]; omega)
  have hfi := fun (W : World) (g : Nat) (H : SAt W g zst) => SAt.fill (L' := L) H (by rw [hlL, hlz])
  obtain ⟨x0, x1⟩ := st_atX m m.axX.ends m.axY.ends k hk
  obtain ⟨x2, x3⟩ := st_atY m m.axX.ends m.axY.ends k hk
  rw [← hLe] at x0 x1 x2 x3
  have hat := fun (W : World) => at_any L k hk _ _ _ _ W x0 x1 x2 x3
  obtain ⟨X, hXe⟩ : ∃ X, m.axX.ends k = X := ⟨_, rfl⟩
  obtain ⟨Y, hYe⟩ : ∃ X, m.axY.ends k = X := ⟨_, rfl⟩
  obtain ⟨Q, hQe⟩ : ∃ Q, agreeB m.sn HX HY m.SX m.SY r = Q := ⟨_, rfl⟩
  have hQ : PLift (agreeB m.sn HX HY m.SX m.SY r = Q) := ⟨hQe⟩
  simp only [hXe] at hbX hat ⊢
  simp only [hYe] at hbY hat ⊢
  simp only [hQe]
  clear hQe
  have hLe' : PLift (L = m.st (crsL m.axX.ends 13) (crsL m.axY.ends 13)) := ⟨hLe⟩
  clear hLe
  replace hXe : PLift (m.axX.ends k = X) := ⟨hXe⟩
  replace hYe : PLift (m.axY.ends k = Y) := ⟨hYe⟩
  clear hi0 hE x0 x1 x2 x3 hSB hSB0 b12 b23 b34 b45 b35 b25 b15 ka kb t8 t9 hst hbX0 hbY0
  generalize zst = Z at *
  go_enter Tryz.func19, Tryz.ntmps19
  go_wp2_with fail
  try rw [hA1, hA2, hA3, hA4, hW0]
  clear hA1 hA2 hA3 hA4 hW0 s1 s2 s3 s4 s5
  rename_i Q' K hKK
  refine (fun (fin : ∀ (g : Nat) (V : World), PV w m (.slice (some ⟨b1, o1, none⟩) m.sn c1) r k bl V → SAt V g L → w.heap.size + 6 ≤ g → g < V.heap.size → Exit.then K Q' Exit.normal ((?F : Nat → Act) g) V) => ?leafs) ?fin
  case leafs =>
    refine wp_region_late [] (fun w9 => PV w m (.slice (some ⟨b1, o1, none⟩) m.sn c1) r k bl w9) (fun w9 => True) (by kernel_rfl) ?_ (fun hHeld => ?_)
    · (exact ⟨hPV.drew, trivial⟩)
    generalize W0.drew = V1 at hHeld ⊢
    refine tk2 0 rfl (by (intro w9 hSw; obtain ⟨z0, z1, z2, z3, z4, z5, z6, z7, z8, z9⟩ := hSw.mach; clear hSw; go_simp) <;> with_reducible rfl) hHeld ?_
    refine tk2 1 rfl (by (intro w9 hSw; have z0 := hSw.c0; have z1 := hSw.c1; clear hSw; go_simp) <;> with_reducible rfl) hHeld ?_
    refine tk2 2 rfl (by (intro w9 hSw; obtain ⟨z0, z1, z2, z3, z4, z5, z6, z7, z8, z9⟩ := hSw.mach; clear hSw; go_simp) <;> with_reducible rfl) hHeld ?_
    refine wpAnyP_ready (rs := [3, 16]) (by kernel_rfl) (by simp) ?_
    refine AllReadyP.cons (o := _) rfl (fun K hK => ?_) (AllReadyP.cons (o := _) rfl (fun K hK => ?_) AllReadyP.nil)
    · go_simp
      (go_at_call 47; with_reducible refine (hif _ hHeld.1.old).mono ?_; rintro e w3 ⟨rfl, hb3⟩)
      refine hK.out _ _ ?_ (fun hHeld => ?_)
      · (exact ⟨hHeld.1.below hb3, trivial⟩)
      clear hK K
      (try simp only [Act.put, xpA, xpZ, xpS])
      refine tk1 4 rfl hHeld ?_
      refine tk3 5 rfl (by (intro w9 hSw; have z0 := hSw.ka; clear hSw; go_simp) <;> with_reducible rfl) hHeld ?_
      refine wpAnyP_ready (rs := [6, 16]) (by kernel_rfl) (by simp) ?_
      refine AllReadyP.cons (o := _) rfl (fun K hK => ?_) (AllReadyP.cons (o := _) rfl (fun K hK => ?_) AllReadyP.nil)
      · go_simp
        (go_at_call 49; with_reducible refine (hwa _).mono ?_; rintro e w6 ⟨rfl, rfl⟩)
        refine hK.out _ _ ?_ (fun hHeld => ?_)
        · (exact hHeld)
        clear hK K
        (try simp only [Act.put, xpA, xpZ, xpS])
        refine tk1 7 rfl hHeld ?_
        refine tk1 8 rfl hHeld ?_
        refine tk3 9 rfl (by (intro w9 hSw; have z0 := hSw.kb; clear hSw; go_simp) <;> with_reducible rfl) hHeld ?_
        refine wpAnyP_ready (rs := [10, 16]) (by kernel_rfl) (by simp) ?_
        refine AllReadyP.cons (o := _) rfl (fun K hK => ?_) (AllReadyP.cons (o := _) rfl (fun K hK => ?_) AllReadyP.nil)
        · go_simp
          (go_at_call 49; with_reducible refine (hwb _).mono ?_; rintro e w6 ⟨rfl, rfl⟩)
          refine hK.out _ _ ?_ (fun hHeld => ?_)
          · (exact hHeld)
          clear hK K
          (try simp only [Act.put, xpA, xpZ, xpS])
          refine tk1 11 rfl hHeld ?_
          refine wpAnyP_ready (rs := [12, 16]) (by kernel_rfl) (by simp) ?_
          refine AllReadyP.cons (o := _) rfl (fun K hK => ?_) (AllReadyP.cons (o := _) rfl (fun K hK => ?_) AllReadyP.nil)
          · go_simp
            (go_at_call 46; with_reducible refine (hC _ hHeld.1.old).mono ?_; rintro e w12 ⟨rfl, hb12⟩)
            refine hK.out _ _ ?_ (fun hHeld => ?_)
            · (exact ⟨hHeld.1.below hb12, trivial⟩)
            clear hK K
            (try simp only [Act.put, xpA, xpZ, xpS])
            refine tk1 13 rfl hHeld ?_
            refine tk1 14 rfl hHeld ?_
            refine tk1 15 rfl hHeld ?_
            refine rd1 16 rfl (fun K hK => ?_)
            go_simp
            (try simp only [hal])
            have hZ := hS0 w12
            have hgz := hHeld.1.big
            have hZl : w12.heap.size < (w12.alloc (Obj.cells Z.toArray 93)).heap.size := by rw [World.size_alloc]; omega
            refine hK.out _ _ ?_ (fun hHeld => ?_)
            · (exact ⟨hHeld.1.alloc _, trivial⟩)
            clear hK K
            (try simp only [Act.put, xpA, xpZ, xpS])
            refine rd1 17 rfl (fun K hK => ?_)
            refine step_store_mid rfl 93 _ _ rfl w12.heap.size 0 L.toArray rfl rfl (hth _ _ hZ) hiA hoL ?_
            have hL5 := hfi _ _ hZ
            have hK5 := hHeld.1.put hgz L
            replace hZl : w12.heap.size < _ := Nat.lt_of_lt_of_eq hZl (size_setCells w12.heap.size L 0 _).symm
            refine hK.out _ _ ?_ (fun hHeld => ?_)
            · (exact ⟨hK5, trivial⟩)
            clear hK K
            (try simp only [Act.put, xpA, xpZ, xpS])
            refine tk1 18 rfl hHeld ?_
            refine wpAnyP_done (by kernel_rfl) ?_ _
            (try simp only [Act.put, List.getElem_toArray, List.getElem_cons_zero, List.getElem_cons_succ, xpA, xpZ, xpS])
            have hH5 := hHeld.1
            clear hHeld
            obtain ⟨gg, hgg⟩ : ∃ x, w12.heap.size = x := ⟨_, rfl⟩
            simp only [hgg] at hH5 hL5 hgz hZl ⊢
            exact fin gg _ hH5 hL5 hgz hZl
          · go_simp
            (try simp only [hal])
            have hZ := hS0 w3
            have hgz := hHeld.1.big
            have hZl : w3.heap.size < (w3.alloc (Obj.cells Z.toArray 93)).heap.size := by rw [World.size_alloc]; omega
            refine hK.out _ _ ?_ (fun hHeld => ?_)
            · (exact ⟨hHeld.1.alloc _, trivial⟩)
            clear hK K
            (try simp only [Act.put, xpA, xpZ, xpS])
            refine rd1 12 rfl (fun K hK => ?_)
            go_simp
            (go_at_call 46; with_reducible refine (hC _ hHeld.1.old).mono ?_; rintro e w12 ⟨rfl, hb12⟩)
            replace hZ := hZ.below hb12 hZl
            replace hZl := Nat.lt_of_lt_of_le hZl hb12.size
            refine hK.out _ _ ?_ (fun hHeld => ?_)
            · (exact ⟨hHeld.1.below hb12, trivial⟩)
            clear hK K
            (try simp only [Act.put, xpA, xpZ, xpS])
            refine tk1 13 rfl hHeld ?_
            refine tk1 14 rfl hHeld ?_
            refine tk1 15 rfl hHeld ?_
            refine rd1 17 rfl (fun K hK => ?_)
            refine step_store_mid rfl 93 _ _ rfl w3.heap.size 0 L.toArray rfl rfl (hth _ _ hZ) hiA hoL ?_
            have hL5 := hfi _ _ hZ
            have hK5 := hHeld.1.put hgz L
            replace hZl : w3.heap.size < _ := Nat.lt_of_lt_of_eq hZl (size_setCells w3.heap.size L 0 _).symm
            refine hK.out _ _ ?_ (fun hHeld => ?_)
            · (exact ⟨hK5, trivial⟩)
            clear hK K
            (try simp only [Act.put, xpA, xpZ, xpS])
            refine tk1 18 rfl hHeld ?_
            refine wpAnyP_done (by kernel_rfl) ?_ _
            (try simp only [Act.put, List.getElem_toArray, List.getElem_cons_zero, List.getElem_cons_succ, xpA, xpZ, xpS])
            have hH5 := hHeld.1
            clear hHeld
            obtain ⟨gg, hgg⟩ : ∃ x, w3.heap.size = x := ⟨_, rfl⟩
            simp only [hgg] at hH5 hL5 hgz hZl ⊢
            exact fin gg _ hH5 hL5 hgz hZl
        · go_simp
          (try simp only [hal])
          have hZ := hS0 w3
          have hgz := hHeld.1.big
          have hZl : w3.heap.size < (w3.alloc (Obj.cells Z.toArray 93)).heap.size := by rw [World.size_alloc]; omega
          refine hK.out _ _ ?_ (fun hHeld => ?_)
          · (exact ⟨hHeld.1.alloc _, trivial⟩)
          clear hK K
          (try simp only [Act.put, xpA, xpZ, xpS])
          refine rd1 10 rfl (fun K hK => ?_)
          go_simp
          (go_at_call 49; with_reducible refine (hwb _).mono ?_; rintro e w6 ⟨rfl, rfl⟩)
          refine hK.out _ _ ?_ (fun hHeld => ?_)
          · (exact hHeld)
          clear hK K
          (try simp only [Act.put, xpA, xpZ, xpS])
          refine tk1 11 rfl hHeld ?_
          refine rd1 12 rfl (fun K hK => ?_)
          go_simp
          (go_at_call 46; with_reducible refine (hC _ hHeld.1.old).mono ?_; rintro e w12 ⟨rfl, hb12⟩)
          replace hZ := hZ.below hb12 hZl
          replace hZl := Nat.lt_of_lt_of_le hZl hb12.size
          refine hK.out _ _ ?_ (fun hHeld => ?_)
          · (exact ⟨hHeld.1.below hb12, trivial⟩)
          clear hK K
          (try simp only [Act.put, xpA, xpZ, xpS])
          refine tk1 13 rfl hHeld ?_
          refine tk1 14 rfl hHeld ?_
          refine tk1 15 rfl hHeld ?_
          refine rd1 17 rfl (fun K hK => ?_)
          refine step_store_mid rfl 93 _ _ rfl w3.heap.size 0 L.toArray rfl rfl (hth _ _ hZ) hiA hoL ?_
          have hL5 := hfi _ _ hZ
          have hK5 := hHeld.1.put hgz L
          replace hZl : w3.heap.size < _ := Nat.lt_of_lt_of_eq hZl (size_setCells w3.heap.size L 0 _).symm
          refine hK.out _ _ ?_ (fun hHeld => ?_)
          · (exact ⟨hK5, trivial⟩)
          clear hK K
          (try simp only [Act.put, xpA, xpZ, xpS])
          refine tk1 18 rfl hHeld ?_
          refine wpAnyP_done (by kernel_rfl) ?_ _
          (try simp only [Act.put, List.getElem_toArray, List.getElem_cons_zero, List.getElem_cons_succ, xpA, xpZ, xpS])
          have hH5 := hHeld.1
          clear hHeld
          obtain ⟨gg, hgg⟩ : ∃ x, w3.heap.size = x := ⟨_, rfl⟩
          simp only [hgg] at hH5 hL5 hgz hZl ⊢
          exact fin gg _ hH5 hL5 hgz hZl
      · go_simp
        (try simp only [hal])
        have hZ := hS0 w3
        have hgz := hHeld.1.big
        have hZl : w3.heap.size < (w3.alloc (Obj.cells Z.toArray 93)).heap.size := by rw [World.size_alloc]; omega
        refine hK.out _ _ ?_ (fun hHeld => ?_)
        · (exact ⟨hHeld.1.alloc _, trivial⟩)
        clear hK K
        (try simp only [Act.put, xpA, xpZ, xpS])
        refine rd1 6 rfl (fun K hK => ?_)
        go_simp
        (go_at_call 49; with_reducible refine (hwa _).mono ?_; rintro e w6 ⟨rfl, rfl⟩)
        refine hK.out _ _ ?_ (fun hHeld => ?_)
        · (exact hHeld)
        clear hK K
        (try simp only [Act.put, xpA, xpZ, xpS])
        refine tk1 7 rfl hHeld ?_
        refine tk1 8 rfl hHeld ?_
        refine tk3 9 rfl (by (intro w9 hSw; have z0 := hSw.kb; clear hSw; go_simp) <;> with_reducible rfl) hHeld ?_
        refine rd1 10 rfl (fun K hK => ?_)
        go_simp
        (go_at_call 49; with_reducible refine (hwb _).mono ?_; rintro e w6 ⟨rfl, rfl⟩)
        refine hK.out _ _ ?_ (fun hHeld => ?_)
        · (exact hHeld)
        clear hK K
        (try simp only [Act.put, xpA, xpZ, xpS])
        refine tk1 11 rfl hHeld ?_
        refine rd1 12 rfl (fun K hK => ?_)
        go_simp
        (go_at_call 46; with_reducible refine (hC _ hHeld.1.old).mono ?_; rintro e w12 ⟨rfl, hb12⟩)
        replace hZ := hZ.below hb12 hZl
        replace hZl := Nat.lt_of_lt_of_le hZl hb12.size
        refine hK.out _ _ ?_ (fun hHeld => ?_)
        · (exact ⟨hHeld.1.below hb12, trivial⟩)
        clear hK K
        (try simp only [Act.put, xpA, xpZ, xpS])
        refine tk1 13 rfl hHeld ?_
        refine tk1 14 rfl hHeld ?_
        refine tk1 15 rfl hHeld ?_
        refine rd1 17 rfl (fun K hK => ?_)
        refine step_store_mid rfl 93 _ _ rfl w3.heap.size 0 L.toArray rfl rfl (hth _ _ hZ) hiA hoL ?_
        have hL5 := hfi _ _ hZ
        have hK5 := hHeld.1.put hgz L
        replace hZl : w3.heap.size < _ := Nat.lt_of_lt_of_eq hZl (size_setCells w3.heap.size L 0 _).symm
        refine hK.out _ _ ?_ (fun hHeld => ?_)
        · (exact ⟨hK5, trivial⟩)
        clear hK K
        (try simp only [Act.put, xpA, xpZ, xpS])
        refine tk1 18 rfl hHeld ?_
        refine wpAnyP_done (by kernel_rfl) ?_ _
        (try simp only [Act.put, List.getElem_toArray, List.getElem_cons_zero, List.getElem_cons_succ, xpA, xpZ, xpS])
        have hH5 := hHeld.1
        clear hHeld
        obtain ⟨gg, hgg⟩ : ∃ x, w3.heap.size = x := ⟨_, rfl⟩
        simp only [hgg] at hH5 hL5 hgz hZl ⊢
        exact fin gg _ hH5 hL5 hgz hZl
    · go_simp
      (try simp only [hal])
      have hZ := hS0 V1
      have hgz := hHeld.1.big
      have hZl : V1.heap.size < (V1.alloc (Obj.cells Z.toArray 93)).heap.size := by rw [World.size_alloc]; omega
      refine hK.out _ _ ?_ (fun hHeld => ?_)
      · (exact ⟨hHeld.1.alloc _, trivial⟩)
      clear hK K
      (try simp only [Act.put, xpA, xpZ, xpS])
      refine rd1 3 rfl (fun K hK => ?_)
      go_simp
      (go_at_call 47; with_reducible refine (hif _ hHeld.1.old).mono ?_; rintro e w3 ⟨rfl, hb3⟩)
      replace hZ := hZ.below hb3 hZl
      replace hZl := Nat.lt_of_lt_of_le hZl hb3.size
      refine hK.out _ _ ?_ (fun hHeld => ?_)
      · (exact ⟨hHeld.1.below hb3, trivial⟩)
      clear hK K
      (try simp only [Act.put, xpA, xpZ, xpS])
      refine tk1 4 rfl hHeld ?_
      refine tk3 5 rfl (by (intro w9 hSw; have z0 := hSw.ka; clear hSw; go_simp) <;> with_reducible rfl) hHeld ?_
      refine rd1 6 rfl (fun K hK => ?_)
      go_simp
      (go_at_call 49; with_reducible refine (hwa _).mono ?_; rintro e w6 ⟨rfl, rfl⟩)
      refine hK.out _ _ ?_ (fun hHeld => ?_)
      · (exact hHeld)
      clear hK K
      (try simp only [Act.put, xpA, xpZ, xpS])
      refine tk1 7 rfl hHeld ?_
      refine tk1 8 rfl hHeld ?_
      refine tk3 9 rfl (by (intro w9 hSw; have z0 := hSw.kb; clear hSw; go_simp) <;> with_reducible rfl) hHeld ?_
      refine rd1 10 rfl (fun K hK => ?_)
      go_simp
      (go_at_call 49; with_reducible refine (hwb _).mono ?_; rintro e w6 ⟨rfl, rfl⟩)
      refine hK.out _ _ ?_ (fun hHeld => ?_)
      · (exact hHeld)
      clear hK K
      (try simp only [Act.put, xpA, xpZ, xpS])
      refine tk1 11 rfl hHeld ?_
      refine rd1 12 rfl (fun K hK => ?_)
      go_simp
      (go_at_call 46; with_reducible refine (hC _ hHeld.1.old).mono ?_; rintro e w12 ⟨rfl, hb12⟩)
      replace hZ := hZ.below hb12 hZl
      replace hZl := Nat.lt_of_lt_of_le hZl hb12.size
      refine hK.out _ _ ?_ (fun hHeld => ?_)
      · (exact ⟨hHeld.1.below hb12, trivial⟩)
      clear hK K
      (try simp only [Act.put, xpA, xpZ, xpS])
      refine tk1 13 rfl hHeld ?_
      refine tk1 14 rfl hHeld ?_
      refine tk1 15 rfl hHeld ?_
      refine rd1 17 rfl (fun K hK => ?_)
      refine step_store_mid rfl 93 _ _ rfl V1.heap.size 0 L.toArray rfl rfl (hth _ _ hZ) hiA hoL ?_
      have hL5 := hfi _ _ hZ
      have hK5 := hHeld.1.put hgz L
      replace hZl : V1.heap.size < _ := Nat.lt_of_lt_of_eq hZl (size_setCells V1.heap.size L 0 _).symm
      refine hK.out _ _ ?_ (fun hHeld => ?_)
      · (exact ⟨hK5, trivial⟩)
      clear hK K
      (try simp only [Act.put, xpA, xpZ, xpS])
      refine tk1 18 rfl hHeld ?_
      refine wpAnyP_done (by kernel_rfl) ?_ _
      (try simp only [Act.put, List.getElem_toArray, List.getElem_cons_zero, List.getElem_cons_succ, xpA, xpZ, xpS])
      have hH5 := hHeld.1
      clear hHeld
      obtain ⟨gg, hgg⟩ : ∃ x, V1.heap.size = x := ⟨_, rfl⟩
      simp only [hgg] at hH5 hL5 hgz hZl ⊢
      exact fin gg _ hH5 hL5 hgz hZl
  case fin =>
    intro g V hX hS5 hg1 hg2
    go_wp2
    obtain ⟨W2, hW2⟩ : ∃ A, (V.alloc (Obj.cells #[.int .i64 80, .int .i64 (-80)] 24)).alloc (Obj.cells #[.int .i64 80, .int .i64 (-80), .int .i64 80, .int .i64 (-80)] 99) = A := ⟨_, rfl⟩
    have hz2 : W2.heap.size = V.heap.size + 1 + 1 := by rw [← hW2, World.size_alloc, World.size_alloc]
    have hb2 : Below V.heap.size V W2 := by rw [← hW2]; exact ((Below.refl _ _).alloc (Nat.le_refl _) _).alloc (by rw [World.size_alloc]; omega) _
    have hBx : Box4 W2 (V.heap.size + 1) 80 (-80) 80 (-80) := by have := Box4.new (V.alloc (Obj.cells #[.int .i64 80, .int .i64 (-80)] 24)) 99 80 (-80) 80 (-80); rw [World.size_alloc, hW2] at this; exact this
    try rw [hW2]
    obtain ⟨gof, hgof⟩ : ∃ x, V.heap.size + 1 = x := ⟨_, rfl⟩
    obtain ⟨BB, hBB⟩ : ∃ x, V.heap.size + 1 + 1 = x := ⟨_, rfl⟩
    have hPW : PW w m (.slice (some ⟨b1, o1, none⟩) m.sn c1) r k bl L g gof BB W2 := ⟨hX.below hb2, hS5.far (hb2.block g hg2), hg1, by omega, by omega, by omega⟩
    have hBV : BB ≤ W2.drew.heap.size := hPW.drew.lb0
    rw [hgof] at hBx
    simp only [hgof]
    clear hX hS5 hW2 hb2
    have hgo := fun (W : World) => agreement_any b1 o1 m.sn c1 sb so r m hsa.down Q W
    unfold Mach.val at hgo
    refine wp_region_late [] (fun w9 => PW w m (.slice (some ⟨b1, o1, none⟩) m.sn c1) r k bl L g gof BB w9 ∧ Box4 w9 gof 80 (-80) 80 (-80)) (fun w9 => True) (by kernel_rfl) ?_ (fun hHeld => ?_)
    · (exact ⟨⟨hPW.drew, hBx.drew⟩, trivial⟩)
    generalize W2.drew = V6 at *
    refine tk2 0 rfl (by (intro w9 hSw; obtain ⟨z0, z1, z2, z3, z4, z5, z6, z7, z8, z9⟩ := hSw.1.pv.mach; clear hSw; go_simp) <;> with_reducible rfl) hHeld ?_
    refine tk2 1 rfl (by (intro w9 hSw; have z0 := hSw.1.pv.c0; have z1 := hSw.1.pv.c1; clear hSw; go_simp) <;> with_reducible rfl) hHeld ?_
    refine tk0 3 (.agg L.toArray) rfl (yieldsIf_load_mid (by rfl) 93 _ rfl g 0 rfl L _ (fun w9 hSw => hSw.1.st.c) Tryz.underlying93 rfl hiL) hHeld ?_
    (try simp only [Act.put, xpA, xpZ, xpS])
    refine tk2 4 rfl (by (intro w9 hSw; have z0 := hSw.1.pv.ka; clear hSw; go_simp) <;> with_reducible rfl) hHeld ?_
    refine tk1 8 rfl hHeld ?_
    refine rd1 2 rfl (fun K hK => ?_)
    go_simp
    (go_at_call 50; with_reducible refine (hgo _).mono ?_; rintro e w3 ⟨rfl, hb3, t0, t1, hg3⟩)
    have hl3 := hg3.lt
    refine hK.out _ _ ?_ (fun hHeld => ?_)
    · (exact ⟨⟨hHeld.1.1.below hb3, hHeld.1.2.below hb3 hHeld.1.1.lb⟩, trivial⟩)
    clear hK K
    (try simp only [Act.put, xpA, xpZ, xpS])
    refine rd1 5 rfl (fun K hK => ?_)
    go_simp
    (go_at_call 52; with_reducible refine (hat _).mono ?_; rintro e w5 ⟨rfl, hb5⟩)
    refine hK.out _ _ ?_ (fun hHeld => ?_)
    · (exact ⟨⟨hHeld.1.1.below hb5, hHeld.1.2.below hb5 hHeld.1.1.lb⟩, trivial⟩)
    clear hK K
    (try simp only [Act.put, xpA, xpZ, xpS])
    refine rd1 6 rfl (fun K hK => ?_)
    go_simp
    have hz3 := hb3.size
    have hz5 := hb5.size
    have hO5 := hHeld.1.1.pv.old
    have hg5 := hg3.below hb5 hl3
    have hl5 := hg5.lt
    have hT5 : TrialG w5 m.sn sb so m.sc (V6.heap.size + 1) b1 o1 c1 m.SX m.SY HX HY r := ⟨pS.below hO5 lsb, p1.below hO5 l1, (hb5.cell (p := ⟨V6.heap.size + 1, 0, none⟩) (by show V6.heap.size + 1 < _; omega)).trans t0, (hb5.cell (p := ⟨V6.heap.size + 1, 1, none⟩) (by show V6.heap.size + 1 < _; omega)).trans t1, Nat.lt_of_lt_of_le lsb hO5.size, Nat.lt_of_lt_of_le l1 hO5.size, by omega, q3, by omega, q1, q2, hsS, q5⟩
    (go_at_call 51; refine (callsIn_wide.1 (passing_list (.slice (some ⟨sb, so, none⟩) m.sn m.sc) (.func (.func 91) #[] #[.pointer (some ⟨V6.heap.size + 1, 0, none⟩)]) (V6.heap.size + 1 + 1 + 1) 0 3 Q X.1 X.2 Y.1 Y.2 w5 hbX.1 hbX.2.1 hbY.1 hbY.2.1 hbX.2.2 hbY.2.2 hl5 hg5 (by omega) (by omega) (fun W j x y hg hgm hj hx hy => by
      rw [← hQ.down] at hgm ⊢
      exact doesA_any m.sn sb so m.sc (V6.heap.size + 1) b1 o1 c1 (V6.heap.size + 1 + 1 + 1) j m.SX m.SY HX HY r x y hx hy W (hT5.grown hg (by have := hHeld.1.1.lsz; omega) (by have := hHeld.1.1.lsz; omega) (by omega)) hgm hj (by have := hHeld.1.1.lsz; omega) (by have := hHeld.1.1.lsz; omega) (by omega)))).mono ?_; rintro e w6 ⟨la, lc, PL, rfl, hPn, hPL, hrow, hg6, hgr6⟩)
    have hb6 : Below (gof + 1) w5 w6 := (Below.refl _ _).grown hgr6 (by have := hHeld.1.1.lb; omega) fun x e => by cases e; have := hHeld.1.1.lb0; omega
    replace hrow := hrow.mono hHeld.1.1.lb0
    refine hK.out _ _ ?_ (fun hHeld => ?_)
    · (exact ⟨⟨hHeld.1.1.far hb6, hHeld.1.2.below hb6 (Nat.lt_succ_self _)⟩, trivial⟩)
    clear hK K
    (try simp only [Act.put, xpA, xpZ, xpS])
    refine tk1 7 rfl hHeld ?_
    refine wpAnyP_done (by kernel_rfl) ?_ _
    (try simp only [Act.put, List.getElem_toArray, List.getElem_cons_zero, List.getElem_cons_succ, xpA, xpZ, xpS])
    have hP6 := hHeld.1
    clear hHeld
    have hIn : ∀ x y, (x, y) ∈ PL → (-48 ≤ x ∧ x ≤ 48) ∧ (-48 ≤ y ∧ y ≤ 48) := fun x y hxy => by
      have := ((hPL x y).1 hxy).1
      unfold InBox at this
      omega
    go_wp2_with fail
    go_loopw [51] (fun i wr => ∃ j : Nat, j ≤ PL.length ∧ i = .int .i64 j ∧ PW w m (.slice (some ⟨b1, o1, none⟩) m.sn c1) r k bl L g gof BB wr ∧ Box4 wr gof (hullL (PL.take j)).1 (hullL (PL.take j)).2.1 (hullL (PL.take j)).2.2.1 (hullL (PL.take j)).2.2.2 ∧ wr.ownsRow BB 43 2 (.slice la PL.length lc) PL.length (spCells PL)) (fun i _ => PL.length - (intOf i).toNat)
    case atStart => exact ⟨0, Nat.zero_le _, rfl, hP6.1, hP6.2, hrow⟩
    case round =>
      obtain ⟨j, hj, rfl, hPr, hBr, hown⟩ := hrel
      by_cases hlt : j < PL.length
      · have hlt' : (j : Int) < (PL.length : Int) := by omega
        obtain ⟨gq, c, e⟩ := ownsRow_pos (by omega) hown
        have ha : la = some ⟨gq, 0, none⟩ := by cases e; rfl
        clear e c
        subst ha
        have k0 := hown.cellAt (j * 2) (by omega)
        have k1 := hown.cellAt (j * 2 + 1) (by omega)
        have hpj : PL[j]? = some PL[j] := List.getElem?_eq_getElem hlt
        rw [(spCells_at PL j _ hpj).1] at k0
        rw [(spCells_at PL j _ hpj).2] at k1
        have htk : hullL (PL.take (j + 1)) = (min (hullL (PL.take j)).1 PL[j].1, max (hullL (PL.take j)).2.1 PL[j].1, min (hullL (PL.take j)).2.2.1 PL[j].2, max (hullL (PL.take j)).2.2.2 PL[j].2) := by
          rw [List.take_add_one, hpj]; exact hullL_snoc _ _
        have hpb := hIn PL[j].1 PL[j].2 (List.getElem_mem hlt)
        clear hpj
        generalize PL[j] = p at k0 k1 htk hpb
        generalize hullL (PL.take j) = H at hBr htk
        have hax := fun W => around_any p.1 0 (by omega) (by omega) (by omega) (by omega) W
        have hay := fun W => around_any p.2 0 (by omega) (by omega) (by omega) (by omega) W
        simp only [Int.sub_zero, Int.add_zero] at hax hay
        have hwi := fun W => with_any H.1 H.2.1 H.2.2.1 H.2.2.2 p.1 p.1 p.2 p.2 W
        go_wp2_with fail
        obtain ⟨W8, hW8⟩ : ∃ A, wr.alloc (Obj.cells #[.int .i64 p.1, .int .i64 p.2] 43) = A := ⟨_, rfl⟩
        have hb8 : Below wr.heap.size wr W8 := by rw [← hW8]; exact (Below.refl _ _).alloc (Nat.le_refl _) _
        have hz8 : W8.heap.size = wr.heap.size + 1 := by rw [← hW8, World.size_alloc]
        have h28 : Two W8 wr.heap.size p.1 p.2 := by rw [← hW8]; exact Two.new wr 43 p.1 p.2
        obtain ⟨gp, hgp⟩ : ∃ x, wr.heap.size = x := ⟨_, rfl⟩
        have hP9 : P9 w m (.slice (some ⟨b1, o1, none⟩) m.sn c1) r k bl L g gof BB (some ⟨gq, 0, none⟩) PL lc gp p.1 p.2 W8 := ⟨hPr.below hb8, by rw [← hgp]; exact h28, by have := hPr.lb; omega, by omega, ownsRow_below hown hb8⟩
        have hBx := hBr.below hb8 hPr.lb
        try rw [hW8]
        try simp only [hgp]
        clear hPr hBr hown hW8 hb8 h28 k0 k1 hP6 hrow
        refine wp_region_late [9] (fun w9 => P9 w m (.slice (some ⟨b1, o1, none⟩) m.sn c1) r k bl L g gof BB (some ⟨gq, 0, none⟩) PL lc gp p.1 p.2 w9) (fun w9 => Box4 w9 gof H.1 H.2.1 H.2.2.1 H.2.2.2) (by kernel_rfl) ?_ (fun hHeld => ?_)
        · (exact ⟨hP9.drew, hBx.drew⟩)
        generalize W8.drew = V9 at hHeld ⊢
        refine wpAnyP_take 1 (i := 0) (v := ?_) rfl (by kernel_rfl) (by kernel_rfl) (by kernel_rfl) (by kernel_rfl) (by rfl) (waits_one [] (by kernel_rfl)) (fun _ _ _ h => h) (Or.inl ⟨by rfl, ?_⟩) hHeld ?_
        rotate_left 1
        · ((intro w9 hSw; have z0 := hSw.2.k0; have z1 := hSw.2.k1; have z2 := hSw.2.k2; have z3 := hSw.2.k3; clear hSw; go_simp) <;> with_reducible rfl)
        (try simp only [Act.put, xpA, xpZ, xpS])
        refine tk1 1 rfl hHeld ?_
        refine tk2 2 rfl (by (intro w9 hSw; have z0 := hSw.two.k0; clear hSw; go_simp) <;> with_reducible rfl) hHeld ?_
        refine tk1 4 rfl hHeld ?_
        refine tk2 5 rfl (by (intro w9 hSw; have z0 := hSw.two.k1; clear hSw; go_simp) <;> with_reducible rfl) hHeld ?_
        refine rd1 3 rfl (fun K hK => ?_)
        go_simp
        (go_at_call 54; with_reducible refine (hax _).mono ?_; rintro e w3 ⟨rfl, hb3⟩)
        refine hK.out _ _ ?_ (fun hHeld => ?_)
        · (exact ⟨hHeld.1.below hb3, hHeld.2.below hb3 hHeld.1.pw.lb⟩)
        clear hK K
        (try simp only [Act.put, xpA, xpZ, xpS])
        refine rd1 6 rfl (fun K hK => ?_)
        go_simp
        (go_at_call 54; with_reducible refine (hay _).mono ?_; rintro e w4 ⟨rfl, hb4⟩)
        refine hK.out _ _ ?_ (fun hHeld => ?_)
        · (exact ⟨hHeld.1.below hb4, hHeld.2.below hb4 hHeld.1.pw.lb⟩)
        clear hK K
        (try simp only [Act.put, xpA, xpZ, xpS])
        refine tk1 7 rfl hHeld ?_
        refine rd1 8 rfl (fun K hK => ?_)
        go_simp
        (go_at_call 53; with_reducible refine (hwi _).mono ?_; rintro e w5 ⟨rfl, hb5⟩)
        refine hK.out _ _ ?_ (fun hHeld => ?_)
        · (exact ⟨hHeld.1.below hb5, hHeld.2.below hb5 hHeld.1.pw.lb⟩)
        clear hK K
        (try simp only [Act.put, xpA, xpZ, xpS])
        refine wpAnyP_ready (rs := [9]) (by kernel_rfl) (by simp) ?_
        refine AllReadyP.behind (o := _) rfl (by kernel_rfl) (fun K hK => ?_) AllReadyP.nil
        · obtain ⟨c0, c1, c2, c3, x0, x1, x2, x3⟩ := hHeld.2
          go_simp
          clear c0 c1 c2 c3 x0 x1 x2 x3
          have hK1 := hHeld.1.put (min H.1 p.1) (max H.2.1 p.1) (min H.2.2.1 p.2) (max H.2.2.2 p.2)
          have hB := (hHeld.2.set01 (min H.1 p.1) (max H.2.1 p.1)).set23 (min H.2.2.1 p.2) (max H.2.2.2 p.2)
          refine hK.out _ _ ?_ (fun hHeld => ?_)
          · (exact hK1)
          clear hK K
          (try simp only [Act.put, xpA, xpZ, xpS])
          refine wpAnyP_done (by kernel_rfl) ?_ _
          (try simp only [Act.put, List.getElem_toArray, List.getElem_cons_zero, List.getElem_cons_succ, xpA, xpZ, xpS])
          have hP9 := hHeld
          clear hHeld hK1
          generalize (((w5.setCell ⟨gof, 0, none⟩ (.int .i64 (min H.1 p.1))).setCell ⟨gof, 1, none⟩ (.int .i64 (max H.2.1 p.1))).setCell ⟨gof, 2, none⟩ (.int .i64 (min H.2.2.1 p.2))).setCell ⟨gof, 3, none⟩ (.int .i64 (max H.2.2.2 p.2)) = W9 at hP9 hB ⊢
          go_wp2
          go_roundw
          case rel => exact ⟨j + 1, by omega, by go_num, hP9.pw, by rw [htk]; exact hB, hP9.row⟩
          case measure => simp [intOf]; omega
      · obtain rfl : j = PL.length := by omega
        rw [List.take_of_length_le (Nat.le_refl _)] at hBr
        have hbd := (hullL_spec PL.length PL rfl (fun p hp => hIn p.1 p.2 hp)).1
        obtain ⟨W11, hW11⟩ : ∃ A, wr.alloc (Obj.cells #[.int .i64 0, .int .i64 0, .int .i64 0, .int .i64 0] 99) = A := ⟨_, rfl⟩
        have hb11 : Below wr.heap.size wr W11 := by rw [← hW11]; exact (Below.refl _ _).alloc (Nat.le_refl _) _
        have hz11 : W11.heap.size = wr.heap.size + 1 := by rw [← hW11, World.size_alloc]
        have hX11 : Box4 W11 wr.heap.size 0 0 0 0 := by rw [← hW11]; exact Box4.new wr 99 0 0 0 0
        have hB11 := hBr.below hb11 hPr.lb
        have hP11 := hPr.below hb11
        have y1 := hPr.lb
        have y2 := hPr.g1
        have y3 := hPr.g2
        have hP1 : P1 w W11 m L g (w.heap.size + 1 + 1) gof (w.heap.size + 1 + 1 + 1) wr.heap.size k bl (hullL PL) W11 := ⟨hP11.pv.old, hP11.st, hP11.pv.ka, hB11.k0, hB11.k1, hB11.k2, hB11.k3, hP11.pv.kb, by omega, by omega, by omega, by omega, by omega, by omega, by omega, by omega, by omega, by omega, Nat.le_refl _, fun _ _ _ => rfl⟩
        rw [hLe'.down] at hP1
        have hpt := hP11.pv
        clear hPr hBr hown hP6 hrow hB11 hP11 hb11
        by_cases hcan : canW m k (hullL PL)
        · have hat := attempt_yesP m m.axX.ends m.axY.ends g (w.heap.size + 1 + 1) gof (w.heap.size + 1 + 1 + 1) wr.heap.size k bl (hullL PL) 0 0 0 0 w W11 hok h hk hbl hbd hP1 hX11 hcan.1 hcan.2
          go_wp2_with (go_at_call 55; with_reducible refine hat.mono ?_; rintro e w12 ⟨rfl, hL2, hB12⟩)
          have ht8 : Two w12 (w.heap.size + 1 + 1 + 1 + 1) 0 0 := hpt.t8.far (hL2.kept _ (by omega) (by omega))
          have ht9 : Two w12 (w.heap.size + 1 + 1 + 1 + 1 + 1) 0 0 := hpt.t9.far (hL2.kept _ (by omega) (by omega))
          replace ht8 := ht8.drew
          replace ht9 := ht9.drew
          clear hP1 hX11 hat hpt
          refine wp_region_late [] (fun w9 => Box4 w9 wr.heap.size (((wX m k (hullL PL)).ends bl).1) (((wX m k (hullL PL)).ends bl).2) (((wY m k (hullL PL)).ends bl).1) (((wY m k (hullL PL)).ends bl).2) ∧ Below w.heap.size w w9) (fun w9 => True) (by kernel_rfl) ?_ (fun hHeld => ?_)
          · (exact ⟨⟨hB12.drew, hL2.old.drew⟩, trivial⟩)
          generalize w12.drew = V15 at hHeld ht8 ht9 ⊢
          refine tk1 0 rfl hHeld ?_
          refine tk2 1 rfl (by (intro w9 hSw; obtain ⟨z0, z1, z2, z3, z4, z5, z6, z7⟩ := hSw.1; clear hSw; go_simp) <;> with_reducible rfl) hHeld ?_
          refine tk1 2 rfl hHeld ?_
          refine tk2 3 rfl (by (intro w9 hSw; obtain ⟨z0, z1, z2, z3, z4, z5, z6, z7⟩ := hSw.1; clear hSw; go_simp) <;> with_reducible rfl) hHeld ?_
          refine rd1 4 rfl (fun K hK => ?_)
          have c0 := ht8.k0
          have c1 := ht8.k1
          have x0 := ht8.f0
          have x1 := ht8.f1
          go_simp
          clear c0 c1 x0 x1
          have hK4 : Box4 _ wr.heap.size (((wX m k (hullL PL)).ends bl).1) (((wX m k (hullL PL)).ends bl).2) (((wY m k (hullL PL)).ends bl).1) (((wY m k (hullL PL)).ends bl).2) ∧ Below w.heap.size w _ := ⟨hHeld.1.1.far ((Below.heap_setCell _ ⟨w.heap.size + 1 + 1 + 1 + 1, 1, none⟩ (.int .i64 (((wX m k (hullL PL)).ends bl).2)) wr.heap.size (by show wr.heap.size ≠ w.heap.size + 1 + 1 + 1 + 1; omega)).trans (Below.heap_setCell _ ⟨w.heap.size + 1 + 1 + 1 + 1, 0, none⟩ (.int .i64 (((wX m k (hullL PL)).ends bl).1)) wr.heap.size (by show wr.heap.size ≠ w.heap.size + 1 + 1 + 1 + 1; omega))), (hHeld.1.2.setCell (p := ⟨w.heap.size + 1 + 1 + 1 + 1, 0, none⟩) (by show w.heap.size ≤ w.heap.size + 1 + 1 + 1 + 1; omega) (.int .i64 (((wX m k (hullL PL)).ends bl).1))).setCell (p := ⟨w.heap.size + 1 + 1 + 1 + 1, 1, none⟩) (by show w.heap.size ≤ w.heap.size + 1 + 1 + 1 + 1; omega) (.int .i64 (((wX m k (hullL PL)).ends bl).2))⟩
          replace ht8 := ht8.set01 (((wX m k (hullL PL)).ends bl).1) (((wX m k (hullL PL)).ends bl).2)
          replace ht9 := ht9.far2 (P := w.heap.size + 1 + 1 + 1 + 1) (by omega) (.int .i64 (((wX m k (hullL PL)).ends bl).1)) (.int .i64 (((wX m k (hullL PL)).ends bl).2))
          refine hK.out _ _ ?_ (fun hHeld => ?_)
          · (exact ⟨hK4, trivial⟩)
          clear hK K
          (try simp only [Act.put, xpA, xpZ, xpS])
          refine rd1 5 rfl (fun K hK => ?_)
          have c0 := ht9.k0
          have c1 := ht9.k1
          have x0 := ht9.f0
          have x1 := ht9.f1
          go_simp
          clear c0 c1 x0 x1
          have hK4 : Box4 _ wr.heap.size (((wX m k (hullL PL)).ends bl).1) (((wX m k (hullL PL)).ends bl).2) (((wY m k (hullL PL)).ends bl).1) (((wY m k (hullL PL)).ends bl).2) ∧ Below w.heap.size w _ := ⟨hHeld.1.1.far ((Below.heap_setCell _ ⟨w.heap.size + 1 + 1 + 1 + 1 + 1, 1, none⟩ (.int .i64 (((wY m k (hullL PL)).ends bl).2)) wr.heap.size (by show wr.heap.size ≠ w.heap.size + 1 + 1 + 1 + 1 + 1; omega)).trans (Below.heap_setCell _ ⟨w.heap.size + 1 + 1 + 1 + 1 + 1, 0, none⟩ (.int .i64 (((wY m k (hullL PL)).ends bl).1)) wr.heap.size (by show wr.heap.size ≠ w.heap.size + 1 + 1 + 1 + 1 + 1; omega))), (hHeld.1.2.setCell (p := ⟨w.heap.size + 1 + 1 + 1 + 1 + 1, 0, none⟩) (by show w.heap.size ≤ w.heap.size + 1 + 1 + 1 + 1 + 1; omega) (.int .i64 (((wY m k (hullL PL)).ends bl).1))).setCell (p := ⟨w.heap.size + 1 + 1 + 1 + 1 + 1, 1, none⟩) (by show w.heap.size ≤ w.heap.size + 1 + 1 + 1 + 1 + 1; omega) (.int .i64 (((wY m k (hullL PL)).ends bl).2))⟩
          replace ht9 := ht9.set01 (((wY m k (hullL PL)).ends bl).1) (((wY m k (hullL PL)).ends bl).2)
          replace ht8 := ht8.far2 (P := w.heap.size + 1 + 1 + 1 + 1 + 1) (by omega) (.int .i64 (((wY m k (hullL PL)).ends bl).1)) (.int .i64 (((wY m k (hullL PL)).ends bl).2))
          refine hK.out _ _ ?_ (fun hHeld => ?_)
          · (exact ⟨hK4, trivial⟩)
          clear hK K
          (try simp only [Act.put, xpA, xpZ, xpS])
          refine tk1 6 rfl hHeld ?_
          refine wpAnyP_done (by kernel_rfl) ?_ _
          (try simp only [Act.put, List.getElem_toArray, List.getElem_cons_zero, List.getElem_cons_succ, xpA, xpZ, xpS])
          have hO := hHeld.1.2
          clear hHeld
          generalize (((V15.setCell ⟨w.heap.size + 1 + 1 + 1 + 1, 0, none⟩ (.int .i64 (((wX m k (hullL PL)).ends bl).1))).setCell ⟨w.heap.size + 1 + 1 + 1 + 1, 1, none⟩ (.int .i64 (((wX m k (hullL PL)).ends bl).2))).setCell ⟨w.heap.size + 1 + 1 + 1 + 1 + 1, 0, none⟩ (.int .i64 (((wY m k (hullL PL)).ends bl).1))).setCell ⟨w.heap.size + 1 + 1 + 1 + 1 + 1, 1, none⟩ (.int .i64 (((wY m k (hullL PL)).ends bl).2)) = W15 at hO ht8 ht9 ⊢
          go_wp2
          refine bodyPost_ret (v := .tuple #[.agg #[.int .i64 (((wX m k (hullL PL)).ends bl).1), .int .i64 (((wX m k (hullL PL)).ends bl).2)], .agg #[.int .i64 (((wY m k (hullL PL)).ends bl).1), .int .i64 (((wY m k (hullL PL)).ends bl).2)], .int .i64 0]) (by simp [results, Tryz.results19, go_sem, ht8.k0, ht8.k1, ht9.k0, ht9.k1]) rfl ⟨PL, hPL, .inl ⟨hcan, rfl⟩, hO⟩
        · have hat := attempt_ruleP m m.axX.ends m.axY.ends g (w.heap.size + 1 + 1) gof (w.heap.size + 1 + 1 + 1) wr.heap.size k bl (hullL PL) 0 0 0 0 w W11 hok h hk hbl hbd hP1 hX11 hcan
          go_wp2_with (go_at_call 55; with_reducible refine hat.mono ?_; rintro e w12 ⟨rfl, hL2⟩; have ht8 : Two w12 (w.heap.size + 1 + 1 + 1 + 1) 0 0 := hpt.t8.far (hL2.kept _ (by omega) (by omega)); have ht9 : Two w12 (w.heap.size + 1 + 1 + 1 + 1 + 1) 0 0 := hpt.t9.far (hL2.kept _ (by omega) (by omega)); have a0 := ht8.k0; have a1 := ht8.k1; have a2 := ht8.f0; have a3 := ht8.f1; have a4 := ht9.k0; have a5 := ht9.k1; have a6 := ht9.f0; have a7 := ht9.f1)
          have hO := (((hL2.old.setCell (p := ⟨w.heap.size + 1 + 1 + 1 + 1, 0, none⟩) (by show w.heap.size ≤ w.heap.size + 1 + 1 + 1 + 1; omega) (.int .i64 0)).setCell (p := ⟨w.heap.size + 1 + 1 + 1 + 1, 1, none⟩) (by show w.heap.size ≤ w.heap.size + 1 + 1 + 1 + 1; omega) (.int .i64 0)).setCell (p := ⟨w.heap.size + 1 + 1 + 1 + 1 + 1, 0, none⟩) (by show w.heap.size ≤ w.heap.size + 1 + 1 + 1 + 1 + 1; omega) (.int .i64 0)).setCell (p := ⟨w.heap.size + 1 + 1 + 1 + 1 + 1, 1, none⟩) (by show w.heap.size ≤ w.heap.size + 1 + 1 + 1 + 1 + 1; omega) (.int .i64 0)
          have hS8 := (ht8.set01 0 0).far2 (P := w.heap.size + 1 + 1 + 1 + 1 + 1) (by omega) (.int .i64 0) (.int .i64 0)
          have hS9 := (ht9.far2 (P := w.heap.size + 1 + 1 + 1 + 1) (by omega) (.int .i64 0) (.int .i64 0)).set01 0 0
          clear a0 a1 a2 a3 a4 a5 a6 a7 ht8 ht9 hL2
          generalize (((w12.setCell ⟨w.heap.size + 1 + 1 + 1 + 1, 0, none⟩ (.int .i64 0)).setCell ⟨w.heap.size + 1 + 1 + 1 + 1, 1, none⟩ (.int .i64 0)).setCell ⟨w.heap.size + 1 + 1 + 1 + 1 + 1, 0, none⟩ (.int .i64 0)).setCell ⟨w.heap.size + 1 + 1 + 1 + 1 + 1, 1, none⟩ (.int .i64 0) = W15 at hO hS8 hS9 ⊢
          refine bodyPost_ret (v := .tuple #[.agg #[.int .i64 0, .int .i64 0], .agg #[.int .i64 0, .int .i64 0], .int .i64 7]) (by simp [results, Tryz.results19, go_sem, hS8.k0, hS8.k1, hS9.k0, hS9.k1]) rfl ⟨PL, hPL, .inr ⟨hcan, rfl⟩, hO⟩
end Go.Proofs.YtjhpklolpmaopaaGreatDoor
