/- A part of the proof: see the last file. -/
import Derived.Test.YtbgjocgjmjkneaaGreatDoorPan
import Derived.Test.YtbgjocgjmjkneaaGreatDoorPal
import Derived.Test.YtbgjocgjmjkneaaGreatDoorPaa
import Derived.Test.YtbgjocgjmjkneaaGreatDoorPaf
import Derived.Test.YtbgjocgjmjkneaaGreatDoorPab
import Derived.Test.YtbgjocgjmjkneaaGreatDoorPah
import Derived.Test.YtbgjocgjmjkneaaGreatDoorPae
set_option linter.unusedVariables false
set_option linter.unusedSimpArgs false
set_option linter.unusedSectionVars false
namespace Go.Proofs.YtbgjocgjmjkneaaGreatDoor
open Go.RowKit
/-- what stays while Gauge goes through the blanks. -/
structure GX (w W : World) (n sb so cap cb b1 o1 k1 bm kk g t : Nat) (SX SY HX HY : Nat → Int) (r : Int) (L : List Value) (Q : Int → Int → Bool) : Prop where
  old : Below w.heap.size w W
  tg : TrialG W n sb so cap cb b1 o1 k1 SX SY HX HY r
  gm : GoodAt W bm kk Q
  st : SAt W g L
  t0 : W.cell? ⟨t, 0, none⟩ = some (.slice (some ⟨sb, so, none⟩) n cap)
  t1 : W.cell? ⟨t, 1, none⟩ = some (.func (.func 123) #[] #[.pointer (some ⟨cb, 0, none⟩)])
  t2 : W.cell? ⟨t, 2, none⟩ = some (.map (some bm))
  lg : g < bm
  lt : bm < t
  big : t < W.heap.size
  ls : sb < bm
  l1 : b1 < bm
  lc : cb < bm
  lw : w.heap.size ≤ bm
theorem GX.below {w W W' : World} {n sb so cap cb b1 o1 k1 bm kk g t : Nat} {SX SY HX HY : Nat → Int} {r : Int} {L : List Value} {Q : Int → Int → Bool} (h : GX w W n sb so cap cb b1 o1 k1 bm kk g t SX SY HX HY r L Q) (hb : Below W.heap.size W W') : GX w W' n sb so cap cb b1 o1 k1 bm kk g t SX SY HX HY r L Q := by
  have h1 := h.lg; have h2 := h.lt; have h3 := h.big
  exact ⟨h.old.trans (hb.mono h.old.size), h.tg.below hb, h.gm.below hb h.gm.lt, h.st.below hb (by omega), (hb.cell (p := ⟨t, 0, none⟩) h3).trans h.t0, (hb.cell (p := ⟨t, 1, none⟩) h3).trans h.t1, (hb.cell (p := ⟨t, 2, none⟩) h3).trans h.t2, h1, h2, Nat.lt_of_lt_of_le h3 hb.size, h.ls, h.l1, h.lc, h.lw⟩
theorem GX.grown {w W W' : World} {n sb so cap cb b1 o1 k1 bm kk kk' g t : Nat} {SX SY HX HY : Nat → Int} {r : Int} {L : List Value} {Q : Int → Int → Bool} (h : GX w W n sb so cap cb b1 o1 k1 bm kk g t SX SY HX HY r L Q) (hg : W.grownBy W' (some bm)) (hgm : GoodAt W' bm kk' Q) : GX w W' n sb so cap cb b1 o1 k1 bm kk' g t SX SY HX HY r L Q := by
  have h1 := h.lg; have h2 := h.lt; have h3 := h.big; have h4 := h.lw; have h5 := h.old.size
  have c : ∀ j, W'.cell? ⟨t, j, none⟩ = W.cell? ⟨t, j, none⟩ := fun j => World.cell?_of_block (hg.block t h3 (by intro e; injection e; omega))
  exact ⟨h.old.grown hg h5 (fun k e => by cases e; exact h4), h.tg.grown hg h.ls h.l1 h.lc, hgm, h.st.far (hg.block g (by omega) (by intro e; injection e; omega)), (c _).trans h.t0, (c _).trans h.t1, (c _).trans h.t2, h1, h2, Nat.lt_of_lt_of_le h3 hg.size, h.ls, h.l1, h.lc, h.lw⟩
theorem GX.mono {w W : World} {n sb so cap cb b1 o1 k1 bm kk kk' g t : Nat} {SX SY HX HY : Nat → Int} {r : Int} {L : List Value} {Q : Int → Int → Bool} (h : GX w W n sb so cap cb b1 o1 k1 bm kk g t SX SY HX HY r L Q) (hk : kk ≤ kk') : GX w W n sb so cap cb b1 o1 k1 bm kk' g t SX SY HX HY r L Q :=
  ⟨h.old, h.tg, h.gm.mono hk, h.st, h.t0, h.t1, h.t2, h.lg, h.lt, h.big, h.ls, h.l1, h.lc, h.lw⟩
end Go.Proofs.YtbgjocgjmjkneaaGreatDoor
namespace Go.Proofs.YtbgjocgjmjkneaaGreatDoor
open Go.RowKit
/-- a machine and a button in blocks of their own. -/
structure SB (w W : World) (m : Mach) (v1 : Value) (r : Int) : Prop where
  c0 : W.cell? ⟨w.heap.size + 1, 0, none⟩ = some v1
  c1 : W.cell? ⟨w.heap.size + 1, 1, none⟩ = some (.int .i64 r)
  mach : MAt W w.heap.size m
  old : Below w.heap.size w W
  big : w.heap.size + 2 ≤ W.heap.size
theorem SB.below {w W W' : World} {m : Mach} {v1 : Value} {r : Int} (h : SB w W m v1 r) (hb : Below W.heap.size W W') : SB w W' m v1 r := by
  have := h.big
  exact ⟨(hb.cell (p := ⟨w.heap.size + 1, 0, none⟩) (by show w.heap.size + 1 < _; omega)).trans h.c0, (hb.cell (p := ⟨w.heap.size + 1, 1, none⟩) (by show w.heap.size + 1 < _; omega)).trans h.c1, h.mach.below hb (by omega), h.old.trans (hb.mono (by omega)), Nat.le_trans h.big hb.size⟩
theorem SB.alloc {w W : World} {m : Mach} {v1 : Value} {r : Int} (h : SB w W m v1 r) (o : Obj) : SB w (W.alloc o) m v1 r := h.below ((Below.refl _ _).alloc (Nat.le_refl _) o)
theorem SB.drew {w W : World} {m : Mach} {v1 : Value} {r : Int} (h : SB w W m v1 r) : SB w W.drew m v1 r := h.below (Below.refl _ _).drew
theorem SB.put {w W : World} {m : Mach} {v1 : Value} {r : Int} (h : SB w W m v1 r) {g : Nat} (hg : w.heap.size + 2 ≤ g) (L : List Value) : SB w (W.setCells g 0 L) m v1 r := by
  have hl := h.big
  have hbl : Below (w.heap.size + 2) W (W.setCells g 0 L) := below_setCells hg L 0 W (Below.refl _ _)
  exact ⟨(hbl.cell (p := ⟨w.heap.size + 1, 0, none⟩) (by show w.heap.size + 1 < _; omega)).trans h.c0, (hbl.cell (p := ⟨w.heap.size + 1, 1, none⟩) (by show w.heap.size + 1 < _; omega)).trans h.c1, h.mach.below hbl (by omega), below_setCells (by omega) L 0 W h.old, by rw [size_setCells]; exact hl⟩
theorem SB.grown {w W W' : World} {m : Mach} {v1 : Value} {r : Int} {b : Nat} (h : SB w W m v1 r) (hg : W.grownBy W' (some b)) (hb : w.heap.size + 2 ≤ b) : SB w W' m v1 r := by
  have hl := h.big
  have hbl : Below (w.heap.size + 2) W W' := (Below.refl _ _).grown hg hl fun k e => by cases e; exact hb
  exact ⟨(hbl.cell (p := ⟨w.heap.size + 1, 0, none⟩) (by show w.heap.size + 1 < _; omega)).trans h.c0, (hbl.cell (p := ⟨w.heap.size + 1, 1, none⟩) (by show w.heap.size + 1 < _; omega)).trans h.c1, h.mach.below hbl (by omega), h.old.trans (hbl.mono (by omega)), Nat.le_trans hl hg.size⟩
theorem SB.new (w : World) (m : Mach) (v1 : Value) (r : Int) : SB w ((w.alloc (.cells #[.slice m.sa m.sn m.sc, .int .i64 m.c0, .int .i64 m.c1, .int .i64 m.d0, .int .i64 m.d1, .int .i64 m.w0, .int .i64 m.w1, .int .i64 m.v0, .int .i64 m.v1, .slice m.ra m.rn m.rc] 33)).alloc (Obj.cells #[v1, .int .i64 r] 25)) m v1 r := by
  have h := (MAt.new w m).below ((Below.refl _ _).alloc (Nat.le_refl _) (Obj.cells #[v1, .int .i64 r] 25)) (by rw [World.size_alloc]; omega)
  have c := fun j u (hj : (#[v1, .int .i64 r] : Array Value)[j]? = some u) => cells_new (w.alloc (.cells #[.slice m.sa m.sn m.sc, .int .i64 m.c0, .int .i64 m.c1, .int .i64 m.d0, .int .i64 m.d1, .int .i64 m.w0, .int .i64 m.w1, .int .i64 m.v0, .int .i64 m.v1, .slice m.ra m.rn m.rc] 33)) #[v1, .int .i64 r] 25 hj
  rw [World.size_alloc] at c
  exact ⟨c 0 _ rfl, c 1 _ rfl, h, ((Below.refl _ _).alloc (Nat.le_refl _) _).alloc (by rw [World.size_alloc]; omega) _, by rw [World.size_alloc, World.size_alloc]; omega⟩
/-- a button is as defined. -/
def butB (n : Nat) (X Y : Nat → Int) (r : Int) : Bool := arB n 2 X Y 80 && inB r 0 4
theorem but_parts {n : Nat} {X Y : Nat → Int} {r : Int} (h : butB n X Y r = true) : (2 ≤ n ∧ n ≤ 4) ∧ (0 ≤ r ∧ r ≤ 4) ∧ (∀ i, i < n → small (X i, Y i)) := by
  unfold butB arB at h
  simp only [Bool.and_eq_true] at h
  obtain ⟨⟨h1, h2⟩, h3⟩ := h
  have h1 := inB_iff.1 h1
  refine ⟨⟨by omega, by omega⟩, inB_iff.1 h3, fun i hi => ?_⟩
  have := allB_iff.1 h2 i hi
  unfold ptB at this
  rw [Bool.and_eq_true, inB_iff, inB_iff] at this
  exact this
set_option maxRecDepth 100000 in
set_option maxHeartbeats 1000000 in
theorem isOf_any (v1 : Value) (a1 : Option Addr) (n c1 : Nat) (r : Int) (HX HY : Nat → Int) (m : Mach) (w : World) (hv : v1 = .slice a1 n c1) (hn : n ≤ 1000) (hs : m.sn ≤ 9223372036854775807) (hp : PSl w v1 n HX HY) :
    Calls Tryz.prog 49 #[.agg #[v1, .int .i64 r], m.val] w fun e w' => e = .returned (.bool (butB n HX HY r && decide (n = m.sn))) ∧ Below w.heap.size w w' := by
  subst hv
  obtain ⟨W0, hW0⟩ : ∃ W0, (w.alloc (Obj.cells #[.slice a1 n c1, .int .i64 r] 25)).alloc (.cells #[.slice m.sa m.sn m.sc, .int .i64 m.c0, .int .i64 m.c1, .int .i64 m.d0, .int .i64 m.d1, .int .i64 m.w0, .int .i64 m.w1, .int .i64 m.v0, .int .i64 m.v1, .slice m.ra m.rn m.rc] 33) = W0 := ⟨_, rfl⟩
  have hb0 : Below w.heap.size w W0 := by rw [← hW0]; exact ((Below.refl _ _).alloc (Nat.le_refl _) _).alloc (by rw [World.size_alloc]; omega) _
  have hsz : W0.heap.size = w.heap.size + 1 + 1 := by rw [← hW0, World.size_alloc, World.size_alloc]
  have c0 : W0.cell? ⟨w.heap.size, 0, none⟩ = some (.slice a1 n c1) := by rw [← hW0]; exact cell_under w _ _ _ _ rfl
  have c1' : W0.cell? ⟨w.heap.size, 1, none⟩ = some (.int .i64 r) := by rw [← hW0]; exact cell_under w _ _ _ _ rfl
  have d0 : W0.cell? ⟨w.heap.size + 1, 0, none⟩ = some (.slice m.sa m.sn m.sc) := by
    have := (MAt.new (w.alloc (Obj.cells #[.slice a1 n c1, .int .i64 r] 25)) m).k0
    rw [World.size_alloc] at this; rw [← hW0]; exact this
  have har := are_any (.slice a1 n c1) n 2 HX HY 80 (by omega) (by omega) W0 hn (hp.below hb0)
  have hwi := fun (W : World) => within_any r 0 4 W
  unfold butB
  generalize arB n 2 HX HY 80 = x at har ⊢
  generalize inB r 0 4 = y at hwi ⊢
  go_enter Tryz.func49, Tryz.ntmps49
  cases x
  · go_wp2_with (first | (go_at_call 75; with_reducible refine har.mono ?_; rintro e w1 ⟨rfl, hb1⟩; have p0 := (hb1.cell (p := ⟨w.heap.size, 0, none⟩) (by show w.heap.size < _; omega)).trans c0; have p1 := (hb1.cell (p := ⟨w.heap.size, 1, none⟩) (by show w.heap.size < _; omega)).trans c1'; have q1 := (hb1.cell (p := ⟨w.heap.size + 1, 0, none⟩) (by show w.heap.size + 1 < _; omega)).trans d0) | (go_at_call 47; with_reducible refine (hwi _).mono ?_; rintro e w8 ⟨rfl, rfl⟩))
    go_ret
    exact ⟨rfl, hb0.trans (hb1.mono hb0.size)⟩
  · cases y
    · go_wp2_with (first | (go_at_call 75; with_reducible refine har.mono ?_; rintro e w1 ⟨rfl, hb1⟩; have p0 := (hb1.cell (p := ⟨w.heap.size, 0, none⟩) (by show w.heap.size < _; omega)).trans c0; have p1 := (hb1.cell (p := ⟨w.heap.size, 1, none⟩) (by show w.heap.size < _; omega)).trans c1'; have q1 := (hb1.cell (p := ⟨w.heap.size + 1, 0, none⟩) (by show w.heap.size + 1 < _; omega)).trans d0) | (go_at_call 47; with_reducible refine (hwi _).mono ?_; rintro e w8 ⟨rfl, rfl⟩))
      go_ret
      exact ⟨rfl, hb0.trans (hb1.mono hb0.size)⟩
    · by_cases hnn : n = m.sn
      · subst hnn
        go_wp2_with (first | (go_at_call 75; with_reducible refine har.mono ?_; rintro e w1 ⟨rfl, hb1⟩; have p0 := (hb1.cell (p := ⟨w.heap.size, 0, none⟩) (by show w.heap.size < _; omega)).trans c0; have p1 := (hb1.cell (p := ⟨w.heap.size, 1, none⟩) (by show w.heap.size < _; omega)).trans c1'; have q1 := (hb1.cell (p := ⟨w.heap.size + 1, 0, none⟩) (by show w.heap.size + 1 < _; omega)).trans d0) | (go_at_call 47; with_reducible refine (hwi _).mono ?_; rintro e w8 ⟨rfl, rfl⟩))
        go_ret
        exact ⟨by simp, hb0.trans (hb1.mono hb0.size)⟩
      · have hni : ¬ (n : Int) = (m.sn : Int) := by omega
        go_wp2_with (first | (go_at_call 75; with_reducible refine har.mono ?_; rintro e w1 ⟨rfl, hb1⟩; have p0 := (hb1.cell (p := ⟨w.heap.size, 0, none⟩) (by show w.heap.size < _; omega)).trans c0; have p1 := (hb1.cell (p := ⟨w.heap.size, 1, none⟩) (by show w.heap.size < _; omega)).trans c1'; have q1 := (hb1.cell (p := ⟨w.heap.size + 1, 0, none⟩) (by show w.heap.size + 1 < _; omega)).trans d0) | (go_at_call 47; with_reducible refine (hwi _).mono ?_; rintro e w8 ⟨rfl, rfl⟩))
        go_ret
        exact ⟨by simp [hnn, hni], hb0.trans (hb1.mono hb0.size)⟩
end Go.Proofs.YtbgjocgjmjkneaaGreatDoor
namespace Go.Proofs.YtbgjocgjmjkneaaGreatDoor
open Go.RowKit
set_option maxRecDepth 100000 in
set_option maxHeartbeats 1000000 in
theorem Could_ok (a1 : Option Addr) (c1 : Nat) (r : Int) (HX HY : Nat → Int) (m : Mach) (w : World) (hn : m.sn ≤ 1000) (hr : m.rn ≤ 9223372036854775807) (hp : PSl w (.slice a1 m.sn c1) m.sn HX HY) (h : MIn w m) (hok : m.ok = true) (hc : m.can)
    (hbu : butB m.sn HX HY r = true) (sg : Nat → Bool) (hsg : ∀ k, k ≤ 12 → (sg k = false ↔ ∀ x y, InBox (m.axX.ends k).1 (m.axX.ends k).2 (m.axY.ends k).1 (m.axY.ends k).2 x y → agreeB m.sn HX HY m.SX m.SY r x y = false)) :
    Calls Tryz.prog 13 #[m.val, .agg #[.slice a1 m.sn c1, .int .i64 r]] w fun e w' => ∃ v : Value, e = .returned (.tuple #[v, .int .i64 0]) ∧ w'.ownsRow w.heap.size 3 1 v (blanksTo sg 12).length (iCells (blanksTo sg 12)) ∧ Below w.heap.size w w' := by
  obtain ⟨⟨q1, q2⟩, ⟨q3, q4⟩, q5⟩ := but_parts hbu
  obtain ⟨b1, o1, k1, e1, l1, p1⟩ := PSl_posD hp (by omega)
  cases e1
  obtain ⟨sb, so, k0, e0, lsb, pS⟩ := PSl_posD h.stops (by omega)
  have hsa : PLift (m.sa = some ⟨sb, so, none⟩) := ⟨by injection e0⟩
  clear e0
  have hst := (Mach.ok_parts hok).1
  have hsS : ∀ i, i < m.sn → (-20 ≤ m.SX i ∧ m.SX i ≤ 20) ∧ (-20 ≤ m.SY i ∧ m.SY i ≤ 20) := fun i hi => by
    unfold Mach.okStops arB at hst
    rw [Bool.and_eq_true, allB_iff] at hst
    have := hst.2 i hi
    unfold ptB at this
    rw [Bool.and_eq_true, inB_iff, inB_iff] at this
    omega
  have hbX := fun k (hk : k ≤ 12) => (by have := Axis.any_bound (Mach.fineX hok) k hk; exact ⟨this.1, this.2.1, by omega⟩ : -48 ≤ (m.axX.ends k).1 ∧ (m.axX.ends k).2 ≤ 48 ∧ (m.axX.ends k).1 ≤ 1000)
  have hbY := fun k (hk : k ≤ 12) => (by have := Axis.any_bound (Mach.fineY hok) k hk; exact ⟨this.1, this.2.1, by omega⟩ : -48 ≤ (m.axY.ends k).1 ∧ (m.axY.ends k).2 ≤ 48 ∧ (m.axY.ends k).1 ≤ 1000)
  obtain ⟨L, er, hE, hC⟩ := examine_any m true w hn hr h
  obtain ⟨hLe, rfl⟩ := hE.ok (by rw [hok]; rfl) hc
  have hif := fun (W : World) (hB : Below w.heap.size w W) => isOf_any (.slice (some ⟨b1, o1, none⟩) m.sn c1) (some ⟨b1, o1, none⟩) m.sn c1 r HX HY m W rfl hn (by omega) (hp.below hB)
  rw [show (butB m.sn HX HY r && decide (m.sn = m.sn)) = true by rw [hbu]; simp] at hif
  obtain ⟨W0, hW0⟩ : ∃ W0, (w.alloc (.cells #[.slice m.sa m.sn m.sc, .int .i64 m.c0, .int .i64 m.c1, .int .i64 m.d0, .int .i64 m.d1, .int .i64 m.w0, .int .i64 m.w1, .int .i64 m.v0, .int .i64 m.v1, .slice m.ra m.rn m.rc] 33)).alloc (Obj.cells #[.slice (some ⟨b1, o1, none⟩) m.sn c1, .int .i64 r] 25) = W0 := ⟨_, rfl⟩
  have hSX : SB w W0 m (.slice (some ⟨b1, o1, none⟩) m.sn c1) r := by rw [← hW0]; exact SB.new w m _ r
  have hal : (#[.slice none 0 0, .int .i64 0, .int .i64 0, .int .i64 0, .int .i64 0, .int .i64 0, .int .i64 0, .int .i64 0, .int .i64 0, .slice none 0 0, .int .i64 0, .int .i64 0, .int .i64 0, .int .i64 0, .int .i64 0, .int .i64 0, .int .i64 0, .int .i64 0, .int .i64 0, .int .i64 0, .int .i64 0, .int .i64 0, .int .i64 0, .int .i64 0, .int .i64 0, .int .i64 0, .int .i64 0, .int .i64 0, .int .i64 0, .int .i64 0, .int .i64 0, .int .i64 0, .int .i64 0, .int .i64 0, .int .i64 0, .int .i64 0, .int .i64 0, .int .i64 0, .int .i64 0, .int .i64 0, .int .i64 0, .int .i64 0, .int .i64 0, .int .i64 0, .int .i64 0, .int .i64 0, .int .i64 0, .int .i64 0, .int .i64 0, .int .i64 0, .int .i64 0, .int .i64 0, .int .i64 0, .int .i64 0, .int .i64 0, .int .i64 0, .int .i64 0, .int .i64 0, .int .i64 0, .int .i64 0, .int .i64 0, .int .i64 0] : Array Value) = zst.toArray := rfl
  have hlz : zst.length = 62 := zM.st_length rfl rfl
  have hlL := hE.length
  have hoL := all_oneCell_toArray hE.one
  have hi0 : (Tryz.prog.info? 96).map (·.size) = some 62 := by kernel_rfl
  have hiL : (Tryz.prog.info? 96).map (·.size) = some L.length := by rw [hlL]; exact hi0
  have hiA : (Tryz.prog.info? 96).map (·.size) = some L.toArray.size := by rw [List.size_toArray, hlL]; exact hi0
  have hS0 := fun (W : World) => SAt.new W zst 96
  have hth := fun (W : World) (g : Nat) (H : SAt W g zst) => H.there 0 L.toArray.size (by rw [List.size_toArray, hlL, hlz]; omega)
  have hfi := fun (W : World) (g : Nat) (H : SAt W g zst) => SAt.fill (L' := L) H (by rw [hlL, hlz])
  have hat : ∀ (j : Nat) (W : World), j < 12 → Calls Tryz.prog 64 #[.agg L.toArray, .int .i64 ((j : Int) + 1)] W fun e w' => e = .returned (.agg #[.int .i64 (m.axX.ends (j + 1)).1, .int .i64 (m.axX.ends (j + 1)).2, .int .i64 (m.axY.ends (j + 1)).1, .int .i64 (m.axY.ends (j + 1)).2]) ∧ Below W.heap.size W w' := fun j W hj => by
    obtain ⟨x0, x1⟩ := st_atX m m.axX.ends m.axY.ends (j + 1) (by omega)
    obtain ⟨x2, x3⟩ := st_atY m m.axX.ends m.axY.ends (j + 1) (by omega)
    rw [← hLe] at x0 x1 x2 x3
    have := at_any L (j + 1) (by omega) _ _ _ _ W x0 x1 x2 x3
    rw [show ((j + 1 : Nat) : Int) = (j : Int) + 1 by omega] at this
    exact this
  have hLm : ∀ (j : Nat) (u : Value), m.cells[j]? = some u → L[j]? = some u := fun j u h => by
    rw [hLe]
    unfold Mach.st
    rw [List.getElem?_append_left (by exact (List.getElem?_eq_some_iff.1 h).1)]
    exact h
  have hco := fun (V : World) (hO : Below w.heap.size w V) => could_any m L m.axX.ends m.axY.ends b1 o1 c1 sb so r HX HY sg V hsa.down hLm hat hlL (pS.below hO lsb) (p1.below hO l1) (Nat.lt_of_lt_of_le lsb hO.size) (Nat.lt_of_lt_of_le l1 hO.size) q3 (by omega) q1 q2 hsS q5 hbX hbY hsg
  clear hi0 hE hLe hat hLm hsg hbX hbY
  generalize zst = Z at *
  go_enter Tryz.func13, Tryz.ntmps13
  go_wp2_with fail
  rename_i Q' K hKK
  have fin : ∀ (g : Nat) (V : World), SB w V m (.slice (some ⟨b1, o1, none⟩) m.sn c1) r → SAt V g L → w.heap.size + 2 ≤ g → g < V.heap.size → K { tmps := #[m.val, .agg #[.slice (some ⟨b1, o1, none⟩) m.sn c1, .int .i64 r], .pointer (some ⟨w.heap.size, 0, none⟩), .pointer (some ⟨w.heap.size + 1, 0, none⟩), .slice none 0 0, .int .i64 0, .pointer (some ⟨g, 0, none⟩), .int .i64 0, .tuple #[.agg L.toArray, .int .i64 0], m.val, .agg #[.slice (some ⟨b1, o1, none⟩) m.sn c1, .int .i64 r], m.val, .bool true, .tuple #[.agg L.toArray, .int .i64 0], .agg L.toArray, .int .i64 0, undef, undef, undef, undef, undef, undef], defers := [] } V := by
    intro g V hX hS hg1 hg2
    refine hKK _ _ ?_
    have hgo := hco V hX.old
    have hO := hX.old
    have hz := hO.size
    clear hif hC hSX hW0 hS0 hth hfi hco
    have z0 := hX.c0
    have z1 := hX.c1
    have hrg := hS.c
    clear hX
    go_wp2_with (first
      | (go_at_call 51; with_reducible refine hgo.mono ?_; rintro e w3 ⟨v, rfl, hrow, hb3⟩)
      | (with_reducible refine wpList_load_mid rfl 96 _ rfl g 0 rfl L _ hrg Tryz.underlying96 rfl hiL ?_))
    refine bodyPost_ret (v := .tuple #[v, .int .i64 0]) (by simp [results, Tryz.results13, go_sem]) rfl ⟨v, rfl, hrow.mono hz, hO.trans (hb3.mono hz)⟩
  clear hKK hco
  refine wp_region_late [] (fun w9 => SB w w9 m (.slice (some ⟨b1, o1, none⟩) m.sn c1) r) (fun w9 => True) (by kernel_rfl) ?_ (fun hHeld => ?_)
  · (exact ⟨hSX.drew, trivial⟩)
  generalize W0.drew = V at hHeld ⊢
  refine tk0 0 ?_ rfl (Or.inl ⟨by rfl, ?_⟩) hHeld ?_
  rotate_left 1
  · ((intro w9 hSw; have q0 := hSw.mach.k0; have q1 := hSw.mach.k1; have q2 := hSw.mach.k2; have q3 := hSw.mach.k3; have q4 := hSw.mach.k4; have q5 := hSw.mach.k5; have q6 := hSw.mach.k6; have q7 := hSw.mach.k7; have q8 := hSw.mach.k8; have q9 := hSw.mach.k9; clear hSw; go_simp) <;> with_reducible rfl)
  (try simp only [Act.put, pA, pZ, pS])
  refine tk0 1 ?_ rfl (Or.inl ⟨by rfl, ?_⟩) hHeld ?_
  rotate_left 1
  · ((intro w9 hSw; have q0 := hSw.c0; have q1 := hSw.c1; clear hSw; go_simp) <;> with_reducible rfl)
  (try simp only [Act.put, pA, pZ, pS])
  refine tk0 2 ?_ rfl (Or.inl ⟨by rfl, ?_⟩) hHeld ?_
  rotate_left 1
  · ((intro w9 hSw; have q0 := hSw.mach.k0; have q1 := hSw.mach.k1; have q2 := hSw.mach.k2; have q3 := hSw.mach.k3; have q4 := hSw.mach.k4; have q5 := hSw.mach.k5; have q6 := hSw.mach.k6; have q7 := hSw.mach.k7; have q8 := hSw.mach.k8; have q9 := hSw.mach.k9; clear hSw; go_simp) <;> with_reducible rfl)
  (try simp only [Act.put, pA, pZ, pS])
  refine wpAnyP_ready (rs := [3, 8]) (by kernel_rfl) (by simp) ?_
  refine AllReadyP.cons (o := _) rfl (fun K hK => ?_) (AllReadyP.cons (o := _) rfl (fun K hK => ?_) AllReadyP.nil)
  · go_simp
    (go_at_call 49; with_reducible refine (hif _ hHeld.1.old).mono ?_; rintro e w1 ⟨rfl, hb1⟩)
    refine hK.out _ _ ?_ (fun hHeld => ?_)
    · (exact ⟨hHeld.1.below hb1, trivial⟩)
    clear hK K
    (try simp only [Act.put, pA, pZ, pS])
    refine wpAnyP_ready (rs := [4, 8]) (by kernel_rfl) (by simp) ?_
    refine AllReadyP.cons (o := _) rfl (fun K hK => ?_) (AllReadyP.cons (o := _) rfl (fun K hK => ?_) AllReadyP.nil)
    · go_simp
      (go_at_call 50; with_reducible refine (hC _ hHeld.1.old).mono ?_; rintro e w2 ⟨rfl, hb2⟩)
      refine hK.out _ _ ?_ (fun hHeld => ?_)
      · (exact ⟨hHeld.1.below hb2, trivial⟩)
      clear hK K
      (try simp only [Act.put, pA, pZ, pS])
      refine tk0 5 ?_ rfl (Or.inl ⟨by rfl, ?_⟩) hHeld ?_
      rotate_left 1
      · ((intro w9 hSw; clear hSw; go_simp) <;> with_reducible rfl)
      (try simp only [Act.put, pA, pZ, pS])
      refine tk0 6 ?_ rfl (Or.inl ⟨by rfl, ?_⟩) hHeld ?_
      rotate_left 1
      · ((intro w9 hSw; clear hSw; go_simp) <;> with_reducible rfl)
      (try simp only [Act.put, pA, pZ, pS])
      refine tk0 7 ?_ rfl (Or.inl ⟨by rfl, ?_⟩) hHeld ?_
      rotate_left 1
      · ((intro w9 hSw; clear hSw; go_simp) <;> with_reducible rfl)
      (try simp only [Act.put, pA, pZ, pS])
      refine wpAnyP_ready (rs := [8]) (by kernel_rfl) (by simp) ?_
      refine AllReadyP.cons (o := _) rfl (fun K hK => ?_) AllReadyP.nil
      · go_simp
        (try simp only [hal])
        have hZ := hS0 w2
        have hgzz := hHeld.1.big
        refine hK.out _ _ ?_ (fun hHeld => ?_)
        · (exact ⟨hHeld.1.alloc _, trivial⟩)
        clear hK K
        (try simp only [Act.put, pA, pZ, pS])
        refine wpAnyP_ready (rs := [9]) (by kernel_rfl) (by simp) ?_
        refine AllReadyP.cons (o := _) rfl (fun K hK => ?_) AllReadyP.nil
        · refine step_store_mid rfl 96 _ _ rfl w2.heap.size 0 L.toArray rfl rfl (hth _ _ hZ) hiA hoL ?_
          have hL5 := hfi _ _ hZ
          have hK5 := hHeld.1.put hgzz L
          refine hK.out _ _ ?_ (fun hHeld => ?_)
          · (exact ⟨hK5, trivial⟩)
          clear hK K
          (try simp only [Act.put, pA, pZ, pS])
          refine tk0 10 ?_ rfl (Or.inl ⟨by rfl, ?_⟩) hHeld ?_
          rotate_left 1
          · ((intro w9 hSw; clear hSw; go_simp) <;> with_reducible rfl)
          (try simp only [Act.put, pA, pZ, pS])
          refine wpAnyP_done (by kernel_rfl) ?_ _
          (try simp only [Act.put, List.getElem_toArray, List.getElem_cons_zero, List.getElem_cons_succ, pA, pZ, pS])
          have hX9 := hHeld.1
          clear hth hfi hS0 hHeld hC hif
          exact fin _ _ hX9 hL5 (by first | exact hgzz | omega) (hL5.lt (by omega))
    · go_simp
      (try simp only [hal])
      have hZ := hS0 w1
      have hgzz := hHeld.1.big
      refine hK.out _ _ ?_ (fun hHeld => ?_)
      · (exact ⟨hHeld.1.alloc _, trivial⟩)
      clear hK K
      (try simp only [Act.put, pA, pZ, pS])
      refine wpAnyP_ready (rs := [4]) (by kernel_rfl) (by simp) ?_
      refine AllReadyP.cons (o := _) rfl (fun K hK => ?_) AllReadyP.nil
      · go_simp
        (go_at_call 50; with_reducible refine (hC _ hHeld.1.old).mono ?_; rintro e w2 ⟨rfl, hb2⟩)
        replace hZ := hZ.below hb2 (by first | (rw [World.size_alloc]; exact Nat.lt_succ_self _) | (have hz := hb1.size; rw [World.size_alloc] at hz; omega))
        refine hK.out _ _ ?_ (fun hHeld => ?_)
        · (exact ⟨hHeld.1.below hb2, trivial⟩)
        clear hK K
        (try simp only [Act.put, pA, pZ, pS])
        refine tk0 5 ?_ rfl (Or.inl ⟨by rfl, ?_⟩) hHeld ?_
        rotate_left 1
        · ((intro w9 hSw; clear hSw; go_simp) <;> with_reducible rfl)
        (try simp only [Act.put, pA, pZ, pS])
        refine tk0 6 ?_ rfl (Or.inl ⟨by rfl, ?_⟩) hHeld ?_
        rotate_left 1
        · ((intro w9 hSw; clear hSw; go_simp) <;> with_reducible rfl)
        (try simp only [Act.put, pA, pZ, pS])
        refine tk0 7 ?_ rfl (Or.inl ⟨by rfl, ?_⟩) hHeld ?_
        rotate_left 1
        · ((intro w9 hSw; clear hSw; go_simp) <;> with_reducible rfl)
        (try simp only [Act.put, pA, pZ, pS])
        refine wpAnyP_ready (rs := [9]) (by kernel_rfl) (by simp) ?_
        refine AllReadyP.cons (o := _) rfl (fun K hK => ?_) AllReadyP.nil
        · refine step_store_mid rfl 96 _ _ rfl w1.heap.size 0 L.toArray rfl rfl (hth _ _ hZ) hiA hoL ?_
          have hL5 := hfi _ _ hZ
          have hK5 := hHeld.1.put hgzz L
          refine hK.out _ _ ?_ (fun hHeld => ?_)
          · (exact ⟨hK5, trivial⟩)
          clear hK K
          (try simp only [Act.put, pA, pZ, pS])
          refine tk0 10 ?_ rfl (Or.inl ⟨by rfl, ?_⟩) hHeld ?_
          rotate_left 1
          · ((intro w9 hSw; clear hSw; go_simp) <;> with_reducible rfl)
          (try simp only [Act.put, pA, pZ, pS])
          refine wpAnyP_done (by kernel_rfl) ?_ _
          (try simp only [Act.put, List.getElem_toArray, List.getElem_cons_zero, List.getElem_cons_succ, pA, pZ, pS])
          have hX9 := hHeld.1
          clear hth hfi hS0 hHeld hC hif
          exact fin _ _ hX9 hL5 (by first | exact hgzz | omega) (hL5.lt (by omega))
  · go_simp
    (try simp only [hal])
    have hZ := hS0 V
    have hgzz := hHeld.1.big
    refine hK.out _ _ ?_ (fun hHeld => ?_)
    · (exact ⟨hHeld.1.alloc _, trivial⟩)
    clear hK K
    (try simp only [Act.put, pA, pZ, pS])
    refine wpAnyP_ready (rs := [3]) (by kernel_rfl) (by simp) ?_
    refine AllReadyP.cons (o := _) rfl (fun K hK => ?_) AllReadyP.nil
    · go_simp
      (go_at_call 49; with_reducible refine (hif _ hHeld.1.old).mono ?_; rintro e w1 ⟨rfl, hb1⟩)
      replace hZ := hZ.below hb1 (by first | (rw [World.size_alloc]; exact Nat.lt_succ_self _) | (have hz := hb1.size; rw [World.size_alloc] at hz; omega))
      refine hK.out _ _ ?_ (fun hHeld => ?_)
      · (exact ⟨hHeld.1.below hb1, trivial⟩)
      clear hK K
      (try simp only [Act.put, pA, pZ, pS])
      refine wpAnyP_ready (rs := [4]) (by kernel_rfl) (by simp) ?_
      refine AllReadyP.cons (o := _) rfl (fun K hK => ?_) AllReadyP.nil
      · go_simp
        (go_at_call 50; with_reducible refine (hC _ hHeld.1.old).mono ?_; rintro e w2 ⟨rfl, hb2⟩)
        replace hZ := hZ.below hb2 (by first | (rw [World.size_alloc]; exact Nat.lt_succ_self _) | (have hz := hb1.size; rw [World.size_alloc] at hz; omega))
        refine hK.out _ _ ?_ (fun hHeld => ?_)
        · (exact ⟨hHeld.1.below hb2, trivial⟩)
        clear hK K
        (try simp only [Act.put, pA, pZ, pS])
        refine tk0 5 ?_ rfl (Or.inl ⟨by rfl, ?_⟩) hHeld ?_
        rotate_left 1
        · ((intro w9 hSw; clear hSw; go_simp) <;> with_reducible rfl)
        (try simp only [Act.put, pA, pZ, pS])
        refine tk0 6 ?_ rfl (Or.inl ⟨by rfl, ?_⟩) hHeld ?_
        rotate_left 1
        · ((intro w9 hSw; clear hSw; go_simp) <;> with_reducible rfl)
        (try simp only [Act.put, pA, pZ, pS])
        refine tk0 7 ?_ rfl (Or.inl ⟨by rfl, ?_⟩) hHeld ?_
        rotate_left 1
        · ((intro w9 hSw; clear hSw; go_simp) <;> with_reducible rfl)
        (try simp only [Act.put, pA, pZ, pS])
        refine wpAnyP_ready (rs := [9]) (by kernel_rfl) (by simp) ?_
        refine AllReadyP.cons (o := _) rfl (fun K hK => ?_) AllReadyP.nil
        · refine step_store_mid rfl 96 _ _ rfl V.heap.size 0 L.toArray rfl rfl (hth _ _ hZ) hiA hoL ?_
          have hL5 := hfi _ _ hZ
          have hK5 := hHeld.1.put hgzz L
          refine hK.out _ _ ?_ (fun hHeld => ?_)
          · (exact ⟨hK5, trivial⟩)
          clear hK K
          (try simp only [Act.put, pA, pZ, pS])
          refine tk0 10 ?_ rfl (Or.inl ⟨by rfl, ?_⟩) hHeld ?_
          rotate_left 1
          · ((intro w9 hSw; clear hSw; go_simp) <;> with_reducible rfl)
          (try simp only [Act.put, pA, pZ, pS])
          refine wpAnyP_done (by kernel_rfl) ?_ _
          (try simp only [Act.put, List.getElem_toArray, List.getElem_cons_zero, List.getElem_cons_succ, pA, pZ, pS])
          have hX9 := hHeld.1
          clear hth hfi hS0 hHeld hC hif
          exact fin _ _ hX9 hL5 (by first | exact hgzz | omega) (hL5.lt (by omega))
end Go.Proofs.YtbgjocgjmjkneaaGreatDoor
namespace Go.Proofs.YtbgjocgjmjkneaaGreatDoor
open Go.RowKit
/-- the cells of marks: a blank, and two spans. -/
def markCells (f : Nat → Int × Int × Int × Int × Int) : Nat → List Value
  | 0 => []
  | n + 1 => markCells f n ++ [.int .i64 (f n).1, .int .i64 (f n).2.1, .int .i64 (f n).2.2.1, .int .i64 (f n).2.2.2.1, .int .i64 (f n).2.2.2.2]
theorem markCells_len (f : Nat → Int × Int × Int × Int × Int) : ∀ n, (markCells f n).length = n * 5
  | 0 => rfl
  | n + 1 => by rw [markCells, List.length_append, markCells_len f n]; simp; omega
theorem markCells_at (f : Nat → Int × Int × Int × Int × Int) : ∀ {n i : Nat}, i < n → (markCells f n)[i * 5]? = some (.int .i64 (f i).1) ∧ (markCells f n)[i * 5 + 1]? = some (.int .i64 (f i).2.1) ∧ (markCells f n)[i * 5 + 2]? = some (.int .i64 (f i).2.2.1) ∧ (markCells f n)[i * 5 + 3]? = some (.int .i64 (f i).2.2.2.1) ∧ (markCells f n)[i * 5 + 4]? = some (.int .i64 (f i).2.2.2.2)
  | 0, i, h => absurd h (Nat.not_lt_zero i)
  | n + 1, i, h => by
    have hl := markCells_len f n
    unfold markCells
    by_cases hi : i < n
    · obtain ⟨a, b, c, d, e⟩ := markCells_at f hi
      refine ⟨?_, ?_, ?_, ?_, ?_⟩ <;> (rw [List.getElem?_append_left (by omega)]; assumption)
    · obtain rfl : i = n := by omega
      refine ⟨?_, ?_, ?_, ?_, ?_⟩ <;> (rw [List.getElem?_append_right (by omega), hl])
      · rw [show i * 5 - i * 5 = 0 by omega]; rfl
      · rw [show i * 5 + 1 - i * 5 = 1 by omega]; rfl
      · rw [show i * 5 + 2 - i * 5 = 2 by omega]; rfl
      · rw [show i * 5 + 3 - i * 5 = 3 by omega]; rfl
      · rw [show i * 5 + 4 - i * 5 = 4 by omega]; rfl
def Mach.mark (m : Mach) (i : Nat) : Int × Int × Int × Int × Int := (m.RB i, m.RX i - m.RE i, m.RX i + m.RE i, m.RY i - m.RE i, m.RY i + m.RE i)
end Go.Proofs.YtbgjocgjmjkneaaGreatDoor
namespace Go.Proofs.YtbgjocgjmjkneaaGreatDoor
open Go.RowKit
/-- a row of spans, as in a course. -/
theorem own_cat {W : World} {B : Nat} {v : Value} {f : Nat → Int × Int} (h : W.ownsRow B 30 2 v 13 (crsL f 13)) : ∃ g c, v = .slice (some ⟨g, 0, none⟩) 13 c ∧ 13 ≤ c ∧ c ≤ maxLen ∧ B ≤ g ∧ g < W.heap.size ∧ CAt W g f := by
  obtain ⟨_, ⟨_, h0⟩ | ⟨g, cap, cur, rfl, hB, hh, hc, hm, _, hx⟩⟩ := h
  · omega
  · have hg : g < W.heap.size := (Array.getElem?_eq_some_iff.1 hh).1
    have hcell : ∀ j u, (crsL f 13)[j]? = some u → W.cell? ⟨g, j, none⟩ = some u := fun j u hj => by
      rw [← hx, List.getElem?_take] at hj
      split at hj
      · unfold World.cell?
        rw [hh]
        simpa [go_sem] using hj
      · cases hj
    refine ⟨g, cap, rfl, hc, hm, hB, hg, fun j hj => ?_, fun i => ?_⟩
    · obtain ⟨h1, h2⟩ := crsL_at f 13 j hj
      exact ⟨hcell _ _ h1, hcell _ _ h2⟩
    · unfold World.frozen?
      rw [hh]
      simp [go_sem]
/-- rows apart. -/
def Apr (a b : Value) : Prop := ∀ g, a.ownBlock = some g → b.ownBlock ≠ some g
theorem Apr.symm {a b : Value} (h : Apr a b) : Apr b a := fun g h1 h2 => h g h2 h1
/-- two rows of spans. -/
structure R2X (w : World) (B : Nat) (W : World) (n1 n2 : Nat) (p q : Value) (F1 F2 : Nat → Int × Int) : Prop where
  o1 : W.ownsRow B 30 2 p n1 (crsL F1 n1)
  o2 : W.ownsRow B 30 2 q n2 (crsL F2 n2)
  d : Apr p q
  old : Below w.heap.size w W
  low : w.heap.size ≤ B
  big : B ≤ W.heap.size
theorem R2X.swap {w : World} {B : Nat} {W : World} {n1 n2 : Nat} {p q : Value} {F1 F2 : Nat → Int × Int} (h : R2X w B W n1 n2 p q F1 F2) : R2X w B W n2 n1 q p F2 F1 := ⟨h.o2, h.o1, h.d.symm, h.old, h.low, h.big⟩
theorem R2X.below {w : World} {B : Nat} {W W' : World} {n1 n2 : Nat} {p q : Value} {F1 F2 : Nat → Int × Int} (h : R2X w B W n1 n2 p q F1 F2) (hb : Below W.heap.size W W') : R2X w B W' n1 n2 p q F1 F2 :=
  ⟨ownsRow_below h.o1 hb, ownsRow_below h.o2 hb, h.d, h.old.trans (hb.mono h.old.size), h.low, Nat.le_trans h.big hb.size⟩
theorem other_kept2 {W W' : World} {B : Nat} {p q : Value} {n : Nat} {xs : List Value} {e : TypeId} {s : Nat} (h : W.ownsRow B e s q n xs) (hg : W.grownBy W' p.ownBlock) (hd : Apr p q) : W'.ownsRow B e s q n xs := by
  refine h.kept hg ?_
  cases hq : q.ownBlock with
  | none => exact .inl rfl
  | some j =>
    refine .inr fun e => ?_
    rw [← hq] at e
    exact hd j (e ▸ hq) hq
theorem new_apart2 {W : World} {B : Nat} {p q : Value} {n g k c : Nat} {xs : List Value} {e : TypeId} {s : Nat} (h : W.ownsRow B e s q n xs) (hd : Apr p q) (hat : p.ownBlock = some g ∨ g = W.heap.size) : Apr (.slice (some ⟨g, 0, none⟩) k c) q := fun g' hg' hq => by
  simp [Value.ownBlock] at hg'
  subst hg'
  rcases hat with e | e
  · exact hd _ e hq
  · have := (h.lt _ hq).2; omega
theorem R2X.push1 {w : World} {B : Nat} {W W' : World} {n1 n2 : Nat} {p q : Value} {F1 F2 : Nat → Int × Int} (h : R2X w B W n1 n2 p q F1 F2) {g cap : Nat} (hg : W.grownBy W' p.ownBlock)
    (hown : W'.ownsRow B 30 2 (.slice (some ⟨g, 0, none⟩) (n1 + 1) cap) (n1 + 1) (crsL F1 n1 ++ [.int .i64 (F1 n1).1, .int .i64 (F1 n1).2])) (hat : p.ownBlock = some g ∨ g = W.heap.size) : R2X w B W' (n1 + 1) n2 (.slice (some ⟨g, 0, none⟩) (n1 + 1) cap) q F1 F2 :=
  ⟨hown, other_kept2 h.o2 hg h.d, new_apart2 h.o2 h.d hat, h.old.grown hg h.old.size fun k hk => Nat.le_trans h.low (h.o1.lt k hk).1, h.low, Nat.le_trans h.big hg.size⟩
theorem R2X.push2 {w : World} {B : Nat} {W W' : World} {n1 n2 : Nat} {p q : Value} {F1 F2 : Nat → Int × Int} (h : R2X w B W n1 n2 p q F1 F2) {g cap : Nat} (hg : W.grownBy W' q.ownBlock)
    (hown : W'.ownsRow B 30 2 (.slice (some ⟨g, 0, none⟩) (n2 + 1) cap) (n2 + 1) (crsL F2 n2 ++ [.int .i64 (F2 n2).1, .int .i64 (F2 n2).2])) (hat : q.ownBlock = some g ∨ g = W.heap.size) : R2X w B W' n1 (n2 + 1) p (.slice (some ⟨g, 0, none⟩) (n2 + 1) cap) F1 F2 := (h.swap.push1 hg hown hat).swap
/-- marks in memory. -/
def MkPts (w : World) (b off n : Nat) (f : Nat → Int × Int × Int × Int × Int) : Prop := ∀ i, i < n → w.cell? ⟨b, off + i * 5, none⟩ = some (.int .i64 (f i).1) ∧ w.cell? ⟨b, off + i * 5 + 1, none⟩ = some (.int .i64 (f i).2.1) ∧ w.cell? ⟨b, off + i * 5 + 2, none⟩ = some (.int .i64 (f i).2.2.1) ∧ w.cell? ⟨b, off + i * 5 + 3, none⟩ = some (.int .i64 (f i).2.2.2.1) ∧ w.cell? ⟨b, off + i * 5 + 4, none⟩ = some (.int .i64 (f i).2.2.2.2)
theorem MkPts.far {w w' : World} {b off n : Nat} {f : Nat → Int × Int × Int × Int × Int} (h : MkPts w b off n f) (hh : w'.heap[b]? = w.heap[b]?) : MkPts w' b off n f := fun i hi => by
  obtain ⟨h1, h2, h3, h4, h5⟩ := h i hi
  exact ⟨(World.cell?_of_block hh).trans h1, (World.cell?_of_block hh).trans h2, (World.cell?_of_block hh).trans h3, (World.cell?_of_block hh).trans h4, (World.cell?_of_block hh).trans h5⟩
/-- a slice of marks. -/
def MkSl (w : World) (v : Value) (n : Nat) (f : Nat → Int × Int × Int × Int × Int) : Prop := ∃ a c, v = .slice a n c ∧ (0 < n → ∃ b off, a = some ⟨b, off, none⟩ ∧ b < w.heap.size ∧ MkPts w b off n f)
theorem MkSl.below {w w' : World} {v : Value} {n : Nat} {f : Nat → Int × Int × Int × Int × Int} (h : MkSl w v n f) (hb : Below w.heap.size w w') : MkSl w' v n f := by
  obtain ⟨a, c, rfl, h⟩ := h
  refine ⟨a, c, rfl, fun hn => ?_⟩
  obtain ⟨b, off, rfl, hl, h⟩ := h hn
  exact ⟨b, off, rfl, Nat.lt_of_lt_of_le hl hb.size, h.far (hb.block b hl)⟩
theorem own_marks {W : World} {B : Nat} {e : TypeId} {v : Value} {n : Nat} {f : Nat → Int × Int × Int × Int × Int} (h : W.ownsRow B e 5 v n (markCells f n)) : MkSl W v n f := by
  rcases ownsRow_lt h with ⟨rfl, h0⟩ | ⟨g, cap, rfl, hg, hcell⟩
  · exact ⟨none, 0, by rw [h0], fun hn => by omega⟩
  · refine ⟨_, cap, rfl, fun hn => ⟨g, 0, rfl, hg, fun i hi => ?_⟩⟩
    obtain ⟨h1, h2, h3, h4, h5⟩ := markCells_at f hi
    rw [Nat.zero_add]
    exact ⟨hcell _ _ h1, hcell _ _ h2, hcell _ _ h3, hcell _ _ h4, hcell _ _ h5⟩
end Go.Proofs.YtbgjocgjmjkneaaGreatDoor
namespace Go.Proofs.YtbgjocgjmjkneaaGreatDoor
open Go.RowKit
set_option maxRecDepth 100000 in
set_option maxHeartbeats 400000 in
theorem rcommon_any (a0 a1 b0 b1 : Int) (w : World) :
    Calls Tryz.prog 97 #[.agg #[.int .i64 a0, .int .i64 a1], .agg #[.int .i64 b0, .int .i64 b1]] w fun e w' => e = .returned (.agg #[.int .i64 (max a0 b0), .int .i64 (min a1 b1)]) ∧ Below w.heap.size w w' := by
  go_enter Tryz.func97, Tryz.ntmps97
  go_wp2
  all_goals
    refine bodyPost_ret (v := .agg #[.int .i64 (max a0 b0), .int .i64 (min a1 b1)]) (by simp [results, Tryz.results97, go_sem] <;> omega) rfl ⟨rfl, ?_⟩
    exact (((Below.refl _ _).alloc (Nat.le_refl _) _).alloc (by simp) _).alloc (by simp; omega) _
end Go.Proofs.YtbgjocgjmjkneaaGreatDoor
namespace Go.Proofs.YtbgjocgjmjkneaaGreatDoor
open Go.RowKit
/-- what stays while the reference's axis works: the chuck's and the wear's spans, in blocks of their own; g is the block of the list. -/
structure AxR (w : World) (g : Nat) (c0 c1 w0 w1 : Int) (W : World) : Prop where
  t1 : Two W w.heap.size c0 c1
  t2 : Two W (w.heap.size + 1) w0 w1
  old : Below w.heap.size w W
  lo : w.heap.size + 2 ≤ g
  hi : g < W.heap.size
theorem addr_add (b off j : Nat) : (⟨b, off, none⟩ : Addr).add j = ⟨b, off + j, none⟩ := by simp [Addr.add]
theorem AxR.below {w : World} {g : Nat} {c0 c1 w0 w1 : Int} {W W' : World} (h : AxR w g c0 c1 w0 w1 W) (hb : Below W.heap.size W W') : AxR w g c0 c1 w0 w1 W' :=
  have h1 := h.lo; have h2 := h.hi
  ⟨h.t1.below hb (by omega), h.t2.below hb (by omega), h.old.trans (hb.mono h.old.size), h.lo, Nat.lt_of_lt_of_le h.hi hb.size⟩
theorem AxR.store {w : World} {g : Nat} {c0 c1 w0 w1 : Int} {W : World} (h : AxR w g c0 c1 w0 w1 W) (o1 o2 : Nat) (x y : Value) : AxR w g c0 c1 w0 w1 ((W.setCell ⟨g, o1, none⟩ x).setCell ⟨g, o2, none⟩ y) := by
  have h1 := h.lo
  have k : ∀ A, A ≠ g → ((W.setCell ⟨g, o1, none⟩ x).setCell ⟨g, o2, none⟩ y).heap[A]? = W.heap[A]? := fun A hA => (Below.heap_setCell _ ⟨g, o2, none⟩ y A hA).trans (Below.heap_setCell W ⟨g, o1, none⟩ x A hA)
  exact ⟨h.t1.far (k _ (by omega)), h.t2.far (k _ (by omega)), (h.old.setCell (p := ⟨g, o1, none⟩) (by show w.heap.size ≤ g; omega) _).setCell (p := ⟨g, o2, none⟩) (by show w.heap.size ≤ g; omega) _, h.lo, by rw [World.size_setCell, World.size_setCell]; exact h.hi⟩
theorem CAt.congr {W : World} {C : Nat} {f g : Nat → Int × Int} (h : CAt W C f) (hfg : ∀ j, j < 13 → f j = g j) : CAt W C g := ⟨fun j hj => by rw [← hfg j hj]; exact h.c j hj, h.z⟩
set_option maxRecDepth 100000 in
set_option maxHeartbeats 8000000 in
theorem raxis_any (a : Axis) (g0 cap0 : Nat) (f : Nat → Int × Int) (w : World) (hf : a.fine) (hg0 : g0 < w.heap.size) (hC0 : CAt w g0 f) (hfk : ∀ k, k ≤ 12 → f k = nar (k : Int) a.cl a.n (-1000, 1000)) (hcap : 13 ≤ cap0) (hcap2 : cap0 ≤ maxLen) :
    Calls Tryz.prog 98 #[.agg #[.int .i64 a.c0, .int .i64 a.c1], .agg #[.int .i64 a.w0, .int .i64 a.w1], .slice (some ⟨g0, 0, none⟩) 13 cap0] w fun e w' => ((a.can ∧ ∃ g c, e = .returned (.tuple #[.slice (some ⟨g, 0, none⟩) 13 c, .bool true]) ∧ w.heap.size ≤ g ∧ g < w'.heap.size ∧ CAt w' g a.ends) ∨ (¬ a.can ∧ e = .returned (.tuple #[.slice none 0 0, .bool false]))) ∧ Below w.heap.size w w' := by
  obtain ⟨i0, hi, hz0, hz1, hz2⟩ := info_parts Tryz.info30
  have hfw := Axis.fwd_bound hf
  have hab := Axis.any_bound hf
  obtain ⟨W0, hW⟩ : ∃ W0, (w.alloc (Obj.cells #[.int .i64 a.c0, .int .i64 a.c1] 30)).alloc (Obj.cells #[.int .i64 a.w0, .int .i64 a.w1] 30) = W0 := ⟨_, rfl⟩
  have hb0 : Below w.heap.size w W0 := by rw [← hW]; exact ((Below.refl _ _).alloc (Nat.le_refl _) _).alloc (by rw [World.size_alloc]; omega) _
  have hsz : W0.heap.size = w.heap.size + 2 := by rw [← hW, World.size_alloc, World.size_alloc]
  have ht1 : Two W0 w.heap.size a.c0 a.c1 := by rw [← hW]; exact (Two.new w _ _ _).below ((Below.refl (w.heap.size + 1) _).alloc (by rw [World.size_alloc]; omega) _) (by omega)
  have ht2 : Two W0 (w.heap.size + 1) a.w0 a.w1 := by
    have h := Two.new (w.alloc (Obj.cells #[.int .i64 a.c0, .int .i64 a.c1] 30)) 30 a.w0 a.w1
    rw [World.size_alloc, hW] at h; exact h
  have hC1 := hC0.below hb0 hg0
  have hown0 : W0.ownsRow (w.heap.size + 2) 30 2 (.slice none 0 0) 0 [] := ⟨rfl, .inl ⟨rfl, rfl⟩⟩
  go_enter Tryz.func98, Tryz.ntmps98
  subst hW
  go_wp2_with (at_builtin; refine wpList_append_own _ rfl _ _ 103 rfl (w.heap.size + 2) 30 i0 (.agg #[.int .i64 0, .int .i64 0]) 2 16 Tryz.underlying103 hi hz0 hz1 hz2 rfl (by decide) _ 0 [] rfl hown0 ⟨g0, 0, none⟩ 13 cap0 (crsL f 13) rfl ?c0 ?c1 ?c2 ?c3 ?c4 ?c5 ?_)
  case c0 => rw [crsL_length]
  case c1 => exact fun j u hj => by rw [addr_add]; exact cat_range hC1 j u hj
  case c2 => exact crsL_one f 13
  case c3 => unfold maxLen; omega
  case c4 => omega
  case c5 => omega
  intro v3 w3 hown3 hgrow _
  obtain ⟨g, cap, rfl, hc13, hcm, hgl, hgs, hCg⟩ := own_cat (by simpa using hown3)
  have hb3 := (Below.refl _ _).grown hgrow (Nat.le_refl _) fun k hk => by cases hk
  have hA : AxR w g a.c0 a.c1 a.w0 a.w1 w3 := ⟨ht1.below hb3 (by omega), ht2.below hb3 (by omega), hb0.trans (hb3.mono hb0.size), by omega, hgs⟩
  clear hgrow hown3 hown0 hC1 ht1 ht2 hb0 hb3
  go_wp2_with fail
  have hCF := hCg
  have hf0 : f 0 = nar 0 a.cl a.n (-1000, 1000) := hfk 0 (by omega)
  have hz0 := Axis.fwd_zero_own hf
  rw [← hf0] at hz0
  generalize hy : f 0 = y at hz0
  obtain ⟨y0, y1⟩ := y
  dsimp only at hz0
  refine wp_region_late [7] (fun w9 => AxR w g a.c0 a.c1 a.w0 a.w1 w9) (fun w9 => CAt w9 g f) (by kernel_rfl) ?_ (fun hHeld => ?_)
  · (exact ⟨hA.below (Below.refl _ _).drew, hCF.below (Below.refl _ _).drew hA.hi⟩)
  refine tk0 0 ?_ rfl (Or.inl ⟨by rfl, ?_⟩) hHeld ?_
  rotate_left 1
  · ((intro w9 hSw; obtain ⟨⟨s0, s1, _, _⟩, ⟨s2, s3, _, _⟩, _, _, _⟩ := hSw; go_simp) <;> with_reducible rfl)
  (try simp only [Act.put, pA, pZ, pS])
  refine tk0 1 ?_ rfl (Or.inl ⟨by rfl, ?_⟩) hHeld ?_
  rotate_left 1
  · ((intro w9 hSw; obtain ⟨⟨s0, s1, _, _⟩, ⟨s2, s3, _, _⟩, _, _, _⟩ := hSw; go_simp) <;> with_reducible rfl)
  (try simp only [Act.put, pA, pZ, pS])
  refine tk0 2 ?_ rfl (Or.inl ⟨by rfl, ?_⟩) hHeld ?_
  rotate_left 1
  · ((intro w9 hSw; obtain ⟨⟨s0, s1, _, _⟩, ⟨s2, s3, _, _⟩, _, _, _⟩ := hSw; go_simp) <;> with_reducible rfl)
  (try simp only [Act.put, pA, pZ, pS])
  refine wpAnyP_take 1 (i := 3) (v := ?_) rfl (by kernel_rfl) (by kernel_rfl) (by kernel_rfl) (by kernel_rfl) (by rfl) (waits_one [] (by kernel_rfl)) (fun _ _ _ h => h) (Or.inl ⟨by rfl, ?_⟩) hHeld ?_
  rotate_left 1
  · ((intro w9 hSw; obtain ⟨_, hSC⟩ := hSw; obtain ⟨c0, c1⟩ := hSC.c 0 (by omega); rw [hy] at c0 c1; (try simp only [Nat.zero_mul, Nat.zero_add] at c0 c1); go_simp) <;> with_reducible rfl)
  (try simp only [Act.put, pA, pZ, pS])
  refine tk0 4 ?_ rfl (Or.inl ⟨by rfl, ?_⟩) hHeld ?_
  rotate_left 1
  · ((intro w9 hSw; obtain ⟨⟨s0, s1, _, _⟩, ⟨s2, s3, _, _⟩, _, _, _⟩ := hSw; go_simp) <;> with_reducible rfl)
  (try simp only [Act.put, pA, pZ, pS])
  refine wpAnyP_ready (rs := [5]) (by kernel_rfl) (by simp) ?_
  refine AllReadyP.cons (o := _) rfl (fun K hK => ?_) AllReadyP.nil
  · go_simp
    (go_at_call 97; with_reducible refine (rcommon_any _ _ _ _ _).mono ?_; rintro e w5 ⟨rfl, hb5⟩)
    refine hK.out _ _ ?_ (fun hHeld => ?_)
    · (exact ⟨hHeld.1.below hb5, hHeld.2.below hb5 hHeld.1.hi⟩)
    clear hK K
    (try simp only [Act.put, pA, pZ, pS])
    refine tk0 6 ?_ rfl (Or.inl ⟨by rfl, ?_⟩) hHeld ?_
    rotate_left 1
    · ((intro w9 hSw; obtain ⟨⟨s0, s1, _, _⟩, ⟨s2, s3, _, _⟩, _, _, _⟩ := hSw; go_simp) <;> with_reducible rfl)
    (try simp only [Act.put, pA, pZ, pS])
    refine wpAnyP_ready (rs := [7]) (by kernel_rfl) (by simp) ?_
    refine AllReadyP.behind (o := _) rfl (by kernel_rfl) (fun K hK => ?_) AllReadyP.nil
    · obtain ⟨c0, c1⟩ := hHeld.2.c 0 (by omega)
      have z0 := hHeld.2.z 0
      have z1 := hHeld.2.z 1
      have hCs := hHeld.2.store 0 (by omega) (max y0 a.c0) (min y1 a.c1)
      simp only [Nat.zero_mul, Nat.zero_add] at c0 c1 hCs
      go_simp
      refine hK.out _ _ ?_ (fun hHeld => ?_)
      · (exact hHeld.1.store _ _ _ _)
      clear hK K
      (try simp only [Act.put, pA, pZ, pS])
      refine wpAnyP_done (by kernel_rfl) ?_ _
      (try simp only [Act.put, List.getElem_toArray, List.getElem_cons_zero, List.getElem_cons_succ, pA, pZ, pS])
      clear c0 c1 z0 z1 hb5 hA hCg hCF
      go_wp2_with fail
      have hC2 : ∃ F, CAt ((w5.setCell ⟨g, 0, none⟩ (.int .i64 (max y0 a.c0))).setCell ⟨g, 1, none⟩ (.int .i64 (min y1 a.c1))) g F ∧ (∀ j, j < 1 → F j = a.fwd j) ∧ ∀ j, 1 ≤ j → j ≤ 12 → F j = f j := ⟨_, hCs, fun j hj => (by obtain rfl : j = 0 := (by omega); simp only [if_true]; exact hz0.symm), fun j h1 _ => by simp only [show ¬ j = 0 by omega, if_false]⟩
      clear hCs hz0 hy hf0
      generalize (w5.setCell ⟨g, 0, none⟩ (.int .i64 (max y0 a.c0))).setCell ⟨g, 1, none⟩ (.int .i64 (min y1 a.c1)) = W2 at *
      obtain ⟨F2, hC2, hlo2, hhi2⟩ := hC2
      go_loopw [9] (fun i wr => ∃ (k : Nat) (F : Nat → Int × Int), 1 ≤ k ∧ k ≤ 13 ∧ i = .int .i64 k ∧ AxR w g a.c0 a.c1 a.w0 a.w1 wr ∧ CAt wr g F ∧ (∀ j, j < k → F j = a.fwd j) ∧ ∀ j, k ≤ j → j ≤ 12 → F j = f j) (fun i _ => 13 - (intOf i).toNat)
      case atStart => exact ⟨1, F2, by omega, by omega, rfl, hHeld, hC2, hlo2, hhi2⟩
      case round =>
        clear hC2 hlo2 hhi2 hHeld
        obtain ⟨k, F, hk1, hk, rfl, hA, hCF, hlo, hhi⟩ := hrel
        have hk0 : (0 : Int) ≤ (k : Int) := Int.natCast_nonneg _
        by_cases hlt : k < 13
        · obtain ⟨p, rfl⟩ : ∃ p, k = p + 1 := ⟨k - 1, by omega⟩
          have hlt' : ((p + 1 : Nat) : Int) ≤ 12 := by omega
          have hlt2 : ((p + 1 : Nat) : Int) < 13 := by omega
          have hki : ((p + 1 : Nat) : Int) - 1 = (p : Int) := by omega
          have hp13 : p < 13 := by omega
          have hp14 : p + 1 < 13 := by omega
          have hka : (0 : Int) ≤ (p : Int) + 1 := by omega
          have hkb : (p : Int) + 1 < 13 := by omega
          have hkc : (p : Int) + 1 ≤ 12 := by omega
          have hkd : (0 : Int) < (p : Int) + 1 := by omega
          have hp0 : (0 : Int) ≤ (p : Int) := Int.natCast_nonneg _
          have hp1 : (p : Int) < 13 := by omega
          have hfe := Axis.fwd_succ_own hf p (by omega)
          have hfn : f (p + 1) = nar ((p : Int) + 1) a.cl a.n (-1000, 1000) := hfk (p + 1) (by omega)
          have hnb := nar_own_bound ((p : Int) + 1) a.cl a.n (fun i hi => (hf.cl i hi).2.2)
          rw [← hfn] at hfe hnb
          have hbb := hfw p (by omega)
          have hww := hf.w
          have hxp := hlo p (by omega)
          have hxk := hhi (p + 1) (by omega) (by omega)
          generalize hx : a.fwd p = x at hfe hbb hxp
          generalize hy : f (p + 1) = y at hfe hnb hxk
          obtain ⟨x0, x1⟩ := x
          obtain ⟨y0, y1⟩ := y
          dsimp only at hfe hnb hbb
          have hwp : IntKind.i64.wrap (p : Int) = (p : Int) := IntWalk.i64_in _ (by omega)
          have hwa : IntKind.i64.wrap (x0 + a.w0) = x0 + a.w0 := IntWalk.i64_in _ (by omega)
          have hwb : IntKind.i64.wrap (x1 + a.w1) = x1 + a.w1 := IntWalk.i64_in _ (by omega)
          go_wp2_with fail
          refine wp_region_late [27] (fun w9 => AxR w g a.c0 a.c1 a.w0 a.w1 w9) (fun w9 => CAt w9 g F) (by kernel_rfl) ?_ (fun hHeld => ?_)
          · (exact ⟨hA.below (Below.refl _ _).drew, hCF.below (Below.refl _ _).drew hA.hi⟩)
          refine tk0 0 ?_ rfl (Or.inl ⟨by rfl, ?_⟩) hHeld ?_
          rotate_left 1
          · ((intro w9 hSw; obtain ⟨⟨s0, s1, _, _⟩, ⟨s2, s3, _, _⟩, _, _, _⟩ := hSw; go_simp) <;> with_reducible rfl)
          (try simp only [Act.put, pA, pZ, pS])
          refine tk0 1 ?_ rfl (Or.inl ⟨by rfl, ?_⟩) hHeld ?_
          rotate_left 1
          · ((intro w9 hSw; obtain ⟨⟨s0, s1, _, _⟩, ⟨s2, s3, _, _⟩, _, _, _⟩ := hSw; go_simp) <;> with_reducible rfl)
          (try simp only [Act.put, pA, pZ, pS])
          refine tk0 2 ?_ rfl (Or.inl ⟨by rfl, ?_⟩) hHeld ?_
          rotate_left 1
          · ((intro w9 hSw; obtain ⟨⟨s0, s1, _, _⟩, ⟨s2, s3, _, _⟩, _, _, _⟩ := hSw; go_simp) <;> with_reducible rfl)
          (try simp only [Act.put, pA, pZ, pS])
          refine tk0 3 ?_ rfl (Or.inl ⟨by rfl, ?_⟩) hHeld ?_
          rotate_left 1
          · ((intro w9 hSw; obtain ⟨⟨s0, s1, _, _⟩, ⟨s2, s3, _, _⟩, _, _, _⟩ := hSw; go_simp) <;> with_reducible rfl)
          (try simp only [Act.put, pA, pZ, pS])
          refine tk0 4 ?_ rfl (Or.inl ⟨by rfl, ?_⟩) hHeld ?_
          rotate_left 1
          · ((intro w9 hSw; obtain ⟨⟨s0, s1, _, _⟩, ⟨s2, s3, _, _⟩, _, _, _⟩ := hSw; go_simp) <;> with_reducible rfl)
          (try simp only [Act.put, pA, pZ, pS])
          refine wpAnyP_take 1 (i := 5) (v := ?_) rfl (by kernel_rfl) (by kernel_rfl) (by kernel_rfl) (by kernel_rfl) (by rfl) (waits_one [] (by kernel_rfl)) (fun _ _ _ h => h) (Or.inl ⟨by rfl, ?_⟩) hHeld ?_
          rotate_left 1
          · ((intro w9 hSw; have c0 := (hSw.2.c p hp13).1; have c1 := (hSw.2.c p hp13).2; have c2 := (hSw.2.c (p + 1) hp14).1; have c3 := (hSw.2.c (p + 1) hp14).2; clear hSw; rw [hxp] at c0 c1; rw [hxk] at c2 c3; (try dsimp only at c0 c1 c2 c3); go_simp) <;> with_reducible rfl)
          (try simp only [Act.put, pA, pZ, pS])
          refine tk0 6 ?_ rfl (Or.inl ⟨by rfl, ?_⟩) hHeld ?_
          rotate_left 1
          · ((intro w9 hSw; obtain ⟨⟨s0, s1, _, _⟩, ⟨s2, s3, _, _⟩, _, _, _⟩ := hSw; go_simp) <;> with_reducible rfl)
          (try simp only [Act.put, pA, pZ, pS])
          refine tk0 7 ?_ rfl (Or.inl ⟨by rfl, ?_⟩) hHeld ?_
          rotate_left 1
          · ((intro w9 hSw; obtain ⟨⟨s0, s1, _, _⟩, ⟨s2, s3, _, _⟩, _, _, _⟩ := hSw; go_simp) <;> with_reducible rfl)
          (try simp only [Act.put, pA, pZ, pS])
          refine tk0 8 ?_ rfl (Or.inl ⟨by rfl, ?_⟩) hHeld ?_
          rotate_left 1
          · ((intro w9 hSw; obtain ⟨⟨s0, s1, _, _⟩, ⟨s2, s3, _, _⟩, _, _, _⟩ := hSw; go_simp) <;> with_reducible rfl)
          (try simp only [Act.put, pA, pZ, pS])
          refine tk0 9 ?_ rfl (Or.inl ⟨by rfl, ?_⟩) hHeld ?_
          rotate_left 1
          · ((intro w9 hSw; obtain ⟨⟨s0, s1, _, _⟩, ⟨s2, s3, _, _⟩, _, _, _⟩ := hSw; go_simp) <;> with_reducible rfl)
          (try simp only [Act.put, pA, pZ, pS])
          refine tk0 10 ?_ rfl (Or.inl ⟨by rfl, ?_⟩) hHeld ?_
          rotate_left 1
          · ((intro w9 hSw; obtain ⟨⟨s0, s1, _, _⟩, ⟨s2, s3, _, _⟩, _, _, _⟩ := hSw; go_simp) <;> with_reducible rfl)
          (try simp only [Act.put, pA, pZ, pS])
          refine wpAnyP_take 1 (i := 11) (v := ?_) rfl (by kernel_rfl) (by kernel_rfl) (by kernel_rfl) (by kernel_rfl) (by rfl) (waits_one [] (by kernel_rfl)) (fun _ _ _ h => h) (Or.inl ⟨by rfl, ?_⟩) hHeld ?_
          rotate_left 1
          · ((intro w9 hSw; have c0 := (hSw.2.c p hp13).1; have c1 := (hSw.2.c p hp13).2; have c2 := (hSw.2.c (p + 1) hp14).1; have c3 := (hSw.2.c (p + 1) hp14).2; clear hSw; rw [hxp] at c0 c1; rw [hxk] at c2 c3; (try dsimp only at c0 c1 c2 c3); go_simp) <;> with_reducible rfl)
          (try simp only [Act.put, pA, pZ, pS])
          refine tk0 12 ?_ rfl (Or.inl ⟨by rfl, ?_⟩) hHeld ?_
          rotate_left 1
          · ((intro w9 hSw; obtain ⟨⟨s0, s1, _, _⟩, ⟨s2, s3, _, _⟩, _, _, _⟩ := hSw; go_simp) <;> with_reducible rfl)
          (try simp only [Act.put, pA, pZ, pS])
          refine tk0 13 ?_ rfl (Or.inl ⟨by rfl, ?_⟩) hHeld ?_
          rotate_left 1
          · ((intro w9 hSw; obtain ⟨⟨s0, s1, _, _⟩, ⟨s2, s3, _, _⟩, _, _, _⟩ := hSw; go_simp) <;> with_reducible rfl)
          (try simp only [Act.put, pA, pZ, pS])
          refine tk0 14 ?_ rfl (Or.inl ⟨by rfl, ?_⟩) hHeld ?_
          rotate_left 1
          · ((intro w9 hSw; obtain ⟨⟨s0, s1, _, _⟩, ⟨s2, s3, _, _⟩, _, _, _⟩ := hSw; go_simp) <;> with_reducible rfl)
          (try simp only [Act.put, pA, pZ, pS])
          refine tk0 15 ?_ rfl (Or.inl ⟨by rfl, ?_⟩) hHeld ?_
          rotate_left 1
          · ((intro w9 hSw; obtain ⟨⟨s0, s1, _, _⟩, ⟨s2, s3, _, _⟩, _, _, _⟩ := hSw; go_simp) <;> with_reducible rfl)
          (try simp only [Act.put, pA, pZ, pS])
          refine tk0 16 ?_ rfl (Or.inl ⟨by rfl, ?_⟩) hHeld ?_
          rotate_left 1
          · ((intro w9 hSw; obtain ⟨⟨s0, s1, _, _⟩, ⟨s2, s3, _, _⟩, _, _, _⟩ := hSw; go_simp) <;> with_reducible rfl)
          (try simp only [Act.put, pA, pZ, pS])
          refine tk0 17 ?_ rfl (Or.inl ⟨by rfl, ?_⟩) hHeld ?_
          rotate_left 1
          · ((intro w9 hSw; obtain ⟨⟨s0, s1, _, _⟩, ⟨s2, s3, _, _⟩, _, _, _⟩ := hSw; go_simp) <;> with_reducible rfl)
          (try simp only [Act.put, pA, pZ, pS])
          refine tk0 18 ?_ rfl (Or.inl ⟨by rfl, ?_⟩) hHeld ?_
          rotate_left 1
          · ((intro w9 hSw; obtain ⟨⟨s0, s1, _, _⟩, ⟨s2, s3, _, _⟩, _, _, _⟩ := hSw; go_simp) <;> with_reducible rfl)
          (try simp only [Act.put, pA, pZ, pS])
          refine tk0 19 ?_ rfl (Or.inl ⟨by rfl, ?_⟩) hHeld ?_
          rotate_left 1
          · ((intro w9 hSw; obtain ⟨⟨s0, s1, _, _⟩, ⟨s2, s3, _, _⟩, _, _, _⟩ := hSw; go_simp) <;> with_reducible rfl)
          (try simp only [Act.put, pA, pZ, pS])
          refine wpAnyP_take 1 (i := 20) (v := ?_) rfl (by kernel_rfl) (by kernel_rfl) (by kernel_rfl) (by kernel_rfl) (by rfl) (waits_one [] (by kernel_rfl)) (fun _ _ _ h => h) (Or.inl ⟨by rfl, ?_⟩) hHeld ?_
          rotate_left 1
          · ((intro w9 hSw; have c0 := (hSw.2.c p hp13).1; have c1 := (hSw.2.c p hp13).2; have c2 := (hSw.2.c (p + 1) hp14).1; have c3 := (hSw.2.c (p + 1) hp14).2; clear hSw; rw [hxp] at c0 c1; rw [hxk] at c2 c3; (try dsimp only at c0 c1 c2 c3); go_simp) <;> with_reducible rfl)
          (try simp only [Act.put, pA, pZ, pS])
          refine tk0 21 ?_ rfl (Or.inl ⟨by rfl, ?_⟩) hHeld ?_
          rotate_left 1
          · ((intro w9 hSw; obtain ⟨⟨s0, s1, _, _⟩, ⟨s2, s3, _, _⟩, _, _, _⟩ := hSw; go_simp) <;> with_reducible rfl)
          (try simp only [Act.put, pA, pZ, pS])
          refine tk0 22 ?_ rfl (Or.inl ⟨by rfl, ?_⟩) hHeld ?_
          rotate_left 1
          · ((intro w9 hSw; obtain ⟨⟨s0, s1, _, _⟩, ⟨s2, s3, _, _⟩, _, _, _⟩ := hSw; go_simp) <;> with_reducible rfl)
          (try simp only [Act.put, pA, pZ, pS])
          refine tk0 23 ?_ rfl (Or.inl ⟨by rfl, ?_⟩) hHeld ?_
          rotate_left 1
          · ((intro w9 hSw; obtain ⟨⟨s0, s1, _, _⟩, ⟨s2, s3, _, _⟩, _, _, _⟩ := hSw; go_simp) <;> with_reducible rfl)
          (try simp only [Act.put, pA, pZ, pS])
          refine tk0 24 ?_ rfl (Or.inl ⟨by rfl, ?_⟩) hHeld ?_
          rotate_left 1
          · ((intro w9 hSw; obtain ⟨⟨s0, s1, _, _⟩, ⟨s2, s3, _, _⟩, _, _, _⟩ := hSw; go_simp) <;> with_reducible rfl)
          (try simp only [Act.put, pA, pZ, pS])
          refine wpAnyP_ready (rs := [25]) (by kernel_rfl) (by simp) ?_
          refine AllReadyP.cons (o := _) rfl (fun K hK => ?_) AllReadyP.nil
          · go_simp
            (go_at_call 97; with_reducible refine (rcommon_any _ _ _ _ _).mono ?_; rintro e w5 ⟨rfl, hb5⟩)
            refine hK.out _ _ ?_ (fun hHeld => ?_)
            · (exact ⟨hHeld.1.below hb5, hHeld.2.below hb5 hHeld.1.hi⟩)
            clear hK K
            (try simp only [Act.put, pA, pZ, pS])
            refine tk0 26 ?_ rfl (Or.inl ⟨by rfl, ?_⟩) hHeld ?_
            rotate_left 1
            · ((intro w9 hSw; obtain ⟨⟨s0, s1, _, _⟩, ⟨s2, s3, _, _⟩, _, _, _⟩ := hSw; go_simp) <;> with_reducible rfl)
            (try simp only [Act.put, pA, pZ, pS])
            refine wpAnyP_ready (rs := [27]) (by kernel_rfl) (by simp) ?_
            refine AllReadyP.behind (o := _) rfl (by kernel_rfl) (fun K hK => ?_) AllReadyP.nil
            · have c2 := (hHeld.2.c (p + 1) hp14).1
              have c3 := (hHeld.2.c (p + 1) hp14).2
              have z0 := hHeld.2.z ((p + 1) * 2)
              have z1 := hHeld.2.z ((p + 1) * 2 + 1)
              have hCs := hHeld.2.store (p + 1) hp14 (max y0 (x0 + a.w0)) (min y1 (x1 + a.w1))
              go_simp
              refine hK.out _ _ ?_ (fun hHeld => ?_)
              · (exact hHeld.1.store _ _ _ _)
              clear hK K
              (try simp only [Act.put, pA, pZ, pS])
              refine wpAnyP_done (by kernel_rfl) ?_ _
              (try simp only [Act.put, List.getElem_toArray, List.getElem_cons_zero, List.getElem_cons_succ, pA, pZ, pS])
              clear c2 c3 z0 z1 hb5 hA hCF
              go_wp2_with fail
              go_roundw
              case rel =>
                refine ⟨p + 1 + 1, _, by omega, by omega, by go_num, hHeld, hCs, fun j hj => ?_, fun j h1 h2 => ?_⟩
                · by_cases hjk : j = p + 1
                  · subst hjk; simp only [if_true]; exact hfe.symm
                  · rw [if_neg hjk]; exact hlo j (by omega)
                · rw [if_neg (by omega)]; exact hhi j (by omega) h2
              case measure => simp [intOf]; omega

        · have hk13 : k = 13 := by omega
          have hng : ¬ ((k : Int) ≤ 12) := by omega
          go_wp2_with fail
          go_loopw [10] (fun i wr => ∃ (k : Nat) (F : Nat → Int × Int), k ≤ 12 ∧ i = .int .i64 k ∧ AxR w g a.c0 a.c1 a.w0 a.w1 wr ∧ CAt wr g F ∧ (∀ j, j < k → F j = a.fwd j) ∧ ∀ j, k ≤ j → j ≤ 12 → F j = a.ends j) (fun i _ => (intOf i).toNat)
          case atStart => exact ⟨12, F, by omega, rfl, hA, hCF, fun j hj => hlo j (by omega), fun j h1 h2 => by obtain rfl : j = 12 := (by omega); rw [hlo 12 (by omega)]; rfl⟩
          case round =>
            clear hA hCF hlo hhi hk1 hk hk0 hlt F hk13 hng
            obtain ⟨k, F, hk, rfl, hA, hCF, hlo, hhi⟩ := hrel
            have hk0 : (0 : Int) ≤ (k : Int) := Int.natCast_nonneg _
            by_cases hlt : 0 < k
            · obtain ⟨p, rfl⟩ : ∃ p, k = p + 1 := ⟨k - 1, by omega⟩
              have hlt' : (0 : Int) < ((p + 1 : Nat) : Int) := by omega
              have hlt2 : ((p + 1 : Nat) : Int) < 13 := by omega
              have hki : ((p + 1 : Nat) : Int) - 1 = (p : Int) := by omega
              have hp13 : p < 13 := by omega
              have hp14 : p + 1 < 13 := by omega
              have hka : (0 : Int) ≤ (p : Int) + 1 := by omega
              have hkb : (p : Int) + 1 < 13 := by omega
              have hkc : (p : Int) + 1 ≤ 12 := by omega
              have hkd : (0 : Int) < (p : Int) + 1 := by omega
              have hp0 : (0 : Int) ≤ (p : Int) := Int.natCast_nonneg _
              have hp1 : (p : Int) < 13 := by omega
              have hfe := Axis.ends_step a p (by omega)
              have hbb := hfw p (by omega)
              have hnb := hab (p + 1) (by omega)
              have hww := hf.w
              have hxp := hlo p (by omega)
              have hxk := hhi (p + 1) (by omega) (by omega)
              generalize hx : a.fwd p = x at hfe hbb hxp
              generalize hy : a.ends (p + 1) = y at hfe hnb hxk
              obtain ⟨x0, x1⟩ := x
              obtain ⟨y0, y1⟩ := y
              dsimp only at hfe hnb hbb
              have hwp : IntKind.i64.wrap (p : Int) = (p : Int) := IntWalk.i64_in _ (by omega)
              have hwa : IntKind.i64.wrap (y0 - a.w1) = y0 - a.w1 := IntWalk.i64_in _ (by omega)
              have hwb : IntKind.i64.wrap (y1 - a.w0) = y1 - a.w0 := IntWalk.i64_in _ (by omega)
              go_wp2_with fail
              refine wp_region_late [27] (fun w9 => AxR w g a.c0 a.c1 a.w0 a.w1 w9) (fun w9 => CAt w9 g F) (by kernel_rfl) ?_ (fun hHeld => ?_)
              · (exact ⟨hA.below (Below.refl _ _).drew, hCF.below (Below.refl _ _).drew hA.hi⟩)
              refine tk0 0 ?_ rfl (Or.inl ⟨by rfl, ?_⟩) hHeld ?_
              rotate_left 1
              · ((intro w9 hSw; obtain ⟨⟨s0, s1, _, _⟩, ⟨s2, s3, _, _⟩, _, _, _⟩ := hSw; go_simp) <;> with_reducible rfl)
              (try simp only [Act.put, pA, pZ, pS])
              refine tk0 1 ?_ rfl (Or.inl ⟨by rfl, ?_⟩) hHeld ?_
              rotate_left 1
              · ((intro w9 hSw; obtain ⟨⟨s0, s1, _, _⟩, ⟨s2, s3, _, _⟩, _, _, _⟩ := hSw; go_simp) <;> with_reducible rfl)
              (try simp only [Act.put, pA, pZ, pS])
              refine tk0 2 ?_ rfl (Or.inl ⟨by rfl, ?_⟩) hHeld ?_
              rotate_left 1
              · ((intro w9 hSw; obtain ⟨⟨s0, s1, _, _⟩, ⟨s2, s3, _, _⟩, _, _, _⟩ := hSw; go_simp) <;> with_reducible rfl)
              (try simp only [Act.put, pA, pZ, pS])
              refine tk0 3 ?_ rfl (Or.inl ⟨by rfl, ?_⟩) hHeld ?_
              rotate_left 1
              · ((intro w9 hSw; obtain ⟨⟨s0, s1, _, _⟩, ⟨s2, s3, _, _⟩, _, _, _⟩ := hSw; go_simp) <;> with_reducible rfl)
              (try simp only [Act.put, pA, pZ, pS])
              refine tk0 4 ?_ rfl (Or.inl ⟨by rfl, ?_⟩) hHeld ?_
              rotate_left 1
              · ((intro w9 hSw; obtain ⟨⟨s0, s1, _, _⟩, ⟨s2, s3, _, _⟩, _, _, _⟩ := hSw; go_simp) <;> with_reducible rfl)
              (try simp only [Act.put, pA, pZ, pS])
              refine tk0 5 ?_ rfl (Or.inl ⟨by rfl, ?_⟩) hHeld ?_
              rotate_left 1
              · ((intro w9 hSw; obtain ⟨⟨s0, s1, _, _⟩, ⟨s2, s3, _, _⟩, _, _, _⟩ := hSw; go_simp) <;> with_reducible rfl)
              (try simp only [Act.put, pA, pZ, pS])
              refine tk0 6 ?_ rfl (Or.inl ⟨by rfl, ?_⟩) hHeld ?_
              rotate_left 1
              · ((intro w9 hSw; obtain ⟨⟨s0, s1, _, _⟩, ⟨s2, s3, _, _⟩, _, _, _⟩ := hSw; go_simp) <;> with_reducible rfl)
              (try simp only [Act.put, pA, pZ, pS])
              refine wpAnyP_take 1 (i := 7) (v := ?_) rfl (by kernel_rfl) (by kernel_rfl) (by kernel_rfl) (by kernel_rfl) (by rfl) (waits_one [] (by kernel_rfl)) (fun _ _ _ h => h) (Or.inl ⟨by rfl, ?_⟩) hHeld ?_
              rotate_left 1
              · ((intro w9 hSw; have c0 := (hSw.2.c p hp13).1; have c1 := (hSw.2.c p hp13).2; have c2 := (hSw.2.c (p + 1) hp14).1; have c3 := (hSw.2.c (p + 1) hp14).2; clear hSw; rw [hxp] at c0 c1; rw [hxk] at c2 c3; (try dsimp only at c0 c1 c2 c3); go_simp) <;> with_reducible rfl)
              (try simp only [Act.put, pA, pZ, pS])
              refine tk0 8 ?_ rfl (Or.inl ⟨by rfl, ?_⟩) hHeld ?_
              rotate_left 1
              · ((intro w9 hSw; obtain ⟨⟨s0, s1, _, _⟩, ⟨s2, s3, _, _⟩, _, _, _⟩ := hSw; go_simp) <;> with_reducible rfl)
              (try simp only [Act.put, pA, pZ, pS])
              refine tk0 9 ?_ rfl (Or.inl ⟨by rfl, ?_⟩) hHeld ?_
              rotate_left 1
              · ((intro w9 hSw; obtain ⟨⟨s0, s1, _, _⟩, ⟨s2, s3, _, _⟩, _, _, _⟩ := hSw; go_simp) <;> with_reducible rfl)
              (try simp only [Act.put, pA, pZ, pS])
              refine tk0 10 ?_ rfl (Or.inl ⟨by rfl, ?_⟩) hHeld ?_
              rotate_left 1
              · ((intro w9 hSw; obtain ⟨⟨s0, s1, _, _⟩, ⟨s2, s3, _, _⟩, _, _, _⟩ := hSw; go_simp) <;> with_reducible rfl)
              (try simp only [Act.put, pA, pZ, pS])
              refine tk0 11 ?_ rfl (Or.inl ⟨by rfl, ?_⟩) hHeld ?_
              rotate_left 1
              · ((intro w9 hSw; obtain ⟨⟨s0, s1, _, _⟩, ⟨s2, s3, _, _⟩, _, _, _⟩ := hSw; go_simp) <;> with_reducible rfl)
              (try simp only [Act.put, pA, pZ, pS])
              refine wpAnyP_take 1 (i := 12) (v := ?_) rfl (by kernel_rfl) (by kernel_rfl) (by kernel_rfl) (by kernel_rfl) (by rfl) (waits_one [] (by kernel_rfl)) (fun _ _ _ h => h) (Or.inl ⟨by rfl, ?_⟩) hHeld ?_
              rotate_left 1
              · ((intro w9 hSw; have c0 := (hSw.2.c p hp13).1; have c1 := (hSw.2.c p hp13).2; have c2 := (hSw.2.c (p + 1) hp14).1; have c3 := (hSw.2.c (p + 1) hp14).2; clear hSw; rw [hxp] at c0 c1; rw [hxk] at c2 c3; (try dsimp only at c0 c1 c2 c3); go_simp) <;> with_reducible rfl)
              (try simp only [Act.put, pA, pZ, pS])
              refine tk0 13 ?_ rfl (Or.inl ⟨by rfl, ?_⟩) hHeld ?_
              rotate_left 1
              · ((intro w9 hSw; obtain ⟨⟨s0, s1, _, _⟩, ⟨s2, s3, _, _⟩, _, _, _⟩ := hSw; go_simp) <;> with_reducible rfl)
              (try simp only [Act.put, pA, pZ, pS])
              refine tk0 14 ?_ rfl (Or.inl ⟨by rfl, ?_⟩) hHeld ?_
              rotate_left 1
              · ((intro w9 hSw; obtain ⟨⟨s0, s1, _, _⟩, ⟨s2, s3, _, _⟩, _, _, _⟩ := hSw; go_simp) <;> with_reducible rfl)
              (try simp only [Act.put, pA, pZ, pS])
              refine tk0 15 ?_ rfl (Or.inl ⟨by rfl, ?_⟩) hHeld ?_
              rotate_left 1
              · ((intro w9 hSw; obtain ⟨⟨s0, s1, _, _⟩, ⟨s2, s3, _, _⟩, _, _, _⟩ := hSw; go_simp) <;> with_reducible rfl)
              (try simp only [Act.put, pA, pZ, pS])
              refine tk0 16 ?_ rfl (Or.inl ⟨by rfl, ?_⟩) hHeld ?_
              rotate_left 1
              · ((intro w9 hSw; obtain ⟨⟨s0, s1, _, _⟩, ⟨s2, s3, _, _⟩, _, _, _⟩ := hSw; go_simp) <;> with_reducible rfl)
              (try simp only [Act.put, pA, pZ, pS])
              refine tk0 17 ?_ rfl (Or.inl ⟨by rfl, ?_⟩) hHeld ?_
              rotate_left 1
              · ((intro w9 hSw; obtain ⟨⟨s0, s1, _, _⟩, ⟨s2, s3, _, _⟩, _, _, _⟩ := hSw; go_simp) <;> with_reducible rfl)
              (try simp only [Act.put, pA, pZ, pS])
              refine tk0 18 ?_ rfl (Or.inl ⟨by rfl, ?_⟩) hHeld ?_
              rotate_left 1
              · ((intro w9 hSw; obtain ⟨⟨s0, s1, _, _⟩, ⟨s2, s3, _, _⟩, _, _, _⟩ := hSw; go_simp) <;> with_reducible rfl)
              (try simp only [Act.put, pA, pZ, pS])
              refine tk0 19 ?_ rfl (Or.inl ⟨by rfl, ?_⟩) hHeld ?_
              rotate_left 1
              · ((intro w9 hSw; obtain ⟨⟨s0, s1, _, _⟩, ⟨s2, s3, _, _⟩, _, _, _⟩ := hSw; go_simp) <;> with_reducible rfl)
              (try simp only [Act.put, pA, pZ, pS])
              refine wpAnyP_take 1 (i := 20) (v := ?_) rfl (by kernel_rfl) (by kernel_rfl) (by kernel_rfl) (by kernel_rfl) (by rfl) (waits_one [] (by kernel_rfl)) (fun _ _ _ h => h) (Or.inl ⟨by rfl, ?_⟩) hHeld ?_
              rotate_left 1
              · ((intro w9 hSw; have c0 := (hSw.2.c p hp13).1; have c1 := (hSw.2.c p hp13).2; have c2 := (hSw.2.c (p + 1) hp14).1; have c3 := (hSw.2.c (p + 1) hp14).2; clear hSw; rw [hxp] at c0 c1; rw [hxk] at c2 c3; (try dsimp only at c0 c1 c2 c3); go_simp) <;> with_reducible rfl)
              (try simp only [Act.put, pA, pZ, pS])
              refine tk0 21 ?_ rfl (Or.inl ⟨by rfl, ?_⟩) hHeld ?_
              rotate_left 1
              · ((intro w9 hSw; obtain ⟨⟨s0, s1, _, _⟩, ⟨s2, s3, _, _⟩, _, _, _⟩ := hSw; go_simp) <;> with_reducible rfl)
              (try simp only [Act.put, pA, pZ, pS])
              refine tk0 22 ?_ rfl (Or.inl ⟨by rfl, ?_⟩) hHeld ?_
              rotate_left 1
              · ((intro w9 hSw; obtain ⟨⟨s0, s1, _, _⟩, ⟨s2, s3, _, _⟩, _, _, _⟩ := hSw; go_simp) <;> with_reducible rfl)
              (try simp only [Act.put, pA, pZ, pS])
              refine tk0 23 ?_ rfl (Or.inl ⟨by rfl, ?_⟩) hHeld ?_
              rotate_left 1
              · ((intro w9 hSw; obtain ⟨⟨s0, s1, _, _⟩, ⟨s2, s3, _, _⟩, _, _, _⟩ := hSw; go_simp) <;> with_reducible rfl)
              (try simp only [Act.put, pA, pZ, pS])
              refine tk0 24 ?_ rfl (Or.inl ⟨by rfl, ?_⟩) hHeld ?_
              rotate_left 1
              · ((intro w9 hSw; obtain ⟨⟨s0, s1, _, _⟩, ⟨s2, s3, _, _⟩, _, _, _⟩ := hSw; go_simp) <;> with_reducible rfl)
              (try simp only [Act.put, pA, pZ, pS])
              refine wpAnyP_ready (rs := [25]) (by kernel_rfl) (by simp) ?_
              refine AllReadyP.cons (o := _) rfl (fun K hK => ?_) AllReadyP.nil
              · go_simp
                (go_at_call 97; with_reducible refine (rcommon_any _ _ _ _ _).mono ?_; rintro e w5 ⟨rfl, hb5⟩)
                refine hK.out _ _ ?_ (fun hHeld => ?_)
                · (exact ⟨hHeld.1.below hb5, hHeld.2.below hb5 hHeld.1.hi⟩)
                clear hK K
                (try simp only [Act.put, pA, pZ, pS])
                refine tk0 26 ?_ rfl (Or.inl ⟨by rfl, ?_⟩) hHeld ?_
                rotate_left 1
                · ((intro w9 hSw; obtain ⟨⟨s0, s1, _, _⟩, ⟨s2, s3, _, _⟩, _, _, _⟩ := hSw; go_simp) <;> with_reducible rfl)
                (try simp only [Act.put, pA, pZ, pS])
                refine wpAnyP_ready (rs := [27]) (by kernel_rfl) (by simp) ?_
                refine AllReadyP.behind (o := _) rfl (by kernel_rfl) (fun K hK => ?_) AllReadyP.nil
                · have c2 := (hHeld.2.c p hp13).1
                  have c3 := (hHeld.2.c p hp13).2
                  have z0 := hHeld.2.z (p * 2)
                  have z1 := hHeld.2.z (p * 2 + 1)
                  have hCs := hHeld.2.store p hp13 (max x0 (y0 - a.w1)) (min x1 (y1 - a.w0))
                  go_simp
                  refine hK.out _ _ ?_ (fun hHeld => ?_)
                  · (exact hHeld.1.store _ _ _ _)
                  clear hK K
                  (try simp only [Act.put, pA, pZ, pS])
                  refine wpAnyP_done (by kernel_rfl) ?_ _
                  (try simp only [Act.put, List.getElem_toArray, List.getElem_cons_zero, List.getElem_cons_succ, pA, pZ, pS])
                  clear c2 c3 z0 z1 hb5 hA hCF
                  go_wp2_with fail
                  go_roundw
                  case rel =>
                    refine ⟨p, _, by omega, by go_num, hHeld, hCs, fun j hj => ?_, fun j h1 h2 => ?_⟩
                    · rw [if_neg (by omega)]; exact hlo j (by omega)
                    · by_cases hjk : j = p
                      · subst hjk; simp only [if_true]; exact hfe.symm
                      · rw [if_neg hjk]; exact hhi j (by omega) h2
                  case measure => first | (simp [intOf]; done) | (simp [intOf]; omega)

            · have hng : ¬ ((0 : Int) < (k : Int)) := by omega
              have hCE : CAt wr g a.ends := hCF.congr fun j hj => hhi j (by omega) (by omega)
              clear hCF hlo hhi hlt hk hk0
              go_wp2_with fail
              go_loopw [11] (fun i wr => ∃ (k : Nat), k ≤ 13 ∧ i = .int .i64 k ∧ AxR w g a.c0 a.c1 a.w0 a.w1 wr ∧ CAt wr g a.ends ∧ ∀ j, j < k → (a.ends j).1 ≤ (a.ends j).2) (fun i _ => 13 - (intOf i).toNat)
              case atStart => exact ⟨0, by omega, rfl, hA, hCE, fun j hj => absurd hj (Nat.not_lt_zero _)⟩
              case round =>
                clear hA hCE hng
                obtain ⟨k, hk, rfl, hA, hCE, hall⟩ := hrel
                have hk0 : (0 : Int) ≤ (k : Int) := Int.natCast_nonneg _
                by_cases hlt : k < 13
                · have hlt' : (k : Int) ≤ 12 := by omega
                  have hlt2 : (k : Int) < 13 := by omega
                  obtain ⟨c0, c1⟩ := hCE.c k hlt
                  have hcan : a.can → (a.ends k).1 ≤ (a.ends k).2 := fun h => (Axis.can_iff hf).1 h k (by omega)
                  have hsucc : (a.ends k).1 ≤ (a.ends k).2 → ∀ j, j < k + 1 → (a.ends j).1 ≤ (a.ends j).2 := fun h => all_succ (p := fun j => (a.ends j).1 ≤ (a.ends j).2) hall h
                  have hAd := fun n => hA.below (below_drewN (Below.refl _ _) n)
                  have hCd := fun n => hCE.below (below_drewN (Below.refl _ _) n) hA.hi
                  by_cases hle : (a.ends k).1 ≤ (a.ends k).2
                  · have hn := hsucc hle
                    clear hsucc hcan
                    generalize (a.ends k).1 = e0 at c0 hle
                    generalize (a.ends k).2 = e1 at c1 hle
                    have hng : ¬ e1 < e0 := by omega
                    go_wp2_with fail
                    go_quiet (fail)
                    go_wp2_with fail
                    go_roundw
                    case rel => exact ⟨k + 1, by omega, by go_num, hAd _, hCd _, hn⟩
                    case measure => simp [intOf]; omega
                  · have hno : ¬ a.can := fun h => hle (hcan h)
                    clear hsucc hcan
                    generalize (a.ends k).1 = e0 at c0 hle
                    generalize (a.ends k).2 = e1 at c1 hle
                    have hng : e1 < e0 := by omega
                    go_wp2_with fail
                    go_quiet (fail)
                    go_wp2_with fail
                    go_ret2
                    exact ⟨.inr ⟨hno, rfl⟩, below_drewN hA.old _⟩
                · obtain rfl : k = 13 := by omega
                  have hcan : a.can := (Axis.can_iff hf).2 fun j hj => hall j (by omega)
                  have hlo := hA.lo
                  go_wp2_with fail
                  go_ret2
                  exact ⟨.inl ⟨hcan, g, cap, rfl, by omega, hA.hi, hCE⟩, hA.old⟩

end Go.Proofs.YtbgjocgjmjkneaaGreatDoor
