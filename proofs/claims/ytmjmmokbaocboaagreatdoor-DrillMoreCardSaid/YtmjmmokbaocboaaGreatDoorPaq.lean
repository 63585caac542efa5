/- A part of the proof: see the last file. -/
import Derived.Test.YtmjmmokbaocboaaGreatDoorPap
import Derived.Test.YtmjmmokbaocboaaGreatDoorPan
import Derived.Test.YtmjmmokbaocboaaGreatDoorPah
import Derived.Test.YtmjmmokbaocboaaGreatDoorPal
import Derived.Test.YtmjmmokbaocboaaGreatDoorPae
import Derived.Test.YtmjmmokbaocboaaGreatDoorPag
import Derived.Test.YtmjmmokbaocboaaGreatDoorPaa
import Derived.Test.YtmjmmokbaocboaaGreatDoorPaj
set_option linter.unusedVariables false
set_option linter.unusedSimpArgs false
set_option linter.unusedSectionVars false
namespace Go.Proofs.YtmjmmokbaocboaaGreatDoor
open Go.RowKit
/-- what stays while Gauge goes through the blanks. -/
structure GX (w W : World) (n sb so cap cb b1 o1 k1 bm kk g t : Nat) (SX SY HX HY : Nat → Int) (r : Int) (L : List Value) (Q : Int → Int → Bool) : Prop where
  old : Below w.heap.size w W
  tg : TrialG W n sb so cap cb b1 o1 k1 SX SY HX HY r
  gm : GoodAt W bm kk Q
  st : SAt W g L
  t0 : W.cell? ⟨t, 0, none⟩ = some (.slice (some ⟨sb, so, none⟩) n cap)
  t1 : W.cell? ⟨t, 1, none⟩ = some (.func (.func 95) #[] #[.pointer (some ⟨cb, 0, none⟩)])
  t2 : W.cell? ⟨t, 2, none⟩ = some (.map (some bm))
  lg : g < bm
  lt : bm < t
  big : t < W.heap.size
  ls : sb < bm
  l1 : b1 < bm
  lc : cb < bm
  lw : w.heap.size ≤ bm
theorem GX.below {w W W' : World} {n sb so cap cb b1 o1 k1 bm kk g t : Nat} {SX SY HX HY : Nat → Int} {r : Int} {L : List Value} {Q : Int → Int → Bool} (h : GX w W n sb so cap cb b1 o1 k1 bm kk g t SX SY HX HY r L Q) (hb : Below W.heap.size W W') : GX w W' n sb so cap cb b1 o1 k1 bm kk g t SX SY HX HY r L Q := by
  have h1 := h.lg; have h2 := h.lt; have h3 := h.big
  exact ⟨h.old.trans (hb.mono h.old.size), h.tg.below hb, h.gm.below hb h.gm.lt, h.st.below hb (by omega), (hb.cell (p := ⟨t, 0, none⟩) h3).trans h.t0, (hb.cell (p := ⟨t, 1, none⟩) h3).trans h.t1, (hb.cell (p := ⟨t, 2, none⟩) h3).trans h.t2, h1, h2, Nat.lt_of_lt_of_le h3 hb.size, h.ls, h.l1, h.lc, h.lw⟩
theorem GX.grown {w W W' : World} {n sb so cap cb b1 o1 k1 bm kk kk' g t : Nat} {SX SY HX HY : Nat → Int} {r : Int} {L : List Value} {Q : Int → Int → Bool} (h : GX w W n sb so cap cb b1 o1 k1 bm kk g t SX SY HX HY r L Q) (hg : W.grownBy W' (some bm)) (hgm : GoodAt W' bm kk' Q) : GX w W' n sb so cap cb b1 o1 k1 bm kk' g t SX SY HX HY r L Q := by
  have h1 := h.lg; have h2 := h.lt; have h3 := h.big; have h4 := h.lw; have h5 := h.old.size
  have c : ∀ j, W'.cell? ⟨t, j, none⟩ = W.cell? ⟨t, j, none⟩ := fun j => World.cell?_of_block (hg.block t h3 (by intro e; injection e; omega))
  exact ⟨h.old.grown hg h5 (fun k e => by cases e; exact h4), h.tg.grown hg h.ls h.l1 h.lc, hgm, h.st.far (hg.block g (by omega) (by intro e; injection e; omega)), (c _).trans h.t0, (c _).trans h.t1, (c _).trans h.t2, h1, h2, Nat.lt_of_lt_of_le h3 hg.size, h.ls, h.l1, h.lc, h.lw⟩
theorem GX.mono {w W : World} {n sb so cap cb b1 o1 k1 bm kk kk' g t : Nat} {SX SY HX HY : Nat → Int} {r : Int} {L : List Value} {Q : Int → Int → Bool} (h : GX w W n sb so cap cb b1 o1 k1 bm kk g t SX SY HX HY r L Q) (hk : kk ≤ kk') : GX w W n sb so cap cb b1 o1 k1 bm kk' g t SX SY HX HY r L Q :=
  ⟨h.old, h.tg, h.gm.mono hk, h.st, h.t0, h.t1, h.t2, h.lg, h.lt, h.big, h.ls, h.l1, h.lc, h.lw⟩
end Go.Proofs.YtmjmmokbaocboaaGreatDoor
namespace Go.Proofs.YtmjmmokbaocboaaGreatDoor
open Go.RowKit
/-- a machine and a button in blocks of their own. -/
structure SB (w W : World) (m : Mach) (v1 : Value) (r : Int) : Prop where
  c0 : W.cell? ⟨w.heap.size + 1, 0, none⟩ = some v1
  c1 : W.cell? ⟨w.heap.size + 1, 1, none⟩ = some (.int .i64 r)
  mach : MAt W w.heap.size m
  old : Below w.heap.size w W
  big : w.heap.size + 2 ≤ W.heap.size
theorem SB.below {w W W' : World} {m : Mach} {v1 : Value} {r : Int} (h : SB w W m v1 r) (hb : Below W.heap.size W W') : SB w W' m v1 r := by
  have := h.big
  exact ⟨(hb.cell (p := ⟨w.heap.size + 1, 0, none⟩) (by show w.heap.size + 1 < _; omega)).trans h.c0, (hb.cell (p := ⟨w.heap.size + 1, 1, none⟩) (by show w.heap.size + 1 < _; omega)).trans h.c1, h.mach.below hb (by omega), h.old.trans (hb.mono (by omega)), Nat.le_trans h.big hb.size⟩
theorem SB.alloc {w W : World} {m : Mach} {v1 : Value} {r : Int} (h : SB w W m v1 r) (o : Obj) : SB w (W.alloc o) m v1 r := h.below ((Below.refl _ _).alloc (Nat.le_refl _) o)
theorem SB.drew {w W : World} {m : Mach} {v1 : Value} {r : Int} (h : SB w W m v1 r) : SB w W.drew m v1 r := h.below (Below.refl _ _).drew
theorem SB.put {w W : World} {m : Mach} {v1 : Value} {r : Int} (h : SB w W m v1 r) {g : Nat} (hg : w.heap.size + 2 ≤ g) (L : List Value) : SB w (W.setCells g 0 L) m v1 r := by
  have hl := h.big
  have hbl : Below (w.heap.size + 2) W (W.setCells g 0 L) := below_setCells hg L 0 W (Below.refl _ _)
  exact ⟨(hbl.cell (p := ⟨w.heap.size + 1, 0, none⟩) (by show w.heap.size + 1 < _; omega)).trans h.c0, (hbl.cell (p := ⟨w.heap.size + 1, 1, none⟩) (by show w.heap.size + 1 < _; omega)).trans h.c1, h.mach.below hbl (by omega), below_setCells (by omega) L 0 W h.old, by rw [size_setCells]; exact hl⟩
theorem SB.grown {w W W' : World} {m : Mach} {v1 : Value} {r : Int} {b : Nat} (h : SB w W m v1 r) (hg : W.grownBy W' (some b)) (hb : w.heap.size + 2 ≤ b) : SB w W' m v1 r := by
  have hl := h.big
  have hbl : Below (w.heap.size + 2) W W' := (Below.refl _ _).grown hg hl fun k e => by cases e; exact hb
  exact ⟨(hbl.cell (p := ⟨w.heap.size + 1, 0, none⟩) (by show w.heap.size + 1 < _; omega)).trans h.c0, (hbl.cell (p := ⟨w.heap.size + 1, 1, none⟩) (by show w.heap.size + 1 < _; omega)).trans h.c1, h.mach.below hbl (by omega), h.old.trans (hbl.mono (by omega)), Nat.le_trans hl hg.size⟩
theorem SB.new (w : World) (m : Mach) (v1 : Value) (r : Int) : SB w ((w.alloc (.cells #[.slice m.sa m.sn m.sc, .int .i64 m.c0, .int .i64 m.c1, .int .i64 m.d0, .int .i64 m.d1, .int .i64 m.w0, .int .i64 m.w1, .int .i64 m.v0, .int .i64 m.v1, .slice m.ra m.rn m.rc] 29)).alloc (Obj.cells #[v1, .int .i64 r] 58)) m v1 r := by
  have h := (MAt.new w m).below ((Below.refl _ _).alloc (Nat.le_refl _) (Obj.cells #[v1, .int .i64 r] 58)) (by rw [World.size_alloc]; omega)
  have c := fun j u (hj : (#[v1, .int .i64 r] : Array Value)[j]? = some u) => cells_new (w.alloc (.cells #[.slice m.sa m.sn m.sc, .int .i64 m.c0, .int .i64 m.c1, .int .i64 m.d0, .int .i64 m.d1, .int .i64 m.w0, .int .i64 m.w1, .int .i64 m.v0, .int .i64 m.v1, .slice m.ra m.rn m.rc] 29)) #[v1, .int .i64 r] 58 hj
  rw [World.size_alloc] at c
  exact ⟨c 0 _ rfl, c 1 _ rfl, h, ((Below.refl _ _).alloc (Nat.le_refl _) _).alloc (by rw [World.size_alloc]; omega) _, by rw [World.size_alloc, World.size_alloc]; omega⟩
/-- a button is as defined. -/
def butB (n : Nat) (X Y : Nat → Int) (r : Int) : Bool := arB n 2 X Y 80 && inB r 0 4
theorem but_parts {n : Nat} {X Y : Nat → Int} {r : Int} (h : butB n X Y r = true) : (2 ≤ n ∧ n ≤ 4) ∧ (0 ≤ r ∧ r ≤ 4) ∧ (∀ i, i < n → small (X i, Y i)) := by
  unfold butB arB at h
  simp only [Bool.and_eq_true] at h
  obtain ⟨⟨h1, h2⟩, h3⟩ := h
  have h1 := inB_iff.1 h1
  refine ⟨⟨by omega, by omega⟩, inB_iff.1 h3, fun i hi => ?_⟩
  have := allB_iff.1 h2 i hi
  unfold ptB at this
  rw [Bool.and_eq_true, inB_iff, inB_iff] at this
  exact this
set_option maxRecDepth 100000 in
set_option maxHeartbeats 1000000 in
theorem isOf_any (v1 : Value) (a1 : Option Addr) (n c1 : Nat) (r : Int) (HX HY : Nat → Int) (m : Mach) (w : World) (hv : v1 = .slice a1 n c1) (hn : n ≤ 1000) (hs : m.sn ≤ 9223372036854775807) (hp : PSl w v1 n HX HY) :
    Calls Tryz.prog 66 #[.agg #[v1, .int .i64 r], m.val] w fun e w' => e = .returned (.bool (butB n HX HY r && decide (n = m.sn))) ∧ Below w.heap.size w w' := by
  subst hv
  obtain ⟨W0, hW0⟩ : ∃ W0, (w.alloc (Obj.cells #[.slice a1 n c1, .int .i64 r] 58)).alloc (.cells #[.slice m.sa m.sn m.sc, .int .i64 m.c0, .int .i64 m.c1, .int .i64 m.d0, .int .i64 m.d1, .int .i64 m.w0, .int .i64 m.w1, .int .i64 m.v0, .int .i64 m.v1, .slice m.ra m.rn m.rc] 29) = W0 := ⟨_, rfl⟩
  have hb0 : Below w.heap.size w W0 := by rw [← hW0]; exact ((Below.refl _ _).alloc (Nat.le_refl _) _).alloc (by rw [World.size_alloc]; omega) _
  have hsz : W0.heap.size = w.heap.size + 1 + 1 := by rw [← hW0, World.size_alloc, World.size_alloc]
  have c0 : W0.cell? ⟨w.heap.size, 0, none⟩ = some (.slice a1 n c1) := by rw [← hW0]; exact cell_under w _ _ _ _ rfl
  have c1' : W0.cell? ⟨w.heap.size, 1, none⟩ = some (.int .i64 r) := by rw [← hW0]; exact cell_under w _ _ _ _ rfl
  have d0 : W0.cell? ⟨w.heap.size + 1, 0, none⟩ = some (.slice m.sa m.sn m.sc) := by
    have := (MAt.new (w.alloc (Obj.cells #[.slice a1 n c1, .int .i64 r] 58)) m).k0
    rw [World.size_alloc] at this; rw [← hW0]; exact this
  have har := are_any (.slice a1 n c1) n 2 HX HY 80 (by omega) (by omega) W0 hn (hp.below hb0)
  have hwi := fun (W : World) => within_any r 0 4 W
  unfold butB
  generalize arB n 2 HX HY 80 = x at har ⊢
  generalize inB r 0 4 = y at hwi ⊢
  go_enter Tryz.func66, Tryz.ntmps66
  cases x
  · go_wp2_with (first | (go_at_call 64; with_reducible refine har.mono ?_; rintro e w1 ⟨rfl, hb1⟩; have p0 := (hb1.cell (p := ⟨w.heap.size, 0, none⟩) (by show w.heap.size < _; omega)).trans c0; have p1 := (hb1.cell (p := ⟨w.heap.size, 1, none⟩) (by show w.heap.size < _; omega)).trans c1'; have q1 := (hb1.cell (p := ⟨w.heap.size + 1, 0, none⟩) (by show w.heap.size + 1 < _; omega)).trans d0) | (go_at_call 49; with_reducible refine (hwi _).mono ?_; rintro e w8 ⟨rfl, rfl⟩))
    go_ret
    exact ⟨rfl, hb0.trans (hb1.mono hb0.size)⟩
  · cases y
    · go_wp2_with (first | (go_at_call 64; with_reducible refine har.mono ?_; rintro e w1 ⟨rfl, hb1⟩; have p0 := (hb1.cell (p := ⟨w.heap.size, 0, none⟩) (by show w.heap.size < _; omega)).trans c0; have p1 := (hb1.cell (p := ⟨w.heap.size, 1, none⟩) (by show w.heap.size < _; omega)).trans c1'; have q1 := (hb1.cell (p := ⟨w.heap.size + 1, 0, none⟩) (by show w.heap.size + 1 < _; omega)).trans d0) | (go_at_call 49; with_reducible refine (hwi _).mono ?_; rintro e w8 ⟨rfl, rfl⟩))
      go_ret
      exact ⟨rfl, hb0.trans (hb1.mono hb0.size)⟩
    · by_cases hnn : n = m.sn
      · subst hnn
        go_wp2_with (first | (go_at_call 64; with_reducible refine har.mono ?_; rintro e w1 ⟨rfl, hb1⟩; have p0 := (hb1.cell (p := ⟨w.heap.size, 0, none⟩) (by show w.heap.size < _; omega)).trans c0; have p1 := (hb1.cell (p := ⟨w.heap.size, 1, none⟩) (by show w.heap.size < _; omega)).trans c1'; have q1 := (hb1.cell (p := ⟨w.heap.size + 1, 0, none⟩) (by show w.heap.size + 1 < _; omega)).trans d0) | (go_at_call 49; with_reducible refine (hwi _).mono ?_; rintro e w8 ⟨rfl, rfl⟩))
        go_ret
        exact ⟨by simp, hb0.trans (hb1.mono hb0.size)⟩
      · have hni : ¬ (n : Int) = (m.sn : Int) := by omega
        go_wp2_with (first | (go_at_call 64; with_reducible refine har.mono ?_; rintro e w1 ⟨rfl, hb1⟩; have p0 := (hb1.cell (p := ⟨w.heap.size, 0, none⟩) (by show w.heap.size < _; omega)).trans c0; have p1 := (hb1.cell (p := ⟨w.heap.size, 1, none⟩) (by show w.heap.size < _; omega)).trans c1'; have q1 := (hb1.cell (p := ⟨w.heap.size + 1, 0, none⟩) (by show w.heap.size + 1 < _; omega)).trans d0) | (go_at_call 49; with_reducible refine (hwi _).mono ?_; rintro e w8 ⟨rfl, rfl⟩))
        go_ret
        exact ⟨by simp [hnn, hni], hb0.trans (hb1.mono hb0.size)⟩
end Go.Proofs.YtmjmmokbaocboaaGreatDoor
namespace Go.Proofs.YtmjmmokbaocboaaGreatDoor
open Go.RowKit
set_option maxRecDepth 100000 in
set_option maxHeartbeats 1000000 in
theorem Could_ok (a1 : Option Addr) (c1 : Nat) (r : Int) (HX HY : Nat → Int) (m : Mach) (w : World) (hn : m.sn ≤ 1000) (hr : m.rn ≤ 9223372036854775807) (hp : PSl w (.slice a1 m.sn c1) m.sn HX HY) (h : MIn w m) (hok : m.ok = true) (hc : m.can)
    (hbu : butB m.sn HX HY r = true) (sg : Nat → Bool) (hsg : ∀ k, k ≤ 12 → (sg k = false ↔ ∀ x y, InBox (m.axX.ends k).1 (m.axX.ends k).2 (m.axY.ends k).1 (m.axY.ends k).2 x y → agreeB m.sn HX HY m.SX m.SY r x y = false)) :
    Calls Tryz.prog 27 #[m.val, .agg #[.slice a1 m.sn c1, .int .i64 r]] w fun e w' => ∃ v : Value, e = .returned (.tuple #[v, .int .i64 0]) ∧ w'.ownsRow w.heap.size 3 1 v (blanksTo sg 12).length (iCells (blanksTo sg 12)) ∧ Below w.heap.size w w' := by
  obtain ⟨⟨q1, q2⟩, ⟨q3, q4⟩, q5⟩ := but_parts hbu
  obtain ⟨b1, o1, k1, e1, l1, p1⟩ := PSl_posD hp (by omega)
  cases e1
  obtain ⟨sb, so, k0, e0, lsb, pS⟩ := PSl_posD h.stops (by omega)
  have hsa : PLift (m.sa = some ⟨sb, so, none⟩) := ⟨by injection e0⟩
  clear e0
  have hst := (Mach.ok_parts hok).1
  have hsS : ∀ i, i < m.sn → (-20 ≤ m.SX i ∧ m.SX i ≤ 20) ∧ (-20 ≤ m.SY i ∧ m.SY i ≤ 20) := fun i hi => by
    unfold Mach.okStops arB at hst
    rw [Bool.and_eq_true, allB_iff] at hst
    have := hst.2 i hi
    unfold ptB at this
    rw [Bool.and_eq_true, inB_iff, inB_iff] at this
    omega
  have hbX := fun k (hk : k ≤ 12) => (by have := Axis.any_bound (Mach.fineX hok) k hk; exact ⟨this.1, this.2.1, by omega⟩ : -48 ≤ (m.axX.ends k).1 ∧ (m.axX.ends k).2 ≤ 48 ∧ (m.axX.ends k).1 ≤ 1000)
  have hbY := fun k (hk : k ≤ 12) => (by have := Axis.any_bound (Mach.fineY hok) k hk; exact ⟨this.1, this.2.1, by omega⟩ : -48 ≤ (m.axY.ends k).1 ∧ (m.axY.ends k).2 ≤ 48 ∧ (m.axY.ends k).1 ≤ 1000)
  obtain ⟨L, er, hE, hC⟩ := examine_any m true w hn hr h
  obtain ⟨hLe, rfl⟩ := hE.ok (by rw [hok]; rfl) hc
  have hif := fun (W : World) (hB : Below w.heap.size w W) => isOf_any (.slice (some ⟨b1, o1, none⟩) m.sn c1) (some ⟨b1, o1, none⟩) m.sn c1 r HX HY m W rfl hn (by omega) (hp.below hB)
  rw [show (butB m.sn HX HY r && decide (m.sn = m.sn)) = true by rw [hbu]; simp] at hif
  obtain ⟨W0, hW0⟩ : ∃ W0, (w.alloc (.cells #[.slice m.sa m.sn m.sc, .int .i64 m.c0, .int .i64 m.c1, .int .i64 m.d0, .int .i64 m.d1, .int .i64 m.w0, .int .i64 m.w1, .int .i64 m.v0, .int .i64 m.v1, .slice m.ra m.rn m.rc] 29)).alloc (Obj.cells #[.slice (some ⟨b1, o1, none⟩) m.sn c1, .int .i64 r] 58) = W0 := ⟨_, rfl⟩
  have hSX : SB w W0 m (.slice (some ⟨b1, o1, none⟩) m.sn c1) r := by rw [← hW0]; exact SB.new w m _ r
  have hal : (#[.slice none 0 0, .int .i64 0, .int .i64 0, .int .i64 0, .int .i64 0, .int .i64 0, .int .i64 0, .int .i64 0, .int .i64 0, .slice none 0 0, .int .i64 0, .int .i64 0, .int .i64 0, .int .i64 0, .int .i64 0, .int .i64 0, .int .i64 0, .int .i64 0, .int .i64 0, .int .i64 0, .int .i64 0, .int .i64 0, .int .i64 0, .int .i64 0, .int .i64 0, .int .i64 0, .int .i64 0, .int .i64 0, .int .i64 0, .int .i64 0, .int .i64 0, .int .i64 0, .int .i64 0, .int .i64 0, .int .i64 0, .int .i64 0, .int .i64 0, .int .i64 0, .int .i64 0, .int .i64 0, .int .i64 0, .int .i64 0, .int .i64 0, .int .i64 0, .int .i64 0, .int .i64 0, .int .i64 0, .int .i64 0, .int .i64 0, .int .i64 0, .int .i64 0, .int .i64 0, .int .i64 0, .int .i64 0, .int .i64 0, .int .i64 0, .int .i64 0, .int .i64 0, .int .i64 0, .int .i64 0, .int .i64 0, .int .i64 0] : Array Value) = zst.toArray := rfl
  have hlz : zst.length = 62 := zM.st_length rfl rfl
  have hlL := hE.length
  have hoL := all_oneCell_toArray hE.one
  have hi0 : (Tryz.prog.info? 94).map (·.size) = some 62 := by kernel_rfl
  have hiL : (Tryz.prog.info? 94).map (·.size) = some L.length := by rw [hlL]; exact hi0
  have hiA : (Tryz.prog.info? 94).map (·.size) = some L.toArray.size := by rw [List.size_toArray, hlL]; exact hi0
  have hS0 := fun (W : World) => SAt.new W zst 94
  have hth := fun (W : World) (g : Nat) (H : SAt W g zst) => H.there 0 L.toArray.size (by rw [List.size_toArray, hlL, hlz]; omega)
  have hfi := fun (W : World) (g : Nat) (H : SAt W g zst) => SAt.fill (L' := L) H (by rw [hlL, hlz])
  have hat : ∀ (j : Nat) (W : World), j < 12 → Calls Tryz.prog 52 #[.agg L.toArray, .int .i64 ((j : Int) + 1)] W fun e w' => e = .returned (.agg #[.int .i64 (m.axX.ends (j + 1)).1, .int .i64 (m.axX.ends (j + 1)).2, .int .i64 (m.axY.ends (j + 1)).1, .int .i64 (m.axY.ends (j + 1)).2]) ∧ Below W.heap.size W w' := fun j W hj => by
    obtain ⟨x0, x1⟩ := st_atX m m.axX.ends m.axY.ends (j + 1) (by omega)
    obtain ⟨x2, x3⟩ := st_atY m m.axX.ends m.axY.ends (j + 1) (by omega)
    rw [← hLe] at x0 x1 x2 x3
    have := at_any L (j + 1) (by omega) _ _ _ _ W x0 x1 x2 x3
    rw [show ((j + 1 : Nat) : Int) = (j : Int) + 1 by omega] at this
    exact this
  have hLm : ∀ (j : Nat) (u : Value), m.cells[j]? = some u → L[j]? = some u := fun j u h => by
    rw [hLe]
    unfold Mach.st
    rw [List.getElem?_append_left (by exact (List.getElem?_eq_some_iff.1 h).1)]
    exact h
  have hco := fun (V : World) (hO : Below w.heap.size w V) => could_any m L m.axX.ends m.axY.ends b1 o1 c1 sb so r HX HY sg V hsa.down hLm hat hlL (pS.below hO lsb) (p1.below hO l1) (Nat.lt_of_lt_of_le lsb hO.size) (Nat.lt_of_lt_of_le l1 hO.size) q3 (by omega) q1 q2 hsS q5 hbX hbY hsg
  clear hi0 hE hLe hat hLm hsg hbX hbY
  generalize zst = Z at *
  go_enter Tryz.func27, Tryz.ntmps27
  go_wp2_with fail
  rename_i Q' K hKK
  have fin : ∀ (g : Nat) (V : World), SB w V m (.slice (some ⟨b1, o1, none⟩) m.sn c1) r → SAt V g L → w.heap.size + 2 ≤ g → g < V.heap.size → K { tmps := #[m.val, .agg #[.slice (some ⟨b1, o1, none⟩) m.sn c1, .int .i64 r], .pointer (some ⟨w.heap.size, 0, none⟩), .pointer (some ⟨w.heap.size + 1, 0, none⟩), .slice none 0 0, .int .i64 0, .pointer (some ⟨g, 0, none⟩), .int .i64 0, .tuple #[.agg L.toArray, .int .i64 0], m.val, .agg #[.slice (some ⟨b1, o1, none⟩) m.sn c1, .int .i64 r], m.val, .bool true, .tuple #[.agg L.toArray, .int .i64 0], .agg L.toArray, .int .i64 0, undef, undef, undef, undef, undef, undef], defers := [] } V := by
    intro g V hX hS hg1 hg2
    refine hKK _ _ ?_
    have hgo := hco V hX.old
    have hO := hX.old
    have hz := hO.size
    clear hif hC hSX hW0 hS0 hth hfi hco
    have z0 := hX.c0
    have z1 := hX.c1
    have hrg := hS.c
    clear hX
    go_wp2_with (first
      | (go_at_call 67; with_reducible refine hgo.mono ?_; rintro e w3 ⟨v, rfl, hrow, hb3⟩)
      | (with_reducible refine wpList_load_mid rfl 94 _ rfl g 0 rfl L _ hrg Tryz.underlying94 rfl hiL ?_))
    refine bodyPost_ret (v := .tuple #[v, .int .i64 0]) (by simp [results, Tryz.results27, go_sem]) rfl ⟨v, rfl, hrow.mono hz, hO.trans (hb3.mono hz)⟩
  clear hKK hco
  refine wp_region_late [] (fun w9 => SB w w9 m (.slice (some ⟨b1, o1, none⟩) m.sn c1) r) (fun w9 => True) (by kernel_rfl) ?_ (fun hHeld => ?_)
  · (exact ⟨hSX.drew, trivial⟩)
  generalize W0.drew = V at hHeld ⊢
  refine wpAnyP_take0 (i := 0) (v := ?_) rfl (by kernel_rfl) (by kernel_rfl) (by kernel_rfl) (by kernel_rfl) (by rfl) (fun _ _ _ h => h) (Or.inl ⟨by rfl, ?_⟩) hHeld ?_
  rotate_left 1
  · ((intro w9 hSw; have q0 := hSw.mach.k0; have q1 := hSw.mach.k1; have q2 := hSw.mach.k2; have q3 := hSw.mach.k3; have q4 := hSw.mach.k4; have q5 := hSw.mach.k5; have q6 := hSw.mach.k6; have q7 := hSw.mach.k7; have q8 := hSw.mach.k8; have q9 := hSw.mach.k9; clear hSw; go_simp) <;> with_reducible rfl)
  (try simp only [Act.put, List.setIfInBounds_toArray, List.set_cons_zero, List.set_cons_succ])
  refine wpAnyP_take0 (i := 1) (v := ?_) rfl (by kernel_rfl) (by kernel_rfl) (by kernel_rfl) (by kernel_rfl) (by rfl) (fun _ _ _ h => h) (Or.inl ⟨by rfl, ?_⟩) hHeld ?_
  rotate_left 1
  · ((intro w9 hSw; have q0 := hSw.c0; have q1 := hSw.c1; clear hSw; go_simp) <;> with_reducible rfl)
  (try simp only [Act.put, List.setIfInBounds_toArray, List.set_cons_zero, List.set_cons_succ])
  refine wpAnyP_take0 (i := 2) (v := ?_) rfl (by kernel_rfl) (by kernel_rfl) (by kernel_rfl) (by kernel_rfl) (by rfl) (fun _ _ _ h => h) (Or.inl ⟨by rfl, ?_⟩) hHeld ?_
  rotate_left 1
  · ((intro w9 hSw; have q0 := hSw.mach.k0; have q1 := hSw.mach.k1; have q2 := hSw.mach.k2; have q3 := hSw.mach.k3; have q4 := hSw.mach.k4; have q5 := hSw.mach.k5; have q6 := hSw.mach.k6; have q7 := hSw.mach.k7; have q8 := hSw.mach.k8; have q9 := hSw.mach.k9; clear hSw; go_simp) <;> with_reducible rfl)
  (try simp only [Act.put, List.setIfInBounds_toArray, List.set_cons_zero, List.set_cons_succ])
  refine wpAnyP_ready (rs := [3, 8]) (by kernel_rfl) (by simp) ?_
  refine AllReadyP.cons (o := _) rfl (fun K hK => ?_) (AllReadyP.cons (o := _) rfl (fun K hK => ?_) AllReadyP.nil)
  · go_simp
    (go_at_call 66; with_reducible refine (hif _ hHeld.1.old).mono ?_; rintro e w1 ⟨rfl, hb1⟩)
    refine hK.out _ _ ?_ (fun hHeld => ?_)
    · (exact ⟨hHeld.1.below hb1, trivial⟩)
    clear hK K
    (try simp only [Act.put, List.setIfInBounds_toArray, List.set_cons_zero, List.set_cons_succ])
    refine wpAnyP_ready (rs := [4, 8]) (by kernel_rfl) (by simp) ?_
    refine AllReadyP.cons (o := _) rfl (fun K hK => ?_) (AllReadyP.cons (o := _) rfl (fun K hK => ?_) AllReadyP.nil)
    · go_simp
      (go_at_call 47; with_reducible refine (hC _ hHeld.1.old).mono ?_; rintro e w2 ⟨rfl, hb2⟩)
      refine hK.out _ _ ?_ (fun hHeld => ?_)
      · (exact ⟨hHeld.1.below hb2, trivial⟩)
      clear hK K
      (try simp only [Act.put, List.setIfInBounds_toArray, List.set_cons_zero, List.set_cons_succ])
      refine wpAnyP_take0 (i := 5) (v := ?_) rfl (by kernel_rfl) (by kernel_rfl) (by kernel_rfl) (by kernel_rfl) (by rfl) (fun _ _ _ h => h) (Or.inl ⟨by rfl, ?_⟩) hHeld ?_
      rotate_left 1
      · ((intro w9 hSw; clear hSw; go_simp) <;> with_reducible rfl)
      (try simp only [Act.put, List.setIfInBounds_toArray, List.set_cons_zero, List.set_cons_succ])
      refine wpAnyP_take0 (i := 6) (v := ?_) rfl (by kernel_rfl) (by kernel_rfl) (by kernel_rfl) (by kernel_rfl) (by rfl) (fun _ _ _ h => h) (Or.inl ⟨by rfl, ?_⟩) hHeld ?_
      rotate_left 1
      · ((intro w9 hSw; clear hSw; go_simp) <;> with_reducible rfl)
      (try simp only [Act.put, List.setIfInBounds_toArray, List.set_cons_zero, List.set_cons_succ])
      refine wpAnyP_take0 (i := 7) (v := ?_) rfl (by kernel_rfl) (by kernel_rfl) (by kernel_rfl) (by kernel_rfl) (by rfl) (fun _ _ _ h => h) (Or.inl ⟨by rfl, ?_⟩) hHeld ?_
      rotate_left 1
      · ((intro w9 hSw; clear hSw; go_simp) <;> with_reducible rfl)
      (try simp only [Act.put, List.setIfInBounds_toArray, List.set_cons_zero, List.set_cons_succ])
      refine wpAnyP_ready (rs := [8]) (by kernel_rfl) (by simp) ?_
      refine AllReadyP.cons (o := _) rfl (fun K hK => ?_) AllReadyP.nil
      · go_simp
        (try simp only [hal])
        have hZ := hS0 w2
        have hgzz := hHeld.1.big
        refine hK.out _ _ ?_ (fun hHeld => ?_)
        · (exact ⟨hHeld.1.alloc _, trivial⟩)
        clear hK K
        (try simp only [Act.put, List.setIfInBounds_toArray, List.set_cons_zero, List.set_cons_succ])
        refine wpAnyP_ready (rs := [9]) (by kernel_rfl) (by simp) ?_
        refine AllReadyP.cons (o := _) rfl (fun K hK => ?_) AllReadyP.nil
        · refine step_store_mid rfl 94 _ _ rfl w2.heap.size 0 L.toArray rfl rfl (hth _ _ hZ) hiA hoL ?_
          have hL5 := hfi _ _ hZ
          have hK5 := hHeld.1.put hgzz L
          refine hK.out _ _ ?_ (fun hHeld => ?_)
          · (exact ⟨hK5, trivial⟩)
          clear hK K
          (try simp only [Act.put, List.setIfInBounds_toArray, List.set_cons_zero, List.set_cons_succ])
          refine wpAnyP_take0 (i := 10) (v := ?_) rfl (by kernel_rfl) (by kernel_rfl) (by kernel_rfl) (by kernel_rfl) (by rfl) (fun _ _ _ h => h) (Or.inl ⟨by rfl, ?_⟩) hHeld ?_
          rotate_left 1
          · ((intro w9 hSw; clear hSw; go_simp) <;> with_reducible rfl)
          (try simp only [Act.put, List.setIfInBounds_toArray, List.set_cons_zero, List.set_cons_succ])
          refine wpAnyP_done (by kernel_rfl) ?_ _
          (try simp only [Act.put, List.getElem_toArray, List.getElem_cons_zero, List.getElem_cons_succ, List.setIfInBounds_toArray, List.set_cons_zero, List.set_cons_succ])
          have hX9 := hHeld.1
          clear hth hfi hS0 hHeld hC hif
          exact fin _ _ hX9 hL5 (by first | exact hgzz | omega) (hL5.lt (by omega))
    · go_simp
      (try simp only [hal])
      have hZ := hS0 w1
      have hgzz := hHeld.1.big
      refine hK.out _ _ ?_ (fun hHeld => ?_)
      · (exact ⟨hHeld.1.alloc _, trivial⟩)
      clear hK K
      (try simp only [Act.put, List.setIfInBounds_toArray, List.set_cons_zero, List.set_cons_succ])
      refine wpAnyP_ready (rs := [4]) (by kernel_rfl) (by simp) ?_
      refine AllReadyP.cons (o := _) rfl (fun K hK => ?_) AllReadyP.nil
      · go_simp
        (go_at_call 47; with_reducible refine (hC _ hHeld.1.old).mono ?_; rintro e w2 ⟨rfl, hb2⟩)
        replace hZ := hZ.below hb2 (by first | (rw [World.size_alloc]; exact Nat.lt_succ_self _) | (have hz := hb1.size; rw [World.size_alloc] at hz; omega))
        refine hK.out _ _ ?_ (fun hHeld => ?_)
        · (exact ⟨hHeld.1.below hb2, trivial⟩)
        clear hK K
        (try simp only [Act.put, List.setIfInBounds_toArray, List.set_cons_zero, List.set_cons_succ])
        refine wpAnyP_take0 (i := 5) (v := ?_) rfl (by kernel_rfl) (by kernel_rfl) (by kernel_rfl) (by kernel_rfl) (by rfl) (fun _ _ _ h => h) (Or.inl ⟨by rfl, ?_⟩) hHeld ?_
        rotate_left 1
        · ((intro w9 hSw; clear hSw; go_simp) <;> with_reducible rfl)
        (try simp only [Act.put, List.setIfInBounds_toArray, List.set_cons_zero, List.set_cons_succ])
        refine wpAnyP_take0 (i := 6) (v := ?_) rfl (by kernel_rfl) (by kernel_rfl) (by kernel_rfl) (by kernel_rfl) (by rfl) (fun _ _ _ h => h) (Or.inl ⟨by rfl, ?_⟩) hHeld ?_
        rotate_left 1
        · ((intro w9 hSw; clear hSw; go_simp) <;> with_reducible rfl)
        (try simp only [Act.put, List.setIfInBounds_toArray, List.set_cons_zero, List.set_cons_succ])
        refine wpAnyP_take0 (i := 7) (v := ?_) rfl (by kernel_rfl) (by kernel_rfl) (by kernel_rfl) (by kernel_rfl) (by rfl) (fun _ _ _ h => h) (Or.inl ⟨by rfl, ?_⟩) hHeld ?_
        rotate_left 1
        · ((intro w9 hSw; clear hSw; go_simp) <;> with_reducible rfl)
        (try simp only [Act.put, List.setIfInBounds_toArray, List.set_cons_zero, List.set_cons_succ])
        refine wpAnyP_ready (rs := [9]) (by kernel_rfl) (by simp) ?_
        refine AllReadyP.cons (o := _) rfl (fun K hK => ?_) AllReadyP.nil
        · refine step_store_mid rfl 94 _ _ rfl w1.heap.size 0 L.toArray rfl rfl (hth _ _ hZ) hiA hoL ?_
          have hL5 := hfi _ _ hZ
          have hK5 := hHeld.1.put hgzz L
          refine hK.out _ _ ?_ (fun hHeld => ?_)
          · (exact ⟨hK5, trivial⟩)
          clear hK K
          (try simp only [Act.put, List.setIfInBounds_toArray, List.set_cons_zero, List.set_cons_succ])
          refine wpAnyP_take0 (i := 10) (v := ?_) rfl (by kernel_rfl) (by kernel_rfl) (by kernel_rfl) (by kernel_rfl) (by rfl) (fun _ _ _ h => h) (Or.inl ⟨by rfl, ?_⟩) hHeld ?_
          rotate_left 1
          · ((intro w9 hSw; clear hSw; go_simp) <;> with_reducible rfl)
          (try simp only [Act.put, List.setIfInBounds_toArray, List.set_cons_zero, List.set_cons_succ])
          refine wpAnyP_done (by kernel_rfl) ?_ _
          (try simp only [Act.put, List.getElem_toArray, List.getElem_cons_zero, List.getElem_cons_succ, List.setIfInBounds_toArray, List.set_cons_zero, List.set_cons_succ])
          have hX9 := hHeld.1
          clear hth hfi hS0 hHeld hC hif
          exact fin _ _ hX9 hL5 (by first | exact hgzz | omega) (hL5.lt (by omega))
  · go_simp
    (try simp only [hal])
    have hZ := hS0 V
    have hgzz := hHeld.1.big
    refine hK.out _ _ ?_ (fun hHeld => ?_)
    · (exact ⟨hHeld.1.alloc _, trivial⟩)
    clear hK K
    (try simp only [Act.put, List.setIfInBounds_toArray, List.set_cons_zero, List.set_cons_succ])
    refine wpAnyP_ready (rs := [3]) (by kernel_rfl) (by simp) ?_
    refine AllReadyP.cons (o := _) rfl (fun K hK => ?_) AllReadyP.nil
    · go_simp
      (go_at_call 66; with_reducible refine (hif _ hHeld.1.old).mono ?_; rintro e w1 ⟨rfl, hb1⟩)
      replace hZ := hZ.below hb1 (by first | (rw [World.size_alloc]; exact Nat.lt_succ_self _) | (have hz := hb1.size; rw [World.size_alloc] at hz; omega))
      refine hK.out _ _ ?_ (fun hHeld => ?_)
      · (exact ⟨hHeld.1.below hb1, trivial⟩)
      clear hK K
      (try simp only [Act.put, List.setIfInBounds_toArray, List.set_cons_zero, List.set_cons_succ])
      refine wpAnyP_ready (rs := [4]) (by kernel_rfl) (by simp) ?_
      refine AllReadyP.cons (o := _) rfl (fun K hK => ?_) AllReadyP.nil
      · go_simp
        (go_at_call 47; with_reducible refine (hC _ hHeld.1.old).mono ?_; rintro e w2 ⟨rfl, hb2⟩)
        replace hZ := hZ.below hb2 (by first | (rw [World.size_alloc]; exact Nat.lt_succ_self _) | (have hz := hb1.size; rw [World.size_alloc] at hz; omega))
        refine hK.out _ _ ?_ (fun hHeld => ?_)
        · (exact ⟨hHeld.1.below hb2, trivial⟩)
        clear hK K
        (try simp only [Act.put, List.setIfInBounds_toArray, List.set_cons_zero, List.set_cons_succ])
        refine wpAnyP_take0 (i := 5) (v := ?_) rfl (by kernel_rfl) (by kernel_rfl) (by kernel_rfl) (by kernel_rfl) (by rfl) (fun _ _ _ h => h) (Or.inl ⟨by rfl, ?_⟩) hHeld ?_
        rotate_left 1
        · ((intro w9 hSw; clear hSw; go_simp) <;> with_reducible rfl)
        (try simp only [Act.put, List.setIfInBounds_toArray, List.set_cons_zero, List.set_cons_succ])
        refine wpAnyP_take0 (i := 6) (v := ?_) rfl (by kernel_rfl) (by kernel_rfl) (by kernel_rfl) (by kernel_rfl) (by rfl) (fun _ _ _ h => h) (Or.inl ⟨by rfl, ?_⟩) hHeld ?_
        rotate_left 1
        · ((intro w9 hSw; clear hSw; go_simp) <;> with_reducible rfl)
        (try simp only [Act.put, List.setIfInBounds_toArray, List.set_cons_zero, List.set_cons_succ])
        refine wpAnyP_take0 (i := 7) (v := ?_) rfl (by kernel_rfl) (by kernel_rfl) (by kernel_rfl) (by kernel_rfl) (by rfl) (fun _ _ _ h => h) (Or.inl ⟨by rfl, ?_⟩) hHeld ?_
        rotate_left 1
        · ((intro w9 hSw; clear hSw; go_simp) <;> with_reducible rfl)
        (try simp only [Act.put, List.setIfInBounds_toArray, List.set_cons_zero, List.set_cons_succ])
        refine wpAnyP_ready (rs := [9]) (by kernel_rfl) (by simp) ?_
        refine AllReadyP.cons (o := _) rfl (fun K hK => ?_) AllReadyP.nil
        · refine step_store_mid rfl 94 _ _ rfl V.heap.size 0 L.toArray rfl rfl (hth _ _ hZ) hiA hoL ?_
          have hL5 := hfi _ _ hZ
          have hK5 := hHeld.1.put hgzz L
          refine hK.out _ _ ?_ (fun hHeld => ?_)
          · (exact ⟨hK5, trivial⟩)
          clear hK K
          (try simp only [Act.put, List.setIfInBounds_toArray, List.set_cons_zero, List.set_cons_succ])
          refine wpAnyP_take0 (i := 10) (v := ?_) rfl (by kernel_rfl) (by kernel_rfl) (by kernel_rfl) (by kernel_rfl) (by rfl) (fun _ _ _ h => h) (Or.inl ⟨by rfl, ?_⟩) hHeld ?_
          rotate_left 1
          · ((intro w9 hSw; clear hSw; go_simp) <;> with_reducible rfl)
          (try simp only [Act.put, List.setIfInBounds_toArray, List.set_cons_zero, List.set_cons_succ])
          refine wpAnyP_done (by kernel_rfl) ?_ _
          (try simp only [Act.put, List.getElem_toArray, List.getElem_cons_zero, List.getElem_cons_succ, List.setIfInBounds_toArray, List.set_cons_zero, List.set_cons_succ])
          have hX9 := hHeld.1
          clear hth hfi hS0 hHeld hC hif
          exact fin _ _ hX9 hL5 (by first | exact hgzz | omega) (hL5.lt (by omega))
end Go.Proofs.YtmjmmokbaocboaaGreatDoor
namespace Go.Proofs.YtmjmmokbaocboaaGreatDoor
theorem nar_mono {k : Int} {cl : Nat → Int × Int × Int} {s t : Int × Int} (h : s.1 ≤ t.1 ∧ t.2 ≤ s.2) : ∀ n, (nar k cl n s).1 ≤ (nar k cl n t).1 ∧ (nar k cl n t).2 ≤ (nar k cl n s).2
  | 0 => h
  | n+1 => by
    have := nar_mono (k := k) (cl := cl) h n
    unfold nar
    split
    · dsimp only; omega
    · exact this
theorem nar_more (k : Int) (cl : Nat → Int × Int × Int) (s : Int × Int) (n : Nat) : ∀ d, (nar k cl n s).1 ≤ (nar k cl (n + d) s).1 ∧ (nar k cl (n + d) s).2 ≤ (nar k cl n s).2
  | 0 => ⟨Int.le_refl _, Int.le_refl _⟩
  | d+1 => by
    have := nar_more k cl s n d
    rw [show n + (d + 1) = (n + d) + 1 by omega]
    conv => lhs; rhs; unfold nar
    conv => rhs; lhs; unfold nar
    split
    · dsimp only; omega
    · exact this
theorem nar_congr {k : Int} {cl cl' : Nat → Int × Int × Int} {s : Int × Int} : ∀ {n : Nat}, (∀ i, i < n → cl' i = cl i) → nar k cl' n s = nar k cl n s
  | 0, _ => rfl
  | n+1, h => by
    have h1 := nar_congr (k := k) (s := s) (n := n) fun i hi => h i (by omega)
    have h2 := h n (by omega)
    unfold nar
    rw [h1, h2]
/-- more is known of the second axis. -/
structure Axis.Less (a b : Axis) : Prop where
  c0 : a.c0 ≤ b.c0
  c1 : b.c1 ≤ a.c1
  w0 : a.w0 ≤ b.w0
  w1 : b.w1 ≤ a.w1
  n : a.n ≤ b.n
  cl : ∀ i, i < a.n → b.cl i = a.cl i
theorem Axis.Less.nar {a b : Axis} (h : a.Less b) {k : Int} {s t : Int × Int} (hs : s.1 ≤ t.1 ∧ t.2 ≤ s.2) : (nar k a.cl a.n s).1 ≤ (nar k b.cl b.n t).1 ∧ (nar k b.cl b.n t).2 ≤ (nar k a.cl a.n s).2 := by
  have h1 := nar_mono (k := k) (cl := a.cl) hs a.n
  have h2 := nar_more k b.cl t a.n (b.n - a.n)
  rw [show a.n + (b.n - a.n) = b.n by have := h.n; omega, nar_congr h.cl] at h2
  omega
theorem Axis.Less.fwd {a b : Axis} (h : a.Less b) : ∀ k, (a.fwd k).1 ≤ (b.fwd k).1 ∧ (b.fwd k).2 ≤ (a.fwd k).2
  | 0 => by unfold Axis.fwd; exact h.nar ⟨h.c0, h.c1⟩
  | k+1 => by
    have := h.fwd k
    have h1 := h.w0
    have h2 := h.w1
    unfold Axis.fwd
    exact h.nar ⟨by dsimp only; omega, by dsimp only; omega⟩
theorem Axis.Less.bwd {a b : Axis} (h : a.Less b) : ∀ j, (a.bwd j).1 ≤ (b.bwd j).1 ∧ (b.bwd j).2 ≤ (a.bwd j).2
  | 0 => h.fwd 12
  | j+1 => by
    have h0 := h.bwd j
    have h3 := h.fwd (11 - j)
    have h1 := h.w0
    have h2 := h.w1
    unfold Axis.bwd
    dsimp only; omega
theorem Axis.Less.ends {a b : Axis} (h : a.Less b) (k : Nat) : (a.ends k).1 ≤ (b.ends k).1 ∧ (b.ends k).2 ≤ (a.ends k).2 := h.bwd _
theorem InBox.less {x0 x1 y0 y1 u0 u1 v0 v1 x y : Int} (hx : x0 ≤ u0 ∧ u1 ≤ x1) (hy : y0 ≤ v0 ∧ v1 ≤ y1) (h : InBox u0 u1 v0 v1 x y) : InBox x0 x1 y0 y1 x y := by unfold InBox at *; omega
theorem word_more {Q Q' : Int → Int → Bool} {x0 x1 y0 y1 u0 u1 v0 v1 v v' : Int} (hx : x0 ≤ u0 ∧ u1 ≤ x1) (hy : y0 ≤ v0 ∧ v1 ≤ y1) (hQ : ∀ x y, Q x y = true → Q' x y = true) (hv : IsWord Q x0 x1 y0 y1 v) (hv' : IsWord Q' u0 u1 v0 v1 v') (h : v = 3) : v' = 3 :=
  hv'.surely.2 fun x y hb => hQ x y (hv.surely.1 h x y (InBox.less hx hy hb))
theorem gauge_more {wd wd' : Nat → Int} {n k : Nat} (h : IsGauge wd n) (h' : IsGauge wd' k) (hw : ∀ j, j ≤ 12 → wd j = 3 → wd' j = 3) : n ≤ k := by
  obtain ⟨a1, a2, _⟩ := h
  obtain ⟨_, _, b3⟩ := h'
  refine Classical.byContradiction fun hn => ?_
  exact b3 (by omega) (hw (k + 1) (by omega) (a2 k (by omega)))
theorem near_more {px py qx qy b c : Int} (hbc : b ≤ c) (h : nearB px py qx qy b = true) : nearB px py qx qy c = true := by
  unfold nearB at *
  rw [Bool.and_eq_true, inB_iff, inB_iff] at *
  omega
theorem good_more {n : Nat} {HX HY SX SY : Nat → Int} {r s x y : Int} (hrs : r ≤ s) (h : goodB n HX HY SX SY r x y = true) : goodB n HX HY SX SY s x y = true := by
  unfold goodB at *
  cases hs : matchS n HX HY (fun i => SX i + x) (fun i => SY i + y) s with
  | some v => rfl
  | none =>
    have hn : matchS n HX HY (fun i => SX i + x) (fun i => SY i + y) r = none := matchS_none.2 fun t ht q hq => by
      have h1 := matchS_none.1 hs t ht q hq
      cases h2 : agQ (fitB HX HY (fun i => SX i + x) (fun i => SY i + y) r t) n q with
      | false => rfl
      | true =>
        unfold agQ at h1 h2
        have h2 := of_decide_eq_true h2
        have h1 := of_decide_eq_false h1
        exact absurd (fun i hi => near_more hrs (h2 i hi)) h1
    rw [hn] at h
    cases h
end Go.Proofs.YtmjmmokbaocboaaGreatDoor
namespace Go.Proofs.YtmjmmokbaocboaaGreatDoor
open Go.RowKit
/-- the cells of marks: a blank, and two spans. -/
def markCells (f : Nat → Int × Int × Int × Int × Int) : Nat → List Value
  | 0 => []
  | n + 1 => markCells f n ++ [.int .i64 (f n).1, .int .i64 (f n).2.1, .int .i64 (f n).2.2.1, .int .i64 (f n).2.2.2.1, .int .i64 (f n).2.2.2.2]
theorem markCells_len (f : Nat → Int × Int × Int × Int × Int) : ∀ n, (markCells f n).length = n * 5
  | 0 => rfl
  | n + 1 => by rw [markCells, List.length_append, markCells_len f n]; simp; omega
theorem markCells_at (f : Nat → Int × Int × Int × Int × Int) : ∀ {n i : Nat}, i < n → (markCells f n)[i * 5]? = some (.int .i64 (f i).1) ∧ (markCells f n)[i * 5 + 1]? = some (.int .i64 (f i).2.1) ∧ (markCells f n)[i * 5 + 2]? = some (.int .i64 (f i).2.2.1) ∧ (markCells f n)[i * 5 + 3]? = some (.int .i64 (f i).2.2.2.1) ∧ (markCells f n)[i * 5 + 4]? = some (.int .i64 (f i).2.2.2.2)
  | 0, i, h => absurd h (Nat.not_lt_zero i)
  | n + 1, i, h => by
    have hl := markCells_len f n
    unfold markCells
    by_cases hi : i < n
    · obtain ⟨a, b, c, d, e⟩ := markCells_at f hi
      refine ⟨?_, ?_, ?_, ?_, ?_⟩ <;> (rw [List.getElem?_append_left (by omega)]; assumption)
    · obtain rfl : i = n := by omega
      refine ⟨?_, ?_, ?_, ?_, ?_⟩ <;> (rw [List.getElem?_append_right (by omega), hl])
      · rw [show i * 5 - i * 5 = 0 by omega]; rfl
      · rw [show i * 5 + 1 - i * 5 = 1 by omega]; rfl
      · rw [show i * 5 + 2 - i * 5 = 2 by omega]; rfl
      · rw [show i * 5 + 3 - i * 5 = 3 by omega]; rfl
      · rw [show i * 5 + 4 - i * 5 = 4 by omega]; rfl
def Mach.mark (m : Mach) (i : Nat) : Int × Int × Int × Int × Int := (m.RB i, m.RX i - m.RE i, m.RX i + m.RE i, m.RY i - m.RE i, m.RY i + m.RE i)
end Go.Proofs.YtmjmmokbaocboaaGreatDoor
namespace Go.Proofs.YtmjmmokbaocboaaGreatDoor
open Go.RowKit
/-- a row of spans, as in a course. -/
theorem own_cat {W : World} {B : Nat} {v : Value} {f : Nat → Int × Int} (h : W.ownsRow B 26 2 v 13 (crsL f 13)) : ∃ g c, v = .slice (some ⟨g, 0, none⟩) 13 c ∧ 13 ≤ c ∧ c ≤ maxLen ∧ B ≤ g ∧ g < W.heap.size ∧ CAt W g f := by
  obtain ⟨_, ⟨_, h0⟩ | ⟨g, cap, cur, rfl, hB, hh, hc, hm, _, hx⟩⟩ := h
  · omega
  · have hg : g < W.heap.size := (Array.getElem?_eq_some_iff.1 hh).1
    have hcell : ∀ j u, (crsL f 13)[j]? = some u → W.cell? ⟨g, j, none⟩ = some u := fun j u hj => by
      rw [← hx, List.getElem?_take] at hj
      split at hj
      · unfold World.cell?
        rw [hh]
        simpa [go_sem] using hj
      · cases hj
    refine ⟨g, cap, rfl, hc, hm, hB, hg, fun j hj => ?_, fun i => ?_⟩
    · obtain ⟨h1, h2⟩ := crsL_at f 13 j hj
      exact ⟨hcell _ _ h1, hcell _ _ h2⟩
    · unfold World.frozen?
      rw [hh]
      simp [go_sem]
/-- rows apart. -/
def Apr (a b : Value) : Prop := ∀ g, a.ownBlock = some g → b.ownBlock ≠ some g
theorem Apr.symm {a b : Value} (h : Apr a b) : Apr b a := fun g h1 h2 => h g h2 h1
/-- two rows of spans. -/
structure R2X (w : World) (B : Nat) (W : World) (n1 n2 : Nat) (p q : Value) (F1 F2 : Nat → Int × Int) : Prop where
  o1 : W.ownsRow B 26 2 p n1 (crsL F1 n1)
  o2 : W.ownsRow B 26 2 q n2 (crsL F2 n2)
  d : Apr p q
  old : Below w.heap.size w W
  low : w.heap.size ≤ B
  big : B ≤ W.heap.size
theorem R2X.swap {w : World} {B : Nat} {W : World} {n1 n2 : Nat} {p q : Value} {F1 F2 : Nat → Int × Int} (h : R2X w B W n1 n2 p q F1 F2) : R2X w B W n2 n1 q p F2 F1 := ⟨h.o2, h.o1, h.d.symm, h.old, h.low, h.big⟩
theorem R2X.below {w : World} {B : Nat} {W W' : World} {n1 n2 : Nat} {p q : Value} {F1 F2 : Nat → Int × Int} (h : R2X w B W n1 n2 p q F1 F2) (hb : Below W.heap.size W W') : R2X w B W' n1 n2 p q F1 F2 :=
  ⟨ownsRow_below h.o1 hb, ownsRow_below h.o2 hb, h.d, h.old.trans (hb.mono h.old.size), h.low, Nat.le_trans h.big hb.size⟩
theorem other_kept2 {W W' : World} {B : Nat} {p q : Value} {n : Nat} {xs : List Value} {e : TypeId} {s : Nat} (h : W.ownsRow B e s q n xs) (hg : W.grownBy W' p.ownBlock) (hd : Apr p q) : W'.ownsRow B e s q n xs := by
  refine h.kept hg ?_
  cases hq : q.ownBlock with
  | none => exact .inl rfl
  | some j =>
    refine .inr fun e => ?_
    rw [← hq] at e
    exact hd j (e ▸ hq) hq
theorem new_apart2 {W : World} {B : Nat} {p q : Value} {n g k c : Nat} {xs : List Value} {e : TypeId} {s : Nat} (h : W.ownsRow B e s q n xs) (hd : Apr p q) (hat : p.ownBlock = some g ∨ g = W.heap.size) : Apr (.slice (some ⟨g, 0, none⟩) k c) q := fun g' hg' hq => by
  simp [Value.ownBlock] at hg'
  subst hg'
  rcases hat with e | e
  · exact hd _ e hq
  · have := (h.lt _ hq).2; omega
theorem R2X.push1 {w : World} {B : Nat} {W W' : World} {n1 n2 : Nat} {p q : Value} {F1 F2 : Nat → Int × Int} (h : R2X w B W n1 n2 p q F1 F2) {g cap : Nat} (hg : W.grownBy W' p.ownBlock)
    (hown : W'.ownsRow B 26 2 (.slice (some ⟨g, 0, none⟩) (n1 + 1) cap) (n1 + 1) (crsL F1 n1 ++ [.int .i64 (F1 n1).1, .int .i64 (F1 n1).2])) (hat : p.ownBlock = some g ∨ g = W.heap.size) : R2X w B W' (n1 + 1) n2 (.slice (some ⟨g, 0, none⟩) (n1 + 1) cap) q F1 F2 :=
  ⟨hown, other_kept2 h.o2 hg h.d, new_apart2 h.o2 h.d hat, h.old.grown hg h.old.size fun k hk => Nat.le_trans h.low (h.o1.lt k hk).1, h.low, Nat.le_trans h.big hg.size⟩
theorem R2X.push2 {w : World} {B : Nat} {W W' : World} {n1 n2 : Nat} {p q : Value} {F1 F2 : Nat → Int × Int} (h : R2X w B W n1 n2 p q F1 F2) {g cap : Nat} (hg : W.grownBy W' q.ownBlock)
    (hown : W'.ownsRow B 26 2 (.slice (some ⟨g, 0, none⟩) (n2 + 1) cap) (n2 + 1) (crsL F2 n2 ++ [.int .i64 (F2 n2).1, .int .i64 (F2 n2).2])) (hat : q.ownBlock = some g ∨ g = W.heap.size) : R2X w B W' n1 (n2 + 1) p (.slice (some ⟨g, 0, none⟩) (n2 + 1) cap) F1 F2 := (h.swap.push1 hg hown hat).swap
/-- marks in memory. -/
def MkPts (w : World) (b off n : Nat) (f : Nat → Int × Int × Int × Int × Int) : Prop := ∀ i, i < n → w.cell? ⟨b, off + i * 5, none⟩ = some (.int .i64 (f i).1) ∧ w.cell? ⟨b, off + i * 5 + 1, none⟩ = some (.int .i64 (f i).2.1) ∧ w.cell? ⟨b, off + i * 5 + 2, none⟩ = some (.int .i64 (f i).2.2.1) ∧ w.cell? ⟨b, off + i * 5 + 3, none⟩ = some (.int .i64 (f i).2.2.2.1) ∧ w.cell? ⟨b, off + i * 5 + 4, none⟩ = some (.int .i64 (f i).2.2.2.2)
theorem MkPts.far {w w' : World} {b off n : Nat} {f : Nat → Int × Int × Int × Int × Int} (h : MkPts w b off n f) (hh : w'.heap[b]? = w.heap[b]?) : MkPts w' b off n f := fun i hi => by
  obtain ⟨h1, h2, h3, h4, h5⟩ := h i hi
  exact ⟨(World.cell?_of_block hh).trans h1, (World.cell?_of_block hh).trans h2, (World.cell?_of_block hh).trans h3, (World.cell?_of_block hh).trans h4, (World.cell?_of_block hh).trans h5⟩
/-- a slice of marks. -/
def MkSl (w : World) (v : Value) (n : Nat) (f : Nat → Int × Int × Int × Int × Int) : Prop := ∃ a c, v = .slice a n c ∧ (0 < n → ∃ b off, a = some ⟨b, off, none⟩ ∧ b < w.heap.size ∧ MkPts w b off n f)
theorem MkSl.below {w w' : World} {v : Value} {n : Nat} {f : Nat → Int × Int × Int × Int × Int} (h : MkSl w v n f) (hb : Below w.heap.size w w') : MkSl w' v n f := by
  obtain ⟨a, c, rfl, h⟩ := h
  refine ⟨a, c, rfl, fun hn => ?_⟩
  obtain ⟨b, off, rfl, hl, h⟩ := h hn
  exact ⟨b, off, rfl, Nat.lt_of_lt_of_le hl hb.size, h.far (hb.block b hl)⟩
theorem own_marks {W : World} {B : Nat} {e : TypeId} {v : Value} {n : Nat} {f : Nat → Int × Int × Int × Int × Int} (h : W.ownsRow B e 5 v n (markCells f n)) : MkSl W v n f := by
  rcases ownsRow_lt h with ⟨rfl, h0⟩ | ⟨g, cap, rfl, hg, hcell⟩
  · exact ⟨none, 0, by rw [h0], fun hn => by omega⟩
  · refine ⟨_, cap, rfl, fun hn => ⟨g, 0, rfl, hg, fun i hi => ?_⟩⟩
    obtain ⟨h1, h2, h3, h4, h5⟩ := markCells_at f hi
    rw [Nat.zero_add]
    exact ⟨hcell _ _ h1, hcell _ _ h2, hcell _ _ h3, hcell _ _ h4, hcell _ _ h5⟩
end Go.Proofs.YtmjmmokbaocboaaGreatDoor
namespace Go.Proofs.YtmjmmokbaocboaaGreatDoor
open Go.RowKit
set_option maxRecDepth 100000 in
set_option maxHeartbeats 400000 in
theorem rcommon_any (a0 a1 b0 b1 : Int) (w : World) :
    Calls Tryz.prog 117 #[.agg #[.int .i64 a0, .int .i64 a1], .agg #[.int .i64 b0, .int .i64 b1]] w fun e w' => e = .returned (.agg #[.int .i64 (max a0 b0), .int .i64 (min a1 b1)]) ∧ Below w.heap.size w w' := by
  go_enter Tryz.func117, Tryz.ntmps117
  go_wp2
  all_goals
    refine bodyPost_ret (v := .agg #[.int .i64 (max a0 b0), .int .i64 (min a1 b1)]) (by simp [results, Tryz.results117, go_sem] <;> omega) rfl ⟨rfl, ?_⟩
    exact (((Below.refl _ _).alloc (Nat.le_refl _) _).alloc (by simp) _).alloc (by simp; omega) _
end Go.Proofs.YtmjmmokbaocboaaGreatDoor
/-! A late operation waits for another one: shown by a path of edges. No seat. -/
namespace Go
section
variable {P : Program} {ops : Array Oper} {md : Region.Mode}
def edgeB (md : Region.Mode) (ops : Array Oper) (j k : Nat) : Bool := ((ops[j]?).map fun o => o.after.toList.any fun e => Region.binds md e && e.on == k).getD false
def pathB (md : Region.Mode) (ops : Array Oper) : Nat → List Nat → Bool
  | _, [] => true
  | j, k :: r => edgeB md ops j k && pathB md ops k r
theorem waitsB_of_path {i : Nat} : ∀ (p : List Nat) (j : Nat), pathB md ops j (p ++ [i]) = true → waitsB md ops i (p.length + 1) j = true
  | [], j, h => by
    rw [List.nil_append, pathB, Bool.and_eq_true] at h
    have h1 := h.1
    unfold edgeB at h1
    unfold waitsB
    cases ho : ops[j]? with
    | none => rw [ho] at h1; cases h1
    | some o =>
      rw [ho] at h1
      simp only [Option.map_some, Option.getD_some, List.any_eq_true, Bool.and_eq_true, beq_iff_eq] at h1
      obtain ⟨e, he, hb, hi⟩ := h1
      simp only [Option.map_some, Option.getD_some, List.any_eq_true, Bool.and_eq_true, Bool.or_eq_true, beq_iff_eq]
      exact ⟨e, he, hb, .inl hi⟩
  | k :: r, j, h => by
    rw [List.cons_append, pathB, Bool.and_eq_true] at h
    have h2 := waitsB_of_path r k h.2
    have h1 := h.1
    unfold edgeB at h1
    unfold waitsB
    cases ho : ops[j]? with
    | none => rw [ho] at h1; cases h1
    | some o =>
      rw [ho] at h1
      simp only [Option.map_some, Option.getD_some, List.any_eq_true, Bool.and_eq_true, beq_iff_eq] at h1
      obtain ⟨e, he, hb, hi⟩ := h1
      simp only [Option.map_some, Option.getD_some, List.any_eq_true, Bool.and_eq_true, Bool.or_eq_true, beq_iff_eq]
      refine ⟨e, he, hb, .inr ?_⟩
      rw [hi]
      exact h2
theorem waitsB_more {i : Nat} : ∀ (n j : Nat), waitsB md ops i n j = true → waitsB md ops i (n + 1) j = true
  | 0, _, h => by cases h
  | n + 1, j, h => by
    unfold waitsB at h ⊢
    cases ho : ops[j]? with
    | none => rw [ho] at h; cases h
    | some o =>
      rw [ho] at h
      simp only [Option.map_some, Option.getD_some, List.any_eq_true, Bool.and_eq_true, Bool.or_eq_true, beq_iff_eq] at h ⊢
      obtain ⟨e, he, hb, hi⟩ := h
      exact ⟨e, he, hb, hi.imp id fun hi => waitsB_more n e.on hi⟩
theorem waitsB_le {i j n m : Nat} (h : n ≤ m) (hw : waitsB md ops i n j = true) : waitsB md ops i m j = true := by
  induction h with
  | refl => exact hw
  | step _ ih => exact waitsB_more _ _ ih
theorem waits_two {i j k : Nat} (d : Nat) (p q : List Nat) (h : pathB md ops j (p ++ [i]) = true) (h' : pathB md ops k (q ++ [i]) = true) (hp : p.length + 1 ≤ d) (hq : q.length + 1 ≤ d) : ([j, k].all fun j => waitsB md ops i d j) = true := by
  rw [List.all_cons, List.all_cons, List.all_nil, Bool.and_true, Bool.and_eq_true]
  exact ⟨waitsB_le hp (waitsB_of_path p j h), waitsB_le hq (waitsB_of_path q k h')⟩
theorem waits_one {i j : Nat} (p : List Nat) (h : pathB md ops j (p ++ [i]) = true) : ([j].all fun j => waitsB md ops i (p.length + 1) j) = true := by
  rw [List.all_cons, List.all_nil, Bool.and_true]; exact waitsB_of_path p j h
end
end Go
