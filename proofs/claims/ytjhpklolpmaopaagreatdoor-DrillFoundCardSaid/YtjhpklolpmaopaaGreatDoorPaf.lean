/- A part of the proof: see the last file. -/
import Derived.Test.YtjhpklolpmaopaaGreatDoorPae
set_option linter.unusedVariables false
set_option linter.unusedSimpArgs false
set_option linter.unusedSectionVars false
namespace Go.Proofs.YtjhpklolpmaopaaGreatDoor
open Go.RowKit
/-- a machine's parts. -/
structure Mach where
 sa : Option Addr
 sn : Nat
 sc : Nat
 SX : Nat → Int
 SY : Nat → Int
 c0 : Int
 c1 : Int
 d0 : Int
 d1 : Int
 w0 : Int
 w1 : Int
 v0 : Int
 v1 : Int
 ra : Option Addr
 rn : Nat
 rc : Nat
 RB : Nat → Int
 RX : Nat → Int
 RY : Nat → Int
 RE : Nat → Int
@[reducible] def Mach.val (m : Mach) : Value := .agg #[.slice m.sa m.sn m.sc, .int .i64 m.c0, .int .i64 m.c1, .int .i64 m.d0, .int .i64 m.d1, .int .i64 m.w0, .int .i64 m.w1, .int .i64 m.v0, .int .i64 m.v1, .slice m.ra m.rn m.rc]
def RSl (w : World) (v : Value) (n : Nat) (B X Y E : Nat → Int) : Prop := (∃ a c, v = .slice a 0 c ∧ n = 0) ∨ ∃ b off cap, v = .slice (some ⟨b, off, none⟩) n cap ∧ b < w.heap.size ∧ RPts w b off n B X Y E
theorem RSl.below {w w' : World} {v : Value} {n : Nat} {B X Y E : Nat → Int} (h : RSl w v n B X Y E) (hb : Below w.heap.size w w') : RSl w' v n B X Y E := by
 rcases h with h | ⟨b, off, cap, h1, h2, h3⟩
 ·exact .inl h
 ·exact .inr ⟨b, off, cap, h1, Nat.lt_of_lt_of_le h2 hb.size, h3.below hb h2⟩
structure MIn (w : World) (m : Mach) : Prop where
 stops : PSl w (.slice m.sa m.sn m.sc) m.sn m.SX m.SY
 reads : RSl w (.slice m.ra m.rn m.rc) m.rn m.RB m.RX m.RY m.RE
theorem MIn.below {w w' : World} {m : Mach} (h : MIn w m) (hb : Below w.heap.size w w') : MIn w' m := ⟨h.stops.below hb, h.reads.below hb⟩
def Mach.okStops (m : Mach) : Bool := arB m.sn 2 m.SX m.SY 20
def Mach.okSpans (m : Mach) : Bool := spanR m.c0 m.c1 (-12) 12 6 && (spanR m.d0 m.d1 (-12) 12 6 && (spanR m.w0 m.w1 (-3) 3 2 && spanR m.v0 m.v1 (-3) 3 2))
def Mach.okReads (m : Mach) : Bool := !anyB (fun i => !readB (m.RB i) (m.RX i) (m.RY i) (m.RE i)) m.rn
/-- a machine as defined. -/
def Mach.ok (m : Mach) : Bool := m.okStops && (decide ((m.rn : Int) ≤ 4) && (m.okSpans && m.okReads))
theorem hasReading_any (v : Value) (n : Nat) (B X Y E : Nat → Int) (w : World) (hn : n ≤ 1000) (h : RSl w v n B X Y E) :
  Calls Tryz.prog 83 #[v, .func (.func 84) #[] #[]] w fun e w' => e = .returned (.bool (anyB (fun i => !readB (B i) (X i) (Y i) (E i)) n)) ∧ Below w.heap.size w w' := by
 rcases h with ⟨a, c, rfl, rfl⟩ | ⟨b, off, cap, rfl, hb, hp⟩
 ·refine (has_reading_nil a c _ w).mono ?_
  rintro e w' ⟨rfl, rfl⟩
  refine ⟨ret_bool ?_, Below.refl _ _⟩
  exact (anyB_no.2 fun i hi => absurd hi (Nat.not_lt_zero i)).symm
 ·exact has_reading b off n cap B X Y E w hn hb hp
/-- a machine's cells. -/
structure MAt (W : World) (b : Nat) (m : Mach) : Prop where
 k0 : W.cell? ⟨b, 0, none⟩ = some (.slice m.sa m.sn m.sc)
 k1 : W.cell? ⟨b, 1, none⟩ = some (.int .i64 m.c0)
 k2 : W.cell? ⟨b, 2, none⟩ = some (.int .i64 m.c1)
 k3 : W.cell? ⟨b, 3, none⟩ = some (.int .i64 m.d0)
 k4 : W.cell? ⟨b, 4, none⟩ = some (.int .i64 m.d1)
 k5 : W.cell? ⟨b, 5, none⟩ = some (.int .i64 m.w0)
 k6 : W.cell? ⟨b, 6, none⟩ = some (.int .i64 m.w1)
 k7 : W.cell? ⟨b, 7, none⟩ = some (.int .i64 m.v0)
 k8 : W.cell? ⟨b, 8, none⟩ = some (.int .i64 m.v1)
 k9 : W.cell? ⟨b, 9, none⟩ = some (.slice m.ra m.rn m.rc)
theorem MAt.below {W W' : World} {b : Nat} {m : Mach} {B : Nat} (h : MAt W b m) (hb : Below B W W') (hl : b < B) : MAt W' b m :=
 ⟨(hb.cell (p := ⟨b, 0, none⟩) hl).trans h.k0, (hb.cell (p := ⟨b, 1, none⟩) hl).trans h.k1, (hb.cell (p := ⟨b, 2, none⟩) hl).trans h.k2, (hb.cell (p := ⟨b, 3, none⟩) hl).trans h.k3, (hb.cell (p := ⟨b, 4, none⟩) hl).trans h.k4, (hb.cell (p := ⟨b, 5, none⟩) hl).trans h.k5, (hb.cell (p := ⟨b, 6, none⟩) hl).trans h.k6, (hb.cell (p := ⟨b, 7, none⟩) hl).trans h.k7, (hb.cell (p := ⟨b, 8, none⟩) hl).trans h.k8, (hb.cell (p := ⟨b, 9, none⟩) hl).trans h.k9⟩
theorem MAt.new (w : World) (m : Mach) : MAt (w.alloc (.cells #[.slice m.sa m.sn m.sc, .int .i64 m.c0, .int .i64 m.c1, .int .i64 m.d0, .int .i64 m.d1, .int .i64 m.w0, .int .i64 m.w1, .int .i64 m.v0, .int .i64 m.v1, .slice m.ra m.rn m.rc] 27)) w.heap.size m :=
 ⟨cells_new w _ _ rfl, cells_new w _ _ rfl, cells_new w _ _ rfl, cells_new w _ _ rfl, cells_new w _ _ rfl, cells_new w _ _ rfl, cells_new w _ _ rfl, cells_new w _ _ rfl, cells_new w _ _ rfl, cells_new w _ _ rfl⟩
theorem wle_one (w : World) (a : Obj) : w.heap.size ≤ (w.alloc a).heap.size := by rw [World.size_alloc]; omega
theorem wle_two (w : World) (a b : Obj) : w.heap.size ≤ ((w.alloc a).alloc b).heap.size := by rw [World.size_alloc, World.size_alloc]; omega
theorem wlt_two (w : World) (a b : Obj) : w.heap.size < ((w.alloc a).alloc b).heap.size := by rw [World.size_alloc, World.size_alloc]; omega
theorem cell_under (w : World) (l l2 : Array Value) (e e2 : TypeId) {j : Nat} {u : Value} (h : l[j]? = some u) : ((w.alloc (Obj.cells l e)).alloc (Obj.cells l2 e2)).cell? ⟨w.heap.size, j, none⟩ = some u :=
 (((Below.refl _ (w.alloc (Obj.cells l e))).alloc (Nat.le_refl _) (Obj.cells l2 e2)).cell (p := ⟨w.heap.size, j, none⟩) (by show w.heap.size < _; rw [World.size_alloc]; omega)).trans (cells_new w l e h)
set_option maxRecDepth 100000 in
set_option maxHeartbeats 4000000 in
theorem isMachine_stops (m : Mach) (w : World) (hs : m.sn ≤ 1000) (hr : m.rn ≤ 9223372036854775807) (h : MIn w m) (hst' : arB m.sn 2 m.SX m.SY 20 = false) :
  Calls Tryz.prog 43 #[m.val] w fun e w' => e = .returned (.bool false) ∧ Below w.heap.size w w' := by
 obtain ⟨sa, sn, sc, SX, SY, c0, c1, d0, d1, w0, w1, v0, v1, ra, rn, rc, RB, RX, RY, RE⟩ := m
 obtain ⟨h1, h2⟩ := h
 dsimp only [Mach.val] at *
 obtain ⟨W0, hW⟩ : ∃ W0, w.alloc (.cells #[.slice sa sn sc, .int .i64 c0, .int .i64 c1, .int .i64 d0, .int .i64 d1, .int .i64 w0, .int .i64 w1, .int .i64 v0, .int .i64 v1, .slice ra rn rc] 27) = W0 := ⟨_, rfl⟩
 have hw0 : Below w.heap.size w W0 := by rw [← hW]; exact (Below.refl _ _).alloc (Nat.le_refl _) _
 have hsz : W0.heap.size = w.heap.size + 1 := by rw [← hW]; exact World.size_alloc _ _
 have hMA : MAt W0 w.heap.size ⟨sa, sn, sc, SX, SY, c0, c1, d0, d1, w0, w1, v0, v1, ra, rn, rc, RB, RX, RY, RE⟩ := by rw [← hW]; exact MAt.new w ⟨sa, sn, sc, SX, SY, c0, c1, d0, d1, w0, w1, v0, v1, ra, rn, rc, RB, RX, RY, RE⟩
 have hMB := hMA
 have k0 := hMB.k0
 have k1 := hMB.k1
 have k2 := hMB.k2
 have k3 := hMB.k3
 have k4 := hMB.k4
 have k5 := hMB.k5
 have k6 := hMB.k6
 have k7 := hMB.k7
 have k8 := hMB.k8
 have k9 := hMB.k9
 have hB := Below.refl W0.heap.size W0
 dsimp only at k0 k1 k2 k3 k4 k5 k6 k7 k8 k9
 have hst := hst'
 go_enter Tryz.func43, Tryz.ntmps43
 go_wp2_with (first
  | (go_at_call 64; refine (are_any _ sn 2 SX SY 20 (by omega) (by omega) _ hs (h1.below hw0)).mono ?_; rw [hst]; rintro e w1' ⟨rfl, hb⟩; replace hB := hB.trans (hb.mono hB.size); obtain ⟨k0, k1, k2, k3, k4, k5, k6, k7, k8, k9⟩ := hMA.below hB (by omega); dsimp only at k0 k1 k2 k3 k4 k5 k6 k7 k8 k9))
 go_ret
 exact ⟨rfl, hw0.trans (hB.mono hw0.size)⟩
set_option maxRecDepth 100000 in
set_option maxHeartbeats 4000000 in
theorem isMachine_many (m : Mach) (w : World) (hs : m.sn ≤ 1000) (hr : m.rn ≤ 9223372036854775807) (h : MIn w m) (hst' : arB m.sn 2 m.SX m.SY 20 = true) (hmany : ¬ (m.rn : Int) ≤ 4) :
  Calls Tryz.prog 43 #[m.val] w fun e w' => e = .returned (.bool false) ∧ Below w.heap.size w w' := by
 obtain ⟨sa, sn, sc, SX, SY, c0, c1, d0, d1, w0, w1, v0, v1, ra, rn, rc, RB, RX, RY, RE⟩ := m
 obtain ⟨h1, h2⟩ := h
 dsimp only [Mach.val] at *
 obtain ⟨W0, hW⟩ : ∃ W0, w.alloc (.cells #[.slice sa sn sc, .int .i64 c0, .int .i64 c1, .int .i64 d0, .int .i64 d1, .int .i64 w0, .int .i64 w1, .int .i64 v0, .int .i64 v1, .slice ra rn rc] 27) = W0 := ⟨_, rfl⟩
 have hw0 : Below w.heap.size w W0 := by rw [← hW]; exact (Below.refl _ _).alloc (Nat.le_refl _) _
 have hsz : W0.heap.size = w.heap.size + 1 := by rw [← hW]; exact World.size_alloc _ _
 have hMA : MAt W0 w.heap.size ⟨sa, sn, sc, SX, SY, c0, c1, d0, d1, w0, w1, v0, v1, ra, rn, rc, RB, RX, RY, RE⟩ := by rw [← hW]; exact MAt.new w ⟨sa, sn, sc, SX, SY, c0, c1, d0, d1, w0, w1, v0, v1, ra, rn, rc, RB, RX, RY, RE⟩
 have hMB := hMA
 have k0 := hMB.k0
 have k1 := hMB.k1
 have k2 := hMB.k2
 have k3 := hMB.k3
 have k4 := hMB.k4
 have k5 := hMB.k5
 have k6 := hMB.k6
 have k7 := hMB.k7
 have k8 := hMB.k8
 have k9 := hMB.k9
 have hB := Below.refl W0.heap.size W0
 dsimp only at k0 k1 k2 k3 k4 k5 k6 k7 k8 k9
 have hst := hst'
 have hmany' : (4 : Int) < (rn : Int) := by omega
 go_enter Tryz.func43, Tryz.ntmps43
 go_wp2_with (first
  | (go_at_call 64; refine (are_any _ sn 2 SX SY 20 (by omega) (by omega) _ hs (h1.below hw0)).mono ?_; rw [hst]; rintro e w1' ⟨rfl, hb⟩; replace hB := hB.trans (hb.mono hB.size); obtain ⟨k0, k1, k2, k3, k4, k5, k6, k7, k8, k9⟩ := hMA.below hB (by omega); dsimp only at k0 k1 k2 k3 k4 k5 k6 k7 k8 k9))
 go_ret
 exact ⟨rfl, hw0.trans (hB.mono hw0.size)⟩
set_option maxRecDepth 100000 in
set_option maxHeartbeats 4000000 in
theorem isMachine_span0 (m : Mach) (w : World) (hs : m.sn ≤ 1000) (hr : m.rn ≤ 9223372036854775807) (h : MIn w m) (hst' : arB m.sn 2 m.SX m.SY 20 = true) (hmany : (m.rn : Int) ≤ 4) (hq0 : spanR m.c0 m.c1 (-12) 12 6 = false) :
  Calls Tryz.prog 43 #[m.val] w fun e w' => e = .returned (.bool false) ∧ Below w.heap.size w w' := by
 obtain ⟨sa, sn, sc, SX, SY, c0, c1, d0, d1, w0, w1, v0, v1, ra, rn, rc, RB, RX, RY, RE⟩ := m
 obtain ⟨h1, h2⟩ := h
 dsimp only [Mach.val] at *
 obtain ⟨W0, hW⟩ : ∃ W0, w.alloc (.cells #[.slice sa sn sc, .int .i64 c0, .int .i64 c1, .int .i64 d0, .int .i64 d1, .int .i64 w0, .int .i64 w1, .int .i64 v0, .int .i64 v1, .slice ra rn rc] 27) = W0 := ⟨_, rfl⟩
 have hw0 : Below w.heap.size w W0 := by rw [← hW]; exact (Below.refl _ _).alloc (Nat.le_refl _) _
 have hsz : W0.heap.size = w.heap.size + 1 := by rw [← hW]; exact World.size_alloc _ _
 have hMA : MAt W0 w.heap.size ⟨sa, sn, sc, SX, SY, c0, c1, d0, d1, w0, w1, v0, v1, ra, rn, rc, RB, RX, RY, RE⟩ := by rw [← hW]; exact MAt.new w ⟨sa, sn, sc, SX, SY, c0, c1, d0, d1, w0, w1, v0, v1, ra, rn, rc, RB, RX, RY, RE⟩
 have hMB := hMA
 have k0 := hMB.k0
 have k1 := hMB.k1
 have k2 := hMB.k2
 have k3 := hMB.k3
 have k4 := hMB.k4
 have k5 := hMB.k5
 have k6 := hMB.k6
 have k7 := hMB.k7
 have k8 := hMB.k8
 have k9 := hMB.k9
 have hB := Below.refl W0.heap.size W0
 dsimp only at k0 k1 k2 k3 k4 k5 k6 k7 k8 k9
 have hst := hst'
 have hmany' : ¬ (4 : Int) < (rn : Int) := by omega
 have hsp0 := fun W => isSpan_any c0 c1 12 6 (by omega) (by omega) W
 have hz0 : spanR c0 c1 (-12) 12 6 = false := hq0
 rw [hz0] at hsp0
 go_enter Tryz.func43, Tryz.ntmps43
 iterate 2
  go_wp2_with (first
   | (go_at_call 64; refine (are_any _ sn 2 SX SY 20 (by omega) (by omega) _ hs (h1.below hw0)).mono ?_; rw [hst]; rintro e w1' ⟨rfl, hb⟩; replace hB := hB.trans (hb.mono hB.size); obtain ⟨k0, k1, k2, k3, k4, k5, k6, k7, k8, k9⟩ := hMA.below hB (by omega); dsimp only at k0 k1 k2 k3 k4 k5 k6 k7 k8 k9)
   | (go_at_call 82; with_reducible refine (hsp0 _).mono ?_; rintro e w2' ⟨rfl, hb⟩; have y2 : w2'.cell? ⟨w1'.heap.size, 2, none⟩ = some (.int .i64 d0) := (hb.cell (p := ⟨w1'.heap.size, 2, none⟩) (wlt_two w1' _ _)).trans (cell_under w1' _ _ _ _ rfl); have y3 : w2'.cell? ⟨w1'.heap.size, 3, none⟩ = some (.int .i64 d1) := (hb.cell (p := ⟨w1'.heap.size, 3, none⟩) (wlt_two w1' _ _)).trans (cell_under w1' _ _ _ _ rfl); replace hB := hB.trans (((((Below.refl w1'.heap.size w1').alloc (Nat.le_refl _) _).alloc (wle_one w1' _) _).trans (hb.mono (wle_two w1' _ _))).mono hB.size); obtain ⟨k0, k1, k2, k3, k4, k5, k6, k7, k8, k9⟩ := hMA.below hB (by omega); dsimp only at k0 k1 k2 k3 k4 k5 k6 k7 k8 k9))
  (first | rw [rounds_succ] | (refine wp_loop_rounds 3 ?_; rw [rounds_succ]) | skip)
 go_ret
 exact ⟨rfl, hw0.trans (hB.mono hw0.size)⟩
set_option maxRecDepth 100000 in
set_option maxHeartbeats 4000000 in
theorem isMachine_span1 (m : Mach) (w : World) (hs : m.sn ≤ 1000) (hr : m.rn ≤ 9223372036854775807) (h : MIn w m) (hst' : arB m.sn 2 m.SX m.SY 20 = true) (hmany : (m.rn : Int) ≤ 4) (hq0 : spanR m.c0 m.c1 (-12) 12 6 = true) (hq1 : spanR m.d0 m.d1 (-12) 12 6 = false) :
  Calls Tryz.prog 43 #[m.val] w fun e w' => e = .returned (.bool false) ∧ Below w.heap.size w w' := by
 obtain ⟨sa, sn, sc, SX, SY, c0, c1, d0, d1, w0, w1, v0, v1, ra, rn, rc, RB, RX, RY, RE⟩ := m
 obtain ⟨h1, h2⟩ := h
 dsimp only [Mach.val] at *
 obtain ⟨W0, hW⟩ : ∃ W0, w.alloc (.cells #[.slice sa sn sc, .int .i64 c0, .int .i64 c1, .int .i64 d0, .int .i64 d1, .int .i64 w0, .int .i64 w1, .int .i64 v0, .int .i64 v1, .slice ra rn rc] 27) = W0 := ⟨_, rfl⟩
 have hw0 : Below w.heap.size w W0 := by rw [← hW]; exact (Below.refl _ _).alloc (Nat.le_refl _) _
 have hsz : W0.heap.size = w.heap.size + 1 := by rw [← hW]; exact World.size_alloc _ _
 have hMA : MAt W0 w.heap.size ⟨sa, sn, sc, SX, SY, c0, c1, d0, d1, w0, w1, v0, v1, ra, rn, rc, RB, RX, RY, RE⟩ := by rw [← hW]; exact MAt.new w ⟨sa, sn, sc, SX, SY, c0, c1, d0, d1, w0, w1, v0, v1, ra, rn, rc, RB, RX, RY, RE⟩
 have hMB := hMA
 have k0 := hMB.k0
 have k1 := hMB.k1
 have k2 := hMB.k2
 have k3 := hMB.k3
 have k4 := hMB.k4
 have k5 := hMB.k5
 have k6 := hMB.k6
 have k7 := hMB.k7
 have k8 := hMB.k8
 have k9 := hMB.k9
 have hB := Below.refl W0.heap.size W0
 dsimp only at k0 k1 k2 k3 k4 k5 k6 k7 k8 k9
 have hst := hst'
 have hmany' : ¬ (4 : Int) < (rn : Int) := by omega
 have hsp0 := fun W => isSpan_any c0 c1 12 6 (by omega) (by omega) W
 have hz0 : spanR c0 c1 (-12) 12 6 = true := hq0
 rw [hz0] at hsp0
 have hsp1 := fun W => isSpan_any d0 d1 12 6 (by omega) (by omega) W
 have hz1 : spanR d0 d1 (-12) 12 6 = false := hq1
 rw [hz1] at hsp1
 go_enter Tryz.func43, Tryz.ntmps43
 iterate 3
  go_wp2_with (first
   | (go_at_call 64; refine (are_any _ sn 2 SX SY 20 (by omega) (by omega) _ hs (h1.below hw0)).mono ?_; rw [hst]; rintro e w1' ⟨rfl, hb⟩; replace hB := hB.trans (hb.mono hB.size); obtain ⟨k0, k1, k2, k3, k4, k5, k6, k7, k8, k9⟩ := hMA.below hB (by omega); dsimp only at k0 k1 k2 k3 k4 k5 k6 k7 k8 k9)
   | (go_at_call 82; with_reducible refine (hsp0 _).mono ?_; rintro e w2' ⟨rfl, hb⟩; have y2 : w2'.cell? ⟨w1'.heap.size, 2, none⟩ = some (.int .i64 d0) := (hb.cell (p := ⟨w1'.heap.size, 2, none⟩) (wlt_two w1' _ _)).trans (cell_under w1' _ _ _ _ rfl); have y3 : w2'.cell? ⟨w1'.heap.size, 3, none⟩ = some (.int .i64 d1) := (hb.cell (p := ⟨w1'.heap.size, 3, none⟩) (wlt_two w1' _ _)).trans (cell_under w1' _ _ _ _ rfl); replace hB := hB.trans (((((Below.refl w1'.heap.size w1').alloc (Nat.le_refl _) _).alloc (wle_one w1' _) _).trans (hb.mono (wle_two w1' _ _))).mono hB.size); obtain ⟨k0, k1, k2, k3, k4, k5, k6, k7, k8, k9⟩ := hMA.below hB (by omega); dsimp only at k0 k1 k2 k3 k4 k5 k6 k7 k8 k9)
   | (go_at_call 82; with_reducible refine (hsp1 _).mono ?_; rintro e w3' ⟨rfl, hb⟩; replace hB := hB.trans ((((Below.refl w2'.heap.size w2').alloc (Nat.le_refl _) _).trans (hb.mono (wle_one w2' _))).mono hB.size); obtain ⟨k0, k1, k2, k3, k4, k5, k6, k7, k8, k9⟩ := hMA.below hB (by omega); dsimp only at k0 k1 k2 k3 k4 k5 k6 k7 k8 k9))
  (first | rw [rounds_succ] | (refine wp_loop_rounds 3 ?_; rw [rounds_succ]) | skip)
 go_ret
 exact ⟨rfl, hw0.trans (hB.mono hw0.size)⟩
set_option maxRecDepth 100000 in
set_option maxHeartbeats 4000000 in
theorem isMachine_span2 (m : Mach) (w : World) (hs : m.sn ≤ 1000) (hr : m.rn ≤ 9223372036854775807) (h : MIn w m) (hst' : arB m.sn 2 m.SX m.SY 20 = true) (hmany : (m.rn : Int) ≤ 4) (hq0 : spanR m.c0 m.c1 (-12) 12 6 = true) (hq1 : spanR m.d0 m.d1 (-12) 12 6 = true) (hq2 : spanR m.w0 m.w1 (-3) 3 2 = false) :
  Calls Tryz.prog 43 #[m.val] w fun e w' => e = .returned (.bool false) ∧ Below w.heap.size w w' := by
 obtain ⟨sa, sn, sc, SX, SY, c0, c1, d0, d1, w0, w1, v0, v1, ra, rn, rc, RB, RX, RY, RE⟩ := m
 obtain ⟨h1, h2⟩ := h
 dsimp only [Mach.val] at *
 obtain ⟨W0, hW⟩ : ∃ W0, w.alloc (.cells #[.slice sa sn sc, .int .i64 c0, .int .i64 c1, .int .i64 d0, .int .i64 d1, .int .i64 w0, .int .i64 w1, .int .i64 v0, .int .i64 v1, .slice ra rn rc] 27) = W0 := ⟨_, rfl⟩
 have hw0 : Below w.heap.size w W0 := by rw [← hW]; exact (Below.refl _ _).alloc (Nat.le_refl _) _
 have hsz : W0.heap.size = w.heap.size + 1 := by rw [← hW]; exact World.size_alloc _ _
 have hMA : MAt W0 w.heap.size ⟨sa, sn, sc, SX, SY, c0, c1, d0, d1, w0, w1, v0, v1, ra, rn, rc, RB, RX, RY, RE⟩ := by rw [← hW]; exact MAt.new w ⟨sa, sn, sc, SX, SY, c0, c1, d0, d1, w0, w1, v0, v1, ra, rn, rc, RB, RX, RY, RE⟩
 have hMB := hMA
 have k0 := hMB.k0
 have k1 := hMB.k1
 have k2 := hMB.k2
 have k3 := hMB.k3
 have k4 := hMB.k4
 have k5 := hMB.k5
 have k6 := hMB.k6
 have k7 := hMB.k7
 have k8 := hMB.k8
 have k9 := hMB.k9
 have hB := Below.refl W0.heap.size W0
 dsimp only at k0 k1 k2 k3 k4 k5 k6 k7 k8 k9
 have hst := hst'
 have hmany' : ¬ (4 : Int) < (rn : Int) := by omega
 have hsp0 := fun W => isSpan_any c0 c1 12 6 (by omega) (by omega) W
 have hz0 : spanR c0 c1 (-12) 12 6 = true := hq0
 rw [hz0] at hsp0
 have hsp1 := fun W => isSpan_any d0 d1 12 6 (by omega) (by omega) W
 have hz1 : spanR d0 d1 (-12) 12 6 = true := hq1
 rw [hz1] at hsp1
 have hsp2 := fun W => isSpan_any w0 w1 3 2 (by omega) (by omega) W
 have hz2 : spanR w0 w1 (-3) 3 2 = false := hq2
 rw [hz2] at hsp2
 go_enter Tryz.func43, Tryz.ntmps43
 iterate 5
  go_wp2_with (first
   | (go_at_call 64; refine (are_any _ sn 2 SX SY 20 (by omega) (by omega) _ hs (h1.below hw0)).mono ?_; rw [hst]; rintro e w1' ⟨rfl, hb⟩; replace hB := hB.trans (hb.mono hB.size); obtain ⟨k0, k1, k2, k3, k4, k5, k6, k7, k8, k9⟩ := hMA.below hB (by omega); dsimp only at k0 k1 k2 k3 k4 k5 k6 k7 k8 k9)
   | (go_at_call 82; with_reducible refine (hsp0 _).mono ?_; rintro e w2' ⟨rfl, hb⟩; have y2 : w2'.cell? ⟨w1'.heap.size, 2, none⟩ = some (.int .i64 d0) := (hb.cell (p := ⟨w1'.heap.size, 2, none⟩) (wlt_two w1' _ _)).trans (cell_under w1' _ _ _ _ rfl); have y3 : w2'.cell? ⟨w1'.heap.size, 3, none⟩ = some (.int .i64 d1) := (hb.cell (p := ⟨w1'.heap.size, 3, none⟩) (wlt_two w1' _ _)).trans (cell_under w1' _ _ _ _ rfl); replace hB := hB.trans (((((Below.refl w1'.heap.size w1').alloc (Nat.le_refl _) _).alloc (wle_one w1' _) _).trans (hb.mono (wle_two w1' _ _))).mono hB.size); obtain ⟨k0, k1, k2, k3, k4, k5, k6, k7, k8, k9⟩ := hMA.below hB (by omega); dsimp only at k0 k1 k2 k3 k4 k5 k6 k7 k8 k9)
   | (go_at_call 82; with_reducible refine (hsp1 _).mono ?_; rintro e w3' ⟨rfl, hb⟩; replace hB := hB.trans ((((Below.refl w2'.heap.size w2').alloc (Nat.le_refl _) _).trans (hb.mono (wle_one w2' _))).mono hB.size); obtain ⟨k0, k1, k2, k3, k4, k5, k6, k7, k8, k9⟩ := hMA.below hB (by omega); dsimp only at k0 k1 k2 k3 k4 k5 k6 k7 k8 k9)
   | (go_at_call 82; with_reducible refine (hsp2 _).mono ?_; rintro e w4' ⟨rfl, hb⟩; have y2 : w4'.cell? ⟨w3'.heap.size, 2, none⟩ = some (.int .i64 v0) := (hb.cell (p := ⟨w3'.heap.size, 2, none⟩) (wlt_two w3' _ _)).trans (cell_under w3' _ _ _ _ rfl); have y3 : w4'.cell? ⟨w3'.heap.size, 3, none⟩ = some (.int .i64 v1) := (hb.cell (p := ⟨w3'.heap.size, 3, none⟩) (wlt_two w3' _ _)).trans (cell_under w3' _ _ _ _ rfl); replace hB := hB.trans (((((Below.refl w3'.heap.size w3').alloc (Nat.le_refl _) _).alloc (wle_one w3' _) _).trans (hb.mono (wle_two w3' _ _))).mono hB.size); obtain ⟨k0, k1, k2, k3, k4, k5, k6, k7, k8, k9⟩ := hMA.below hB (by omega); dsimp only at k0 k1 k2 k3 k4 k5 k6 k7 k8 k9))
  (first | rw [rounds_succ] | (refine wp_loop_rounds 3 ?_; rw [rounds_succ]) | skip)
 go_ret
 exact ⟨rfl, hw0.trans (hB.mono hw0.size)⟩
set_option maxRecDepth 100000 in
set_option maxHeartbeats 4000000 in
theorem isMachine_span3 (m : Mach) (w : World) (hs : m.sn ≤ 1000) (hr : m.rn ≤ 9223372036854775807) (h : MIn w m) (hst' : arB m.sn 2 m.SX m.SY 20 = true) (hmany : (m.rn : Int) ≤ 4) (hq0 : spanR m.c0 m.c1 (-12) 12 6 = true) (hq1 : spanR m.d0 m.d1 (-12) 12 6 = true) (hq2 : spanR m.w0 m.w1 (-3) 3 2 = true) (hq3 : spanR m.v0 m.v1 (-3) 3 2 = false) :
  Calls Tryz.prog 43 #[m.val] w fun e w' => e = .returned (.bool false) ∧ Below w.heap.size w w' := by
 obtain ⟨sa, sn, sc, SX, SY, c0, c1, d0, d1, w0, w1, v0, v1, ra, rn, rc, RB, RX, RY, RE⟩ := m
 obtain ⟨h1, h2⟩ := h
 dsimp only [Mach.val] at *
 obtain ⟨W0, hW⟩ : ∃ W0, w.alloc (.cells #[.slice sa sn sc, .int .i64 c0, .int .i64 c1, .int .i64 d0, .int .i64 d1, .int .i64 w0, .int .i64 w1, .int .i64 v0, .int .i64 v1, .slice ra rn rc] 27) = W0 := ⟨_, rfl⟩
 have hw0 : Below w.heap.size w W0 := by rw [← hW]; exact (Below.refl _ _).alloc (Nat.le_refl _) _
 have hsz : W0.heap.size = w.heap.size + 1 := by rw [← hW]; exact World.size_alloc _ _
 have hMA : MAt W0 w.heap.size ⟨sa, sn, sc, SX, SY, c0, c1, d0, d1, w0, w1, v0, v1, ra, rn, rc, RB, RX, RY, RE⟩ := by rw [← hW]; exact MAt.new w ⟨sa, sn, sc, SX, SY, c0, c1, d0, d1, w0, w1, v0, v1, ra, rn, rc, RB, RX, RY, RE⟩
 have hMB := hMA
 have k0 := hMB.k0
 have k1 := hMB.k1
 have k2 := hMB.k2
 have k3 := hMB.k3
 have k4 := hMB.k4
 have k5 := hMB.k5
 have k6 := hMB.k6
 have k7 := hMB.k7
 have k8 := hMB.k8
 have k9 := hMB.k9
 have hB := Below.refl W0.heap.size W0
 dsimp only at k0 k1 k2 k3 k4 k5 k6 k7 k8 k9
 have hst := hst'
 have hmany' : ¬ (4 : Int) < (rn : Int) := by omega
 have hsp0 := fun W => isSpan_any c0 c1 12 6 (by omega) (by omega) W
 have hz0 : spanR c0 c1 (-12) 12 6 = true := hq0
 rw [hz0] at hsp0
 have hsp1 := fun W => isSpan_any d0 d1 12 6 (by omega) (by omega) W
 have hz1 : spanR d0 d1 (-12) 12 6 = true := hq1
 rw [hz1] at hsp1
 have hsp2 := fun W => isSpan_any w0 w1 3 2 (by omega) (by omega) W
 have hz2 : spanR w0 w1 (-3) 3 2 = true := hq2
 rw [hz2] at hsp2
 have hsp3 := fun W => isSpan_any v0 v1 3 2 (by omega) (by omega) W
 have hz3 : spanR v0 v1 (-3) 3 2 = false := hq3
 rw [hz3] at hsp3
 go_enter Tryz.func43, Tryz.ntmps43
 iterate 6
  go_wp2_with (first
   | (go_at_call 64; refine (are_any _ sn 2 SX SY 20 (by omega) (by omega) _ hs (h1.below hw0)).mono ?_; rw [hst]; rintro e w1' ⟨rfl, hb⟩; replace hB := hB.trans (hb.mono hB.size); obtain ⟨k0, k1, k2, k3, k4, k5, k6, k7, k8, k9⟩ := hMA.below hB (by omega); dsimp only at k0 k1 k2 k3 k4 k5 k6 k7 k8 k9)
   | (go_at_call 82; with_reducible refine (hsp0 _).mono ?_; rintro e w2' ⟨rfl, hb⟩; have y2 : w2'.cell? ⟨w1'.heap.size, 2, none⟩ = some (.int .i64 d0) := (hb.cell (p := ⟨w1'.heap.size, 2, none⟩) (wlt_two w1' _ _)).trans (cell_under w1' _ _ _ _ rfl); have y3 : w2'.cell? ⟨w1'.heap.size, 3, none⟩ = some (.int .i64 d1) := (hb.cell (p := ⟨w1'.heap.size, 3, none⟩) (wlt_two w1' _ _)).trans (cell_under w1' _ _ _ _ rfl); replace hB := hB.trans (((((Below.refl w1'.heap.size w1').alloc (Nat.le_refl _) _).alloc (wle_one w1' _) _).trans (hb.mono (wle_two w1' _ _))).mono hB.size); obtain ⟨k0, k1, k2, k3, k4, k5, k6, k7, k8, k9⟩ := hMA.below hB (by omega); dsimp only at k0 k1 k2 k3 k4 k5 k6 k7 k8 k9)
   | (go_at_call 82; with_reducible refine (hsp1 _).mono ?_; rintro e w3' ⟨rfl, hb⟩; replace hB := hB.trans ((((Below.refl w2'.heap.size w2').alloc (Nat.le_refl _) _).trans (hb.mono (wle_one w2' _))).mono hB.size); obtain ⟨k0, k1, k2, k3, k4, k5, k6, k7, k8, k9⟩ := hMA.below hB (by omega); dsimp only at k0 k1 k2 k3 k4 k5 k6 k7 k8 k9)
   | (go_at_call 82; with_reducible refine (hsp2 _).mono ?_; rintro e w4' ⟨rfl, hb⟩; have y2 : w4'.cell? ⟨w3'.heap.size, 2, none⟩ = some (.int .i64 v0) := (hb.cell (p := ⟨w3'.heap.size, 2, none⟩) (wlt_two w3' _ _)).trans (cell_under w3' _ _ _ _ rfl); have y3 : w4'.cell? ⟨w3'.heap.size, 3, none⟩ = some (.int .i64 v1) := (hb.cell (p := ⟨w3'.heap.size, 3, none⟩) (wlt_two w3' _ _)).trans (cell_under w3' _ _ _ _ rfl); replace hB := hB.trans (((((Below.refl w3'.heap.size w3').alloc (Nat.le_refl _) _).alloc (wle_one w3' _) _).trans (hb.mono (wle_two w3' _ _))).mono hB.size); obtain ⟨k0, k1, k2, k3, k4, k5, k6, k7, k8, k9⟩ := hMA.below hB (by omega); dsimp only at k0 k1 k2 k3 k4 k5 k6 k7 k8 k9)
   | (go_at_call 82; with_reducible refine (hsp3 _).mono ?_; rintro e w5' ⟨rfl, hb⟩; replace hB := hB.trans ((((Below.refl w4'.heap.size w4').alloc (Nat.le_refl _) _).trans (hb.mono (wle_one w4' _))).mono hB.size); obtain ⟨k0, k1, k2, k3, k4, k5, k6, k7, k8, k9⟩ := hMA.below hB (by omega); dsimp only at k0 k1 k2 k3 k4 k5 k6 k7 k8 k9))
  (first | rw [rounds_succ] | (refine wp_loop_rounds 3 ?_; rw [rounds_succ]) | skip)
 go_ret
 exact ⟨rfl, hw0.trans (hB.mono hw0.size)⟩
set_option maxRecDepth 100000 in
set_option maxHeartbeats 4000000 in
theorem isMachine_full (m : Mach) (w : World) (hs : m.sn ≤ 1000) (hr : m.rn ≤ 9223372036854775807) (h : MIn w m) (hst' : arB m.sn 2 m.SX m.SY 20 = true) (hmany : (m.rn : Int) ≤ 4) (hq0 : spanR m.c0 m.c1 (-12) 12 6 = true) (hq1 : spanR m.d0 m.d1 (-12) 12 6 = true) (hq2 : spanR m.w0 m.w1 (-3) 3 2 = true) (hq3 : spanR m.v0 m.v1 (-3) 3 2 = true) (x : Bool) (hrd : anyB (fun i => !readB (m.RB i) (m.RX i) (m.RY i) (m.RE i)) m.rn = x) :
  Calls Tryz.prog 43 #[m.val] w fun e w' => e = .returned (.bool (!x)) ∧ Below w.heap.size w w' := by
 obtain ⟨sa, sn, sc, SX, SY, c0, c1, d0, d1, w0, w1, v0, v1, ra, rn, rc, RB, RX, RY, RE⟩ := m
 obtain ⟨h1, h2⟩ := h
 dsimp only [Mach.val] at *
 obtain ⟨W0, hW⟩ : ∃ W0, w.alloc (.cells #[.slice sa sn sc, .int .i64 c0, .int .i64 c1, .int .i64 d0, .int .i64 d1, .int .i64 w0, .int .i64 w1, .int .i64 v0, .int .i64 v1, .slice ra rn rc] 27) = W0 := ⟨_, rfl⟩
 have hw0 : Below w.heap.size w W0 := by rw [← hW]; exact (Below.refl _ _).alloc (Nat.le_refl _) _
 have hsz : W0.heap.size = w.heap.size + 1 := by rw [← hW]; exact World.size_alloc _ _
 have hMA : MAt W0 w.heap.size ⟨sa, sn, sc, SX, SY, c0, c1, d0, d1, w0, w1, v0, v1, ra, rn, rc, RB, RX, RY, RE⟩ := by rw [← hW]; exact MAt.new w ⟨sa, sn, sc, SX, SY, c0, c1, d0, d1, w0, w1, v0, v1, ra, rn, rc, RB, RX, RY, RE⟩
 have hMB := hMA
 have k0 := hMB.k0
 have k1 := hMB.k1
 have k2 := hMB.k2
 have k3 := hMB.k3
 have k4 := hMB.k4
 have k5 := hMB.k5
 have k6 := hMB.k6
 have k7 := hMB.k7
 have k8 := hMB.k8
 have k9 := hMB.k9
 have hB := Below.refl W0.heap.size W0
 dsimp only at k0 k1 k2 k3 k4 k5 k6 k7 k8 k9
 have hst := hst'
 have hmany' : ¬ (4 : Int) < (rn : Int) := by omega
 have hsp0 := fun W => isSpan_any c0 c1 12 6 (by omega) (by omega) W
 have hz0 : spanR c0 c1 (-12) 12 6 = true := hq0
 rw [hz0] at hsp0
 have hsp1 := fun W => isSpan_any d0 d1 12 6 (by omega) (by omega) W
 have hz1 : spanR d0 d1 (-12) 12 6 = true := hq1
 rw [hz1] at hsp1
 have hsp2 := fun W => isSpan_any w0 w1 3 2 (by omega) (by omega) W
 have hz2 : spanR w0 w1 (-3) 3 2 = true := hq2
 rw [hz2] at hsp2
 have hsp3 := fun W => isSpan_any v0 v1 3 2 (by omega) (by omega) W
 have hz3 : spanR v0 v1 (-3) 3 2 = true := hq3
 rw [hz3] at hsp3
 go_enter Tryz.func43, Tryz.ntmps43
 iterate 7
  go_wp2_with (first
   | (go_at_call 64; refine (are_any _ sn 2 SX SY 20 (by omega) (by omega) _ hs (h1.below hw0)).mono ?_; rw [hst]; rintro e w1' ⟨rfl, hb⟩; replace hB := hB.trans (hb.mono hB.size); obtain ⟨k0, k1, k2, k3, k4, k5, k6, k7, k8, k9⟩ := hMA.below hB (by omega); dsimp only at k0 k1 k2 k3 k4 k5 k6 k7 k8 k9)
   | (go_at_call 82; with_reducible refine (hsp0 _).mono ?_; rintro e w2' ⟨rfl, hb⟩; have y2 : w2'.cell? ⟨w1'.heap.size, 2, none⟩ = some (.int .i64 d0) := (hb.cell (p := ⟨w1'.heap.size, 2, none⟩) (wlt_two w1' _ _)).trans (cell_under w1' _ _ _ _ rfl); have y3 : w2'.cell? ⟨w1'.heap.size, 3, none⟩ = some (.int .i64 d1) := (hb.cell (p := ⟨w1'.heap.size, 3, none⟩) (wlt_two w1' _ _)).trans (cell_under w1' _ _ _ _ rfl); replace hB := hB.trans (((((Below.refl w1'.heap.size w1').alloc (Nat.le_refl _) _).alloc (wle_one w1' _) _).trans (hb.mono (wle_two w1' _ _))).mono hB.size); obtain ⟨k0, k1, k2, k3, k4, k5, k6, k7, k8, k9⟩ := hMA.below hB (by omega); dsimp only at k0 k1 k2 k3 k4 k5 k6 k7 k8 k9)
   | (go_at_call 82; with_reducible refine (hsp1 _).mono ?_; rintro e w3' ⟨rfl, hb⟩; replace hB := hB.trans ((((Below.refl w2'.heap.size w2').alloc (Nat.le_refl _) _).trans (hb.mono (wle_one w2' _))).mono hB.size); obtain ⟨k0, k1, k2, k3, k4, k5, k6, k7, k8, k9⟩ := hMA.below hB (by omega); dsimp only at k0 k1 k2 k3 k4 k5 k6 k7 k8 k9)
   | (go_at_call 82; with_reducible refine (hsp2 _).mono ?_; rintro e w4' ⟨rfl, hb⟩; have y2 : w4'.cell? ⟨w3'.heap.size, 2, none⟩ = some (.int .i64 v0) := (hb.cell (p := ⟨w3'.heap.size, 2, none⟩) (wlt_two w3' _ _)).trans (cell_under w3' _ _ _ _ rfl); have y3 : w4'.cell? ⟨w3'.heap.size, 3, none⟩ = some (.int .i64 v1) := (hb.cell (p := ⟨w3'.heap.size, 3, none⟩) (wlt_two w3' _ _)).trans (cell_under w3' _ _ _ _ rfl); replace hB := hB.trans (((((Below.refl w3'.heap.size w3').alloc (Nat.le_refl _) _).alloc (wle_one w3' _) _).trans (hb.mono (wle_two w3' _ _))).mono hB.size); obtain ⟨k0, k1, k2, k3, k4, k5, k6, k7, k8, k9⟩ := hMA.below hB (by omega); dsimp only at k0 k1 k2 k3 k4 k5 k6 k7 k8 k9)
   | (go_at_call 82; with_reducible refine (hsp3 _).mono ?_; rintro e w5' ⟨rfl, hb⟩; replace hB := hB.trans ((((Below.refl w4'.heap.size w4').alloc (Nat.le_refl _) _).trans (hb.mono (wle_one w4' _))).mono hB.size); obtain ⟨k0, k1, k2, k3, k4, k5, k6, k7, k8, k9⟩ := hMA.below hB (by omega); dsimp only at k0 k1 k2 k3 k4 k5 k6 k7 k8 k9)
   | (go_at_call 83; refine (hasReading_any _ rn RB RX RY RE _ (by omega) (h2.below (hw0.trans (hB.mono hw0.size)))).mono ?_; rw [hrd]; rintro e w' ⟨rfl, hb⟩; replace hB := hB.trans (hb.mono hB.size); obtain ⟨k0, k1, k2, k3, k4, k5, k6, k7, k8, k9⟩ := hMA.below hB (by omega); dsimp only at k0 k1 k2 k3 k4 k5 k6 k7 k8 k9))
  (first | rw [rounds_succ] | (refine wp_loop_rounds 3 ?_; rw [rounds_succ]) | skip)
 go_ret
 exact ⟨rfl, hw0.trans (hB.mono hw0.size)⟩
theorem isMachine_any (m : Mach) (w : World) (hs : m.sn ≤ 1000) (hr : m.rn ≤ 9223372036854775807) (h : MIn w m) :
  Calls Tryz.prog 43 #[m.val] w fun e w' => e = .returned (.bool m.ok) ∧ Below w.heap.size w w' := by
 unfold Mach.ok Mach.okStops Mach.okSpans Mach.okReads
 cases e1 : arB m.sn 2 m.SX m.SY 20 with
 | false => exact isMachine_stops m w hs hr h e1
 | true =>
  by_cases e2 : (m.rn : Int) ≤ 4
  ·rw [decide_eq_true e2]
   cases q0 : spanR m.c0 m.c1 (-12) 12 6 with
   | false => exact isMachine_span0 m w hs hr h e1 e2 q0
   | true =>
    cases q1 : spanR m.d0 m.d1 (-12) 12 6 with
    | false => exact isMachine_span1 m w hs hr h e1 e2 q0 q1
    | true =>
     cases q2 : spanR m.w0 m.w1 (-3) 3 2 with
     | false => exact isMachine_span2 m w hs hr h e1 e2 q0 q1 q2
     | true =>
      cases q3 : spanR m.v0 m.v1 (-3) 3 2 with
      | false => exact isMachine_span3 m w hs hr h e1 e2 q0 q1 q2 q3
      | true => exact isMachine_full m w hs hr h e1 e2 q0 q1 q2 q3 _ rfl
  ·rw [decide_eq_false e2]
   exact isMachine_many m w hs hr h e1 e2
end Go.Proofs.YtjhpklolpmaopaaGreatDoor
