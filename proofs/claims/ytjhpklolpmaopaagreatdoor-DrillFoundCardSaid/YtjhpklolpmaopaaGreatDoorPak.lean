/- A part of the proof: see the last file. -/
import Derived.Test.YtjhpklolpmaopaaGreatDoorPaj
import Derived.Test.YtjhpklolpmaopaaGreatDoorPab
import Derived.Test.YtjhpklolpmaopaaGreatDoorPag
import Derived.Test.YtjhpklolpmaopaaGreatDoorPae
import Derived.Test.YtjhpklolpmaopaaGreatDoorPac
import Derived.RangeFuncWrites
import Derived.Test.YtjhpklolpmaopaaGreatDoorPai
set_option linter.unusedVariables false
set_option linter.unusedSimpArgs false
set_option linter.unusedSectionVars false
namespace Go.Proofs.YtjhpklolpmaopaaGreatDoor
open Go.RowKit
theorem isl_below {w w' : World} {v : Value} {n : Nat} {F : Nat → Int} (h : IntsSl w v n F) (hb : Below w.heap.size w w') : IntsSl w' v n F := by
 rcases h with h | ⟨b, off, c, h1, h2, h3⟩
 ·exact .inl h
 ·exact .inr ⟨b, off, c, h1, Nat.lt_of_lt_of_le h2 hb.size, fun i hi => (hb.cell (p := ⟨b, off + i, none⟩) h2).trans (h3 i hi)⟩
set_option maxRecDepth 100000 in
set_option maxHeartbeats 4000000 in
theorem Fits_yes (m : Mach) (a1 : Option Addr) (n1 c1 : Nat) (a2 : Option Addr) (n2 c2 : Nat) (F G : Nat → Int) (w : World) (hs : m.sn ≤ 1000) (hr : m.rn ≤ 9223372036854775807) (h : MIn w m) (h1 : n1 ≤ 1000) (h2 : n2 ≤ 1000) (hF : IntsSl w (.slice a1 n1 c1) n1 F) (hG : IntsSl w (.slice a2 n2 c2) n2 G) (hok : m.ok = true) (ho1' : offB n1 F = true) (ho2' : offB n2 G = true) (hc1 : n1 ≤ c1) (hc2 : n2 ≤ c2) :
  Calls Tryz.prog 13 #[m.val, .agg #[.slice a1 n1 c1, .slice a2 n2 c2]] w fun e w' => e = .returned (.tuple #[.bool (m.axX.holdB F && m.axY.holdB G), .int .i64 0]) ∧ Below w.heap.size w w' := by
 obtain ⟨W0, hW⟩ : ∃ W0, (w.alloc (.cells #[.slice m.sa m.sn m.sc, .int .i64 m.c0, .int .i64 m.c1, .int .i64 m.d0, .int .i64 m.d1, .int .i64 m.w0, .int .i64 m.w1, .int .i64 m.v0, .int .i64 m.v1, .slice m.ra m.rn m.rc] 27)).alloc (.cells #[.slice a1 n1 c1, .slice a2 n2 c2] 30) = W0 := ⟨_, rfl⟩
 have hb0 : Below w.heap.size w W0 := by rw [← hW]; exact ((Below.refl _ _).alloc (Nat.le_refl _) _).alloc (by rw [World.size_alloc]; omega) _
 have hsz : W0.heap.size = w.heap.size + 1 + 1 := by rw [← hW, World.size_alloc, World.size_alloc]
 have k0 : W0.cell? ⟨w.heap.size + 1, 0, none⟩ = some (.slice a1 n1 c1) := by
  have h := cells_new (w.alloc (.cells #[.slice m.sa m.sn m.sc, .int .i64 m.c0, .int .i64 m.c1, .int .i64 m.d0, .int .i64 m.d1, .int .i64 m.w0, .int .i64 m.w1, .int .i64 m.v0, .int .i64 m.v1, .slice m.ra m.rn m.rc] 27)) #[.slice a1 n1 c1, .slice a2 n2 c2] 30 (j := 0) rfl
  rw [World.size_alloc, hW] at h; exact h
 have k1 : W0.cell? ⟨w.heap.size + 1, 1, none⟩ = some (.slice a2 n2 c2) := by
  have h := cells_new (w.alloc (.cells #[.slice m.sa m.sn m.sc, .int .i64 m.c0, .int .i64 m.c1, .int .i64 m.d0, .int .i64 m.d1, .int .i64 m.w0, .int .i64 m.w1, .int .i64 m.v0, .int .i64 m.v1, .slice m.ra m.rn m.rc] 27)) #[.slice a1 n1 c1, .slice a2 n2 c2] 30 (j := 1) rfl
  rw [World.size_alloc, hW] at h; exact h
 have hMB : MAt W0 w.heap.size m := by rw [← hW]; exact (MAt.new w m).below ((Below.refl _ _).alloc (Nat.le_refl _) _) (by rw [World.size_alloc]; omega)
 obtain ⟨q0, q1, q2, q3, q4, q5, q6, q7, q8, q9⟩ := hMB
 have hism := fun (W : World) (hB : Below w.heap.size w W) => isMachine_any m W hs hr (h.below hB)
 have ho1 := fun (W : World) (hB : Below w.heap.size w W) => areOffs_any _ n1 F W h1 (show IntsSl W (.slice a1 n1 c1) n1 F from isl_below hF hB)
 have ho2 := fun (W : World) (hB : Below w.heap.size w W) => areOffs_any _ n2 G W h2 (show IntsSl W (.slice a2 n2 c2) n2 G from isl_below hG hB)
 obtain ⟨e1, r1⟩ := offB_iff.1 ho1'
 obtain ⟨e2, r2⟩ := offB_iff.1 ho2'
 rw [hok] at hism
 rw [ho1'] at ho1
 rw [ho2'] at ho2
 subst e1
 subst e2
 have htr := fun (W : World) (hB : Below w.heap.size w W) => isTruth_any m a1 c1 a2 c2 F G W hok (h.below hB) (isl_below hF hB) (isl_below hG hB) hc1 hc2 r1 r2
 generalize (m.axX.holdB F && m.axY.holdB G) = res at *
 go_enter Tryz.func13, Tryz.ntmps13
 go_wp2_with (first
  | (go_at_call 43; with_reducible refine (hism _ hb0).mono ?_; rintro e w1 ⟨rfl, hb1⟩; have hB1 := hb0.trans (hb1.mono hb0.size); have l0 := (hb1.cell (p := ⟨w.heap.size + 1, 0, none⟩) (by show w.heap.size + 1 < _; omega)).trans k0; have l1 := (hb1.cell (p := ⟨w.heap.size + 1, 1, none⟩) (by show w.heap.size + 1 < _; omega)).trans k1; have hz1 := hb1.size; have hM1 := (show MAt W0 w.heap.size m from ⟨q0, q1, q2, q3, q4, q5, q6, q7, q8, q9⟩).below hb1 (by omega))
  | (go_at_call 44; with_reducible refine (ho1 _ hB1).mono ?_; rintro e w2 ⟨rfl, hb2⟩; have hB2 := hB1.trans (hb2.mono hB1.size); have j1 := (hb2.cell (p := ⟨w.heap.size + 1, 1, none⟩) (by show w.heap.size + 1 < _; omega)).trans l1; have j0 := (hb2.cell (p := ⟨w.heap.size + 1, 0, none⟩) (by show w.heap.size + 1 < _; omega)).trans l0; have hz2 := hb2.size; have hM2 := hM1.below hb2 (by omega))
  | (go_at_call 44; with_reducible refine (ho2 _ hB2).mono ?_; rintro e w3 ⟨rfl, hb3⟩; have hB3 := hB2.trans (hb3.mono hB2.size); have i0 := (hb3.cell (p := ⟨w.heap.size + 1, 0, none⟩) (by show w.heap.size + 1 < _; omega)).trans j0; have i1 := (hb3.cell (p := ⟨w.heap.size + 1, 1, none⟩) (by show w.heap.size + 1 < _; omega)).trans j1; have hM3 := hM2.below hb3 (by omega); obtain ⟨p0, p1, p2, p3, p4, p5, p6, p7, p8, p9⟩ := hM3)
  | (go_at_call 45; with_reducible refine (htr _ hB3).mono ?_; rintro e w4 ⟨rfl, hb4⟩; have hB4 := hB3.trans (hb4.mono hB3.size)))
 go_ret2
 exact ⟨rfl, hB4⟩
end Go.Proofs.YtjhpklolpmaopaaGreatDoor
namespace Go.Proofs.YtjhpklolpmaopaaGreatDoor
open Go.RowKit
set_option maxRecDepth 100000 in
set_option maxHeartbeats 4000000 in
theorem moved_some (b off n cap : Nat) (X Y : Nat → Int) (x y : Int) (w : World) (hn : n ≤ 1000) (hp : Pts w b off n X Y) (hb : b < w.heap.size) (hx : -80 ≤ x ∧ x ≤ 80) (hy : -80 ≤ y ∧ y ≤ 80) (hall : ∀ i, i < n → small (X i, Y i)) :
    Calls Tryz.prog 133 #[.slice (some ⟨b, off, none⟩) n cap, .agg #[.int .i64 x, .int .i64 y]] w fun e w' => ∃ v', e = .returned v' ∧ w'.ownsRow w.heap.size 43 2 v' n (ptsCells (fun i => (X i + x, Y i + y)) n) ∧ Below w.heap.size w w' := by
  obtain ⟨i0, hi, hz0, hz1, hz2⟩ := info_parts Tryz.info43
  obtain ⟨W0, hW0⟩ : ∃ W0, w.alloc (Obj.cells #[.int .i64 x, .int .i64 y] 43) = W0 := ⟨_, rfl⟩
  have hb0 : Below w.heap.size w W0 := by rw [← hW0]; exact (Below.refl _ _).alloc (Nat.le_refl _) _
  have hsz : W0.heap.size = w.heap.size + 1 := by rw [← hW0, World.size_alloc]
  have c0 : W0.cell? ⟨w.heap.size, 0, none⟩ = some (.int .i64 x) := by rw [← hW0]; exact cells_new w _ _ rfl
  have c1 : W0.cell? ⟨w.heap.size, 1, none⟩ = some (.int .i64 y) := by rw [← hW0]; exact cells_new w _ _ rfl
  have hp0 := hp.below hb0 hb
  go_enter Tryz.func133, Tryz.ntmps133
  go_wp2
  go_loopw [5, 10] (fun v i wr => ∃ k : Nat, k ≤ n ∧ i = .int .i64 k ∧ wr.ownsRow (w.heap.size + 1) 43 2 v k (ptsCells (fun i => (X i + x, Y i + y)) k) ∧ Below (w.heap.size + 1) W0 wr ∧ w.heap.size + 1 ≤ wr.heap.size) (fun _ i _ => n - (intOf i).toNat)
  case atStart => exact ⟨0, Nat.zero_le _, rfl, ⟨rfl, .inl ⟨rfl, rfl⟩⟩, Below.refl _ _, by omega⟩
  case round =>
    obtain ⟨k, hk, rfl, hown, hbl, hsw⟩ := hrel
    by_cases hlt : k < n
    · obtain ⟨hx0, hy0⟩ := hp0 k hlt
      have e0 := (hbl.cell (p := ⟨b, off + k * 2, none⟩) (by show b < _; omega)).trans hx0
      have e1 := (hbl.cell (p := ⟨b, off + k * 2 + 1, none⟩) (by show b < _; omega)).trans hy0
      have d0 := (hbl.cell (p := ⟨w.heap.size, 0, none⟩) (by show w.heap.size < _; omega)).trans c0
      have d1 := (hbl.cell (p := ⟨w.heap.size, 1, none⟩) (by show w.heap.size < _; omega)).trans c1
      have hne : w.heap.size ≠ wr.heap.size := by omega
      have hk0 : (0 : Int) ≤ (k : Int) := Int.natCast_nonneg _
      have hk1 : (k : Int) < (n : Int) := by omega
      obtain ⟨⟨hx1, hx2⟩, hy1, hy2⟩ := hall k hlt
      dsimp only at hx1 hx2 hy1 hy2
      obtain ⟨hxa, hxb⟩ := hx
      obtain ⟨hya, hyb⟩ := hy
      have hbp : Below (w.heap.size + 1) W0 (wr.alloc (Obj.cells #[.int .i64 (X k), .int .i64 (Y k)] 43)) := hbl.alloc hsw _
      have f0 := (((Below.refl wr.heap.size wr).alloc (Nat.le_refl _) (Obj.cells #[.int .i64 (X k), .int .i64 (Y k)] 43)).cell (p := ⟨w.heap.size, 0, none⟩) (by show w.heap.size < _; omega)).trans d0
      have f1 := (((Below.refl wr.heap.size wr).alloc (Nat.le_refl _) (Obj.cells #[.int .i64 (X k), .int .i64 (Y k)] 43)).cell (p := ⟨w.heap.size, 1, none⟩) (by show w.heap.size < _; omega)).trans d1
      go_wp2_with (at_builtin; refine wpList_append_own _ rfl _ _ 22 rfl (w.heap.size + 1) 43 i0 (.agg #[.int .i64 0, .int .i64 0]) 2 16 Tryz.underlying22 hi hz0 hz1 hz2 rfl (by decide) _ _ _ rfl ((hown.alloc _).alloc _) ⟨wr.heap.size + 1, 0, none⟩ 1 1 [.int .i64 (X k + x), .int .i64 (Y k + y)] rfl rfl ?c1 ?c2 ?c3 ?c4 ?c5 ?_)
      case c1 =>
        have h := cells_two (wr.alloc (Obj.cells #[.int .i64 (X k), .int .i64 (Y k)] 43)) (.int .i64 (X k + x)) (.int .i64 (Y k + y)) 43
        rw [World.size_alloc] at h
        exact h
      case c2 => exact fun u hu => by rcases List.mem_cons.1 hu with rfl | hu; · rfl
                                      · rcases List.mem_cons.1 hu with rfl | hu; · rfl
                                        · cases hu
      case c3 => unfold maxLen; omega
      case c4 => omega
      case c5 => first | omega | (simp only [World.size_alloc]; omega)
      intro v3 w3 hown3 hgrow _
      have hb3 : Below (w.heap.size + 1) W0 w3 := (hbp.alloc (by rw [World.size_alloc]; omega) _).grown hgrow (by simp only [World.size_alloc]; omega) fun q hq => (hown.lt q hq).1
      have hz3 : w.heap.size + 1 ≤ w3.heap.size := by have := hgrow.size; simp only [World.size_alloc] at this; omega
      clear hgrow hown hbp
      go_wp2
      go_roundw
      case rel => exact ⟨k + 1, by omega, by go_num, hown3, hb3, hz3⟩
      case measure => simp [intOf]; omega
    · obtain rfl : n = k := by omega
      go_wp2
      go_ret
      exact ⟨_, rfl, ownsRow_base (by omega) hown, hb0.trans (hbl.mono (by omega))⟩
end Go.Proofs.YtjhpklolpmaopaaGreatDoor
namespace Go.Proofs.YtjhpklolpmaopaaGreatDoor
open Go.RowKit
theorem PSl_posD {w : World} {v : Value} {n : Nat} {X Y : Nat → Int} (h : PSl w v n X Y) (hn : 1 ≤ n) : ∃ b off cap, v = .slice (some ⟨b, off, none⟩) n cap ∧ b < w.heap.size ∧ Pts w b off n X Y := by
 rcases h with ⟨a, c, _, h2⟩ | h
 ·omega
 ·exact h
/-- a measure and stops, as a trial has them. -/
structure TrialG (w : World) (n sb so cap cb b1 o1 k1 : Nat) (SX SY HX HY : Nat → Int) (r : Int) : Prop where
 stops : Pts w sb so n SX SY
 holes : Pts w b1 o1 n HX HY
 c0 : w.cell? ⟨cb, 0, none⟩ = some (.slice (some ⟨b1, o1, none⟩) n k1)
 c1 : w.cell? ⟨cb, 1, none⟩ = some (.int .i64 r)
 l1 : sb < w.heap.size
 l2 : b1 < w.heap.size
 l3 : cb < w.heap.size
 r0 : 0 ≤ r
 r1 : r ≤ 6
 n2 : 2 ≤ n
 n4 : n ≤ 4
 sS : ∀ i, i < n → (-20 ≤ SX i ∧ SX i ≤ 20) ∧ (-20 ≤ SY i ∧ SY i ≤ 20)
 sH : ∀ i, i < n → small (HX i, HY i)
theorem TrialG.far {w w' : World} {n sb so cap cb b1 o1 k1 : Nat} {SX SY HX HY : Nat → Int} {r : Int} (h : TrialG w n sb so cap cb b1 o1 k1 SX SY HX HY r) (h1 : w'.heap[sb]? = w.heap[sb]?) (h2 : w'.heap[b1]? = w.heap[b1]?) (h3 : w'.heap[cb]? = w.heap[cb]?) (hz : w.heap.size ≤ w'.heap.size) : TrialG w' n sb so cap cb b1 o1 k1 SX SY HX HY r :=
 ⟨fun i hi => ⟨(World.cell?_of_block h1).trans (h.stops i hi).1, (World.cell?_of_block h1).trans (h.stops i hi).2⟩, fun i hi => ⟨(World.cell?_of_block h2).trans (h.holes i hi).1, (World.cell?_of_block h2).trans (h.holes i hi).2⟩,
  (World.cell?_of_block h3).trans h.c0, (World.cell?_of_block h3).trans h.c1, Nat.lt_of_lt_of_le h.l1 hz, Nat.lt_of_lt_of_le h.l2 hz, Nat.lt_of_lt_of_le h.l3 hz, h.r0, h.r1, h.n2, h.n4, h.sS, h.sH⟩
theorem TrialG.below {w w' : World} {n sb so cap cb b1 o1 k1 : Nat} {SX SY HX HY : Nat → Int} {r : Int} (h : TrialG w n sb so cap cb b1 o1 k1 SX SY HX HY r) (hb : Below w.heap.size w w') : TrialG w' n sb so cap cb b1 o1 k1 SX SY HX HY r :=
 h.far (hb.block _ h.l1) (hb.block _ h.l2) (hb.block _ h.l3) hb.size
theorem TrialG.grown {w w' : World} {n sb so cap cb b1 o1 k1 bm : Nat} {SX SY HX HY : Nat → Int} {r : Int} (h : TrialG w n sb so cap cb b1 o1 k1 SX SY HX HY r) (hg : w.grownBy w' (some bm)) (m1 : sb < bm) (m2 : b1 < bm) (m3 : cb < bm) : TrialG w' n sb so cap cb b1 o1 k1 SX SY HX HY r :=
 h.far (hg.block _ h.l1 (fun e => by cases e; omega)) (hg.block _ h.l2 (fun e => by cases e; omega)) (hg.block _ h.l3 (fun e => by cases e; omega)) hg.size
end Go.Proofs.YtjhpklolpmaopaaGreatDoor
namespace Go.Proofs.YtjhpklolpmaopaaGreatDoor
theorem nar_mono {k : Int} {cl : Nat → Int × Int × Int} {s t : Int × Int} (h : s.1 ≤ t.1 ∧ t.2 ≤ s.2) : ∀ n, (nar k cl n s).1 ≤ (nar k cl n t).1 ∧ (nar k cl n t).2 ≤ (nar k cl n s).2
 | 0 => h
 | n+1 => by
  have := nar_mono (k := k) (cl := cl) h n
  unfold nar
  split
  ·dsimp only; omega
  ·exact this
theorem nar_more (k : Int) (cl : Nat → Int × Int × Int) (s : Int × Int) (n : Nat) : ∀ d, (nar k cl n s).1 ≤ (nar k cl (n + d) s).1 ∧ (nar k cl (n + d) s).2 ≤ (nar k cl n s).2
 | 0 => ⟨Int.le_refl _, Int.le_refl _⟩
 | d+1 => by
  have := nar_more k cl s n d
  rw [show n + (d + 1) = (n + d) + 1 by omega]
  conv => lhs; rhs; unfold nar
  conv => rhs; lhs; unfold nar
  split
  ·dsimp only; omega
  ·exact this
theorem nar_congr {k : Int} {cl cl' : Nat → Int × Int × Int} {s : Int × Int} : ∀ {n : Nat}, (∀ i, i < n → cl' i = cl i) → nar k cl' n s = nar k cl n s
 | 0, _ => rfl
 | n+1, h => by
  have h1 := nar_congr (k := k) (s := s) (n := n) fun i hi => h i (by omega)
  have h2 := h n (by omega)
  unfold nar
  rw [h1, h2]
/-- more is known of the second axis. -/
structure Axis.Less (a b : Axis) : Prop where
 c0 : a.c0 ≤ b.c0
 c1 : b.c1 ≤ a.c1
 w0 : a.w0 ≤ b.w0
 w1 : b.w1 ≤ a.w1
 n : a.n ≤ b.n
 cl : ∀ i, i < a.n → b.cl i = a.cl i
theorem Axis.Less.nar {a b : Axis} (h : a.Less b) {k : Int} {s t : Int × Int} (hs : s.1 ≤ t.1 ∧ t.2 ≤ s.2) : (nar k a.cl a.n s).1 ≤ (nar k b.cl b.n t).1 ∧ (nar k b.cl b.n t).2 ≤ (nar k a.cl a.n s).2 := by
 have h1 := nar_mono (k := k) (cl := a.cl) hs a.n
 have h2 := nar_more k b.cl t a.n (b.n - a.n)
 rw [show a.n + (b.n - a.n) = b.n by have := h.n; omega, nar_congr h.cl] at h2
 omega
theorem Axis.Less.fwd {a b : Axis} (h : a.Less b) : ∀ k, (a.fwd k).1 ≤ (b.fwd k).1 ∧ (b.fwd k).2 ≤ (a.fwd k).2
 | 0 => by unfold Axis.fwd; exact h.nar ⟨h.c0, h.c1⟩
 | k+1 => by
  have := h.fwd k
  have h1 := h.w0
  have h2 := h.w1
  unfold Axis.fwd
  exact h.nar ⟨by dsimp only; omega, by dsimp only; omega⟩
theorem Axis.Less.bwd {a b : Axis} (h : a.Less b) : ∀ j, (a.bwd j).1 ≤ (b.bwd j).1 ∧ (b.bwd j).2 ≤ (a.bwd j).2
 | 0 => h.fwd 12
 | j+1 => by
  have h0 := h.bwd j
  have h3 := h.fwd (11 - j)
  have h1 := h.w0
  have h2 := h.w1
  unfold Axis.bwd
  dsimp only; omega
theorem Axis.Less.ends {a b : Axis} (h : a.Less b) (k : Nat) : (a.ends k).1 ≤ (b.ends k).1 ∧ (b.ends k).2 ≤ (a.ends k).2 := h.bwd _
end Go.Proofs.YtjhpklolpmaopaaGreatDoor
namespace Go.Proofs.YtjhpklolpmaopaaGreatDoor
open Go.RowKit Go.Shelf
attribute [local go_sem] Oper.semAt_some
abbrev BoxPt (x0 x1 y0 y1 : Int) := { p : Int × Int // InBox x0 x1 y0 y1 p.1 p.2 }
def ptEnc {x0 x1 y0 y1 : Int} (p : BoxPt x0 x1 y0 y1) : Array Value := #[ptV p.1.1 p.1.2]
def BoxAll {x0 x1 y0 y1 : Int} (xs : List (BoxPt x0 x1 y0 y1)) : Prop := ∀ p : BoxPt x0 x1 y0 y1, p ∈ xs
/-- what a round keeps of the iterator: the box in its block. -/
def KpB (b : Nat) (W W' : World) : Prop := W.heap.size ≤ W'.heap.size ∧ W'.heap[b]? = W.heap[b]?
theorem KpB.trans {b : Nat} {A B C : World} (h : KpB b A B) (k : KpB b B C) : KpB b A C := ⟨Nat.le_trans h.1 k.1, k.2.trans h.2⟩
set_option maxRecDepth 100000 in
set_option maxHeartbeats 1000000 in
theorem points_make (x0 x1 y0 y1 : Int) (w : World) :
  Calls Tryz.prog 92 #[.agg #[.int .i64 x0, .int .i64 x1, .int .i64 y0, .int .i64 y1]] w fun e w' => e = .returned (.func (.func 132) #[] #[.pointer (some ⟨w.heap.size, 0, none⟩)]) ∧ w' = w.alloc (.cells #[.int .i64 x0, .int .i64 x1, .int .i64 y0, .int .i64 y1] 99) := by
 go_enter Tryz.func92, Tryz.ntmps92
 go_wp2
 go_ret
 exact ⟨rfl, rfl⟩
set_option maxRecDepth 100000 in
set_option maxHeartbeats 1000000 in
theorem points1_stops (n b : Nat) (x0 x1 y0 y1 : Int) (w : World) (h1 : -100 ≤ x0) (h2 : x1 ≤ 100) (h3 : -100 ≤ y0) (h4 : y1 ≤ 100) (h5 : x0 ≤ 1000) (h6 : y0 ≤ 1000) (hb : b < w.heap.size)
  (c0 : w.cell? ⟨b, 0, none⟩ = some (.int .i64 x0)) (c1 : w.cell? ⟨b, 1, none⟩ = some (.int .i64 x1)) (c2 : w.cell? ⟨b, 2, none⟩ = some (.int .i64 y0)) (c3 : w.cell? ⟨b, 3, none⟩ = some (.int .i64 y1)) :
  SeqStopsK Fence.wide n Tryz.prog 132 #[.pointer (some ⟨b, 0, none⟩)] (ptEnc (x0 := x0) (x1 := x1) (y0 := y0) (y1 := y1)) (KpB b) BoxAll (fun _ => True) 40401 w := by
 intro l J Jx W hW hJ hJx hY h0
 have hk : ∀ W' : World, W'.heap[b]? = W.heap[b]? → ∀ j, W'.cell? ⟨b, j, none⟩ = w.cell? ⟨b, j, none⟩ := fun W' h j => (World.cell?_of_block (w := W) h).trans (hW.cell (p := ⟨b, j, none⟩) hb)
 have d0 := (hk W rfl 0).trans c0
 have d1 := (hk W rfl 1).trans c1
 show CallsIn _ _ _ _ #[.func (.yield l) #[] #[], .pointer (some ⟨b, 0, none⟩)] _ _
 refine callsIn_of_wp Tryz.func132 rfl trivial ?_ rfl
 simp only [Tryz.ntmps132, List.size_toArray, List.length_cons, List.length_nil, Nat.reduceAdd, Nat.reduceSub, Array.replicate_succ, Array.replicate_zero, List.push_toArray, List.append_toArray, List.nil_append, List.cons_append]
 gi_wp2
 gi_loopw [3] (fun i wr => ∃ (a : Int) (pre : List (BoxPt x0 x1 y0 y1)), i = .int .i64 a ∧ x0 ≤ a ∧ (a = x0 ∨ a ≤ x1 + 1) ∧ wr.heap[b]? = W.heap[b]? ∧ J pre wr ∧ (pre.length : Int) ≤ 201 * (a - x0) ∧ ∀ p : BoxPt x0 x1 y0 y1, Seen x0 y0 y1 a y0 p.1.1 p.1.2 → p ∈ pre) (fun i _ => (x1 + 1 - intOf i).toNat)
 case atStart => exact ⟨x0, [], rfl, by omega, .inl rfl, rfl, h0, by simp, fun p hp => absurd hp Seen.start⟩
 case round =>
  obtain ⟨a, pre, rfl, ha, hax, hwb, hJs, hlen, hin⟩ := hrel
  have e1 := (hk wr hwb 1).trans c1
  have e2 := (hk wr hwb 2).trans c2
  by_cases hlt : a ≤ x1
  ·have hwa : IntKind.i64.wrap (a + 1) = a + 1 := IntWalk.i64_in _ (by omega)
   gi_wp2
   gi_loopw [4] (fun i wr => ∃ (c : Int) (pre : List (BoxPt x0 x1 y0 y1)), i = .int .i64 c ∧ y0 ≤ c ∧ (c = y0 ∨ c ≤ y1 + 1) ∧ wr.heap[b]? = W.heap[b]? ∧ J pre wr ∧ (pre.length : Int) ≤ 201 * (a - x0) + (c - y0) ∧ ∀ p : BoxPt x0 x1 y0 y1, Seen x0 y0 y1 a c p.1.1 p.1.2 → p ∈ pre) (fun i _ => (y1 + 1 - intOf i).toNat)
   case atStart => exact ⟨y0, pre, rfl, by omega, .inl rfl, hwb, hJs, by omega, hin⟩
   case round =>
    obtain ⟨c, pre, rfl, hc, hcx, hwb, hJs, hlen, hin⟩ := hrel
    have f3 := (hk wr hwb 3).trans c3
    by_cases hlc : c ≤ y1
    ·have hwc : IntKind.i64.wrap (c + 1) = c + 1 := IntWalk.i64_in _ (by omega)
     have hbx : InBox x0 x1 y0 y1 a c := ⟨ha, hlt, hc, hlc⟩
     obtain ⟨fn, tmps, assign, body, hy, hR⟩ := hY pre ⟨(a, c), hbx⟩ wr hJs (by omega)
     dsimp only [ptEnc] at hy
     gi_wp2
     refine ⟨fun h => (by cases h), hR.mono ?_⟩
     rintro e W3 (⟨rfl, hJ3, hk3⟩ | ⟨rfl, hJx3⟩)
     ·gi_wp2
      go_roundw
      case rel =>
       refine ⟨c + 1, pre ++ [⟨(a, c), hbx⟩], by go_num, by omega, .inr (by omega), hk3.2.trans hwb, hJ3, by simp; omega, fun p hp => ?_⟩
       rcases (Seen.step ha hc hlc _ _).1 hp with h | ⟨h1, h2⟩
       ·exact List.mem_append_left _ (hin p h)
       ·exact List.mem_append_right _ (List.mem_singleton.2 (Subtype.ext (Prod.ext h1 h2)))
      case measure => simp [intOf]; omega
     ·gi_wp2
      refine bodyPost_ret (results_none rfl _ _ _) rfl ?_
      exact ⟨⟨_, rfl⟩, .inr ⟨_, trivial, hJx3⟩⟩
    ·gi_wp2
     go_roundw
     case rel => exact ⟨a + 1, pre, by go_num, by omega, .inr (by omega), hwb, hJs, by omega, fun p hp => hin p ((Seen.row (by omega) _ _).1 hp)⟩
     case measure => simp [intOf]; omega
  ·gi_wp2
   go_end0
   exact ⟨⟨_, rfl⟩, .inl ⟨pre, fun p => hin p ((Seen.all (by omega) _ _).1 p.2), hJs⟩⟩
end Go.Proofs.YtjhpklolpmaopaaGreatDoor
namespace Go.Proofs.YtjhpklolpmaopaaGreatDoor
open Go.RowKit Go.Shelf
attribute [local go_sem] Oper.semAt_some
abbrev GoodAt (w : World) (bm k : Nat) (Q : Int → Int → Bool) : Prop := GoodMap Tryz.prog 43 4 w bm k Q
/-- the cells of word while it goes through a box. -/
structure WdX (w W : World) (u0 u1 u2 : Value) (bm k : Nat) (Q : Int → Int → Bool) (res : Int) (s a : Bool) : Prop where
 old : w.grownBy W (some bm)
 t0 : W.cell? ⟨w.heap.size, 0, none⟩ = some u0
 t1 : W.cell? ⟨w.heap.size, 1, none⟩ = some u1
 t2 : W.cell? ⟨w.heap.size, 2, none⟩ = some u2
 r0 : W.cell? ⟨w.heap.size + 1 + 1, 0, none⟩ = some (.int .i64 res)
 rf : W.frozen? ⟨w.heap.size + 1 + 1, 0, none⟩ = false
 s0 : W.cell? ⟨w.heap.size + 1 + 1 + 1, 0, none⟩ = some (.bool s)
 sf : W.frozen? ⟨w.heap.size + 1 + 1 + 1, 0, none⟩ = false
 a0 : W.cell? ⟨w.heap.size + 1 + 1 + 1 + 1, 0, none⟩ = some (.bool a)
 af : W.frozen? ⟨w.heap.size + 1 + 1 + 1 + 1, 0, none⟩ = false
 gm : GoodAt W bm k Q
 big : w.heap.size + 6 ≤ W.heap.size
theorem WdX.far {w W W' : World} {u0 u1 u2 : Value} {bm k k' : Nat} {Q : Int → Int → Bool} {res : Int} {s a : Bool} (h : WdX w W u0 u1 u2 bm k Q res s a) (hh : ∀ j, w.heap.size ≤ j → j < w.heap.size + 6 → W'.heap[j]? = W.heap[j]?) (hold : w.grownBy W' (some bm)) (hgm : GoodAt W' bm k' Q) (hz : W.heap.size ≤ W'.heap.size) : WdX w W' u0 u1 u2 bm k' Q res s a :=
 have c : ∀ b j, w.heap.size ≤ b → b < w.heap.size + 6 → W'.cell? ⟨b, j, none⟩ = W.cell? ⟨b, j, none⟩ := fun b j h1 h2 => World.cell?_of_block (hh b h1 h2)
 have f : ∀ b j, w.heap.size ≤ b → b < w.heap.size + 6 → W'.frozen? ⟨b, j, none⟩ = W.frozen? ⟨b, j, none⟩ := fun b j h1 h2 => World.frozen?_of_block (hh b h1 h2)
 ⟨hold, (c _ _ (by omega) (by omega)).trans h.t0, (c _ _ (by omega) (by omega)).trans h.t1, (c _ _ (by omega) (by omega)).trans h.t2, (c _ _ (by omega) (by omega)).trans h.r0, (f _ _ (by omega) (by omega)).trans h.rf, (c _ _ (by omega) (by omega)).trans h.s0, (f _ _ (by omega) (by omega)).trans h.sf, (c _ _ (by omega) (by omega)).trans h.a0, (f _ _ (by omega) (by omega)).trans h.af, hgm, Nat.le_trans h.big hz⟩
theorem WdX.mono {w W : World} {u0 u1 u2 : Value} {bm k k' : Nat} {Q : Int → Int → Bool} {res : Int} {s a : Bool} (h : WdX w W u0 u1 u2 bm k Q res s a) (hk : k ≤ k') : WdX w W u0 u1 u2 bm k' Q res s a :=
 ⟨h.old, h.t0, h.t1, h.t2, h.r0, h.rf, h.s0, h.sf, h.a0, h.af, h.gm.mono hk, h.big⟩
theorem WdX.step {w W W' : World} {u0 u1 u2 : Value} {bm k : Nat} {Q : Int → Int → Bool} {res : Int} {s a : Bool} {row : Option Nat} (h : WdX w W u0 u1 u2 bm k Q res s a) (hb : bm < w.heap.size) (hg : W.grownBy W' row) (hr : ∀ r, row = some r → w.heap.size + 6 ≤ r) : WdX w W' u0 u1 u2 bm k Q res s a :=
 have hbig := h.big
 h.far (fun j h1 h2 => hg.block j (by omega) (fun e => by have := hr j e.symm; omega)) (h.old.andThen hg fun j e => .inl (by have := hr j e; omega)) (h.gm.kept hg fun e => by have := hr bm e.symm; omega) hg.size
theorem WdX.does {w W W' : World} {u0 u1 u2 : Value} {bm k k' : Nat} {Q : Int → Int → Bool} {res : Int} {s a : Bool} (h : WdX w W u0 u1 u2 bm k Q res s a) (hb : bm < w.heap.size) (hg : W.grownBy W' (some bm)) (hgm : GoodAt W' bm k' Q) : WdX w W' u0 u1 u2 bm k' Q res s a :=
 have hbig := h.big
 h.far (fun j h1 h2 => hg.block j (by omega) (fun e => by cases e; omega)) (h.old.andThen hg fun j e => .inr e) hgm hg.size
theorem grown_set {W : World} {a : Addr} (u : Value) : W.grownBy (W.setCell a u) (some a.block) :=
 ⟨rfl, rfl, rfl, by rw [World.size_setCell]; exact Nat.le_refl _, fun i _ hi => Below.heap_setCell _ _ _ _ (fun e => hi (by rw [e]))⟩
end Go.Proofs.YtjhpklolpmaopaaGreatDoor
namespace Go.Proofs.YtjhpklolpmaopaaGreatDoor
open Go.RowKit
theorem grown_below {w w' : World} (h : Below w.heap.size w w') (row : Option Nat) : w.grownBy w' row := ⟨h.os, h.tape, h.output, h.size, fun i hi _ => h.block i hi⟩
theorem wf48 {x : Int} (h : -48 ≤ x ∧ x ≤ 48) : (Lit.int .i64 x).wf = true := WalkArith.wf_i64 (by omega)
end Go.Proofs.YtjhpklolpmaopaaGreatDoor
namespace Go.Proofs.YtjhpklolpmaopaaGreatDoor
open Go.RowKit Go.Maps
end Go.Proofs.YtjhpklolpmaopaaGreatDoor
namespace Go.Proofs.YtjhpklolpmaopaaGreatDoor
open Go.RowKit Go.Maps
/-- whether a button agrees with the holes of a machine that is off by x and y. -/
def agreeB (n : Nat) (HX HY SX SY : Nat → Int) (r x y : Int) : Bool := (matchS n (fun i => SX i + x) (fun i => SY i + y) HX HY r).isSome
set_option maxRecDepth 100000 in
set_option maxHeartbeats 2000000 in
theorem agreement1_any (n sb so cap cb b1 o1 k1 : Nat) (SX SY HX HY : Nat → Int) (r x y : Int) (hx : -48 ≤ x ∧ x ≤ 48) (hy : -48 ≤ y ∧ y ≤ 48) (v : Value) (B : Nat) (w : World) (h : TrialG w n sb so cap cb b1 o1 k1 SX SY HX HY r)
    (hv : w.ownsRow B 43 2 v n (ptsCells (fun i => (SX i + x, SY i + y)) n)) :
    Calls Tryz.prog 91 #[v, .pointer (some ⟨cb, 0, none⟩)] w fun e w' => e = .returned (.bool (agreeB n HX HY SX SY r x y)) ∧ Below w.heap.size w w' := by
  have hc0 := h.c0
  have hc1 := h.c1
  obtain ⟨b2, o2, k2, rfl, l2, p2⟩ := PSl_posD (PSl_of_own hv) (by have := h.n2; omega)
  have hsm : ∀ i, i < n → small (SX i + x, SY i + y) := fun i hi => by
    have := h.sS i hi
    unfold small
    dsimp only
    omega
  have hmt := fun (W : World) (hb : Below w.heap.size w W) => match_in n b2 o2 k2 b1 o1 k1 3 (fun i => SX i + x) (fun i => SY i + y) HX HY r W h.r0 (by have := h.r1; omega) (by have := h.n2; omega) h.n4 (p2.below hb l2) (h.holes.below hb h.l2) (Nat.lt_of_lt_of_le l2 hb.size) (Nat.lt_of_lt_of_le h.l2 hb.size) hsm h.sH
  have hB := Below.refl w.heap.size w
  go_enter Tryz.func91, Tryz.ntmps91
  go_wp2_with (go_at_call 68; refine (callsIn_wide.1 (hmt _ hB)).mono ?_; rintro e w3 ⟨hb3, (⟨hno, rfl⟩ | ⟨t, q, v, hyes, ht, rfl, hrow⟩)⟩)
  · go_ret
    exact ⟨by unfold agreeB; rw [hno]; rfl, hb3⟩
  · go_ret
    exact ⟨by unfold agreeB; rw [hyes]; rfl, hb3⟩
/-- a trial's value. -/
abbrev trialA (sb so n cap cb bm : Nat) : Value := .agg #[.slice (some ⟨sb, so, none⟩) n cap, .func (.func 91) #[] #[.pointer (some ⟨cb, 0, none⟩)], .map (some bm)]
set_option maxRecDepth 100000 in
set_option maxHeartbeats 2000000 in
theorem doesA_any (n sb so cap cb b1 o1 k1 bm k : Nat) (SX SY HX HY : Nat → Int) (r x y : Int) (hx : -48 ≤ x ∧ x ≤ 48) (hy : -48 ≤ y ∧ y ≤ 48) (w : World) (h : TrialG w n sb so cap cb b1 o1 k1 SX SY HX HY r)
    (hm : GoodAt w bm k (agreeB n HX HY SX SY r)) (hk : k ≤ 1000000000) (m1 : sb < bm) (m2 : b1 < bm) (m3 : cb < bm) :
    Calls Tryz.prog 93 #[trialA sb so n cap cb bm, ptV x y] w fun e w' => e = .returned (.bool (agreeB n HX HY SX SY r x y)) ∧ GoodAt w' bm (k + 1) (agreeB n HX HY SX SY r) ∧ w.grownBy w' (some bm) := by
  obtain ⟨W0, hW0⟩ : ∃ W0, (w.alloc (Obj.cells #[.slice (some ⟨sb, so, none⟩) n cap, .func (.func 91) #[] #[.pointer (some ⟨cb, 0, none⟩)], .map (some bm)] 103)).alloc (Obj.cells #[.int .i64 x, .int .i64 y] 43) = W0 := ⟨_, rfl⟩
  have hg0 : w.grownBy W0 (some bm) := by rw [← hW0]; exact (World.grownBy_alloc _ _ _).trans (World.grownBy_alloc _ _ _)
  have hb0 : Below w.heap.size w W0 := by rw [← hW0]; exact ((Below.refl _ _).alloc (Nat.le_refl _) _).alloc (by rw [World.size_alloc]; omega) _
  have hsz : W0.heap.size = w.heap.size + 1 + 1 := by rw [← hW0, World.size_alloc, World.size_alloc]
  have t0 : W0.cell? ⟨w.heap.size, 0, none⟩ = some (.slice (some ⟨sb, so, none⟩) n cap) := by rw [← hW0]; exact cell_under w _ _ _ _ rfl
  have t1 : W0.cell? ⟨w.heap.size, 1, none⟩ = some (.func (.func 91) #[] #[.pointer (some ⟨cb, 0, none⟩)]) := by rw [← hW0]; exact cell_under w _ _ _ _ rfl
  have t2 : W0.cell? ⟨w.heap.size, 2, none⟩ = some (.map (some bm)) := by rw [← hW0]; exact cell_under w _ _ _ _ rfl
  have p0 : W0.cell? ⟨w.heap.size + 1, 0, none⟩ = some (.int .i64 x) := by rw [← hW0]; have := cells_new (w.alloc (Obj.cells #[.slice (some ⟨sb, so, none⟩) n cap, .func (.func 91) #[] #[.pointer (some ⟨cb, 0, none⟩)], .map (some bm)] 103)) #[.int .i64 x, .int .i64 y] 43 (j := 0) rfl; rw [World.size_alloc] at this; exact this
  have p1 : W0.cell? ⟨w.heap.size + 1, 1, none⟩ = some (.int .i64 y) := by rw [← hW0]; have := cells_new (w.alloc (Obj.cells #[.slice (some ⟨sb, so, none⟩) n cap, .func (.func 91) #[] #[.pointer (some ⟨cb, 0, none⟩)], .map (some bm)] 103)) #[.int .i64 x, .int .i64 y] 43 (j := 1) rfl; rw [World.size_alloc] at this; exact this
  have hT0 := h.below hb0
  have hM0 : GoodAt W0 bm k (agreeB n HX HY SX SY r) := hm.below hb0 hm.lt
  have hlt := hm.lt
  have wx := wf48 hx
  have wy := wf48 hy
  have hmv := fun (W : World) (hB : Below W0.heap.size W0 W) => moved_some sb so n cap SX SY x y W (by have := h.n4; omega) (hT0.stops.below hB hT0.l1) (Nat.lt_of_lt_of_le hT0.l1 hB.size) (by omega) (by omega) (fun i hi => by have := h.sS i hi; unfold small; dsimp only; omega)
  have hgd := fun (W : World) (hB : Below W0.heap.size W0 W) (v : Value) (B : Nat) (hv : W.ownsRow B 43 2 v n (ptsCells (fun i => (SX i + x, SY i + y)) n)) => agreement1_any n sb so cap cb b1 o1 k1 SX SY HX HY r x y hx hy v B W (hT0.below hB) hv
  clear hb0
  generalize agreeB n HX HY SX SY r = Q at *
  go_enter Tryz.func93, Tryz.ntmps93
  go_wp2_with (at_lookup; refine wpList_lookup_good _ rfl _ _ 101 rfl ptm rfl hM0 x y rfl wx wy ?_; intro f; cases f)
  rotate_left 1
  · go_ret
    exact ⟨rfl, hM0.mono (by omega), hg0⟩
  · go_region_held3 (fun w' => w'.cell? ⟨w.heap.size, 0, none⟩ = some (.slice (some ⟨sb, so, none⟩) n cap) ∧ w'.cell? ⟨w.heap.size, 1, none⟩ = some (.func (.func 91) #[] #[.pointer (some ⟨cb, 0, none⟩)]) ∧ w'.cell? ⟨w.heap.size + 1, 0, none⟩ = some (.int .i64 x) ∧ w'.cell? ⟨w.heap.size + 1, 1, none⟩ = some (.int .i64 y))
      (first
        | (go_keep; done)
        | (go_split_ands
           refine ⟨?_, ?_, ?_, ?_⟩ <;> (rw [hbb.cell (by first | omega | (simp; omega) | simp)]; assumption)))
      (first
        | (go_at_call 133; refine (hmv _ ((Below.refl _ _).drew)).mono ?_; rintro e w1 ⟨v1, rfl, hown, hbb⟩; have hB1 := (Below.refl W0.heap.size W0).drew.trans hbb; have hs1 := hB1.size)
        | (go_at_call 91; refine (hgd _ hB1 _ _ hown).mono ?_; rintro e w2 ⟨rfl, hbb⟩; have hB2 := hB1.trans (hbb.mono hB1.size); have hs2 := hB2.size))
    have u2 := (hB2.cell (p := ⟨w.heap.size, 2, none⟩) (by show w.heap.size < _; omega)).trans t2
    have v0 := (hB2.cell (p := ⟨w.heap.size + 1, 0, none⟩) (by show w.heap.size + 1 < _; omega)).trans p0
    have v1 := (hB2.cell (p := ⟨w.heap.size + 1, 1, none⟩) (by show w.heap.size + 1 < _; omega)).trans p1
    have hM2 := hM0.below hB2 (by omega)
    have hg2 := hg0.trans ((grown_below hB2 (some bm)))
    go_wp2_with (at_mapUpdate; refine wpList_mapUpdate_good _ rfl _ _ _ 101 rfl ptm rfl hM2 (by unfold maxLen; omega) x y rfl rfl wx wy ?_; intro w4 hM4 hg4)
    go_ret
    exact ⟨rfl, hM4, hg2.trans hg4⟩
theorem made_four2 (w : World) (c1 : Array Value) (e1 : TypeId) (o2 o3 : Obj) (Q : Int → Int → Bool) :
    Below w.heap.size w ((((w.alloc o2).alloc (.cells c1 e1)).alloc o3).alloc (.map #[] 0)) ∧ (∀ j u, c1[j]? = some u → ((((w.alloc o2).alloc (.cells c1 e1)).alloc o3).alloc (.map #[] 0)).cell? ⟨w.heap.size + 1, j, none⟩ = some u) ∧
      GoodAt ((((w.alloc o2).alloc (.cells c1 e1)).alloc o3).alloc (.map #[] 0)) (w.heap.size + 1 + 1 + 1) 0 Q := by
  obtain ⟨A1, hA1⟩ : ∃ A, w.alloc o2 = A := ⟨_, rfl⟩
  obtain ⟨A2, hA2⟩ : ∃ A, A1.alloc (.cells c1 e1) = A := ⟨_, rfl⟩
  obtain ⟨A3, hA3⟩ : ∃ A, A2.alloc o3 = A := ⟨_, rfl⟩
  rw [hA1, hA2, hA3]
  have s1 : A1.heap.size = w.heap.size + 1 := by rw [← hA1, World.size_alloc]
  have s2 : A2.heap.size = w.heap.size + 1 + 1 := by rw [← hA2, World.size_alloc, s1]
  have s3 : A3.heap.size = w.heap.size + 1 + 1 + 1 := by rw [← hA3, World.size_alloc, s2]
  have b1 : Below w.heap.size w A1 := by rw [← hA1]; exact (Below.refl _ _).alloc (Nat.le_refl _) _
  have b2 : Below A1.heap.size A1 A2 := by rw [← hA2]; exact (Below.refl _ _).alloc (Nat.le_refl _) _
  have b3 : Below A2.heap.size A2 A3 := by rw [← hA3]; exact (Below.refl _ _).alloc (Nat.le_refl _) _
  have b4 : Below A3.heap.size A3 (A3.alloc (.map #[] 0)) := (Below.refl _ _).alloc (Nat.le_refl _) _
  have b34 := b3.trans (b4.mono b3.size)
  have b24 := b2.trans (b34.mono b2.size)
  have t := fun j u (h : c1[j]? = some u) => cells_new A1 c1 e1 h
  rw [hA2, s1] at t
  have hg := GoodMap.made Tryz.prog 43 4 Q A3
  rw [s3] at hg
  exact ⟨b1.trans (b24.mono b1.size), fun j u h => (b34.cell (p := ⟨w.heap.size + 1, j, none⟩) (by show w.heap.size + 1 < _; omega)).trans (t j u h), hg⟩
set_option maxRecDepth 100000 in
set_option maxHeartbeats 2000000 in
/-- a trial is made. -/
theorem agreement_any (b1 o1 n k1 sb so : Nat) (r : Int) (m : Mach) (hsa : m.sa = some ⟨sb, so, none⟩) (Q : Int → Int → Bool) (w : World) :
    Calls Tryz.prog 50 #[m.val, .agg #[.slice (some ⟨b1, o1, none⟩) n k1, .int .i64 r]] w fun e w' => e = .returned (trialA sb so m.sn m.sc (w.heap.size + 1) (w.heap.size + 1 + 1 + 1)) ∧ Below w.heap.size w w' ∧
      w'.cell? ⟨w.heap.size + 1, 0, none⟩ = some (.slice (some ⟨b1, o1, none⟩) n k1) ∧ w'.cell? ⟨w.heap.size + 1, 1, none⟩ = some (.int .i64 r) ∧ GoodAt w' (w.heap.size + 1 + 1 + 1) 0 Q := by
  have hmm := @run_makeMap Tryz.prog
  unfold Mach.val
  rw [hsa]
  go_enter Tryz.func50, Tryz.ntmps50
  go_wp2
  obtain ⟨h1, h2, h3⟩ := made_four2 w #[.slice (some ⟨b1, o1, none⟩) n k1, .int .i64 r] 41 (Obj.cells #[.slice (some ⟨sb, so, none⟩) m.sn m.sc, .int .i64 m.c0, .int .i64 m.c1, .int .i64 m.d0, .int .i64 m.d1, .int .i64 m.w0, .int .i64 m.w1, .int .i64 m.v0, .int .i64 m.v1, .slice m.ra m.rn m.rc] 27)
    (Obj.cells #[.slice (some ⟨sb, so, none⟩) m.sn m.sc, .func (.func 91) #[] #[.pointer (some ⟨w.heap.size + 1, 0, none⟩)], .map (some (w.heap.size + 1 + 1 + 1))] 103) Q
  have a0 := h2 0 _ rfl
  have a1 := h2 1 _ rfl
  refine bodyPost_ret (v := trialA sb so m.sn m.sc (w.heap.size + 1) (w.heap.size + 1 + 1 + 1)) (by simp [results, Tryz.results50, go_sem]) rfl ⟨rfl, h1, a0, a1, h3⟩
end Go.Proofs.YtjhpklolpmaopaaGreatDoor
