/- A part of the proof: see the last file. -/
import Derived.Test.YtppefjmllebacaaGreatDoorPal
import Derived.Test.YtppefjmllebacaaGreatDoorPaa
import Derived.StillTailTactics
set_option linter.unusedVariables false
set_option linter.unusedSimpArgs false
set_option linter.unusedSectionVars false
namespace Go.Proofs.YtppefjmllebacaaGreatDoor
open Go.RowKit
set_option maxRecDepth 100000 in
set_option maxHeartbeats 4000000 in
theorem moved_some (b off n cap : Nat) (X Y : Nat → Int) (x y : Int) (w : World) (hn : n ≤ 1000) (hp : Pts w b off n X Y) (hb : b < w.heap.size) (hx : -80 ≤ x ∧ x ≤ 80) (hy : -80 ≤ y ∧ y ≤ 80) (hall : ∀ i, i < n → small (X i, Y i)) :
    Calls Tryz.prog 43 #[.slice (some ⟨b, off, none⟩) n cap, .agg #[.int .i64 x, .int .i64 y]] w fun e w' => ∃ v', e = .returned v' ∧ w'.ownsRow w.heap.size 52 2 v' n (ptsCells (fun i => (X i + x, Y i + y)) n) ∧ Below w.heap.size w w' := by
  obtain ⟨i0, hi, hz0, hz1, hz2⟩ := info_parts Tryz.info52
  obtain ⟨W0, hW0⟩ : ∃ W0, w.alloc (Obj.cells #[.int .i64 x, .int .i64 y] 52) = W0 := ⟨_, rfl⟩
  have hb0 : Below w.heap.size w W0 := by rw [← hW0]; exact (Below.refl _ _).alloc (Nat.le_refl _) _
  have hsz : W0.heap.size = w.heap.size + 1 := by rw [← hW0, World.size_alloc]
  have c0 : W0.cell? ⟨w.heap.size, 0, none⟩ = some (.int .i64 x) := by rw [← hW0]; exact cells_new w _ _ rfl
  have c1 : W0.cell? ⟨w.heap.size, 1, none⟩ = some (.int .i64 y) := by rw [← hW0]; exact cells_new w _ _ rfl
  have hp0 := hp.below hb0 hb
  go_enter Tryz.func43, Tryz.ntmps43
  go_wp2
  go_loopw [5, 10] (fun v i wr => ∃ k : Nat, k ≤ n ∧ i = .int .i64 k ∧ wr.ownsRow (w.heap.size + 1) 52 2 v k (ptsCells (fun i => (X i + x, Y i + y)) k) ∧ Below (w.heap.size + 1) W0 wr ∧ w.heap.size + 1 ≤ wr.heap.size) (fun _ i _ => n - (intOf i).toNat)
  case atStart => exact ⟨0, Nat.zero_le _, rfl, ⟨rfl, .inl ⟨rfl, rfl⟩⟩, Below.refl _ _, by omega⟩
  case round =>
    obtain ⟨k, hk, rfl, hown, hbl, hsw⟩ := hrel
    by_cases hlt : k < n
    · obtain ⟨hx0, hy0⟩ := hp0 k hlt
      have e0 := (hbl.cell (p := ⟨b, off + k * 2, none⟩) (by show b < _; omega)).trans hx0
      have e1 := (hbl.cell (p := ⟨b, off + k * 2 + 1, none⟩) (by show b < _; omega)).trans hy0
      have d0 := (hbl.cell (p := ⟨w.heap.size, 0, none⟩) (by show w.heap.size < _; omega)).trans c0
      have d1 := (hbl.cell (p := ⟨w.heap.size, 1, none⟩) (by show w.heap.size < _; omega)).trans c1
      have hne : w.heap.size ≠ wr.heap.size := by omega
      have hk0 : (0 : Int) ≤ (k : Int) := Int.natCast_nonneg _
      have hk1 : (k : Int) < (n : Int) := by omega
      obtain ⟨⟨hx1, hx2⟩, hy1, hy2⟩ := hall k hlt
      dsimp only at hx1 hx2 hy1 hy2
      obtain ⟨hxa, hxb⟩ := hx
      obtain ⟨hya, hyb⟩ := hy
      have hbp : Below (w.heap.size + 1) W0 (wr.alloc (Obj.cells #[.int .i64 (X k), .int .i64 (Y k)] 52)) := hbl.alloc hsw _
      have f0 := (((Below.refl wr.heap.size wr).alloc (Nat.le_refl _) (Obj.cells #[.int .i64 (X k), .int .i64 (Y k)] 52)).cell (p := ⟨w.heap.size, 0, none⟩) (by show w.heap.size < _; omega)).trans d0
      have f1 := (((Below.refl wr.heap.size wr).alloc (Nat.le_refl _) (Obj.cells #[.int .i64 (X k), .int .i64 (Y k)] 52)).cell (p := ⟨w.heap.size, 1, none⟩) (by show w.heap.size < _; omega)).trans d1
      go_wp2_with (at_builtin; refine wpList_append_own _ rfl _ _ 22 rfl (w.heap.size + 1) 52 i0 (.agg #[.int .i64 0, .int .i64 0]) 2 16 Tryz.underlying22 hi hz0 hz1 hz2 rfl (by decide) _ _ _ rfl ((hown.alloc _).alloc _) ⟨wr.heap.size + 1, 0, none⟩ 1 1 [.int .i64 (X k + x), .int .i64 (Y k + y)] rfl rfl ?c1 ?c2 ?c3 ?c4 ?c5 ?_)
      case c1 =>
        have h := cells_two (wr.alloc (Obj.cells #[.int .i64 (X k), .int .i64 (Y k)] 52)) (.int .i64 (X k + x)) (.int .i64 (Y k + y)) 52
        rw [World.size_alloc] at h
        exact h
      case c2 => exact fun u hu => by rcases List.mem_cons.1 hu with rfl | hu; · rfl
                                      · rcases List.mem_cons.1 hu with rfl | hu; · rfl
                                        · cases hu
      case c3 => unfold maxLen; omega
      case c4 => omega
      case c5 => first | omega | (simp only [World.size_alloc]; omega)
      intro v3 w3 hown3 hgrow _
      have hb3 : Below (w.heap.size + 1) W0 w3 := (hbp.alloc (by rw [World.size_alloc]; omega) _).grown hgrow (by simp only [World.size_alloc]; omega) fun q hq => (hown.lt q hq).1
      have hz3 : w.heap.size + 1 ≤ w3.heap.size := by have := hgrow.size; simp only [World.size_alloc] at this; omega
      clear hgrow hown hbp
      go_wp2
      go_roundw
      case rel => exact ⟨k + 1, by omega, by go_num, hown3, hb3, hz3⟩
      case measure => simp [intOf]; omega
    · obtain rfl : n = k := by omega
      go_wp2
      go_ret
      exact ⟨_, rfl, ownsRow_base (by omega) hown, hb0.trans (hbl.mono (by omega))⟩
end Go.Proofs.YtppefjmllebacaaGreatDoor
namespace Go.Proofs.YtppefjmllebacaaGreatDoor
open Go.RowKit
set_option maxRecDepth 100000 in
set_option maxHeartbeats 4000000 in
theorem Holes_yes (m : Mach) (a1 : Option Addr) (n1 c1 : Nat) (a2 : Option Addr) (n2 c2 : Nat) (F G : Nat → Int) (b : Nat) (hb : b ≤ 12) (w : World) (hs : m.sn ≤ 1000) (hr : m.rn ≤ 9223372036854775807) (h : MIn w m) (h1 : n1 ≤ 1000) (h2 : n2 ≤ 1000) (hF : IntsSl w (.slice a1 n1 c1) n1 F) (hG : IntsSl w (.slice a2 n2 c2) n2 G) (hok : m.ok = true) (ho1' : offB n1 F = true) (ho2' : offB n2 G = true) (hc1 : n1 ≤ c1) (hc2 : n2 ≤ c2) (hfit : (m.axX.holdB F && m.axY.holdB G) = true) :
    Calls Tryz.prog 11 #[m.val, .agg #[.slice a1 n1 c1, .slice a2 n2 c2], .int .i64 b] w fun e w' => ∃ v', e = .returned (.tuple #[v', .int .i64 0]) ∧ w'.ownsRow w.heap.size 52 2 v' m.sn (ptsCells (fun i => (m.SX i + F b, m.SY i + G b)) m.sn) ∧ Below w.heap.size w w' := by
  obtain ⟨W0, hW⟩ : ∃ W0, (w.alloc (.cells #[.slice m.sa m.sn m.sc, .int .i64 m.c0, .int .i64 m.c1, .int .i64 m.d0, .int .i64 m.d1, .int .i64 m.w0, .int .i64 m.w1, .int .i64 m.v0, .int .i64 m.v1, .slice m.ra m.rn m.rc] 27)).alloc (.cells #[.slice a1 n1 c1, .slice a2 n2 c2] 30) = W0 := ⟨_, rfl⟩
  have hb0 : Below w.heap.size w W0 := by rw [← hW]; exact ((Below.refl _ _).alloc (Nat.le_refl _) _).alloc (by rw [World.size_alloc]; omega) _
  have hsz : W0.heap.size = w.heap.size + 1 + 1 := by rw [← hW, World.size_alloc, World.size_alloc]
  have k0 : W0.cell? ⟨w.heap.size + 1, 0, none⟩ = some (.slice a1 n1 c1) := by
    have h := cells_new (w.alloc (.cells #[.slice m.sa m.sn m.sc, .int .i64 m.c0, .int .i64 m.c1, .int .i64 m.d0, .int .i64 m.d1, .int .i64 m.w0, .int .i64 m.w1, .int .i64 m.v0, .int .i64 m.v1, .slice m.ra m.rn m.rc] 27)) #[.slice a1 n1 c1, .slice a2 n2 c2] 30 (j := 0) rfl
    rw [World.size_alloc, hW] at h; exact h
  have k1 : W0.cell? ⟨w.heap.size + 1, 1, none⟩ = some (.slice a2 n2 c2) := by
    have h := cells_new (w.alloc (.cells #[.slice m.sa m.sn m.sc, .int .i64 m.c0, .int .i64 m.c1, .int .i64 m.d0, .int .i64 m.d1, .int .i64 m.w0, .int .i64 m.w1, .int .i64 m.v0, .int .i64 m.v1, .slice m.ra m.rn m.rc] 27)) #[.slice a1 n1 c1, .slice a2 n2 c2] 30 (j := 1) rfl
    rw [World.size_alloc, hW] at h; exact h
  have hMB : MAt W0 w.heap.size m := by rw [← hW]; exact (MAt.new w m).below ((Below.refl _ _).alloc (Nat.le_refl _) _) (by rw [World.size_alloc]; omega)
  obtain ⟨q0, q1, q2, q3, q4, q5, q6, q7, q8, q9⟩ := hMB
  have hfi := fun (W : World) (hB : Below w.heap.size w W) => Fits_yes m a1 n1 c1 a2 n2 c2 F G W hs hr (h.below hB) h1 h2 (isl_below hF hB) (isl_below hG hB) hok ho1' ho2' hc1 hc2
  rw [hfit] at hfi
  have hwi := fun (W : World) => within_any (b : Int) 0 12 W
  rw [inB_yes (n := (b : Int)) (lo := 0) (hi := 12) (by omega) (by omega)] at hwi
  obtain ⟨e1, r1⟩ := offB_iff.1 ho1'
  obtain ⟨e2, r2⟩ := offB_iff.1 ho2'
  subst e1
  subst e2
  obtain ⟨b1, o1, rfl, hb1, p1⟩ := ints_at hF (by omega)
  obtain ⟨b2, o2, rfl, hb2, p2⟩ := ints_at hG (by omega)
  have hst := (Mach.ok_parts hok).1
  unfold Mach.okStops at hst
  have hsp : 2 ≤ m.sn ∧ m.sn ≤ 4 ∧ ∀ i, i < m.sn → ptB (m.SX i) (m.SY i) 20 = true := by
    unfold arB at hst
    rw [Bool.and_eq_true, allB_iff, inB_iff] at hst
    exact ⟨by omega, by omega, hst.2⟩
  have hsm : ∀ i, i < m.sn → small (m.SX i, m.SY i) := fun i hi => by
    have := hsp.2.2 i hi
    unfold ptB at this
    rw [Bool.and_eq_true, inB_iff, inB_iff] at this
    unfold small
    dsimp only
    omega
  obtain ⟨sb, so, hsa, hsb, hpts⟩ : ∃ sb so, m.sa = some ⟨sb, so, none⟩ ∧ sb < w.heap.size ∧ Pts w sb so m.sn m.SX m.SY := by
    rcases h.stops with ⟨a, c, e1, e2⟩ | ⟨sb, so, c, e1, e2, e3⟩
    · omega
    · rw [Value.slice.injEq] at e1; exact ⟨sb, so, e1.1, e2, e3⟩
  have hmo := fun (W : World) (hB : Below w.heap.size w W) => moved_some sb so m.sn m.sc m.SX m.SY (F b) (G b) W hs (hpts.below hB hsb) (Nat.lt_of_lt_of_le hsb hB.size) (r1 b (by omega)) (r2 b (by omega)) hsm
  rw [← hsa] at hmo
  have hk0 : (0 : Int) ≤ (b : Int) := Int.natCast_nonneg _
  have hk1 : (b : Int) < 13 := by omega
  clear hsa hsp hst hsm hpts hfit ho1' ho2'
  go_enter Tryz.func11, Tryz.ntmps11
  go_wp2_with fail
  have hh := hfi _ hb0
  refine hh.mono ?_
  rintro e w1 ⟨rfl, hb1'⟩
  have hB1 := hb0.trans (hb1'.mono hb0.size)
  have l0 := (hb1'.cell (p := ⟨w.heap.size + 1, 0, none⟩) (by show w.heap.size + 1 < _; omega)).trans k0
  have l1 := (hb1'.cell (p := ⟨w.heap.size + 1, 1, none⟩) (by show w.heap.size + 1 < _; omega)).trans k1
  have l2 := (hb1'.cell (p := ⟨w.heap.size, 0, none⟩) (by show w.heap.size < _; omega)).trans q0
  have g1 := (hB1.cell (p := ⟨b1, o1 + b, none⟩) hb1).trans (p1 b (by omega))
  have g2 := (hB1.cell (p := ⟨b2, o2 + b, none⟩) hb2).trans (p2 b (by omega))
  go_wp2_with (first
    | (go_at_call 42; with_reducible refine (hwi _).mono ?_; rintro e w2 ⟨rfl, rfl⟩))
  go_region_held3 (fun W => W.cell? ⟨w.heap.size, 0, none⟩ = some (.slice m.sa m.sn m.sc) ∧ W.cell? ⟨w.heap.size + 1, 0, none⟩ = some (.slice (some ⟨b1, o1, none⟩) 13 c1) ∧ W.cell? ⟨w.heap.size + 1, 1, none⟩ = some (.slice (some ⟨b2, o2, none⟩) 13 c2) ∧ W.cell? ⟨b1, o1 + b, none⟩ = some (.int .i64 (F b)) ∧ W.cell? ⟨b2, o2 + b, none⟩ = some (.int .i64 (G b)))
    (first | (go_keep; done) | (go_split_ands; refine ⟨?_, ?_, ?_, ?_, ?_⟩ <;> (rw [hbb.cell (by first | omega | (simp; omega) | simp)]; assumption)))
    ((go_at_call 43; refine (hmo _ hB1.drew).mono ?_; rintro e w3 ⟨v3, rfl, hown, hbb⟩; have hs3 := hbb.size; have hz1 := hb1'.size; have hz0 := hB1.size))
  go_wp2
  go_ret2
  exact ⟨v3, rfl, ownsRow_base (by rw [World.size_drew]; omega) hown, hB1.trans (((Below.refl _ _).drew.trans (hbb.mono (by rw [World.size_drew]; exact Nat.le_refl _))).mono hB1.size)⟩
end Go.Proofs.YtppefjmllebacaaGreatDoor
namespace Go.Proofs.YtppefjmllebacaaGreatDoor
open Go.RowKit
set_option maxRecDepth 100000 in
set_option maxHeartbeats 4000000 in
theorem at_any (L : List Value) (b : Nat) (hb : b ≤ 12) (x0 x1 y0 y1 : Int) (w : World) (e0 : L[10 + b * 2]? = some (.int .i64 x0)) (e1 : L[10 + b * 2 + 1]? = some (.int .i64 x1)) (e2 : L[36 + b * 2]? = some (.int .i64 y0)) (e3 : L[36 + b * 2 + 1]? = some (.int .i64 y1)) :
    Calls Tryz.prog 49 #[.agg L.toArray, .int .i64 b] w fun e w' => e = .returned (.agg #[.int .i64 x0, .int .i64 x1, .int .i64 y0, .int .i64 y1]) ∧ Below w.heap.size w w' := by
  obtain ⟨W0, hW0⟩ : ∃ W0, w.alloc (Obj.cells L.toArray 83) = W0 := ⟨_, rfl⟩
  have hS : SAt W0 w.heap.size L := by rw [← hW0]; exact SAt.new w L _
  have hb0 : Below w.heap.size w W0 := by rw [← hW0]; exact (Below.refl _ _).alloc (Nat.le_refl _) _
  have hsz : W0.heap.size = w.heap.size + 1 := by rw [← hW0, World.size_alloc]
  have c0 := hS.c _ _ e0
  have c1 := hS.c _ _ e1
  have c2 := hS.c _ _ e2
  have c3 := hS.c _ _ e3
  rw [Nat.zero_add] at c0 c1 c2 c3
  have hk0 : (0 : Int) ≤ (b : Int) := Int.natCast_nonneg _
  have hk1 : (b : Int) < 13 := by omega
  have hne : w.heap.size ≠ W0.heap.size := by omega
  obtain ⟨W1, hW1⟩ : ∃ W1, W0.alloc (Obj.cells #[.int .i64 0, .int .i64 0, .int .i64 0, .int .i64 0] 96) = W1 := ⟨_, rfl⟩
  have hb1 : Below W0.heap.size W0 W1 := by rw [← hW1]; exact (Below.refl _ _).alloc (Nat.le_refl _) _
  have d0 := (hb1.cell (p := ⟨w.heap.size, 10 + b * 2, none⟩) (by show w.heap.size < _; omega)).trans c0
  have d1 := (hb1.cell (p := ⟨w.heap.size, 10 + b * 2 + 1, none⟩) (by show w.heap.size < _; omega)).trans c1
  have d2 := (hb1.cell (p := ⟨w.heap.size, 36 + b * 2, none⟩) (by show w.heap.size < _; omega)).trans c2
  have d3 := (hb1.cell (p := ⟨w.heap.size, 36 + b * 2 + 1, none⟩) (by show w.heap.size < _; omega)).trans c3
  have r : ∀ j, j < 4 → W1.cell? ⟨w.heap.size + 1, j, none⟩ = some (.int .i64 0) ∧ W1.frozen? ⟨w.heap.size + 1, j, none⟩ = false := fun j hj => by
    rw [← hW1, ← hsz]
    refine ⟨cells_new W0 _ _ ?_, by simp [go_sem]⟩
    match j, hj with
    | 0, _ => rfl | 1, _ => rfl | 2, _ => rfl | 3, _ => rfl
  obtain ⟨r0, z0⟩ := r 0 (by omega)
  obtain ⟨r1, z1⟩ := r 1 (by omega)
  obtain ⟨r2, z2⟩ := r 2 (by omega)
  obtain ⟨r3, z3⟩ := r 3 (by omega)
  clear r c0 c1 c2 c3 hS e0 e1 e2 e3 hne
  go_enter Tryz.func49, Tryz.ntmps49
  go_wp2
  go_still_tail 11, (by kernel_rfl)
  change wpList _ _ _ _ _ W1.drew
  go_wp2
  refine bodyPost_ret (v := .agg #[.int .i64 x0, .int .i64 x1, .int .i64 y0, .int .i64 y1]) (by simp [results, Tryz.results49, go_sem, r0, r1, r2, r3]) rfl ⟨rfl, ?_⟩
  have hb2 : Below w.heap.size w W1.drew := (hb0.trans (hb1.mono hb0.size)).drew
  exact (((hb2.setCell (p := ⟨w.heap.size + 1, 0, none⟩) (Nat.le_succ _) _).setCell (p := ⟨w.heap.size + 1, 1, none⟩) (Nat.le_succ _) _).setCell (p := ⟨w.heap.size + 1, 2, none⟩) (Nat.le_succ _) _).setCell (p := ⟨w.heap.size + 1, 3, none⟩) (Nat.le_succ _) _
theorem st_atX (m : Mach) (f g : Nat → Int × Int) (b : Nat) (hb : b ≤ 12) : (m.st (crsL f 13) (crsL g 13))[10 + b * 2]? = some (.int .i64 (f b).1) ∧ (m.st (crsL f 13) (crsL g 13))[10 + b * 2 + 1]? = some (.int .i64 (f b).2) := by
  have hl := crsL_length f 13
  obtain ⟨h1, h2⟩ := crsL_at f 13 b (by omega)
  have hc : m.cells.length = 10 := rfl
  unfold Mach.st
  refine ⟨?_, ?_⟩
  · rw [List.getElem?_append_right (by omega), List.getElem?_append_left (by omega), hc, show 10 + b * 2 - 10 = b * 2 by omega]; exact h1
  · rw [List.getElem?_append_right (by omega), List.getElem?_append_left (by omega), hc, show 10 + b * 2 + 1 - 10 = b * 2 + 1 by omega]; exact h2
theorem st_atY (m : Mach) (f g : Nat → Int × Int) (b : Nat) (hb : b ≤ 12) : (m.st (crsL f 13) (crsL g 13))[36 + b * 2]? = some (.int .i64 (g b).1) ∧ (m.st (crsL f 13) (crsL g 13))[36 + b * 2 + 1]? = some (.int .i64 (g b).2) := by
  have hl := crsL_length f 13
  have hl2 := crsL_length g 13
  obtain ⟨h1, h2⟩ := crsL_at g 13 b (by omega)
  have hc : m.cells.length = 10 := rfl
  unfold Mach.st
  refine ⟨?_, ?_⟩
  · rw [List.getElem?_append_right (by omega), List.getElem?_append_right (by omega), hc, hl, show 36 + b * 2 - 10 - 2 * 13 = b * 2 by omega]; exact h1
  · rw [List.getElem?_append_right (by omega), List.getElem?_append_right (by omega), hc, hl, show 36 + b * 2 + 1 - 10 - 2 * 13 = b * 2 + 1 by omega]; exact h2
end Go.Proofs.YtppefjmllebacaaGreatDoor
