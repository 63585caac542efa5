/- A part of the proof: see the last file. -/
import Derived.Test.YtbgjocgjmjkneaaGreatDoorPaa
import Derived.Test.YtbgjocgjmjkneaaGreatDoorPak
set_option linter.unusedVariables false
set_option linter.unusedSimpArgs false
set_option linter.unusedSectionVars false
namespace Go.Proofs.YtbgjocgjmjkneaaGreatDoor
open Go.RowKit
theorem infoSg : (Tryz.prog.info? 168).map (fun i => (i.zero, i.size, i.bytes)) = some (some (.agg #[.int .i64 0, .slice none 0 0]), 2, 32) := by kernel_rfl
set_option maxRecDepth 100000 in
set_option maxHeartbeats 2000000 in
theorem sightings_any (m : Mach) (L : List Value) (EX EY : Nat → Int × Int) (b1 o1 c1 sb so : Nat) (r : Int) (HX HY : Nat → Int) (sg : Nat → Bool) (w : World)
    (hsa : m.sa = some ⟨sb, so, none⟩) (hLm : ∀ (j : Nat) (u : Value), m.cells[j]? = some u → L[j]? = some u)
    (hat : ∀ (j : Nat) (W : World), j < 12 → Calls Tryz.prog 64 #[.agg L.toArray, .int .i64 ((j : Int) + 1)] W fun e w' => e = .returned (.agg #[.int .i64 (EX (j + 1)).1, .int .i64 (EX (j + 1)).2, .int .i64 (EY (j + 1)).1, .int .i64 (EY (j + 1)).2]) ∧ Below W.heap.size W w')
    (hlL : L.length = 62) (pS : Pts w sb so m.sn m.SX m.SY) (p1 : Pts w b1 o1 m.sn HX HY) (lsb : sb < w.heap.size) (l1 : b1 < w.heap.size) (q3 : 0 ≤ r) (q4 : r ≤ 6) (q1 : 2 ≤ m.sn) (q2 : m.sn ≤ 4)
    (hsS : ∀ i, i < m.sn → (-20 ≤ m.SX i ∧ m.SX i ≤ 20) ∧ (-20 ≤ m.SY i ∧ m.SY i ≤ 20)) (hsH : ∀ i, i < m.sn → small (HX i, HY i))
    (hbX : ∀ k, k ≤ 12 → -48 ≤ (EX k).1 ∧ (EX k).2 ≤ 48 ∧ (EX k).1 ≤ 1000) (hbY : ∀ k, k ≤ 12 → -48 ≤ (EY k).1 ∧ (EY k).2 ≤ 48 ∧ (EY k).1 ≤ 1000)
    (hsg : ∀ k, k ≤ 12 → (sg k = false ↔ ∀ x y, InBox (EX k).1 (EX k).2 (EY k).1 (EY k).2 x y → agreeB m.sn HX HY m.SX m.SY r x y = false)) :
    Calls Tryz.prog 95 #[.agg L.toArray, .agg #[.slice (some ⟨b1, o1, none⟩) m.sn c1, .int .i64 r]] w fun e w' => ∃ (l : List (Nat × Option Addr × Nat × Nat)) (v : Value), e = .returned v ∧ w'.ownsRow w.heap.size 168 2 v l.length (sgCells l) ∧ l.map (·.1) = blanksTo sg 12 ∧ Below w.heap.size w w' := by
  obtain ⟨i0, hi, hz0, hz1, hz2⟩ := info_parts infoSg
  have hi0 : (Tryz.prog.info? 96).map (·.size) = some 62 := by kernel_rfl
  have hiL : (Tryz.prog.info? 96).map (·.size) = some L.length := by rw [hlL]; exact hi0
  obtain ⟨W0, hW0⟩ : ∃ W0, (w.alloc (Obj.cells L.toArray 96)).alloc (Obj.cells #[.slice (some ⟨b1, o1, none⟩) m.sn c1, .int .i64 r] 25) = W0 := ⟨_, rfl⟩
  have hs0 : W0.heap.size = w.heap.size + 1 + 1 := by rw [← hW0, World.size_alloc, World.size_alloc]
  have hbA : Below (w.alloc (Obj.cells L.toArray 96)).heap.size (w.alloc (Obj.cells L.toArray 96)) W0 := by rw [← hW0]; exact (Below.refl _ _).alloc (Nat.le_refl _) _
  have hbW : Below w.heap.size w W0 := ((Below.refl _ _).alloc (Nat.le_refl _) _).trans (hbA.mono (by rw [World.size_alloc]; omega))
  have hS : SAt W0 w.heap.size L := (SAt.new w L 96).below hbA (by rw [World.size_alloc]; omega)
  have u0 : W0.cell? ⟨w.heap.size + 1, 0, none⟩ = some (.slice (some ⟨b1, o1, none⟩) m.sn c1) := by rw [← hW0]; have := cells_new (w.alloc (Obj.cells L.toArray 96)) #[.slice (some ⟨b1, o1, none⟩) m.sn c1, .int .i64 r] 25 (j := 0) rfl; rw [World.size_alloc] at this; exact this
  have u1 : W0.cell? ⟨w.heap.size + 1, 1, none⟩ = some (.int .i64 r) := by rw [← hW0]; have := cells_new (w.alloc (Obj.cells L.toArray 96)) #[.slice (some ⟨b1, o1, none⟩) m.sn c1, .int .i64 r] 25 (j := 1) rfl; rw [World.size_alloc] at this; exact this
  have hq : ∀ (j : Nat) (u : Value), m.cells[j]? = some u → W0.cell? ⟨w.heap.size, j, none⟩ = some u := fun j u h => by have := hS.c j u (hLm j u h); rw [Nat.zero_add] at this; exact this
  have y0 := hq 0 _ rfl
  have y1 := hq 1 _ rfl
  have y2 := hq 2 _ rfl
  have y3 := hq 3 _ rfl
  have y4 := hq 4 _ rfl
  have y5 := hq 5 _ rfl
  have y6 := hq 6 _ rfl
  have y7 := hq 7 _ rfl
  have y8 := hq 8 _ rfl
  have y9 := hq 9 _ rfl
  rw [hsa] at y0
  clear hq
  generalize hQ : agreeB m.sn HX HY m.SX m.SY r = Q at hsg
  have hgo := agreement_any b1 o1 m.sn c1 sb so r m hsa Q W0
  rw [hs0] at hgo
  unfold Mach.val at hgo
  rw [hsa] at hgo
  go_enter Tryz.func95, Tryz.ntmps95
  go_wp2_with (go_at_call 62; with_reducible refine hgo.mono ?_; rintro e w3 ⟨rfl, hb3, t0, t1, hg3⟩)
  clear y0 y1 y2 y3 y4 y5 y6 y7 y8 y9 u0 u1 hgo
  have hl3 := hg3.lt
  have hz3 := hb3.size
  have hbT : Below w3.heap.size w3 (w3.alloc (Obj.cells #[.slice (some ⟨sb, so, none⟩) m.sn m.sc, .func (.func 102) #[] #[.pointer (some ⟨w.heap.size + 1 + 1 + 1, 0, none⟩)], .map (some (w.heap.size + 1 + 1 + 1 + 1 + 1))] 120)) := (Below.refl _ _).alloc (Nat.le_refl _) _
  have hO3 := hbW.trans (hb3.mono (by omega))
  have hO4 := hO3.trans (hbT.mono (by omega))
  have hG0 : GA w (w3.alloc (Obj.cells #[.slice (some ⟨sb, so, none⟩) m.sn m.sc, .func (.func 102) #[] #[.pointer (some ⟨w.heap.size + 1 + 1 + 1, 0, none⟩)], .map (some (w.heap.size + 1 + 1 + 1 + 1 + 1))] 120)) m.sn sb so m.sc (w.heap.size + 1 + 1 + 1) b1 o1 c1 (w.heap.size + 1 + 1 + 1 + 1 + 1) 0 w.heap.size w3.heap.size m.SX m.SY HX HY r L Q :=
    ⟨hO4, ⟨pS.below hO4 lsb, p1.below hO4 l1, (hbT.cell (p := ⟨w.heap.size + 1 + 1 + 1, 0, none⟩) (by show w.heap.size + 1 + 1 + 1 < _; omega)).trans t0, (hbT.cell (p := ⟨w.heap.size + 1 + 1 + 1, 1, none⟩) (by show w.heap.size + 1 + 1 + 1 < _; omega)).trans t1, by have := hO4.size; omega, by have := hO4.size; omega, by rw [World.size_alloc]; omega, q3, q4, q1, q2, hsS, hsH⟩,
      hg3.below hbT hl3, (hS.below hb3 (by omega)).below hbT (by omega), cells_new w3 _ _ rfl, cells_new w3 _ _ rfl, cells_new w3 _ _ rfl, by omega, by omega, by rw [World.size_alloc]; omega, by omega, by omega, by omega, by omega⟩
  generalize w3.alloc (Obj.cells #[.slice (some ⟨sb, so, none⟩) m.sn m.sc, .func (.func 102) #[] #[.pointer (some ⟨w.heap.size + 1 + 1 + 1, 0, none⟩)], .map (some (w.heap.size + 1 + 1 + 1 + 1 + 1))] 120) = W4 at *
  clear hb3 t0 t1 hg3 hbT hO3 hO4 hS hbA hbW hW0
  have hQ : PLift (agreeB m.sn HX HY m.SX m.SY r = Q) := ⟨hQ⟩
  go_loopw [5, 14] (fun v i wr => ∃ (j : Nat) (l : List (Nat × Option Addr × Nat × Nat)), j ≤ 12 ∧ i = .int .i64 j ∧ GA w wr m.sn sb so m.sc (w.heap.size + 1 + 1 + 1) b1 o1 c1 (w.heap.size + 1 + 1 + 1 + 1 + 1) (j * 40401) w.heap.size w3.heap.size m.SX m.SY HX HY r L Q ∧ wr.ownsRow (w3.heap.size + 1) 168 2 v l.length (sgCells l) ∧ l.map (·.1) = blanksTo sg j) (fun _ i _ => 12 - (intOf i).toNat)
  case atStart => exact ⟨0, [], Nat.zero_le _, rfl, by rw [Nat.zero_mul]; exact hG0, ⟨rfl, .inl ⟨rfl, rfl⟩⟩, rfl⟩
  case round =>
    obtain ⟨j, l, hj, rfl, hG, hrow, hlm⟩ := hrel
    obtain ⟨va, vc, rfl⟩ := ownsRow_slice hrow
    by_cases hlt : j < 12
    · have hlt' : (j : Int) < 12 := by omega
      have hgmj := hG.gm
      have hwj : IntKind.i64.wrap ((j : Int) + 1) = (j : Int) + 1 := IntWalk.i64_in _ (by omega)
      have hbx := hbX (j + 1) (by omega)
      have hby := hbY (j + 1) (by omega)
      go_wp2_with fail
      refine wp_region_late [] (fun w9 => GR w w9 m.sn sb so m.sc (w.heap.size + 1 + 1 + 1) b1 o1 c1 (w.heap.size + 1 + 1 + 1 + 1 + 1) ((j + 1) * 40401) w.heap.size w3.heap.size m.SX m.SY HX HY r L Q 168 (.slice va l.length vc) l.length (sgCells l)) (fun w9 => True) (by kernel_rfl) ?_ (fun hHeld => ?_)
      · (exact ⟨(GR.mono ⟨hG, hrow⟩ (by omega)).below (Below.refl _ _).drew, trivial⟩)
      refine tk0 0 ?_ rfl (Or.inl ⟨by rfl, ?_⟩) hHeld ?_
      rotate_left 1
      · ((intro w9 hSw; have q0 := hSw.ga.t0; have q1 := hSw.ga.t1; have q2 := hSw.ga.t2; clear hSw; go_simp) <;> with_reducible rfl)
      (try simp only [Act.put, pA, pZ, pS])
      refine tk0 1 (.agg L.toArray) rfl (yieldsIf_load_mid (by rfl) 96 _ rfl w.heap.size 0 rfl L _ (fun w9 hSw => hSw.ga.st.c) Tryz.underlying96 rfl hiL) hHeld ?_
      (try simp only [Act.put, pA, pZ, pS])
      refine tk0 2 ?_ rfl (Or.inl ⟨by rfl, ?_⟩) hHeld ?_
      rotate_left 1
      · ((intro w9 hSw; clear hSw; go_simp) <;> with_reducible rfl)
      (try simp only [Act.put, pA, pZ, pS])
      refine wpAnyP_ready (rs := [3]) (by kernel_rfl) (by simp) ?_
      refine AllReadyP.cons (o := _) rfl (fun K hK => ?_) AllReadyP.nil
      · go_simp
        (go_at_call 64; with_reducible refine (hat j _ hlt).mono ?_; rintro e w5 ⟨rfl, hb5⟩)
        refine hK.out _ _ ?_ (fun hHeld => ?_)
        · (exact ⟨hHeld.1.below hb5, trivial⟩)
        clear hK K
        (try simp only [Act.put, pA, pZ, pS])
        refine wpAnyP_ready (rs := [4]) (by kernel_rfl) (by simp) ?_
        refine AllReadyP.cons (o := _) rfl (fun K hK => ?_) AllReadyP.nil
        · go_simp
          have hG5 := hHeld.1.ga
          have hgm5 := hgmj.below ((Below.refl _ _).drew.trans hb5) hgmj.lt
          (go_at_call 63; refine (callsIn_wide.1 (passing_in (.slice (some ⟨sb, so, none⟩) m.sn m.sc) (.func (.func 102) #[] #[.pointer (some ⟨w.heap.size + 1 + 1 + 1, 0, none⟩)]) (w.heap.size + 1 + 1 + 1 + 1 + 1) (j * 40401) 3 Q _ _ _ _ w5 hbx.1 hbx.2.1 hby.1 hby.2.1 hbx.2.2 hby.2.2 hgm5.lt hgm5 (by omega) (by omega) (fun W jj x y hg hgm hjj hx hy => by
            rw [← hQ.down] at hgm ⊢
            exact doesA_any m.sn sb so m.sc (w.heap.size + 1 + 1 + 1) b1 o1 c1 (w.heap.size + 1 + 1 + 1 + 1 + 1) jj m.SX m.SY HX HY r x y hx hy W (hG5.tg.grown hg hG5.ls hG5.l1 hG5.lc) hgm hjj hG5.ls hG5.l1 hG5.lc))).mono ?_; rintro e w6 ⟨pa, pn, pc, rfl, hpn, hpz, hg6, hgr6⟩)
          refine hK.out _ _ ?_ (fun hHeld => ?_)
          · (exact ⟨GR.grown ⟨hG5, hHeld.1.row⟩ hgr6 (hg6.mono (by omega)), trivial⟩)
          clear hK K
          (try simp only [Act.put, pA, pZ, pS])
          refine tk0 5 ?_ rfl (Or.inl ⟨by rfl, ?_⟩) hHeld ?_
          rotate_left 1
          · ((intro w9 hSw; clear hSw; go_simp) <;> with_reducible rfl)
          (try simp only [Act.put, pA, pZ, pS])
          refine wpAnyP_done (by kernel_rfl) ?_ _
          (try simp only [Act.put, List.getElem_toArray, List.getElem_cons_zero, List.getElem_cons_succ, pA, pZ, pS])
          have hR9 := PLift.up hHeld.1
          have hV9 := PLift.up hpz
          clear hHeld hpz
          by_cases hp0 : pn = 0
          · obtain rfl := hp0
            have hno := blanksTo_no ((hsg (j + 1) (by omega)).2 (hV9.down.1 rfl))
            go_wp2
            go_roundw
            case rel => exact ⟨j + 1, l, by omega, by go_num, hR9.down.ga, hR9.down.row, by rw [hno]; exact hlm⟩
            case measure => simp [intOf]; omega
          · have hpos : (0 : Int) < (pn : Int) := by omega
            have hyes : sg (j + 1) = true := by
              cases hs : sg (j + 1) with
              | true => rfl
              | false => exact absurd (hV9.down.2 ((hsg (j + 1) (by omega)).1 hs)) hp0
            have hll := blanksTo_length sg j
            rw [← hlm, List.length_map] at hll
            have hrw := hR9.down.row
            go_wp2_with (at_builtin; refine wpList_append_own _ rfl _ _ 165 rfl (w3.heap.size + 1) 168 i0 (.agg #[.int .i64 0, .slice none 0 0]) 2 32 Tryz.underlying165 hi hz0 hz1 hz2 rfl (by decide) _ l.length _ rfl (hrw.alloc _) ⟨w6.heap.size, 0, none⟩ 1 1 [.int .i64 ((j : Int) + 1), .slice pa pn pc] rfl rfl ?c1 ?c2 ?c3 ?c4 ?c5 ?_)
            case c1 => exact cells_two w6 _ _ _
            case c2 => simp [Value.oneCell']
            case c3 => unfold maxLen; omega
            case c4 => omega
            case c5 => have := hR9.down.ga.big; rw [World.size_alloc]; omega
            intro v4 w4 hown4 hgrow4 _
            have hP := hR9.down.push _ hgrow4 hown4
            clear hgrow4 hown4 hrw hR9
            go_wp2
            go_roundw
            case rel => exact ⟨j + 1, l ++ [(j + 1, pa, pn, pc)], by omega, by go_num, hP.ga, by rw [sgCells_push, List.length_append]; exact hP.row, by rw [blanksTo_yes hyes, List.map_append, hlm]; rfl⟩
            case measure => simp [intOf]; omega
    · obtain rfl : j = 12 := by omega
      have hO9 := hG.old
      have hw9 := hG.lw
      have hl9 := hG.lt
      have hrow9 := PLift.up hrow
      clear hG hrow
      go_wp2
      refine bodyPost_ret (v := .slice va l.length vc) (by simp [results, Tryz.results95, go_sem]) rfl ⟨l, _, rfl, hrow9.down.mono (by omega), hlm, hO9⟩
end Go.Proofs.YtbgjocgjmjkneaaGreatDoor
namespace Go.Proofs.YtbgjocgjmjkneaaGreatDoor
open Go.RowKit
/-- the cells of a list of blanks. -/
def iCells (l : List Nat) : List Value := l.map fun k => .int .i64 ((k : Nat) : Int)
theorem infoInt : (Tryz.prog.info? 3).map (fun i => (i.zero, i.size, i.bytes)) = some (some (.int .i64 0), 1, 8) := by kernel_rfl
set_option maxRecDepth 100000 in
set_option maxHeartbeats 2000000 in
theorem could_any (m : Mach) (L : List Value) (EX EY : Nat → Int × Int) (b1 o1 c1 sb so : Nat) (r : Int) (HX HY : Nat → Int) (sg : Nat → Bool) (w : World)
    (hsa : m.sa = some ⟨sb, so, none⟩) (hLm : ∀ (j : Nat) (u : Value), m.cells[j]? = some u → L[j]? = some u)
    (hat : ∀ (j : Nat) (W : World), j < 12 → Calls Tryz.prog 64 #[.agg L.toArray, .int .i64 ((j : Int) + 1)] W fun e w' => e = .returned (.agg #[.int .i64 (EX (j + 1)).1, .int .i64 (EX (j + 1)).2, .int .i64 (EY (j + 1)).1, .int .i64 (EY (j + 1)).2]) ∧ Below W.heap.size W w')
    (hlL : L.length = 62) (pS : Pts w sb so m.sn m.SX m.SY) (p1 : Pts w b1 o1 m.sn HX HY) (lsb : sb < w.heap.size) (l1 : b1 < w.heap.size) (q3 : 0 ≤ r) (q4 : r ≤ 6) (q1 : 2 ≤ m.sn) (q2 : m.sn ≤ 4)
    (hsS : ∀ i, i < m.sn → (-20 ≤ m.SX i ∧ m.SX i ≤ 20) ∧ (-20 ≤ m.SY i ∧ m.SY i ≤ 20)) (hsH : ∀ i, i < m.sn → small (HX i, HY i))
    (hbX : ∀ k, k ≤ 12 → -48 ≤ (EX k).1 ∧ (EX k).2 ≤ 48 ∧ (EX k).1 ≤ 1000) (hbY : ∀ k, k ≤ 12 → -48 ≤ (EY k).1 ∧ (EY k).2 ≤ 48 ∧ (EY k).1 ≤ 1000)
    (hsg : ∀ k, k ≤ 12 → (sg k = false ↔ ∀ x y, InBox (EX k).1 (EX k).2 (EY k).1 (EY k).2 x y → agreeB m.sn HX HY m.SX m.SY r x y = false)) :
    Calls Tryz.prog 51 #[.agg L.toArray, .agg #[.slice (some ⟨b1, o1, none⟩) m.sn c1, .int .i64 r]] w fun e w' => ∃ v : Value, e = .returned v ∧ w'.ownsRow w.heap.size 3 1 v (blanksTo sg 12).length (iCells (blanksTo sg 12)) ∧ Below w.heap.size w w' := by
  obtain ⟨i0, hi, hz0, hz1, hz2⟩ := info_parts infoInt
  have hi0 : (Tryz.prog.info? 96).map (·.size) = some 62 := by kernel_rfl
  have hiL : (Tryz.prog.info? 96).map (·.size) = some L.length := by rw [hlL]; exact hi0
  obtain ⟨W0, hW0⟩ : ∃ W0, (w.alloc (Obj.cells L.toArray 96)).alloc (Obj.cells #[.slice (some ⟨b1, o1, none⟩) m.sn c1, .int .i64 r] 25) = W0 := ⟨_, rfl⟩
  have hs0 : W0.heap.size = w.heap.size + 1 + 1 := by rw [← hW0, World.size_alloc, World.size_alloc]
  have hbA : Below (w.alloc (Obj.cells L.toArray 96)).heap.size (w.alloc (Obj.cells L.toArray 96)) W0 := by rw [← hW0]; exact (Below.refl _ _).alloc (Nat.le_refl _) _
  have hbW : Below w.heap.size w W0 := ((Below.refl _ _).alloc (Nat.le_refl _) _).trans (hbA.mono (by rw [World.size_alloc]; omega))
  have hS : SAt W0 w.heap.size L := (SAt.new w L 96).below hbA (by rw [World.size_alloc]; omega)
  have u0 : W0.cell? ⟨w.heap.size + 1, 0, none⟩ = some (.slice (some ⟨b1, o1, none⟩) m.sn c1) := by rw [← hW0]; have := cells_new (w.alloc (Obj.cells L.toArray 96)) #[.slice (some ⟨b1, o1, none⟩) m.sn c1, .int .i64 r] 25 (j := 0) rfl; rw [World.size_alloc] at this; exact this
  have u1 : W0.cell? ⟨w.heap.size + 1, 1, none⟩ = some (.int .i64 r) := by rw [← hW0]; have := cells_new (w.alloc (Obj.cells L.toArray 96)) #[.slice (some ⟨b1, o1, none⟩) m.sn c1, .int .i64 r] 25 (j := 1) rfl; rw [World.size_alloc] at this; exact this
  have hz := hbW.size
  have hsi := sightings_any m L EX EY b1 o1 c1 sb so r HX HY sg W0 hsa hLm hat hlL (pS.below hbW lsb) (p1.below hbW l1) (by omega) (by omega) q3 q4 q1 q2 hsS hsH hbX hbY hsg
  have hrg := hS.c
  go_enter Tryz.func51, Tryz.ntmps51
  go_wp2_with (first
    | (go_at_call 95; with_reducible refine hsi.mono ?_; rintro e w3 ⟨l, vs, rfl, hrow, hlm, hb3⟩; obtain ⟨va, vc, rfl⟩ := ownsRow_slice hrow)
    | (with_reducible refine wpList_load_mid rfl 96 _ rfl w.heap.size 0 rfl L _ hrg Tryz.underlying96 rfl hiL ?_))
  clear u0 u1 hsi hrg hS
  have hz3 := hb3.size
  have hO3 := hbW.trans (hb3.mono (by omega))
  have hll := blanksTo_length sg 12
  rw [← hlm, List.length_map] at hll
  replace hlm := PLift.up hlm
  clear hb3 hbA hbW hW0
  go_loopw [5, 12] (fun v i wr => ∃ j : Nat, j ≤ l.length ∧ i = .int .i64 j ∧ wr.ownsRow w3.heap.size 3 1 v j (iCells ((l.map (·.1)).take j)) ∧ Below w3.heap.size w3 wr) (fun _ i _ => l.length - (intOf i).toNat)
  case atStart => exact ⟨0, Nat.zero_le _, rfl, ⟨by simp [iCells], .inl ⟨rfl, by simp [iCells]⟩⟩, Below.refl _ _⟩
  case round =>
    obtain ⟨j, hj, rfl, hown, hbl⟩ := hrel
    obtain ⟨vb, vd, rfl⟩ := ownsRow_slice hown
    by_cases hlt : j < l.length
    · have hlt' : (j : Int) < (l.length : Int) := by omega
      obtain ⟨g, c, e⟩ := ownsRow_pos (by omega) hrow
      cases e
      have hr1 := ownsRow_below hrow hbl
      have k0 := hr1.cellAt (j * 2) (by omega)
      have k1 := hr1.cellAt (j * 2 + 1) (by omega)
      rw [(sgCells_at l j hlt).1] at k0
      rw [(sgCells_at l j hlt).2] at k1
      have htk : iCells ((l.map (·.1)).take (j + 1)) = iCells ((l.map (·.1)).take j) ++ [.int .i64 (l[j]).1] := by
        unfold iCells
        rw [List.take_add_one, List.map_append]
        simp [hlt]
      generalize l[j] = p at k0 k1 htk
      obtain ⟨pb, pa, pn, pc⟩ := p
      dsimp only at k0 k1 htk
      have hbz := hbl.size
      go_wp2_with (at_builtin; refine wpList_append_own _ rfl _ _ 34 rfl w3.heap.size 3 i0 (.int .i64 0) 1 8 Tryz.underlying34 hi hz0 hz1 hz2 rfl (by decide) _ j _ rfl ((hown.alloc _).alloc _) ⟨wr.heap.size + 1, 0, none⟩ 1 1 [.int .i64 pb] rfl rfl ?c1 ?c2 ?c3 ?c4 ?c5 ?_)
      case c2 => simp [Value.oneCell']
      case c3 => unfold maxLen; omega
      case c4 => omega
      case c5 => (try simp only [World.size_alloc]); omega
      intro v4 w4 hown4 hgrow4 _
      have hb4 : Below w3.heap.size w3 w4 := ((hbl.alloc hbl.size _).alloc (by rw [World.size_alloc]; omega) _).grown hgrow4 (by rw [World.size_alloc, World.size_alloc]; omega) fun x hx => (hown.lt x hx).1
      rw [← htk] at hown4
      clear hgrow4 hown k0 k1 hr1 hbl
      go_wp2
      go_roundw
      case rel => exact ⟨j + 1, by omega, by go_num, hown4, hb4⟩
      case measure => simp [intOf]; omega
    · obtain rfl : j = l.length := by omega
      have hfin : iCells ((l.map (·.1)).take l.length) = iCells (blanksTo sg 12) := by rw [← hlm.down, List.take_of_length_le (by simp)]
      have hnl : (blanksTo sg 12).length = l.length := by rw [← hlm.down, List.length_map]
      rw [hfin] at hown
      have hO9 := PLift.up hown
      have hb9 := hO3.trans (hbl.mono hO3.size)
      clear hown
      go_wp2
      refine bodyPost_ret (v := .slice vb l.length vd) (by simp [results, Tryz.results51, go_sem]) rfl ⟨_, rfl, by rw [hnl]; exact hO9.down.mono (by omega), hb9⟩
end Go.Proofs.YtbgjocgjmjkneaaGreatDoor
