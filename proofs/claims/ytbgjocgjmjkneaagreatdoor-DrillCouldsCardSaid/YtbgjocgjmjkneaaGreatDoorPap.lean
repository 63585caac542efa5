/- A part of the proof: see the last file. -/
import Derived.Test.YtbgjocgjmjkneaaGreatDoorPaa
import Derived.Test.YtbgjocgjmjkneaaGreatDoorPao
import Derived.Deep.AppendLies
import Derived.OwnWalk
import Derived.Test.YtbgjocgjmjkneaaGreatDoorPai
import Derived.Test.YtbgjocgjmjkneaaGreatDoorPad
import Derived.Test.YtbgjocgjmjkneaaGreatDoorPag
import Derived.Test.YtbgjocgjmjkneaaGreatDoorPaj
import Derived.Test.YtbgjocgjmjkneaaGreatDoorPae
set_option linter.unusedVariables false
set_option linter.unusedSimpArgs false
set_option linter.unusedSectionVars false
namespace Go.Proofs.YtbgjocgjmjkneaaGreatDoor
open Go.RowKit
/-- the reference's axis, by a truth value. -/
theorem raxis_b (a : Axis) (hf : a.fine) : ∃ b : Bool, (b = true ↔ a.can) ∧ ∀ (g0 cap0 : Nat) (f : Nat → Int × Int) (w : World), g0 < w.heap.size → CAt w g0 f → (∀ k, k ≤ 12 → f k = nar (k : Int) a.cl a.n (-1000, 1000)) → 13 ≤ cap0 → cap0 ≤ maxLen →
    Calls Tryz.prog 98 #[.agg #[.int .i64 a.c0, .int .i64 a.c1], .agg #[.int .i64 a.w0, .int .i64 a.w1], .slice (some ⟨g0, 0, none⟩) 13 cap0] w fun e w' => ∃ v, e = .returned (.tuple #[v, .bool b]) ∧ (b = true → ∃ g c, v = .slice (some ⟨g, 0, none⟩) 13 c ∧ w.heap.size ≤ g ∧ g < w'.heap.size ∧ CAt w' g a.ends) ∧ Below w.heap.size w w' := by
  by_cases hc : a.can
  · refine ⟨true, ⟨fun _ => hc, fun _ => rfl⟩, fun g0 cap0 f w h1 h2 h3 h4 h5 => (raxis_any a g0 cap0 f w hf h1 h2 h3 h4 h5).mono ?_⟩
    rintro e w' ⟨(⟨_, g, c, rfl, hl, hg, hC⟩ | ⟨hn, _⟩), hb⟩
    · exact ⟨_, rfl, fun _ => ⟨g, c, rfl, hl, hg, hC⟩, hb⟩
    · exact absurd hc hn
  · refine ⟨false, ⟨fun h => (by cases h), fun h => absurd h hc⟩, fun g0 cap0 f w h1 h2 h3 h4 h5 => (raxis_any a g0 cap0 f w hf h1 h2 h3 h4 h5).mono ?_⟩
    rintro e w' ⟨(⟨hn, _⟩ | ⟨_, rfl⟩), hb⟩
    · exact absurd hn hc
    · exact ⟨_, rfl, fun h => (by cases h), hb⟩
/-- what stays while the reference's Bounds works: gx and gy are the blocks of the two lists. -/
structure BdR (w : World) (gx gy : Nat) (W : World) : Prop where
  old : Below w.heap.size w W
  lx : w.heap.size ≤ gx
  hx : gx < W.heap.size
  ly : w.heap.size ≤ gy
  hy : gy < W.heap.size
  ne : gx ≠ gy
theorem BdR.below {w : World} {gx gy : Nat} {W W' : World} (h : BdR w gx gy W) (hb : Below W.heap.size W W') : BdR w gx gy W' :=
  ⟨h.old.trans (hb.mono h.old.size), h.lx, Nat.lt_of_lt_of_le h.hx hb.size, h.ly, Nat.lt_of_lt_of_le h.hy hb.size, h.ne⟩
theorem BdR.storeX {w : World} {gx gy : Nat} {W : World} (h : BdR w gx gy W) (o1 o2 : Nat) (x y : Value) : BdR w gx gy ((W.setCell ⟨gx, o1, none⟩ x).setCell ⟨gx, o2, none⟩ y) :=
  ⟨(h.old.setCell (p := ⟨gx, o1, none⟩) h.lx _).setCell (p := ⟨gx, o2, none⟩) h.lx _, h.lx, by rw [World.size_setCell, World.size_setCell]; exact h.hx, h.ly, by rw [World.size_setCell, World.size_setCell]; exact h.hy, h.ne⟩
theorem BdR.storeY {w : World} {gx gy : Nat} {W : World} (h : BdR w gx gy W) (o1 o2 : Nat) (x y : Value) : BdR w gx gy ((W.setCell ⟨gy, o1, none⟩ x).setCell ⟨gy, o2, none⟩ y) :=
  ⟨(h.old.setCell (p := ⟨gy, o1, none⟩) h.ly _).setCell (p := ⟨gy, o2, none⟩) h.ly _, h.lx, by rw [World.size_setCell, World.size_setCell]; exact h.hx, h.ly, by rw [World.size_setCell, World.size_setCell]; exact h.hy, h.ne⟩
theorem CAt.far2 {W : World} {C D : Nat} {f : Nat → Int × Int} (h : CAt W C f) (hne : D ≠ C) (o1 o2 : Nat) (x y : Value) : CAt ((W.setCell ⟨D, o1, none⟩ x).setCell ⟨D, o2, none⟩ y) C f :=
  h.far ((Below.heap_setCell _ ⟨D, o2, none⟩ y C (Ne.symm hne)).trans (Below.heap_setCell W ⟨D, o1, none⟩ x C (Ne.symm hne)))
theorem nar_succ (k : Int) (cl : Nat → Int × Int × Int) (n : Nat) (s : Int × Int) : nar k cl (n + 1) s = if (cl n).1 = k then (max (nar k cl n s).1 (cl n).2.1, min (nar k cl n s).2 (cl n).2.2) else nar k cl n s := rfl
def mkX (m : Mach) (n : Nat) (f : Nat → Int × Int × Int × Int × Int) : Axis := ⟨m.c0, m.c1, m.w0, m.w1, n, fun i => ((f i).1, (f i).2.1, (f i).2.2.1)⟩
def mkY (m : Mach) (n : Nat) (f : Nat → Int × Int × Int × Int × Int) : Axis := ⟨m.d0, m.d1, m.v0, m.v1, n, fun i => ((f i).1, (f i).2.2.2.1, (f i).2.2.2.2)⟩
theorem put_nar {F : Nat → Int × Int} {cl : Nat → Int × Int × Int} {k q : Nat} {x0 x1 l0 l1 : Int} (hF : ∀ j, j < 13 → F j = nar (j : Int) cl k (-1000, 1000)) (hq : q < 13) (hx : F q = (x0, x1)) (hc : cl k = ((q : Int), l0, l1)) : ∀ j, j < 13 → (if j = q then (max x0 l0, min x1 l1) else F j) = nar (j : Int) cl (k + 1) (-1000, 1000) := fun j hj => by
  rw [nar_succ, hc]
  dsimp only
  by_cases h : j = q
  · subst h
    rw [if_pos rfl, if_pos rfl, ← hF j hj, hx]
  · rw [if_neg h, if_neg (fun e => h (by omega)), hF j hj]
set_option maxRecDepth 100000 in
set_option maxHeartbeats 8000000 in
theorem rbounds_any (m : Mach) (v : Value) (n : Nat) (f : Nat → Int × Int × Int × Int × Int) (w : World) (hX : (mkX m n f).fine) (hY : (mkY m n f).fine) (hm : MkSl w v n f) :
    ∃ b : Bool, (b = true ↔ (mkX m n f).can ∧ (mkY m n f).can) ∧ Calls Tryz.prog 56 #[m.val, v] w fun e w' => ∃ vx vy, e = .returned (.tuple #[vx, vy, .bool b]) ∧ (b = true → ∃ gx cx gy cy, vx = .slice (some ⟨gx, 0, none⟩) 13 cx ∧ vy = .slice (some ⟨gy, 0, none⟩) 13 cy ∧ w.heap.size ≤ gx ∧ w.heap.size ≤ gy ∧ gx < w'.heap.size ∧ gy < w'.heap.size ∧ CAt w' gx (mkX m n f).ends ∧ CAt w' gy (mkY m n f).ends) ∧ Below w.heap.size w w' := by
  obtain ⟨i0, hi, hz0, hz1, hz2⟩ := info_parts Tryz.info30
  obtain ⟨bx, hbx, hax⟩ := raxis_b (mkX m n f) hX
  obtain ⟨by_, hby, hay⟩ := raxis_b (mkY m n f) hY
  refine ⟨bx && by_, by rw [Bool.and_eq_true, hbx, hby], ?_⟩
  obtain ⟨la, lc, rfl, hmk⟩ := hm
  have hn4 : n ≤ 8 := hX.few
  have hcl : ∀ i, i < n → 0 ≤ (f i).1 ∧ (f i).1 ≤ 12 := fun i hi => ⟨(hX.cl i hi).1, (hX.cl i hi).2.1⟩
  obtain ⟨W0, hW⟩ : ∃ W0, w.alloc (.cells #[.slice m.sa m.sn m.sc, .int .i64 m.c0, .int .i64 m.c1, .int .i64 m.d0, .int .i64 m.d1, .int .i64 m.w0, .int .i64 m.w1, .int .i64 m.v0, .int .i64 m.v1, .slice m.ra m.rn m.rc] 33) = W0 := ⟨_, rfl⟩
  have hO : Below w.heap.size w W0 := by rw [← hW]; exact (Below.refl _ _).alloc (Nat.le_refl _) _
  have hM : MAt W0 w.heap.size m := by rw [← hW]; exact MAt.new w m
  have hsz : W0.heap.size = w.heap.size + 1 := by rw [← hW, World.size_alloc]
  go_enter Tryz.func56, Tryz.ntmps56
  go_wp2_with fail
  have hR0 : R2X W0 W0.heap.size W0 0 0 (.slice none 0 0) (.slice none 0 0) (fun _ => (-1000, 1000)) (fun _ => (-1000, 1000)) := ⟨⟨rfl, .inl ⟨rfl, rfl⟩⟩, ⟨rfl, .inl ⟨rfl, rfl⟩⟩, (fun _ hx => by cases hx), Below.refl _ _, Nat.le_refl _, Nat.le_refl _⟩
  go_loopw [7, 8, 9] (fun p q i wr => ∃ (k : Nat), k ≤ 13 ∧ i = .int .i64 k ∧ R2X W0 W0.heap.size wr k k p q (fun _ => (-1000, 1000)) (fun _ => (-1000, 1000))) (fun _ _ i _ => 13 - (intOf i).toNat)
  case atStart => exact ⟨0, by omega, rfl, hR0⟩
  case round =>
    clear hR0
    obtain ⟨k, hk, rfl, hRX⟩ := hrel
    have hk0 : (0 : Int) ≤ (k : Int) := Int.natCast_nonneg _
    by_cases hlt : k < 13
    · have hlt' : (k : Int) ≤ 12 := by omega
      have hRA := hRX.below ((Below.refl _ _).alloc (Nat.le_refl _) (Obj.cells #[.int .i64 (-1000), .int .i64 1000] 30))
      have hbg := hRX.big
      go_wp2_with (first
        | (at_builtin; refine wpList_append_lies _ rfl _ _ 103 rfl W0.heap.size 30 i0 (.agg #[.int .i64 0, .int .i64 0]) 2 16 Tryz.underlying103 hi hz0 hz1 hz2 rfl (by decide) _ k _ rfl hRA.o1 ⟨wr.heap.size, 0, none⟩ 1 1 [.int .i64 (-1000), .int .i64 1000] rfl rfl (cells_two _ _ _ _) (by simp [Value.oneCell']) (by decide) (by unfold maxLen; omega) (by omega) hRA.big _ rfl ?_; intro g1 cp1 w1 hown1 hgrow1 hat1 hlt1; have hRB := (hRA.push1 hgrow1 hown1 hat1).below ((Below.refl _ _).alloc (Nat.le_refl _) (Obj.cells #[.int .i64 (-1000), .int .i64 1000] 30)))
        | (at_builtin; refine wpList_append_lies _ rfl _ _ 103 rfl W0.heap.size 30 i0 (.agg #[.int .i64 0, .int .i64 0]) 2 16 Tryz.underlying103 hi hz0 hz1 hz2 rfl (by decide) _ k _ rfl hRB.o2 ⟨w1.heap.size, 0, none⟩ 1 1 [.int .i64 (-1000), .int .i64 1000] rfl rfl (cells_two _ _ _ _) (by simp [Value.oneCell']) (by decide) (by unfold maxLen; omega) (by omega) hRB.big _ rfl ?_; intro g2 cp2 w2 hown2 hgrow2 hat2 hlt2; have hRC := hRB.push2 hgrow2 hown2 hat2))
      clear hown1 hgrow1 hat1 hown2 hgrow2 hat2 hRA hRB
      go_roundw
      case rel => exact ⟨k + 1, by omega, by go_num, hRC⟩
      case measure => simp [intOf]; omega
    · have hk13 : k = 13 := by omega
      have hng : ¬ ((k : Int) ≤ 12) := by omega
      have hR13 : R2X W0 W0.heap.size wr 13 13 u7 u8 (fun _ => (-1000, 1000)) (fun _ => (-1000, 1000)) := hk13 ▸ hRX
      obtain ⟨gx, cx, e7, hc1, hc2, hgl, hgh, hC1⟩ := own_cat hR13.o1
      obtain ⟨gy, cy, e8, hd1, hd2, hhl, hhh, hC2⟩ := own_cat hR13.o2
      have hne : gx ≠ gy := fun e => by
        subst e
        exact hR13.d gx (by rw [e7]; rfl) (by rw [e8]; rfl)
      have hB : BdR W0 gx gy wr := ⟨hR13.old, hgl, hgh, hhl, hhh, hne⟩
      subst e7
      subst e8
      clear hRX hR13
      go_wp2_with fail
      go_loopw [10] (fun i wr => ∃ (k : Nat) (F1 F2 : Nat → Int × Int), k ≤ n ∧ i = .int .i64 k ∧ BdR W0 gx gy wr ∧ CAt wr gx F1 ∧ CAt wr gy F2 ∧ (∀ j, j < 13 → F1 j = nar (j : Int) (mkX m n f).cl k (-1000, 1000)) ∧ ∀ j, j < 13 → F2 j = nar (j : Int) (mkY m n f).cl k (-1000, 1000)) (fun i _ => n - (intOf i).toNat)
      case atStart => exact ⟨0, _, _, Nat.zero_le _, rfl, hB, hC1, hC2, fun _ _ => rfl, fun _ _ => rfl⟩
      case round =>
        clear hB hC1 hC2
        obtain ⟨k, F1, F2, hkn, rfl, hB, hC1, hC2, hF1, hF2⟩ := hrel
        have hk0 : (0 : Int) ≤ (k : Int) := Int.natCast_nonneg _
        by_cases hlt : k < n
        · have hlt' : (k : Int) < (n : Int) := by omega
          obtain ⟨b, off, rfl, hbl, hmp⟩ := hmk (by omega)
          obtain ⟨hq0, hq12⟩ := hcl k hlt
          have hmkk := hmp k hlt
          have hX1 : (mkX m n f).cl k = ((f k).1, (f k).2.1, (f k).2.2.1) := rfl
          have hY1 : (mkY m n f).cl k = ((f k).1, (f k).2.2.2.1, (f k).2.2.2.2) := rfl
          generalize f k = fk at hq0 hq12 hmkk hX1 hY1
          obtain ⟨fq, l0, l1, l2, l3⟩ := fk
          dsimp only at hq0 hq12 hmkk hX1 hY1
          obtain ⟨q, rfl⟩ : ∃ q : Nat, fq = (q : Int) := ⟨fq.toNat, by omega⟩
          have hq13 : q < 13 := by omega
          have hq13' : (q : Int) < 13 := by omega
          have hMk : ∀ W, Below W0.heap.size W0 W → W.cell? ⟨b, off + k * 5, none⟩ = some (.int .i64 q) ∧ W.cell? ⟨b, off + k * 5 + 1, none⟩ = some (.int .i64 l0) ∧ W.cell? ⟨b, off + k * 5 + 2, none⟩ = some (.int .i64 l1) ∧ W.cell? ⟨b, off + k * 5 + 3, none⟩ = some (.int .i64 l2) ∧ W.cell? ⟨b, off + k * 5 + 4, none⟩ = some (.int .i64 l3) := fun W hBW => by
            have hc : ∀ j, W.cell? ⟨b, j, none⟩ = w.cell? ⟨b, j, none⟩ := fun j => ((hBW.mono hO.size).cell (p := ⟨b, j, none⟩) hbl).trans (hO.cell (p := ⟨b, j, none⟩) hbl)
            rw [hc, hc, hc, hc, hc]; exact hmkk
          have j0 := (hMk wr hB.old).1
          have hn1 := put_nar hF1 hq13 (x0 := (F1 q).1) (x1 := (F1 q).2) rfl hX1
          have hn2 := put_nar hF2 hq13 (x0 := (F2 q).1) (x1 := (F2 q).2) rfl hY1
          generalize hxq : F1 q = x at hn1
          generalize hyq : F2 q = y at hn2
          obtain ⟨x0, x1⟩ := x
          obtain ⟨y0, y1⟩ := y
          dsimp only at hn1 hn2
          clear hmkk hmp
          go_wp2_with fail
          refine wp_region_late [25, 27] (fun w9 => BdR W0 gx gy w9) (fun w9 => CAt w9 gx F1 ∧ CAt w9 gy F2) (by kernel_rfl) ?_ (fun hHeld => ?_)
          · (exact ⟨hB.below (Below.refl _ _).drew, hC1.below (Below.refl _ _).drew hB.hx, hC2.below (Below.refl _ _).drew hB.hy⟩)
          refine tk0 0 ?_ rfl (Or.inl ⟨by rfl, ?_⟩) hHeld ?_
          rotate_left 1
          · ((intro w9 hSw; have j1 := (hMk w9 hSw.old).2.1; have j2 := (hMk w9 hSw.old).2.2.1; have j3 := (hMk w9 hSw.old).2.2.2.1; have j4 := (hMk w9 hSw.old).2.2.2.2; clear hSw; go_simp) <;> with_reducible rfl)
          (try simp only [Act.put, pA, pZ, pS])
          refine tk0 1 ?_ rfl (Or.inl ⟨by rfl, ?_⟩) hHeld ?_
          rotate_left 1
          · ((intro w9 hSw; have j1 := (hMk w9 hSw.old).2.1; have j2 := (hMk w9 hSw.old).2.2.1; have j3 := (hMk w9 hSw.old).2.2.2.1; have j4 := (hMk w9 hSw.old).2.2.2.2; clear hSw; go_simp) <;> with_reducible rfl)
          (try simp only [Act.put, pA, pZ, pS])
          refine tk0 2 ?_ rfl (Or.inl ⟨by rfl, ?_⟩) hHeld ?_
          rotate_left 1
          · ((intro w9 hSw; have j1 := (hMk w9 hSw.old).2.1; have j2 := (hMk w9 hSw.old).2.2.1; have j3 := (hMk w9 hSw.old).2.2.2.1; have j4 := (hMk w9 hSw.old).2.2.2.2; clear hSw; go_simp) <;> with_reducible rfl)
          (try simp only [Act.put, pA, pZ, pS])
          refine tk0 3 ?_ rfl (Or.inl ⟨by rfl, ?_⟩) hHeld ?_
          rotate_left 1
          · ((intro w9 hSw; have j1 := (hMk w9 hSw.old).2.1; have j2 := (hMk w9 hSw.old).2.2.1; have j3 := (hMk w9 hSw.old).2.2.2.1; have j4 := (hMk w9 hSw.old).2.2.2.2; clear hSw; go_simp) <;> with_reducible rfl)
          (try simp only [Act.put, pA, pZ, pS])
          refine tk0 4 ?_ rfl (Or.inl ⟨by rfl, ?_⟩) hHeld ?_
          rotate_left 1
          · ((intro w9 hSw; have j1 := (hMk w9 hSw.old).2.1; have j2 := (hMk w9 hSw.old).2.2.1; have j3 := (hMk w9 hSw.old).2.2.2.1; have j4 := (hMk w9 hSw.old).2.2.2.2; clear hSw; go_simp) <;> with_reducible rfl)
          (try simp only [Act.put, pA, pZ, pS])
          refine tk0 5 ?_ rfl (Or.inl ⟨by rfl, ?_⟩) hHeld ?_
          rotate_left 1
          · ((intro w9 hSw; have j1 := (hMk w9 hSw.old).2.1; have j2 := (hMk w9 hSw.old).2.2.1; have j3 := (hMk w9 hSw.old).2.2.2.1; have j4 := (hMk w9 hSw.old).2.2.2.2; clear hSw; go_simp) <;> with_reducible rfl)
          (try simp only [Act.put, pA, pZ, pS])
          refine tk0 6 ?_ rfl (Or.inl ⟨by rfl, ?_⟩) hHeld ?_
          rotate_left 1
          · ((intro w9 hSw; have j1 := (hMk w9 hSw.old).2.1; have j2 := (hMk w9 hSw.old).2.2.1; have j3 := (hMk w9 hSw.old).2.2.2.1; have j4 := (hMk w9 hSw.old).2.2.2.2; clear hSw; go_simp) <;> with_reducible rfl)
          (try simp only [Act.put, pA, pZ, pS])
          refine wpAnyP_take 1 (i := 7) (v := ?_) rfl (by kernel_rfl) (by kernel_rfl) (by kernel_rfl) (by kernel_rfl) (by rfl) (waits_two 1 [] [] (by kernel_rfl) (by kernel_rfl) (by decide) (by decide)) (fun _ _ _ h => h) (Or.inl ⟨by rfl, ?_⟩) hHeld ?_
          rotate_left 1
          · ((intro w9 hSw; have c0 := (hSw.2.1.c q hq13).1; have c1 := (hSw.2.1.c q hq13).2; have d0 := (hSw.2.2.c q hq13).1; have d1 := (hSw.2.2.c q hq13).2; clear hSw; rw [hxq] at c0 c1; rw [hyq] at d0 d1; (try dsimp only at c0 c1 d0 d1); go_simp) <;> with_reducible rfl)
          (try simp only [Act.put, pA, pZ, pS])
          refine tk0 8 ?_ rfl (Or.inl ⟨by rfl, ?_⟩) hHeld ?_
          rotate_left 1
          · ((intro w9 hSw; have j1 := (hMk w9 hSw.old).2.1; have j2 := (hMk w9 hSw.old).2.2.1; have j3 := (hMk w9 hSw.old).2.2.2.1; have j4 := (hMk w9 hSw.old).2.2.2.2; clear hSw; go_simp) <;> with_reducible rfl)
          (try simp only [Act.put, pA, pZ, pS])
          refine tk0 9 ?_ rfl (Or.inl ⟨by rfl, ?_⟩) hHeld ?_
          rotate_left 1
          · ((intro w9 hSw; have j1 := (hMk w9 hSw.old).2.1; have j2 := (hMk w9 hSw.old).2.2.1; have j3 := (hMk w9 hSw.old).2.2.2.1; have j4 := (hMk w9 hSw.old).2.2.2.2; clear hSw; go_simp) <;> with_reducible rfl)
          (try simp only [Act.put, pA, pZ, pS])
          refine tk0 10 ?_ rfl (Or.inl ⟨by rfl, ?_⟩) hHeld ?_
          rotate_left 1
          · ((intro w9 hSw; have j1 := (hMk w9 hSw.old).2.1; have j2 := (hMk w9 hSw.old).2.2.1; have j3 := (hMk w9 hSw.old).2.2.2.1; have j4 := (hMk w9 hSw.old).2.2.2.2; clear hSw; go_simp) <;> with_reducible rfl)
          (try simp only [Act.put, pA, pZ, pS])
          refine tk0 11 ?_ rfl (Or.inl ⟨by rfl, ?_⟩) hHeld ?_
          rotate_left 1
          · ((intro w9 hSw; have j1 := (hMk w9 hSw.old).2.1; have j2 := (hMk w9 hSw.old).2.2.1; have j3 := (hMk w9 hSw.old).2.2.2.1; have j4 := (hMk w9 hSw.old).2.2.2.2; clear hSw; go_simp) <;> with_reducible rfl)
          (try simp only [Act.put, pA, pZ, pS])
          refine tk0 12 ?_ rfl (Or.inl ⟨by rfl, ?_⟩) hHeld ?_
          rotate_left 1
          · ((intro w9 hSw; have j1 := (hMk w9 hSw.old).2.1; have j2 := (hMk w9 hSw.old).2.2.1; have j3 := (hMk w9 hSw.old).2.2.2.1; have j4 := (hMk w9 hSw.old).2.2.2.2; clear hSw; go_simp) <;> with_reducible rfl)
          (try simp only [Act.put, pA, pZ, pS])
          refine tk0 14 ?_ rfl (Or.inl ⟨by rfl, ?_⟩) hHeld ?_
          rotate_left 1
          · ((intro w9 hSw; have j1 := (hMk w9 hSw.old).2.1; have j2 := (hMk w9 hSw.old).2.2.1; have j3 := (hMk w9 hSw.old).2.2.2.1; have j4 := (hMk w9 hSw.old).2.2.2.2; clear hSw; go_simp) <;> with_reducible rfl)
          (try simp only [Act.put, pA, pZ, pS])
          refine tk0 15 ?_ rfl (Or.inl ⟨by rfl, ?_⟩) hHeld ?_
          rotate_left 1
          · ((intro w9 hSw; have j1 := (hMk w9 hSw.old).2.1; have j2 := (hMk w9 hSw.old).2.2.1; have j3 := (hMk w9 hSw.old).2.2.2.1; have j4 := (hMk w9 hSw.old).2.2.2.2; clear hSw; go_simp) <;> with_reducible rfl)
          (try simp only [Act.put, pA, pZ, pS])
          refine tk0 16 ?_ rfl (Or.inl ⟨by rfl, ?_⟩) hHeld ?_
          rotate_left 1
          · ((intro w9 hSw; have j1 := (hMk w9 hSw.old).2.1; have j2 := (hMk w9 hSw.old).2.2.1; have j3 := (hMk w9 hSw.old).2.2.2.1; have j4 := (hMk w9 hSw.old).2.2.2.2; clear hSw; go_simp) <;> with_reducible rfl)
          (try simp only [Act.put, pA, pZ, pS])
          refine wpAnyP_take 1 (i := 17) (v := ?_) rfl (by kernel_rfl) (by kernel_rfl) (by kernel_rfl) (by kernel_rfl) (by rfl) (waits_two 1 [] [] (by kernel_rfl) (by kernel_rfl) (by decide) (by decide)) (fun _ _ _ h => h) (Or.inl ⟨by rfl, ?_⟩) hHeld ?_
          rotate_left 1
          · ((intro w9 hSw; have c0 := (hSw.2.1.c q hq13).1; have c1 := (hSw.2.1.c q hq13).2; have d0 := (hSw.2.2.c q hq13).1; have d1 := (hSw.2.2.c q hq13).2; clear hSw; rw [hxq] at c0 c1; rw [hyq] at d0 d1; (try dsimp only at c0 c1 d0 d1); go_simp) <;> with_reducible rfl)
          (try simp only [Act.put, pA, pZ, pS])
          refine tk0 18 ?_ rfl (Or.inl ⟨by rfl, ?_⟩) hHeld ?_
          rotate_left 1
          · ((intro w9 hSw; have j1 := (hMk w9 hSw.old).2.1; have j2 := (hMk w9 hSw.old).2.2.1; have j3 := (hMk w9 hSw.old).2.2.2.1; have j4 := (hMk w9 hSw.old).2.2.2.2; clear hSw; go_simp) <;> with_reducible rfl)
          (try simp only [Act.put, pA, pZ, pS])
          refine tk0 19 ?_ rfl (Or.inl ⟨by rfl, ?_⟩) hHeld ?_
          rotate_left 1
          · ((intro w9 hSw; have j1 := (hMk w9 hSw.old).2.1; have j2 := (hMk w9 hSw.old).2.2.1; have j3 := (hMk w9 hSw.old).2.2.2.1; have j4 := (hMk w9 hSw.old).2.2.2.2; clear hSw; go_simp) <;> with_reducible rfl)
          (try simp only [Act.put, pA, pZ, pS])
          refine tk0 20 ?_ rfl (Or.inl ⟨by rfl, ?_⟩) hHeld ?_
          rotate_left 1
          · ((intro w9 hSw; have j1 := (hMk w9 hSw.old).2.1; have j2 := (hMk w9 hSw.old).2.2.1; have j3 := (hMk w9 hSw.old).2.2.2.1; have j4 := (hMk w9 hSw.old).2.2.2.2; clear hSw; go_simp) <;> with_reducible rfl)
          (try simp only [Act.put, pA, pZ, pS])
          refine tk0 21 ?_ rfl (Or.inl ⟨by rfl, ?_⟩) hHeld ?_
          rotate_left 1
          · ((intro w9 hSw; have j1 := (hMk w9 hSw.old).2.1; have j2 := (hMk w9 hSw.old).2.2.1; have j3 := (hMk w9 hSw.old).2.2.2.1; have j4 := (hMk w9 hSw.old).2.2.2.2; clear hSw; go_simp) <;> with_reducible rfl)
          (try simp only [Act.put, pA, pZ, pS])
          refine tk0 22 ?_ rfl (Or.inl ⟨by rfl, ?_⟩) hHeld ?_
          rotate_left 1
          · ((intro w9 hSw; have j1 := (hMk w9 hSw.old).2.1; have j2 := (hMk w9 hSw.old).2.2.1; have j3 := (hMk w9 hSw.old).2.2.2.1; have j4 := (hMk w9 hSw.old).2.2.2.2; clear hSw; go_simp) <;> with_reducible rfl)
          (try simp only [Act.put, pA, pZ, pS])
          refine wpAnyP_ready (rs := [13]) (by kernel_rfl) (by simp) ?_
          refine AllReadyP.cons (o := _) rfl (fun K hK => ?_) AllReadyP.nil
          · go_simp
            (go_at_call 97; with_reducible refine (rcommon_any _ _ _ _ _).mono ?_; rintro e w5 ⟨rfl, hb5⟩)
            refine hK.out _ _ ?_ (fun hHeld => ?_)
            · (exact ⟨hHeld.1.below hb5, hHeld.2.1.below hb5 hHeld.1.hx, hHeld.2.2.below hb5 hHeld.1.hy⟩)
            clear hK K
            (try simp only [Act.put, pA, pZ, pS])
            refine wpAnyP_ready (rs := [23]) (by kernel_rfl) (by simp) ?_
            refine AllReadyP.cons (o := _) rfl (fun K hK => ?_) AllReadyP.nil
            · go_simp
              (go_at_call 97; with_reducible refine (rcommon_any _ _ _ _ _).mono ?_; rintro e w6 ⟨rfl, hb6⟩)
              refine hK.out _ _ ?_ (fun hHeld => ?_)
              · (exact ⟨hHeld.1.below hb6, hHeld.2.1.below hb6 hHeld.1.hx, hHeld.2.2.below hb6 hHeld.1.hy⟩)
              clear hK K
              (try simp only [Act.put, pA, pZ, pS])
              refine tk0 24 ?_ rfl (Or.inl ⟨by rfl, ?_⟩) hHeld ?_
              rotate_left 1
              · ((intro w9 hSw; have j1 := (hMk w9 hSw.old).2.1; have j2 := (hMk w9 hSw.old).2.2.1; have j3 := (hMk w9 hSw.old).2.2.2.1; have j4 := (hMk w9 hSw.old).2.2.2.2; clear hSw; go_simp) <;> with_reducible rfl)
              (try simp only [Act.put, pA, pZ, pS])
              refine wpAnyP_ready (rs := [25]) (by kernel_rfl) (by simp) ?_
              refine AllReadyP.behind (o := _) rfl (by kernel_rfl) (fun K hK => ?_) AllReadyP.nil
              · have c0 := (hHeld.2.1.c q hq13).1
                have c1 := (hHeld.2.1.c q hq13).2
                have z0 := hHeld.2.1.z (q * 2)
                have z1 := hHeld.2.1.z (q * 2 + 1)
                have hCs := hHeld.2.1.store q hq13 (max x0 l0) (min x1 l1)
                have hDs := hHeld.2.2.far2 hHeld.1.ne (q * 2) (q * 2 + 1) (.int .i64 (max x0 l0)) (.int .i64 (min x1 l1))
                go_simp
                refine hK.out _ _ ?_ (fun hHeld => ?_)
                · (exact hHeld.1.storeX _ _ _ _)
                clear hK K
                (try simp only [Act.put, pA, pZ, pS])
                refine wpAnyP_takeB (i := 26) (v := ?_) rfl (by kernel_rfl) (by kernel_rfl) (by kernel_rfl) (by kernel_rfl) (by rfl) (by kernel_rfl) (fun _ _ _ h => h) (Or.inl ⟨by rfl, ?_⟩) hHeld ?_
                rotate_left 1
                · ((intro w9 hSw; have j1 := (hMk w9 hSw.old).2.1; have j2 := (hMk w9 hSw.old).2.2.1; have j3 := (hMk w9 hSw.old).2.2.2.1; have j4 := (hMk w9 hSw.old).2.2.2.2; clear hSw; go_simp) <;> with_reducible rfl)
                (try simp only [Act.put, pA, pZ, pS])
                refine wpAnyP_ready (rs := [27]) (by kernel_rfl) (by simp) ?_
                refine AllReadyP.behind (o := _) rfl (by kernel_rfl) (fun K hK => ?_) AllReadyP.nil
                · have d0 := (hDs.c q hq13).1
                  have d1 := (hDs.c q hq13).2
                  have z2 := hDs.z (q * 2)
                  have z3 := hDs.z (q * 2 + 1)
                  have hDt := hDs.store q hq13 (max y0 l2) (min y1 l3)
                  have hCt := hCs.far2 (Ne.symm hHeld.ne) (q * 2) (q * 2 + 1) (.int .i64 (max y0 l2)) (.int .i64 (min y1 l3))
                  go_simp
                  refine hK.out _ _ ?_ (fun hHeld => ?_)
                  · (exact hHeld.storeY _ _ _ _)
                  clear hK K
                  (try simp only [Act.put, pA, pZ, pS])
                  refine wpAnyP_done (by kernel_rfl) ?_ _
                  (try simp only [Act.put, List.getElem_toArray, List.getElem_cons_zero, List.getElem_cons_succ, pA, pZ, pS])
                  clear c0 c1 z0 z1 d0 d1 z2 z3 hb5 hb6 hB hC1 hC2 hDs hCs
                  go_wp2_with fail
                  go_roundw
                  case rel => exact ⟨k + 1, _, _, by omega, by go_num, hHeld, hCt, hDt, hn1, hn2⟩
                  case measure => simp [intOf]; omega
        · have hkk : k = n := by omega
          have hng : ¬ ((k : Int) < (n : Int)) := by omega
          subst hkk
          have hM1 := hM.below hB.old (by omega)
          obtain ⟨p0, p1, p2, p3, p4, p5, p6, p7, p8, p9⟩ := id hM1
          have hxc : ∀ W, BdR W0 gx gy W → CAt W gx F1 → Calls Tryz.prog 98 #[.agg #[.int .i64 m.c0, .int .i64 m.c1], .agg #[.int .i64 m.w0, .int .i64 m.w1], .slice (some ⟨gx, 0, none⟩) 13 cx] W fun e w' => ∃ v, e = .returned (.tuple #[v, .bool bx]) ∧ (bx = true → ∃ g c, v = .slice (some ⟨g, 0, none⟩) 13 c ∧ W.heap.size ≤ g ∧ g < w'.heap.size ∧ CAt w' g (mkX m k f).ends) ∧ Below W.heap.size W w' := fun W h1 h2 => hax gx cx F1 W h1.hx h2 (fun j hj => hF1 j (by omega)) hc1 hc2
          have hyc : ∀ W, BdR W0 gx gy W → CAt W gy F2 → Calls Tryz.prog 98 #[.agg #[.int .i64 m.d0, .int .i64 m.d1], .agg #[.int .i64 m.v0, .int .i64 m.v1], .slice (some ⟨gy, 0, none⟩) 13 cy] W fun e w' => ∃ v, e = .returned (.tuple #[v, .bool by_]) ∧ (by_ = true → ∃ g c, v = .slice (some ⟨g, 0, none⟩) 13 c ∧ W.heap.size ≤ g ∧ g < w'.heap.size ∧ CAt w' g (mkY m k f).ends) ∧ Below W.heap.size W w' := fun W h1 h2 => hay gy cy F2 W h1.hy h2 (fun j hj => hF2 j (by omega)) hd1 hd2
          clear hax hay hbx hby hmk hX hY hcl hi hz0 hz1 hz2 hF1 hF2 hn4 hng hlt hkn hk0 hk hk13
          cases bx <;> cases by_
          all_goals
            go_wp2_with (first
              | (go_at_call 98; with_reducible refine (hxc _ hB hC1).mono ?_; rintro e w7 ⟨v7, rfl, hy7, hb7⟩; have hC7 := hC2.below hb7 hB.hy; have hB7 := hB.below hb7; have hM7 := hM.below hB7.old (by omega); obtain ⟨r0, r1, r2, r3, r4, r5, r6, r7, r8, r9⟩ := id hM7)
              | (go_at_call 98; with_reducible refine (hyc _ hB7 hC7).mono ?_; rintro e w8 ⟨v8, rfl, hy8, hb8⟩; have hB8 := hB7.below hb8))
            go_ret3
            refine ⟨_, _, rfl, fun h => ?_, hO.trans (hB8.old.mono hO.size)⟩
            first
              | (exact absurd h (by decide))
              | (obtain ⟨g1, d1, rfl, hl1, hg1, hE1⟩ := hy7 (by first | rfl | trivial)
                 obtain ⟨g2, d2, rfl, hl2, hg2, hE2⟩ := hy8 (by first | rfl | trivial)
                 have hs7 := (hO.trans (hB.old.mono hO.size)).size
                 have hs8 := (hO.trans (hB7.old.mono hO.size)).size
                 exact ⟨g1, d1, g2, d2, rfl, rfl, Nat.le_trans hs7 hl1, Nat.le_trans hs8 hl2, Nat.lt_of_lt_of_le hg1 hb8.size, hg2, hE1.below hb8 hg1, hE2⟩)
end Go.Proofs.YtbgjocgjmjkneaaGreatDoor
namespace Go.Proofs.YtbgjocgjmjkneaaGreatDoor
open Go.RowKit
def Mach.zmark : Value := .agg #[.int .i64 0, .int .i64 0, .int .i64 0, .int .i64 0, .int .i64 0]
theorem Tryz.info109 : (Tryz.prog.info? 109).map (fun i => (i.zero, i.size, i.bytes)) = some (some Mach.zmark, 5, 40) := by kernel_rfl
theorem cells_five (w : World) (a b c d f : Value) (e : TypeId) : ∀ (j : Nat) (u : Value), [a, b, c, d, f][j]? = some u → (w.alloc (Obj.cells #[a, b, c, d, f] e)).cell? ((⟨w.heap.size, 0, none⟩ : Addr).add j) = some u := by
  intro j u h
  match j, h with
  | 0, h => simp at h; subst h; simp [go_sem, Addr.add]
  | 1, h => simp at h; subst h; simp [go_sem, Addr.add]
  | 2, h => simp at h; subst h; simp [go_sem, Addr.add]
  | 3, h => simp at h; subst h; simp [go_sem, Addr.add]
  | 4, h => simp at h; subst h; simp [go_sem, Addr.add]
  | n+5, h => simp at h
set_option maxRecDepth 100000 in
set_option maxHeartbeats 4000000 in
theorem rmarks_any (m : Mach) (w : World) (hok : m.ok = true) (h : MIn w m) :
    Calls Tryz.prog 58 #[m.val] w fun e w' => ∃ v', e = .returned v' ∧ MkSl w' v' m.rn m.mark ∧ Below w.heap.size w w' := by
  obtain ⟨i0, hi, hz0, hz1, hz2⟩ := info_parts Tryz.info109
  obtain ⟨W0, hW⟩ : ∃ W0, w.alloc (.cells #[.slice m.sa m.sn m.sc, .int .i64 m.c0, .int .i64 m.c1, .int .i64 m.d0, .int .i64 m.d1, .int .i64 m.w0, .int .i64 m.w1, .int .i64 m.v0, .int .i64 m.v1, .slice m.ra m.rn m.rc] 33) = W0 := ⟨_, rfl⟩
  have hO : Below w.heap.size w W0 := by rw [← hW]; exact (Below.refl _ _).alloc (Nat.le_refl _) _
  have hM : MAt W0 w.heap.size m := by rw [← hW]; exact MAt.new w m
  have hsz : W0.heap.size = w.heap.size + 1 := by rw [← hW, World.size_alloc]
  obtain ⟨_, hfew, _, _⟩ := Mach.ok_parts hok
  have hrd := Mach.reads hok
  obtain ⟨q0, q1, q2, q3, q4, q5, q6, q7, q8, q9⟩ := id hM
  go_enter Tryz.func58, Tryz.ntmps58
  go_wp2_with fail
  go_loopw [3, 4] (fun v i wr => ∃ (k : Nat), k ≤ m.rn ∧ i = .int .i64 k ∧ wr.ownsRow W0.heap.size 109 5 v k (markCells m.mark k) ∧ Below W0.heap.size W0 wr) (fun _ i _ => m.rn - (intOf i).toNat)
  case atStart => exact ⟨0, Nat.zero_le _, rfl, ⟨rfl, .inl ⟨rfl, rfl⟩⟩, Below.refl _ _⟩
  case round =>
    obtain ⟨k, hk, rfl, hown, hbl⟩ := hrel
    have hk0 : (0 : Int) ≤ (k : Int) := Int.natCast_nonneg _
    have hMr := hM.below hbl (by omega)
    clear q0 q1 q2 q3 q4 q5 q6 q7 q8 q9
    obtain ⟨q0, q1, q2, q3, q4, q5, q6, q7, q8, q9⟩ := id hMr
    by_cases hlt : k < m.rn
    · have hlt' : (k : Int) < (m.rn : Int) := by omega
      have hrs := (h.below hO).below hbl |>.reads
      obtain ⟨b, off, hra, hb, hp⟩ : ∃ b off, m.ra = some ⟨b, off, none⟩ ∧ b < wr.heap.size ∧ RPts wr b off m.rn m.RB m.RX m.RY m.RE := by
        rcases hrs with ⟨a, c, e, h0⟩ | ⟨b, off, cap, e, hb, hp⟩
        · omega
        · injection e with e1 e2 e3
          exact ⟨b, off, e1, hb, hp⟩
      rw [hra] at q9
      obtain ⟨e0, e1, e2, e3⟩ := hp k hlt
      obtain ⟨r0, r1, r2, r3⟩ := hrd k hlt
      have hmc : markCells m.mark (k + 1) = markCells m.mark k ++ [.int .i64 (m.RB k), .int .i64 (m.RX k - m.RE k), .int .i64 (m.RX k + m.RE k), .int .i64 (m.RY k - m.RE k), .int .i64 (m.RY k + m.RE k)] := rfl
      generalize m.RB k = B at e0 r0 hmc
      generalize m.RX k = X at e1 r1 hmc
      generalize m.RY k = Y at e2 r2 hmc
      generalize m.RE k = E at e3 r3 hmc
      have hw0 : IntKind.i64.wrap (X - E) = X - E := IntWalk.i64_in _ (by omega)
      have hw1 : IntKind.i64.wrap (X + E) = X + E := IntWalk.i64_in _ (by omega)
      have hw2 : IntKind.i64.wrap (Y - E) = Y - E := IntWalk.i64_in _ (by omega)
      have hw3 : IntKind.i64.wrap (Y + E) = Y + E := IntWalk.i64_in _ (by omega)
      clear hp hrs hMr q0 q1 q2 q3 q4 q5 q6 q7 q8
      have hbs := hbl.size
      go_wp2_with (at_builtin; refine wpList_append_own _ rfl _ _ 101 rfl W0.heap.size 109 i0 Mach.zmark 5 40 Tryz.underlying101 hi hz0 hz1 hz2 rfl (by decide) _ k _ rfl ((hown.alloc _).alloc _) ⟨wr.heap.size + 1, 0, none⟩ 1 1 [.int .i64 B, .int .i64 (X - E), .int .i64 (X + E), .int .i64 (Y - E), .int .i64 (Y + E)] rfl rfl ?c1 ?c2 ?c3 ?c4 ?c5 ?_)
      case c1 =>
        have hcf := cells_five (wr.alloc (Obj.cells #[.int .i64 B, .int .i64 X, .int .i64 Y, .int .i64 E] 111)) (.int .i64 B) (.int .i64 (X - E)) (.int .i64 (X + E)) (.int .i64 (Y - E)) (.int .i64 (Y + E)) 109
        rw [World.size_alloc] at hcf
        exact hcf
      case c2 => simp [Value.oneCell']
      case c3 => unfold maxLen; omega
      case c4 => omega
      case c5 => rw [World.size_alloc, World.size_alloc]; omega
      intro v3 w3 hown3 hgrow _
      have hb3 : Below W0.heap.size W0 w3 := ((hbl.alloc hbl.size _).alloc (by rw [World.size_alloc]; omega) _).grown hgrow (by rw [World.size_alloc, World.size_alloc]; omega) fun j hj => (hown.lt j hj).1
      rw [← hmc] at hown3
      clear hgrow hown e0 e1 e2 e3 q9 hmc
      go_wp2
      go_roundw
      case rel => exact ⟨k + 1, by omega, by go_num, by rw [hsz]; exact hown3, hb3⟩
      case measure => simp [intOf]; omega
    · have hkk : k = m.rn := by omega
      have hng : ¬ ((k : Int) < (m.rn : Int)) := by omega
      have hms := own_marks hown
      rw [hkk] at hms
      go_wp2
      go_ret
      exact ⟨_, rfl, hms, hO.trans (hbl.mono hO.size)⟩
end Go.Proofs.YtbgjocgjmjkneaaGreatDoor
namespace Go.Proofs.YtbgjocgjmjkneaaGreatDoor
open Go.RowKit Go.Shelf
theorem markCells_last {f : Nat → Int × Int × Int × Int × Int} {n j : Nat} {u : Value} (h : (markCells f (n + 1))[j]? = some u) : (markCells f n)[j]? = some u ∨ (j = n * 5 ∧ u = .int .i64 (f n).1) ∨ (j = n * 5 + 1 ∧ u = .int .i64 (f n).2.1) ∨ (j = n * 5 + 2 ∧ u = .int .i64 (f n).2.2.1) ∨ (j = n * 5 + 3 ∧ u = .int .i64 (f n).2.2.2.1) ∨ (j = n * 5 + 4 ∧ u = .int .i64 (f n).2.2.2.2) := by
  unfold markCells at h
  by_cases hj : j < n * 5
  · rw [List.getElem?_append_left (by rw [markCells_len]; exact hj)] at h
    exact .inl h
  · rw [List.getElem?_append_right (by rw [markCells_len]; omega), markCells_len] at h
    obtain ⟨k, hk⟩ : ∃ k, j - n * 5 = k := ⟨_, rfl⟩
    rw [hk] at h
    match k, h with
    | 0, h => cases h; exact .inr (.inl ⟨by omega, rfl⟩)
    | 1, h => cases h; exact .inr (.inr (.inl ⟨by omega, rfl⟩))
    | 2, h => cases h; exact .inr (.inr (.inr (.inl ⟨by omega, rfl⟩)))
    | 3, h => cases h; exact .inr (.inr (.inr (.inr (.inl ⟨by omega, rfl⟩))))
    | 4, h => cases h; exact .inr (.inr (.inr (.inr (.inr ⟨by omega, rfl⟩))))
    | k+5, h => cases h
theorem markCells_get {w : World} {b off : Nat} {f : Nat → Int × Int × Int × Int × Int} : ∀ {n : Nat}, MkPts w b off n f → ∀ j u, (markCells f n)[j]? = some u → w.cell? ⟨b, off + j, none⟩ = some u
  | 0, _ => fun j u h => by cases h
  | n+1, hp => fun j u h => by
    obtain ⟨h1, h2, h3, h4, h5⟩ := hp n (by omega)
    rcases markCells_last h with h | ⟨rfl, rfl⟩ | ⟨rfl, rfl⟩ | ⟨rfl, rfl⟩ | ⟨rfl, rfl⟩ | ⟨rfl, rfl⟩
    · exact markCells_get (n := n) (fun i hi => hp i (by omega)) j u h
    · exact h1
    · exact h2
    · exact h3
    · exact h4
    · exact h5
theorem markCells_one (f : Nat → Int × Int × Int × Int × Int) : ∀ n, ∀ u ∈ markCells f n, u.oneCell' = true
  | 0 => fun u h => by cases h
  | n+1 => fun u h => by
    unfold markCells at h
    rcases List.mem_append.1 h with h | h
    · exact markCells_one f n u h
    · simp only [List.mem_cons, List.not_mem_nil, or_false] at h
      rcases h with rfl | rfl | rfl | rfl | rfl <;> rfl
theorem markCells_congr {f g : Nat → Int × Int × Int × Int × Int} : ∀ {n : Nat}, (∀ i, i < n → f i = g i) → markCells f n = markCells g n
  | 0, _ => rfl
  | n+1, h => by unfold markCells; rw [markCells_congr (n := n) fun i hi => h i (by omega), h n (by omega)]
theorem AAt.set0 {W : World} {A : Nat} {c0 c1 w0 w1 : Int} {v : Value} (h : AAt W A c0 c1 w0 w1 v) (u : Int) : AAt (W.setCell ⟨A, 0, none⟩ (.int .i64 u)) A u c1 w0 w1 v := by
  refine ⟨?_, ?_, ?_, ?_, ?_, ?_, ?_, ?_, ?_, ?_⟩
  · exact World.cell?_setCell_same' _ _ _ (by rw [h.k0]; rfl)
  · rw [World.cell?_setCell_other W _ (a := ⟨A, 0, none⟩) (b := ⟨A, 1, none⟩) (by intro h; cases h)]; exact h.k1
  · rw [World.cell?_setCell_other W _ (a := ⟨A, 0, none⟩) (b := ⟨A, 2, none⟩) (by intro h; cases h)]; exact h.k2
  · rw [World.cell?_setCell_other W _ (a := ⟨A, 0, none⟩) (b := ⟨A, 3, none⟩) (by intro h; cases h)]; exact h.k3
  · rw [World.cell?_setCell_other W _ (a := ⟨A, 0, none⟩) (b := ⟨A, 4, none⟩) (by intro h; cases h)]; exact h.k4
  all_goals rw [World.frozen?_setCell]
  · exact h.f0
  · exact h.f1
  · exact h.f2
  · exact h.f3
  · exact h.f4
theorem undMk : Tryz.prog.underlying 101 = some (.slice 109) := by kernel_rfl
/-- marks are copied: append to nil. -/
theorem step_marks {ops : Array Oper} (w : World) {o : Oper} {a : Act} {K : Act → World → Prop} {Q : Exit → Act → World → Prop} {D : Prop} (hgd : o.guard = none) (s x : Operand) (ho : o.op = .call { callee := .builtin .append, args := #[s, x], argTypes := #[101, 101] })
    (hs : a.eval s = .slice none 0 0) (ra : Option Addr) (n rc : Nat) (f : Nat → Int × Int × Int × Int × Int) (hx : a.eval x = .slice ra n rc) (hr : MkSl w (.slice ra n rc) n f) (hn : n ≤ 1000)
    (h : ∀ v w', w'.ownsRow w.heap.size 109 5 v n (markCells f n) → Below w.heap.size w w' → K (a.put o.dst v) w') : if Region.wanted o (yielded ops a.tmps) = true then Oper.wp Tryz.prog o a w K Q else D := by
  rw [if_pos (show Region.wanted o (yielded ops a.tmps) = true by simp [Region.wanted, hgd])]
  obtain ⟨i0, hi, hz0, hz1, hz2⟩ := info_parts Tryz.info109
  have hnil : w.ownsRow w.heap.size 109 5 (.slice none 0 0) 0 [] := ⟨rfl, .inl ⟨rfl, rfl⟩⟩
  obtain ⟨a', c', e, hr⟩ := hr
  cases e
  rcases Nat.eq_zero_or_pos n with h0 | h0
  · subst h0
    have hk := h (.slice none 0 0) w hnil (Below.refl _ _)
    unfold Oper.wp
    simp [execOp, ho, resolve, invoke, builtin, hs, hx, Result.andThen]
    have hu := undMk
    simp [Builtin.append_, hu, hi, hz0, hz1, hz2, go_sem]
    cases ra <;> simp [go_sem] <;> exact hk
  · obtain ⟨b, off, rfl, hb, hp⟩ := hr h0
    have hnw : ∀ j u, (markCells f n)[j]? = some u → w.cell? ((⟨b, off, none⟩ : Addr).add j) = some u := fun j u hj => by
      have h3 := markCells_get hp j u hj
      by_cases hj0 : j = 0
      · subst hj0; simpa [Addr.add] using h3
      · simpa [Addr.add, hj0] using h3
    refine wp_append_own w s x 101 ho w.heap.size 109 i0 Mach.zmark 5 40 undMk hi hz0 hz1 hz2 rfl (by decide) _ 0 [] hs hnil ⟨b, off, none⟩ n rc (markCells f n) hx (markCells_len f n) hnw (markCells_one f n) (by unfold maxLen; omega) (by omega) (Nat.le_refl _) fun v w' h1 h2 _ => h v w' (by rw [Nat.zero_add] at h1; exact h1) ⟨h2.os, h2.tape, h2.output, h2.size, fun i hi => h2.block i hi (by intro e; cases e)⟩
/-- one mark more. -/
theorem wp_mark (w : World) {o : Oper} {a : Act} {K : Act → World → Prop} {Q : Exit → Act → World → Prop} (s x : Operand) (ho : o.op = .call { callee := .builtin .append, args := #[s, x], argTypes := #[101, 101] })
    (base : Nat) (v : Value) (n : Nat) (f : Nat → Int × Int × Int × Int × Int) (hs : a.eval s = v) (hown : w.ownsRow base 109 5 v n (markCells f n)) (hn : n ≤ 1000) (gb : Nat) (b x0 x1 y0 y1 : Int) (hx : a.eval x = .slice (some ⟨gb, 0, none⟩) 1 1)
    (c0 : w.cell? ⟨gb, 0, none⟩ = some (.int .i64 b)) (c1 : w.cell? ⟨gb, 1, none⟩ = some (.int .i64 x0)) (c2 : w.cell? ⟨gb, 2, none⟩ = some (.int .i64 x1)) (c3 : w.cell? ⟨gb, 3, none⟩ = some (.int .i64 y0)) (c4 : w.cell? ⟨gb, 4, none⟩ = some (.int .i64 y1)) (hbase : base ≤ w.heap.size)
    (h : ∀ g c w', w'.ownsRow base 109 5 (.slice (some ⟨g, 0, none⟩) (n + 1) c) (n + 1) (markCells (fun i => if i = n then (b, x0, x1, y0, y1) else f i) (n + 1)) → Below base w w' → K (a.put o.dst (.slice (some ⟨g, 0, none⟩) (n + 1) c)) w') :
    Oper.wp Tryz.prog o a w K Q := by
  obtain ⟨i0, hi, hz0, hz1, hz2⟩ := info_parts Tryz.info109
  refine wp_append_own w s x 101 ho base 109 i0 Mach.zmark 5 40 undMk hi hz0 hz1 hz2 rfl (by decide) v n _ hs hown ⟨gb, 0, none⟩ 1 1 [.int .i64 b, .int .i64 x0, .int .i64 x1, .int .i64 y0, .int .i64 y1] hx rfl (fun j u hj => ?_) (by simp [Value.oneCell']) (by unfold maxLen; omega) (by omega) hbase fun v' w' h1 h2 _ => ?_
  · match j, hj with
    | 0, hj => cases hj; exact c0
    | 1, hj => cases hj; exact c1
    | 2, hj => cases hj; exact c2
    | 3, hj => cases hj; exact c3
    | 4, hj => cases hj; exact c4
    | j+5, hj => cases hj
  · obtain ⟨g, c, rfl⟩ := ownsRow_pos (by omega) h1
    refine h g c w' ?_ ((Below.refl _ _).grown h2 hbase fun j hj => (hown.lt j hj).1)
    have e : markCells (fun i => if i = n then (b, x0, x1, y0, y1) else f i) (n + 1) = markCells f n ++ [.int .i64 b, .int .i64 x0, .int .i64 x1, .int .i64 y0, .int .i64 y1] := by
      conv => lhs; unfold markCells
      rw [markCells_congr (g := f) (n := n) fun i hi => by rw [if_neg (by omega)]]
      simp
    rw [e]; exact h1
theorem step_mark {ops : Array Oper} (w : World) {o : Oper} {a : Act} {K : Act → World → Prop} {Q : Exit → Act → World → Prop} {D : Prop} (hgd : o.guard = none) (s x : Operand) (ho : o.op = .call { callee := .builtin .append, args := #[s, x], argTypes := #[101, 101] })
    (base : Nat) (v : Value) (n : Nat) (f : Nat → Int × Int × Int × Int × Int) (hs : a.eval s = v) (hown : w.ownsRow base 109 5 v n (markCells f n)) (hn : n ≤ 1000) (gb : Nat) (b x0 x1 y0 y1 : Int) (hx : a.eval x = .slice (some ⟨gb, 0, none⟩) 1 1)
    (c0 : w.cell? ⟨gb, 0, none⟩ = some (.int .i64 b)) (c1 : w.cell? ⟨gb, 1, none⟩ = some (.int .i64 x0)) (c2 : w.cell? ⟨gb, 2, none⟩ = some (.int .i64 x1)) (c3 : w.cell? ⟨gb, 3, none⟩ = some (.int .i64 y0)) (c4 : w.cell? ⟨gb, 4, none⟩ = some (.int .i64 y1)) (hbase : base ≤ w.heap.size)
    (h : ∀ g c w', w'.ownsRow base 109 5 (.slice (some ⟨g, 0, none⟩) (n + 1) c) (n + 1) (markCells (fun i => if i = n then (b, x0, x1, y0, y1) else f i) (n + 1)) → Below base w w' → K (a.put o.dst (.slice (some ⟨g, 0, none⟩) (n + 1) c)) w') :
    if Region.wanted o (yielded ops a.tmps) = true then Oper.wp Tryz.prog o a w K Q else D := by
  rw [if_pos (show Region.wanted o (yielded ops a.tmps) = true by simp [Region.wanted, hgd])]
  exact wp_mark w s x ho base v n f hs hown hn gb b x0 x1 y0 y1 hx c0 c1 c2 c3 c4 hbase h
theorem wpList_mark {ops : Array Oper} {rest : List Oper} (w : World) {o : Oper} {a : Act} {Q : Exit → Act → World → Prop} (hgd : o.guard = none) (s x : Operand) (ho : o.op = .call { callee := .builtin .append, args := #[s, x], argTypes := #[101, 101] })
    (base : Nat) (v : Value) (n : Nat) (f : Nat → Int × Int × Int × Int × Int) (hs : a.eval s = v) (hown : w.ownsRow base 109 5 v n (markCells f n)) (hn : n ≤ 1000) (gb : Nat) (b x0 x1 y0 y1 : Int) (hx : a.eval x = .slice (some ⟨gb, 0, none⟩) 1 1)
    (c0 : w.cell? ⟨gb, 0, none⟩ = some (.int .i64 b)) (c1 : w.cell? ⟨gb, 1, none⟩ = some (.int .i64 x0)) (c2 : w.cell? ⟨gb, 2, none⟩ = some (.int .i64 x1)) (c3 : w.cell? ⟨gb, 3, none⟩ = some (.int .i64 y0)) (c4 : w.cell? ⟨gb, 4, none⟩ = some (.int .i64 y1)) (hbase : base ≤ w.heap.size)
    (h : ∀ g c w', w'.ownsRow base 109 5 (.slice (some ⟨g, 0, none⟩) (n + 1) c) (n + 1) (markCells (fun i => if i = n then (b, x0, x1, y0, y1) else f i) (n + 1)) → Below base w w' → wpList Tryz.prog ops Q rest (a.put o.dst (.slice (some ⟨g, 0, none⟩) (n + 1) c)) w') :
    wpList Tryz.prog ops Q (o :: rest) a w :=
  wpList_plain hgd fun _ hK => wp_mark w s x ho base v n f hs hown hn gb b x0 x1 y0 y1 hx c0 c1 c2 c3 c4 hbase fun g c w' h2 h3 => hK _ _ (h g c w' h2 h3)
set_option maxRecDepth 100000 in
set_option maxHeartbeats 2000000 in
theorem rwith_any (la : Option Addr) (n lc : Nat) (f : Nat → Int × Int × Int × Int × Int) (k0 x0 x1 y0 y1 k : Int) (w : World) (hl : MkSl w (.slice la n lc) n f) (hn : n ≤ 1000) :
    Calls Tryz.prog 57 #[.slice la n lc, .agg #[.int .i64 k0, .int .i64 x0, .int .i64 x1, .int .i64 y0, .int .i64 y1], .int .i64 k] w fun e w' => ∃ v, e = .returned v ∧ MkSl w' v (n + 1) (fun i => if i = n then (k, x0, x1, y0, y1) else f i) ∧ Below w.heap.size w w' := by
  have hA0 : AAt ((w.alloc (Obj.cells #[.int .i64 k0, .int .i64 x0, .int .i64 x1, .int .i64 y0, .int .i64 y1] 109)).setCell ⟨w.heap.size, 0, none⟩ (.int .i64 k)) w.heap.size k x0 x1 y0 (.int .i64 y1) := (AAt.new w _ k0 x0 x1 y0 (.int .i64 y1)).set0 k
  have hB0 : Below w.heap.size w ((w.alloc (Obj.cells #[.int .i64 k0, .int .i64 x0, .int .i64 x1, .int .i64 y0, .int .i64 y1] 109)).setCell ⟨w.heap.size, 0, none⟩ (.int .i64 k)) := ((Below.refl _ _).alloc (Nat.le_refl _) _).setCell (p := ⟨w.heap.size, 0, none⟩) (Nat.le_refl _) _
  have hlt0 : w.heap.size < ((w.alloc (Obj.cells #[.int .i64 k0, .int .i64 x0, .int .i64 x1, .int .i64 y0, .int .i64 y1] 109)).setCell ⟨w.heap.size, 0, none⟩ (.int .i64 k)).heap.size := by rw [World.size_setCell, World.size_alloc]; omega
  obtain ⟨W0, hW0⟩ : ∃ W0, (w.alloc (Obj.cells #[.int .i64 k0, .int .i64 x0, .int .i64 x1, .int .i64 y0, .int .i64 y1] 109)).setCell ⟨w.heap.size, 0, none⟩ (.int .i64 k) = W0 := ⟨_, rfl⟩
  rw [hW0] at hA0 hB0 hlt0
  go_enter Tryz.func57, Tryz.ntmps57
  go_wp2_with fail
  refine wp_region_late [] (fun w9 => Below w.heap.size w w9 ∧ AAt w9 w.heap.size k x0 x1 y0 (.int .i64 y1) ∧ w.heap.size < w9.heap.size) (fun w9 => True) (by kernel_rfl) ?_ (fun hHeld => ?_)
  · (exact ⟨⟨hB0.drew, hA0.below (Below.refl _ _).drew hlt0, hlt0⟩, trivial⟩)
  generalize W0.drew = V at hHeld ⊢
  refine tk0 0 ?_ rfl (Or.inl ⟨by rfl, ?_⟩) hHeld ?_
  rotate_left 1
  · ((intro w9 hSw; clear hSw; go_simp) <;> with_reducible rfl)
  (try simp only [Act.put, pA, pZ, pS])
  refine tk0 2 ?_ rfl (Or.inl ⟨by rfl, ?_⟩) hHeld ?_
  rotate_left 1
  · ((intro w9 hSw; have z0 := hSw.2.1.k0; have z1 := hSw.2.1.k1; have z2 := hSw.2.1.k2; have z3 := hSw.2.1.k3; have z4 := hSw.2.1.k4; clear hSw; go_simp) <;> with_reducible rfl)
  (try simp only [Act.put, pA, pZ, pS])
  refine wpAnyP_ready (rs := [1, 3]) (by kernel_rfl) (by simp) ?_
  refine AllReadyP.cons (o := _) rfl (fun K hK => ?_) (AllReadyP.cons (o := _) rfl (fun K hK => ?_) AllReadyP.nil)
  · refine step_marks _ rfl _ _ rfl rfl la n lc f rfl (hl.below hHeld.1.1) hn ?_
    intro v1 w1 hr1 hb1
    have hz1 := hHeld.1.1.size
    have hr2 := hr1.mono (base' := w.heap.size + 1) (by first | exact Nat.le_of_lt hHeld.1.2.2 | exact hHeld.1.2.2)
    refine hK.out _ _ ?_ (fun hHeld => ?_)
    · (exact ⟨⟨hHeld.1.1.trans (hb1.mono hHeld.1.1.size), hHeld.1.2.1.below hb1 hHeld.1.2.2, Nat.lt_of_lt_of_le hHeld.1.2.2 hb1.size⟩, trivial⟩)
    clear hK K
    (try simp only [Act.put, pA, pZ, pS])
    refine wpAnyP_ready (rs := [3]) (by kernel_rfl) (by simp) ?_
    refine AllReadyP.cons (o := _) rfl (fun K hK => ?_) AllReadyP.nil
    · go_simp
      have hn5 := AAt.new w1 109 k x0 x1 y0 (.int .i64 y1)
      replace hr2 := ownsRow_below hr2 ((Below.refl w1.heap.size w1).alloc (Nat.le_refl _) (Obj.cells #[.int .i64 k, .int .i64 x0, .int .i64 x1, .int .i64 y0, .int .i64 y1] 109))
      refine hK.out _ _ ?_ (fun hHeld => ?_)
      · (exact ⟨⟨hHeld.1.1.alloc hHeld.1.1.size _, hHeld.1.2.1.below ((Below.refl _ _).alloc (Nat.le_refl _) _) hHeld.1.2.2, by rw [World.size_alloc]; have := hHeld.1.2.2; omega⟩, trivial⟩)
      clear hK K
      (try simp only [Act.put, pA, pZ, pS])
      refine wpAnyP_ready (rs := [4]) (by kernel_rfl) (by simp) ?_
      refine AllReadyP.cons (o := _) rfl (fun K hK => ?_) AllReadyP.nil
      · refine step_mark _ rfl _ _ rfl (w.heap.size + 1) v1 n f rfl hr2 hn _ k x0 x1 y0 y1 rfl hn5.k0 hn5.k1 hn5.k2 hn5.k3 hn5.k4 hHeld.1.2.2 ?_
        intro g c w3 hr3 hb3
        refine hK.out _ _ ?_ (fun hHeld => ?_)
        · (exact ⟨⟨hHeld.1.1.trans (hb3.mono (Nat.le_succ _)), hHeld.1.2.1.below hb3 (Nat.lt_succ_self _), Nat.lt_of_lt_of_le hHeld.1.2.2 hb3.size⟩, trivial⟩)
        clear hK K
        (try simp only [Act.put, pA, pZ, pS])
        refine tk0 5 ?_ rfl (Or.inl ⟨by rfl, ?_⟩) hHeld ?_
        rotate_left 1
        · ((intro w9 hSw; clear hSw; go_simp) <;> with_reducible rfl)
        (try simp only [Act.put, pA, pZ, pS])
        refine wpAnyP_done (by kernel_rfl) ?_ _
        (try simp only [Act.put, List.getElem_toArray, List.getElem_cons_zero, List.getElem_cons_succ, pA, pZ, pS])
        have hO9 := hHeld.1.1
        clear hHeld
        go_wp2
        go_ret
        exact ⟨_, rfl, own_marks hr3, hO9⟩
  · go_simp
    have hn5 := AAt.new V 109 k x0 x1 y0 (.int .i64 y1)
    refine hK.out _ _ ?_ (fun hHeld => ?_)
    · (exact ⟨⟨hHeld.1.1.alloc hHeld.1.1.size _, hHeld.1.2.1.below ((Below.refl _ _).alloc (Nat.le_refl _) _) hHeld.1.2.2, by rw [World.size_alloc]; have := hHeld.1.2.2; omega⟩, trivial⟩)
    clear hK K
    (try simp only [Act.put, pA, pZ, pS])
    refine wpAnyP_ready (rs := [1]) (by kernel_rfl) (by simp) ?_
    refine AllReadyP.cons (o := _) rfl (fun K hK => ?_) AllReadyP.nil
    · refine step_marks _ rfl _ _ rfl rfl la n lc f rfl (hl.below hHeld.1.1) hn ?_
      intro v1 w1 hr1 hb1
      have hz1 := hHeld.1.1.size
      have hr2 := hr1.mono (base' := w.heap.size + 1) (by first | exact Nat.le_of_lt hHeld.1.2.2 | exact hHeld.1.2.2)
      replace hn5 := hn5.below hb1 (by rw [World.size_alloc]; omega)
      refine hK.out _ _ ?_ (fun hHeld => ?_)
      · (exact ⟨⟨hHeld.1.1.trans (hb1.mono hHeld.1.1.size), hHeld.1.2.1.below hb1 hHeld.1.2.2, Nat.lt_of_lt_of_le hHeld.1.2.2 hb1.size⟩, trivial⟩)
      clear hK K
      (try simp only [Act.put, pA, pZ, pS])
      refine wpAnyP_ready (rs := [4]) (by kernel_rfl) (by simp) ?_
      refine AllReadyP.cons (o := _) rfl (fun K hK => ?_) AllReadyP.nil
      · refine step_mark _ rfl _ _ rfl (w.heap.size + 1) v1 n f rfl hr2 hn _ k x0 x1 y0 y1 rfl hn5.k0 hn5.k1 hn5.k2 hn5.k3 hn5.k4 hHeld.1.2.2 ?_
        intro g c w3 hr3 hb3
        refine hK.out _ _ ?_ (fun hHeld => ?_)
        · (exact ⟨⟨hHeld.1.1.trans (hb3.mono (Nat.le_succ _)), hHeld.1.2.1.below hb3 (Nat.lt_succ_self _), Nat.lt_of_lt_of_le hHeld.1.2.2 hb3.size⟩, trivial⟩)
        clear hK K
        (try simp only [Act.put, pA, pZ, pS])
        refine tk0 5 ?_ rfl (Or.inl ⟨by rfl, ?_⟩) hHeld ?_
        rotate_left 1
        · ((intro w9 hSw; clear hSw; go_simp) <;> with_reducible rfl)
        (try simp only [Act.put, pA, pZ, pS])
        refine wpAnyP_done (by kernel_rfl) ?_ _
        (try simp only [Act.put, List.getElem_toArray, List.getElem_cons_zero, List.getElem_cons_succ, pA, pZ, pS])
        have hO9 := hHeld.1.1
        clear hHeld
        go_wp2
        go_ret
        exact ⟨_, rfl, own_marks hr3, hO9⟩
end Go.Proofs.YtbgjocgjmjkneaaGreatDoor
namespace Go.Proofs.YtbgjocgjmjkneaaGreatDoor
theorem nar_mono {k : Int} {cl : Nat → Int × Int × Int} {s t : Int × Int} (h : s.1 ≤ t.1 ∧ t.2 ≤ s.2) : ∀ n, (nar k cl n s).1 ≤ (nar k cl n t).1 ∧ (nar k cl n t).2 ≤ (nar k cl n s).2
  | 0 => h
  | n+1 => by
    have := nar_mono (k := k) (cl := cl) h n
    unfold nar
    split
    · dsimp only; omega
    · exact this
theorem nar_more (k : Int) (cl : Nat → Int × Int × Int) (s : Int × Int) (n : Nat) : ∀ d, (nar k cl n s).1 ≤ (nar k cl (n + d) s).1 ∧ (nar k cl (n + d) s).2 ≤ (nar k cl n s).2
  | 0 => ⟨Int.le_refl _, Int.le_refl _⟩
  | d+1 => by
    have := nar_more k cl s n d
    rw [show n + (d + 1) = (n + d) + 1 by omega]
    conv => lhs; rhs; unfold nar
    conv => rhs; lhs; unfold nar
    split
    · dsimp only; omega
    · exact this
theorem nar_congr {k : Int} {cl cl' : Nat → Int × Int × Int} {s : Int × Int} : ∀ {n : Nat}, (∀ i, i < n → cl' i = cl i) → nar k cl' n s = nar k cl n s
  | 0, _ => rfl
  | n+1, h => by
    have h1 := nar_congr (k := k) (s := s) (n := n) fun i hi => h i (by omega)
    have h2 := h n (by omega)
    unfold nar
    rw [h1, h2]
/-- more is known of the second axis. -/
structure Axis.Less (a b : Axis) : Prop where
  c0 : a.c0 ≤ b.c0
  c1 : b.c1 ≤ a.c1
  w0 : a.w0 ≤ b.w0
  w1 : b.w1 ≤ a.w1
  n : a.n ≤ b.n
  cl : ∀ i, i < a.n → b.cl i = a.cl i
theorem Axis.Less.nar {a b : Axis} (h : a.Less b) {k : Int} {s t : Int × Int} (hs : s.1 ≤ t.1 ∧ t.2 ≤ s.2) : (nar k a.cl a.n s).1 ≤ (nar k b.cl b.n t).1 ∧ (nar k b.cl b.n t).2 ≤ (nar k a.cl a.n s).2 := by
  have h1 := nar_mono (k := k) (cl := a.cl) hs a.n
  have h2 := nar_more k b.cl t a.n (b.n - a.n)
  rw [show a.n + (b.n - a.n) = b.n by have := h.n; omega, nar_congr h.cl] at h2
  omega
theorem Axis.Less.fwd {a b : Axis} (h : a.Less b) : ∀ k, (a.fwd k).1 ≤ (b.fwd k).1 ∧ (b.fwd k).2 ≤ (a.fwd k).2
  | 0 => by unfold Axis.fwd; exact h.nar ⟨h.c0, h.c1⟩
  | k+1 => by
    have := h.fwd k
    have h1 := h.w0
    have h2 := h.w1
    unfold Axis.fwd
    exact h.nar ⟨by dsimp only; omega, by dsimp only; omega⟩
theorem Axis.Less.bwd {a b : Axis} (h : a.Less b) : ∀ j, (a.bwd j).1 ≤ (b.bwd j).1 ∧ (b.bwd j).2 ≤ (a.bwd j).2
  | 0 => h.fwd 12
  | j+1 => by
    have h0 := h.bwd j
    have h3 := h.fwd (11 - j)
    have h1 := h.w0
    have h2 := h.w1
    unfold Axis.bwd
    dsimp only; omega
theorem Axis.Less.ends {a b : Axis} (h : a.Less b) (k : Nat) : (a.ends k).1 ≤ (b.ends k).1 ∧ (b.ends k).2 ≤ (a.ends k).2 := h.bwd _
end Go.Proofs.YtbgjocgjmjkneaaGreatDoor
namespace Go.Proofs.YtbgjocgjmjkneaaGreatDoor
open Go.RowKit
/-! ### A value between the ends is a truth's, and one clue more -/
theorem Axis.at_truth {a : Axis} (h : a.fine) (hc : a.can) {k : Nat} (hk : k ≤ 12) {v : Int} (h1 : (a.ends k).1 ≤ v) (h2 : v ≤ (a.ends k).2) : ∃ x, a.truth x ∧ x k = v := by
  have hL := Axis.low_truth h hc
  have hH := Axis.high_truth h hc
  have hle := fun j => Axis.ends_can h hc j
  refine ⟨fun j => min (a.ends j).2 ((a.ends j).1 + (v - (a.ends k).1)), ⟨?_, fun j hj => ?_, fun i hi => ?_⟩, ?_⟩
  · have c1 := hL.chuck
    have c2 := hH.chuck
    have c3 := hle 0
    (try dsimp only at *); omega
  · have c1 := hL.wear j hj
    have c2 := hH.wear j hj
    (try dsimp only at *); omega
  · have c1 := hL.clue i hi
    have c2 := hH.clue i hi
    have c3 := hle (a.cl i).1.toNat
    (try dsimp only at *); omega
  · have := hle k
    dsimp only; omega
theorem Axis.can_truth {a : Axis} (h : a.fine) : a.can ↔ ∃ x, a.truth x := ⟨fun hc => ⟨_, Axis.low_truth h hc⟩, fun ⟨_, ht⟩ => Axis.can_of h ht⟩
/-- an axis with one clue more. -/
structure Axis.Plus (a b : Axis) (k : Nat) (lo hi : Int) : Prop where
  c0 : b.c0 = a.c0
  c1 : b.c1 = a.c1
  w0 : b.w0 = a.w0
  w1 : b.w1 = a.w1
  n : b.n = a.n + 1
  old : ∀ i, i < a.n → b.cl i = a.cl i
  new : b.cl a.n = ((k : Int), lo, hi)
theorem Axis.Plus.truth {a b : Axis} {k : Nat} {lo hi : Int} (h : a.Plus b k lo hi) (x : Nat → Int) : b.truth x ↔ a.truth x ∧ lo ≤ x k ∧ x k ≤ hi := by
  constructor
  · intro t
    refine ⟨⟨?_, fun j hj => ?_, fun i hi => ?_⟩, ?_⟩
    · have := t.chuck; rw [h.c0, h.c1] at this; exact this
    · have := t.wear j hj; rw [h.w0, h.w1] at this; exact this
    · have := t.clue i (by rw [h.n]; omega); rw [h.old i hi] at this; exact this
    · have := t.clue a.n (by rw [h.n]; omega); rw [h.new] at this; simpa using this
  · rintro ⟨t, hk⟩
    refine ⟨?_, fun j hj => ?_, fun i hi => ?_⟩
    · rw [h.c0, h.c1]; exact t.chuck
    · rw [h.w0, h.w1]; exact t.wear j hj
    · rw [h.n] at hi
      by_cases he : i = a.n
      · subst he; rw [h.new]; simpa using hk
      · rw [h.old i (by omega)]; exact t.clue i (by omega)
theorem Axis.Plus.fine {a b : Axis} {k : Nat} {lo hi : Int} (h : a.Plus b k lo hi) (hf : a.fine) (hn : a.n ≤ 7) (hk : k ≤ 12) (h1 : -110 ≤ lo ∧ lo ≤ 110) (h2 : -110 ≤ hi ∧ hi ≤ 110) : b.fine := by
  refine ⟨by rw [h.c0, h.c1]; exact hf.c, by rw [h.w0, h.w1]; exact hf.w, by rw [h.n]; omega, fun i hi => ?_⟩
  rw [h.n] at hi
  by_cases he : i = a.n
  · subst he; rw [h.new]; dsimp only; omega
  · rw [h.old i (by omega)]; exact hf.cl i (by omega)
/-- it is possible just if the clue has a value between the ends. -/
theorem Axis.Plus.can {a b : Axis} {k : Nat} {lo hi : Int} (h : a.Plus b k lo hi) (hf : a.fine) (hb : b.fine) (hc : a.can) (hk : k ≤ 12) : b.can ↔ ∃ v, (a.ends k).1 ≤ v ∧ v ≤ (a.ends k).2 ∧ lo ≤ v ∧ v ≤ hi := by
  rw [Axis.can_truth hb]
  constructor
  · rintro ⟨x, hx⟩
    obtain ⟨t, g⟩ := (h.truth x).1 hx
    have := Axis.ends_in hf t k hk
    exact ⟨x k, this.1, this.2, g⟩
  · rintro ⟨v, v1, v2, v3, v4⟩
    obtain ⟨x, t, rfl⟩ := Axis.at_truth hf hc hk v1 v2
    exact ⟨x, (h.truth x).2 ⟨t, v3, v4⟩⟩
/-! ### The boxes of a button -/
/-- what one point of a button leaves of a box. -/
def cutB (r : Int) (s p : Int × Int) (b : Int × Int × Int × Int) : Int × Int × Int × Int :=
  (max b.1 (p.1 - s.1 - r), min b.2.1 (p.1 - s.1 + r), max b.2.2.1 (p.2 - s.2 - r), min b.2.2.2 (p.2 - s.2 + r))
/-- the box of a turn and an order, by the first points. -/
def boxB (SX SY HX HY : Nat → Int) (r : Int) (t : Nat) (q : List Nat) : Nat → Int × Int × Int × Int
  | 0 => (-1000, 1000, -1000, 1000)
  | i+1 => cutB r (SX i, SY i) (trn t (HX (q.getD i 0), HY (q.getD i 0))) (boxB SX SY HX HY r t q i)
def boxHas (b : Int × Int × Int × Int) (x y : Int) : Prop := b.1 ≤ x ∧ x ≤ b.2.1 ∧ b.2.2.1 ≤ y ∧ y ≤ b.2.2.2
theorem boxB_has {SX SY HX HY : Nat → Int} {r : Int} {t : Nat} {q : List Nat} {x y : Int} (hx : -1000 ≤ x ∧ x ≤ 1000) (hy : -1000 ≤ y ∧ y ≤ 1000) : ∀ n, boxHas (boxB SX SY HX HY r t q n) x y ↔ ∀ i, i < n → fitB (fun i => SX i + x) (fun i => SY i + y) HX HY r t i (q.getD i 0) = true
  | 0 => ⟨fun _ i h => absurd h (Nat.not_lt_zero i), fun _ => ⟨hx.1, hx.2, hy.1, hy.2⟩⟩
  | n+1 => by
    have ih := boxB_has (SX := SX) (SY := SY) (HX := HX) (HY := HY) (r := r) (t := t) (q := q) hx hy n
    have key : boxHas (boxB SX SY HX HY r t q (n+1)) x y ↔ boxHas (boxB SX SY HX HY r t q n) x y ∧ fitB (fun i => SX i + x) (fun i => SY i + y) HX HY r t n (q.getD n 0) = true := by
      unfold fitB nearB
      rw [Bool.and_eq_true, inB_iff, inB_iff]
      conv => lhs; unfold boxB cutB
      unfold boxHas
      dsimp only
      generalize (trn t (HX (q.getD n 0), HY (q.getD n 0))).1 = p
      generalize (trn t (HX (q.getD n 0), HY (q.getD n 0))).2 = p'
      omega
    rw [key, ih]
    constructor
    · rintro ⟨h1, h2⟩ i hi
      by_cases he : i = n
      · subst he; exact h2
      · exact h1 i (by omega)
    · intro h
      exact ⟨fun i hi => h i (by omega), h n (by omega)⟩
theorem boxB_bound {SX SY HX HY : Nat → Int} {r : Int} {t : Nat} {q : List Nat} {m : Nat} (hr : 0 ≤ r ∧ r ≤ 4) (hS : ∀ i, i < m → (-20 ≤ SX i ∧ SX i ≤ 20) ∧ (-20 ≤ SY i ∧ SY i ≤ 20)) (hH : ∀ i, i < m → small (HX (q.getD i 0), HY (q.getD i 0))) :
    ∀ n, n ≤ m → 1 ≤ n → (-104 ≤ (boxB SX SY HX HY r t q n).1 ∧ (boxB SX SY HX HY r t q n).1 ≤ 100) ∧ (-100 ≤ (boxB SX SY HX HY r t q n).2.1 ∧ (boxB SX SY HX HY r t q n).2.1 ≤ 104) ∧ (-104 ≤ (boxB SX SY HX HY r t q n).2.2.1 ∧ (boxB SX SY HX HY r t q n).2.2.1 ≤ 100) ∧ (-100 ≤ (boxB SX SY HX HY r t q n).2.2.2 ∧ (boxB SX SY HX HY r t q n).2.2.2 ≤ 104)
  | 0, _, h => by omega
  | n+1, hn, _ => by
    obtain ⟨⟨a1, a2⟩, a3, a4⟩ := hS n (by omega)
    obtain ⟨⟨b1, b2⟩, b3, b4⟩ := trn_small (t := t) (hH n (by omega))
    have hp : (-1000 ≤ (boxB SX SY HX HY r t q n).1 ∧ (boxB SX SY HX HY r t q n).1 ≤ 100) ∧ (-100 ≤ (boxB SX SY HX HY r t q n).2.1 ∧ (boxB SX SY HX HY r t q n).2.1 ≤ 1000) ∧ (-1000 ≤ (boxB SX SY HX HY r t q n).2.2.1 ∧ (boxB SX SY HX HY r t q n).2.2.1 ≤ 100) ∧ (-100 ≤ (boxB SX SY HX HY r t q n).2.2.2 ∧ (boxB SX SY HX HY r t q n).2.2.2 ≤ 1000) := by
      by_cases h0 : n = 0
      · subst h0; unfold boxB; dsimp only; omega
      · have := boxB_bound (t := t) (q := q) hr hS hH n (by omega) (by omega); omega
    conv => unfold boxB cutB
    dsimp only
    generalize (trn t (HX (q.getD n 0), HY (q.getD n 0))).1 = p at *
    generalize (trn t (HX (q.getD n 0), HY (q.getD n 0))).2 = p' at *
    omega
/-- a button agrees just if a box of a turn and an order has the point. -/
theorem agree_box {n : Nat} {HX HY SX SY : Nat → Int} {r x y : Int} (hx : -1000 ≤ x ∧ x ≤ 1000) (hy : -1000 ≤ y ∧ y ≤ 1000) : agreeB n HX HY SX SY r x y = true ↔ ∃ t, t < 8 ∧ ∃ q ∈ ords n, boxHas (boxB SX SY HX HY r t q n) x y := by
  constructor
  · intro h
    false_or_by_contra
    rename_i hno
    have : matchS n (fun i => SX i + x) (fun i => SY i + y) HX HY r = none := matchS_none.2 fun t ht q hq => by
      cases hg : agQ (fitB (fun i => SX i + x) (fun i => SY i + y) HX HY r t) n q with
      | false => rfl
      | true =>
        refine absurd ⟨t, ht, q, hq, (boxB_has hx hy n).2 ?_⟩ hno
        unfold agQ at hg
        exact decide_eq_true_iff.1 hg
    unfold agreeB at h
    rw [this] at h; cases h
  · rintro ⟨t, ht, q, hq, hb⟩
    unfold agreeB
    cases hs : matchS n (fun i => SX i + x) (fun i => SY i + y) HX HY r with
    | some z => rfl
    | none =>
      have h1 := matchS_none.1 hs t ht q hq
      rw [show agQ (fitB (fun i => SX i + x) (fun i => SY i + y) HX HY r t) n q = true by unfold agQ; exact decide_eq_true ((boxB_has hx hy n).1 hb)] at h1
      cases h1
end Go.Proofs.YtbgjocgjmjkneaaGreatDoor
namespace Go.Proofs.YtbgjocgjmjkneaaGreatDoor
open Go.RowKit
end Go.Proofs.YtbgjocgjmjkneaaGreatDoor
