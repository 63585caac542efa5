/- A part of the proof: see the last file. -/
import Derived.Test.YtlhgkepdoinlnaaGreatDoorPah
set_option linter.unusedVariables false
set_option linter.unusedSimpArgs false
set_option linter.unusedSectionVars false
namespace Go.Proofs.YtlhgkepdoinlnaaGreatDoor
open Go.RowKit Go.Gen Go.Drum
/-- the reference's blocks: the drum's, the truth's, the acid's. -/
structure YX (w : World) (d : Drm) (t : Tru) (i : Nat) (W : World) : Prop where
  t : PoT w d t W
  a0 : W.cell? ⟨w.heap.size + 1 + 1, 0, none⟩ = some (.int .i64 (d.A i 0))
  a1 : W.cell? ⟨w.heap.size + 1 + 1, 1, none⟩ = some (.int .i64 (d.A i 1))
  a2 : W.cell? ⟨w.heap.size + 1 + 1, 2, none⟩ = some (.int .i64 (d.A i 2))
  a3 : W.cell? ⟨w.heap.size + 1 + 1, 3, none⟩ = some (.int .i64 (d.A i 3))
  lt : w.heap.size + 1 + 1 < W.heap.size
theorem YX.below {w : World} {d : Drm} {t : Tru} {i : Nat} {W W' : World} (h : YX w d t i W) (hb : Below W.heap.size W W') : YX w d t i W' := by
  have hl := h.lt
  exact ⟨h.t.below hb, (hb.cell (p := ⟨w.heap.size + 1 + 1, 0, none⟩) hl).trans h.a0, (hb.cell (p := ⟨w.heap.size + 1 + 1, 1, none⟩) hl).trans h.a1, (hb.cell (p := ⟨w.heap.size + 1 + 1, 2, none⟩) hl).trans h.a2, (hb.cell (p := ⟨w.heap.size + 1 + 1, 3, none⟩) hl).trans h.a3, Nat.lt_of_lt_of_le hl hb.size⟩
theorem YX.drew {w : World} {d : Drm} {t : Tru} {i : Nat} {W : World} (h : YX w d t i W) : YX w d t i W.drew := h.below (Below.refl _ _).drew
theorem YX.alloc {w : World} {d : Drm} {t : Tru} {i : Nat} {W : World} (h : YX w d t i W) (o : Obj) : YX w d t i (W.alloc o) := h.below ((Below.refl _ _).alloc (Nat.le_refl _) o)
/-- a span's block beside. -/
structure YXS (w : World) (d : Drm) (t : Tru) (i : Nat) (Z : Nat) (s0 s1 : Int) (W : World) : Prop where
  x : YX w d t i W
  s : Two W Z s0 s1
  lz : Z < W.heap.size
  zl : w.heap.size + 1 + 1 < Z
theorem YXS.below {w : World} {d : Drm} {t : Tru} {i Z : Nat} {s0 s1 : Int} {W W' : World} (h : YXS w d t i Z s0 s1 W) (hb : Below W.heap.size W W') : YXS w d t i Z s0 s1 W' :=
  ⟨h.x.below hb, h.s.below hb h.lz, Nat.lt_of_lt_of_le h.lz hb.size, h.zl⟩
theorem YXS.drew {w : World} {d : Drm} {t : Tru} {i Z : Nat} {s0 s1 : Int} {W : World} (h : YXS w d t i Z s0 s1 W) : YXS w d t i Z s0 s1 W.drew := h.below (Below.refl _ _).drew
theorem YX.far {w : World} {d : Drm} {t : Tru} {i : Nat} {W W' : World} {Z : Nat} (h : YX w d t i W) (hz : w.heap.size + 1 + 1 < Z) (hb : Below Z W W') (hs : W.heap.size ≤ W'.heap.size) : YX w d t i W' :=
  ⟨⟨⟨h.t.d.at'.below hb (by omega), h.t.d.old.trans (hb.mono (by omega)), Nat.lt_of_lt_of_le h.t.d.lt hs⟩, (hb.cell (p := ⟨w.heap.size + 1, 0, none⟩) (by show w.heap.size + 1 < _; omega)).trans h.t.k0, (hb.cell (p := ⟨w.heap.size + 1, 1, none⟩) (by show w.heap.size + 1 < _; omega)).trans h.t.k1, Nat.lt_of_lt_of_le h.t.lt hs⟩,
   (hb.cell (p := ⟨w.heap.size + 1 + 1, 0, none⟩) hz).trans h.a0, (hb.cell (p := ⟨w.heap.size + 1 + 1, 1, none⟩) hz).trans h.a1, (hb.cell (p := ⟨w.heap.size + 1 + 1, 2, none⟩) hz).trans h.a2, (hb.cell (p := ⟨w.heap.size + 1 + 1, 3, none⟩) hz).trans h.a3, Nat.lt_of_lt_of_le h.lt hs⟩
theorem YXS.set {w : World} {d : Drm} {t : Tru} {i Z : Nat} {s0 s1 : Int} {W : World} (h : YXS w d t i Z s0 s1 W) (u0 u1 : Int) :
    YXS w d t i Z u0 u1 ((W.setCell ⟨Z, 0, none⟩ (.int .i64 u0)).setCell ⟨Z, 1, none⟩ (.int .i64 u1)) :=
  ⟨h.x.far h.zl (((Below.refl _ W).setCell (p := ⟨Z, 0, none⟩) (Nat.le_refl _) _).setCell (p := ⟨Z, 1, none⟩) (Nat.le_refl _) _) (by rw [World.size_setCell, World.size_setCell]; exact Nat.le_refl _), h.s.set01 u0 u1, by rw [World.size_setCell, World.size_setCell]; exact h.lz, h.zl⟩
structure YXT (w : World) (d : Drm) (t : Tru) (i : Nat) (T : Nat) (c0 c1 c2 : Int) (W : World) : Prop where
  x : YX w d t i W
  t0 : W.cell? ⟨T, 0, none⟩ = some (.int .i64 c0)
  t1 : W.cell? ⟨T, 1, none⟩ = some (.int .i64 c1)
  t2 : W.cell? ⟨T, 2, none⟩ = some (.int .i64 c2)
  tl : T < W.heap.size
theorem YXT.below {w : World} {d : Drm} {t : Tru} {i T : Nat} {c0 c1 c2 : Int} {W W' : World} (h : YXT w d t i T c0 c1 c2 W) (hb : Below W.heap.size W W') : YXT w d t i T c0 c1 c2 W' :=
  ⟨h.x.below hb, (hb.cell (p := ⟨T, 0, none⟩) h.tl).trans h.t0, (hb.cell (p := ⟨T, 1, none⟩) h.tl).trans h.t1, (hb.cell (p := ⟨T, 2, none⟩) h.tl).trans h.t2, Nat.lt_of_lt_of_le h.tl hb.size⟩
theorem YXT.drew {w : World} {d : Drm} {t : Tru} {i T : Nat} {c0 c1 c2 : Int} {W : World} (h : YXT w d t i T c0 c1 c2 W) : YXT w d t i T c0 c1 c2 W.drew := h.below (Below.refl _ _).drew
/-- the reference's fitting. -/
def Drm.rfits (d : Drm) (i : Nat) (F : Nat → Nat → Int) : Prop := bitB d.known i = true ∧ (∀ j, j < d.dn → (d.acid i).inLim (fun k => F k 0) j) ∧ ∀ s, s < d.sn → inB (F (d.S s 0).toNat 0) (d.S s 1 - d.S s 2) (d.S s 1 + d.S s 2) = true
set_option maxRecDepth 100000 in
set_option maxHeartbeats 8000000 in
theorem rfits_says (d : Drm) (i : Nat) (ta : Option Addr) (tc : Nat) (F : Nat → Nat → Int) (w : World) (hd : DIn w d) (hl : d.Len) (hok : d.Ok) (hi : i < d.an) (hF : KSl 1 w (.slice ta d.dn tc) d.dn F) :
    Calls Tryz.prog 22 #[d.val, .agg #[.int .i64 i, .slice ta d.dn tc]] w (SaysB (d.rfits i F) w) := by
  obtain ⟨W0, hW⟩ : ∃ W0, w.alloc (.cells #[.slice d.aa d.an d.ac, .int .i64 d.known, .int .i64 d.hours, .slice d.da d.dn d.dc, .slice d.sa d.sn d.sc, .slice d.ba d.bn d.bc] 27) = W0 := ⟨_, rfl⟩
  have hX0 : PoD w d W0 := by rw [← hW]; exact PoD.new w d
  have hz : W0.heap.size = w.heap.size + 1 := by rw [← hW, World.size_alloc]
  obtain ⟨W1, hW1⟩ : ∃ W, W0.alloc (.cells #[.int .i64 i, .slice ta d.dn tc] 29) = W := ⟨_, rfl⟩
  have hX : PoT w d ⟨i, ta, d.dn, tc, F⟩ W1 := by rw [← hW1]; exact PoT.new w d ⟨i, ta, d.dn, tc, F⟩ hX0 hz
  have hz1 : W1.heap.size = w.heap.size + 1 + 1 := by rw [← hW1, World.size_alloc, hz]
  clear hX0
  obtain ⟨⟨⟨q0, q1, q2, q3, q4, q5⟩, _, _⟩, r0, r1, _⟩ := id hX
  (try dsimp only at r0 r1)
  obtain ⟨han1, han2⟩ := hok.acids
  have hkn := hok.known
  have h16 : d.known < 16 := by
    have := two_pow_le han2
    omega
  have hha := fun W => has_any d.known i (by omega) (by omega) W
  cases hbit : bitB d.known i with
  | false =>
    rw [hbit] at hha
    have hno : Hdn (¬ d.rfits i F) := ⟨fun h => by have := h.1; rw [hbit] at this; cases this⟩
    go_enter Tryz.func22, Tryz.ntmps22
    go_wp2_with (go_at_call 28; (with_reducible refine (hha _).mono ?_); rintro e w1 ⟨rfl, rfl⟩)
    go_ret
    exact SaysB.no hno.out hX.d.old
  | true =>
    rw [hbit] at hha
    have hbit' : Hdn (bitB d.known i = true) := ⟨hbit⟩
    clear hbit
    obtain ⟨⟨x0, x1, x2⟩, x3, x4, x5⟩ := hok.acid' hi
    obtain ⟨b, off, cap, e, hbl, hp⟩ := hd.acids.pos (by omega)
    obtain ⟨ea, ec⟩ : d.aa = some ⟨b, off, none⟩ ∧ d.ac = cap := by injection e with e1 e2 e3; exact ⟨e1, e3⟩
    clear e
    have hp1 := hp.below hX.d.old hbl
    have e0 := hp1.first hi (by decide)
    have e1 := hp1 i hi 1 (by decide)
    have e2 := hp1 i hi 2 (by decide)
    have e3 := hp1 i hi 3 (by decide)
    clear hp1 hp
    have hhr : Hdn ((d.dn : Int) = d.hours) := ⟨hok.adds⟩
    have hh12 := hok.hours
    obtain ⟨ba, oa, ca, ea', hba, hpa⟩ := hd.adds.pos (by have := hhr.out; omega)
    obtain ⟨eda, edc⟩ : d.da = some ⟨ba, oa, none⟩ ∧ d.dc = ca := by injection ea' with e1 e2 e3; exact ⟨e1, e3⟩
    clear ea'
    rw [ea, ec, eda, edc] at hW
    obtain ⟨bt, ot, ct, et', hbt, hpt⟩ := hF.pos (by have := hhr.out; omega)
    obtain ⟨eta, etc⟩ : ta = some ⟨bt, ot, none⟩ ∧ tc = ct := by injection et' with e1 e2 e3; exact ⟨e1, e3⟩
    clear et'
    rw [eta, etc] at hW1
    have hadd0 : ∀ W, Below w.heap.size w W → W.cell? ⟨ba, oa, none⟩ = some (.int .i64 (d.D 0 0)) := fun W hB => by
      have := (hpa.below hB hba).one (i := 0) (by have := hhr.out; omega)
      rw [Nat.add_zero] at this
      exact this
    obtain ⟨W3, hW3⟩ : ∃ W, W1.alloc (Obj.cells #[.int .i64 (d.A i 0), .int .i64 (d.A i 1), .int .i64 (d.A i 2), .int .i64 (d.A i 3)] 106) = W := ⟨_, rfl⟩
    have hX3 : YX w d ⟨i, ta, d.dn, tc, F⟩ i W3 := by
      have hs3 : W3.heap.size = w.heap.size + 1 + 1 + 1 := by rw [← hW3, World.size_alloc, hz1]
      refine ⟨by rw [← hW3]; exact hX.below ((Below.refl _ _).alloc (Nat.le_refl _) _), ?_, ?_, ?_, ?_, by omega⟩
      all_goals
        rw [← hz1, ← hW3]
        exact cells_new W1 _ _ rfl
    go_enter Tryz.func22, Tryz.ntmps22
    go_wp2_with (go_at_call 28; (with_reducible refine (hha _).mono ?_); rintro e w1 ⟨rfl, rfl⟩)
    clear hha e0 e1 e2 e3
    have hdp : 0 < d.dn := by have := hhr.out; omega
    have hwa : Hdn (IntKind.i64.wrap (d.A i 0 + d.D 0 0) = d.A i 0 + d.D 0 0) := ⟨IntWalk.i64_in _ (by have := hok.add' (i := 0) (by have := hhr.out; omega); omega)⟩
    have hwb : Hdn (IntKind.i64.wrap (d.A i 1 + d.D 0 0) = d.A i 1 + d.D 0 0) := ⟨IntWalk.i64_in _ (by have := hok.add' (i := 0) (by have := hhr.out; omega); omega)⟩
    obtain ⟨g0, g1⟩ := hok.add' (i := 0) (by have := hhr.out; omega)
    obtain ⟨p0, p1, p2, p3, p4, p5⟩ := id hX3.t.d.at'
    go_loopw [6] (fun i' wr => ∃ k : Nat, k ≤ d.dn ∧ i' = .int .i64 k ∧ YX w d ⟨i, ta, d.dn, tc, F⟩ i wr ∧ Hdn (∀ j, j < k → (d.acid i).inLim (fun k => F k 0) j)) (fun i' _ => d.dn - (intOf i').toNat)
    case atStart => exact ⟨0, Nat.zero_le _, rfl, hX3, ⟨fun _ h => absurd h (Nat.not_lt_zero _)⟩⟩
    case round =>
      obtain ⟨k, hk, rfl, hXk, hall⟩ := hrel
      have hk0 : (0 : Int) ≤ (k : Int) := Int.natCast_nonneg _
      by_cases hlt : k < d.dn
      · have hy : (k : Int) < d.hours := by have := hhr.out; omega
        obtain ⟨m0, m1, m2, m3, m4, m5⟩ := id hXk.t.d.at'
        have haddk : ∀ W, Below w.heap.size w W → W.cell? ⟨ba, oa + k, none⟩ = some (.int .i64 (d.D k 0)) := fun W hB => (hpa.below hB hba).one hlt
        have htrk : ∀ W, Below w.heap.size w W → W.cell? ⟨bt, ot + k, none⟩ = some (.int .i64 (F k 0)) := fun W hB => (hpt.below hB hbt).one hlt
        go_wp2_with fail
        refine wp_region_late [18] (fun _ => True) (fun w9 => YX w d ⟨i, ta, d.dn, tc, F⟩ i w9) (by kernel_rfl) ?_ (fun hHeld => ?_)
        · exact ⟨trivial, hXk.drew⟩
        have hH := hHeld.2
        generalize wr.drew = V0 at hH hHeld ⊢
        have hT := Two.new V0 47 0 0
        have hV0 := hH
        refine tk1 0 rfl hHeld ?_
        refine tk1 1 rfl hHeld ?_
        refine tkT 2 1 rfl (waits_one [] (by kernel_rfl)) (by intro w9 hSw; have hS := hSw.2; clear hSw; (have z := hS.a0; clear hS; go_simp) <;> with_reducible rfl) hHeld ?_
        refine tk1 3 rfl hHeld ?_
        refine tkT 4 1 rfl (waits_one [] (by kernel_rfl)) (by intro w9 hSw; have hS := hSw.2; clear hSw; (have z := hS.t.d.at'.k3; clear hS; go_simp) <;> with_reducible rfl) hHeld ?_
        refine tk1 5 rfl hHeld ?_
        refine tkT 6 1 rfl (waits_one [] (by kernel_rfl)) (by intro w9 hSw; have hS := hSw.2; clear hSw; (have z := hadd0 w9 hS.t.d.old; clear hS; go_simp) <;> with_reducible rfl) hHeld ?_
        refine tk2 7 (v := .int .i64 (d.A i 0 + d.D 0 0)) rfl (by intro w9 hSw; have hS := hSw; clear hSw; have hq := hwa.out; clear hS; (go_simp) <;> with_reducible rfl) hHeld ?_
        refine tk1 8 rfl hHeld ?_
        refine tk1 9 rfl hHeld ?_
        refine tkT 10 1 rfl (waits_one [] (by kernel_rfl)) (by intro w9 hSw; have hS := hSw.2; clear hSw; (have z := hS.a1; clear hS; go_simp) <;> with_reducible rfl) hHeld ?_
        refine tk1 11 rfl hHeld ?_
        refine tkT 12 1 rfl (waits_one [] (by kernel_rfl)) (by intro w9 hSw; have hS := hSw.2; clear hSw; (have z := hS.t.d.at'.k3; clear hS; go_simp) <;> with_reducible rfl) hHeld ?_
        refine tk1 13 rfl hHeld ?_
        refine tkT 14 1 rfl (waits_one [] (by kernel_rfl)) (by intro w9 hSw; have hS := hSw.2; clear hSw; (have z := hadd0 w9 hS.t.d.old; clear hS; go_simp) <;> with_reducible rfl) hHeld ?_
        refine tk2 15 (v := .int .i64 (d.A i 1 + d.D 0 0)) rfl (by intro w9 hSw; have hS := hSw; clear hSw; have hq := hwb.out; clear hS; (go_simp) <;> with_reducible rfl) hHeld ?_
        refine tk1 16 rfl hHeld ?_
        refine rd1 17 rfl (fun K hK => ?_)
        go_simp
        refine hK.out _ _ ?_ (fun hHeld => ?_)
        · exact ⟨trivial, hH.alloc _⟩
        clear hK K hH
        have hH := hHeld.2
        (try simp only [Act.put, xpA, xpZ, xpS])
        refine rdL 18 rfl (fun K hK => ?_)
        have c0 := hT.k0
        have c1 := hT.k1
        have z0 := hT.f0
        have z1 := hT.f1
        go_simp
        clear c0 c1 z0 z1
        refine hK.out _ _ ?_ (fun _ => ?_)
        · trivial
        clear hK K
        (try simp only [Act.put, xpA, xpZ, xpS])
        refine wpAnyP_done (by kernel_rfl) ?_ _
        (try simp only [Act.put, List.getElem_toArray, List.getElem_cons_zero, List.getElem_cons_succ, xpA, xpZ, xpS])
        obtain ⟨V9, hV9⟩ : ∃ W, V0.alloc (Obj.cells #[.int .i64 (d.A i 0 + d.D 0 0), .int .i64 (d.A i 1 + d.D 0 0)] 47) = W := ⟨_, rfl⟩
        have hX9 : YXS w d ⟨i, ta, d.dn, tc, F⟩ i V0.heap.size (d.A i 0 + d.D 0 0) (d.A i 1 + d.D 0 0) V9 := by
          rw [← hV9]
          exact ⟨hV0.alloc _, Two.new _ _ _ _, by rw [World.size_alloc]; omega, hV0.lt⟩
        rw [hV9]
        clear hV9 hT hV0
        by_cases hk00 : k = 0
        · have hgt : ¬ (0 : Int) < (k : Int) := by omega
          have hlim : Hdn ((d.acid i).lim (fun k => F k 0) k = (d.A i 0 + d.D 0 0, d.A i 1 + d.D 0 0)) := ⟨by rw [hk00, Acid.lim_zero]; rfl⟩
          clear hk00
          have hin := fun W => in_any (F k 0) (d.A i 0 + d.D 0 0) (d.A i 1 + d.D 0 0) W
          cases hb : inB (F k 0) (d.A i 0 + d.D 0 0) (d.A i 1 + d.D 0 0) with
          | false =>
            rw [hb] at hin
            have hno : Hdn (¬ d.rfits i F) := ⟨fun h => by
              have := h.2.1 k hlt
              unfold Acid.inLim at this
              rw [hlim.out] at this
              rw [inB_yes this.1 this.2] at hb; cases hb⟩
            clear hb hlim
            go_wp2_with fail
            refine wp_region_late [] (fun w9 => YXS w d ⟨i, ta, d.dn, tc, F⟩ i V0.heap.size (d.A i 0 + d.D 0 0) (d.A i 1 + d.D 0 0) w9) (fun _ => True) (by kernel_rfl) ?_ (fun hHeld => ?_)
            · exact ⟨hX9.drew, trivial⟩
            have hH := hHeld.1
            generalize V9.drew = V3 at hH hHeld ⊢
            refine tk1 0 rfl hHeld ?_
            refine tk2 1 rfl (by intro w9 hSw; have hS := hSw; clear hSw; (have z := hS.x.t.k1; clear hS; go_simp) <;> with_reducible rfl) hHeld ?_
            refine tk1 2 rfl hHeld ?_
            refine tk1 3 rfl hHeld ?_
            refine tk2 4 rfl (by intro w9 hSw; have hS := hSw; clear hSw; (have z := htrk w9 hS.x.t.d.old; clear hS; go_simp) <;> with_reducible rfl) hHeld ?_
            refine tk1 5 rfl hHeld ?_
            refine tk2 6 rfl (by intro w9 hSw; have hS := hSw; clear hSw; (have z := hS.s.k0; clear hS; go_simp) <;> with_reducible rfl) hHeld ?_
            refine tk1 7 rfl hHeld ?_
            refine tk2 8 rfl (by intro w9 hSw; have hS := hSw; clear hSw; (have z := hS.s.k1; clear hS; go_simp) <;> with_reducible rfl) hHeld ?_
            refine rd1 9 rfl (fun K hK => ?_)
            go_simp
            (go_at_call 65; with_reducible refine (hin _).mono ?_; rintro e w1 ⟨rfl, rfl⟩)
            refine hK.out _ _ ?_ (fun hHeld => ?_)
            · exact ⟨hH, trivial⟩
            clear hK K hH
            have hH := hHeld.1
            (try simp only [Act.put, xpA, xpZ, xpS])
            refine tk1 10 rfl hHeld ?_
            refine wpAnyP_done (by kernel_rfl) ?_ _
            (try simp only [Act.put, List.getElem_toArray, List.getElem_cons_zero, List.getElem_cons_succ, xpA, xpZ, xpS])
            go_wp2
            go_ret
            exact SaysB.no hno.out hHeld.1.x.t.d.old
          | true =>
            rw [hb] at hin
            have hyes : Hdn ((d.acid i).inLim (fun k => F k 0) k) := ⟨by
              unfold Acid.inLim
              rw [hlim.out]
              exact inB_iff.1 hb⟩
            clear hb hlim
            go_wp2_with fail
            refine wp_region_late [] (fun w9 => YXS w d ⟨i, ta, d.dn, tc, F⟩ i V0.heap.size (d.A i 0 + d.D 0 0) (d.A i 1 + d.D 0 0) w9) (fun _ => True) (by kernel_rfl) ?_ (fun hHeld => ?_)
            · exact ⟨hX9.drew, trivial⟩
            have hH := hHeld.1
            generalize V9.drew = V3 at hH hHeld ⊢
            refine tk1 0 rfl hHeld ?_
            refine tk2 1 rfl (by intro w9 hSw; have hS := hSw; clear hSw; (have z := hS.x.t.k1; clear hS; go_simp) <;> with_reducible rfl) hHeld ?_
            refine tk1 2 rfl hHeld ?_
            refine tk1 3 rfl hHeld ?_
            refine tk2 4 rfl (by intro w9 hSw; have hS := hSw; clear hSw; (have z := htrk w9 hS.x.t.d.old; clear hS; go_simp) <;> with_reducible rfl) hHeld ?_
            refine tk1 5 rfl hHeld ?_
            refine tk2 6 rfl (by intro w9 hSw; have hS := hSw; clear hSw; (have z := hS.s.k0; clear hS; go_simp) <;> with_reducible rfl) hHeld ?_
            refine tk1 7 rfl hHeld ?_
            refine tk2 8 rfl (by intro w9 hSw; have hS := hSw; clear hSw; (have z := hS.s.k1; clear hS; go_simp) <;> with_reducible rfl) hHeld ?_
            refine rd1 9 rfl (fun K hK => ?_)
            go_simp
            (go_at_call 65; with_reducible refine (hin _).mono ?_; rintro e w1 ⟨rfl, rfl⟩)
            refine hK.out _ _ ?_ (fun hHeld => ?_)
            · exact ⟨hH, trivial⟩
            clear hK K hH
            have hH := hHeld.1
            (try simp only [Act.put, xpA, xpZ, xpS])
            refine tk1 10 rfl hHeld ?_
            refine wpAnyP_done (by kernel_rfl) ?_ _
            (try simp only [Act.put, List.getElem_toArray, List.getElem_cons_zero, List.getElem_cons_succ, xpA, xpZ, xpS])
            go_wp2
            go_roundw
            case rel => exact ⟨k + 1, by omega, by go_num, hHeld.1.x, ⟨all_succ (p := fun j => (d.acid i).inLim (fun k => F k 0) j) hall.out hyes.out⟩⟩
            case measure => simp [intOf]; omega

        · have hgt : (0 : Int) < (k : Int) := by omega
          obtain ⟨m, hm⟩ : ∃ m, k = m + 1 := ⟨k - 1, by omega⟩
          have hkm : Hdn (IntKind.i64.wrap ((k : Int) - 1) = m) := ⟨by rw [show (k : Int) - 1 = m by omega]; exact IntWalk.i64_in _ (by have := hhr.out; omega)⟩
          have hFm := Acid.lim_small (hok.small hi) m (by omega) (fun j hj => hall.out j (by omega))
          have hm12 : (m : Int) < 12 := by have := hhr.out; omega
          have haf := fun W => rafter_any (d.A i 0) (d.A i 1) (d.A i 2) (d.A i 3) (d.D k 0) (F m 0) (F m 0) ⟨⟨by omega, by omega⟩, by omega, by omega⟩ (by have := hok.add' hlt; omega) ⟨⟨by omega, by omega⟩, by omega, by omega⟩ W
          have htru : ∀ W, Below w.heap.size w W → W.cell? ⟨bt, ot + m, none⟩ = some (.int .i64 (F m 0)) := fun W hB => (hpt.below hB hbt).one (by omega)
          obtain ⟨lo, hlo⟩ : ∃ x, max 0 (F m 0 - d.A i 3) + d.D k 0 = x := ⟨_, rfl⟩
          obtain ⟨hi', hhi⟩ : ∃ x, max 0 (F m 0 - d.A i 2) + d.D k 0 = x := ⟨_, rfl⟩
          have hlim : Hdn ((d.acid i).lim (fun k => F k 0) k = (lo, hi')) := ⟨by rw [hm, Acid.lim_succ, ← hlo, ← hhi, hm]; rfl⟩
          rw [hlo, hhi] at haf
          have hdm : m < d.dn := by omega
          clear hm hlo hhi hFm hk00
          go_wp2_with fail
          refine wp_region_late [20] (fun _ => True) (fun w9 => YXS w d ⟨i, ta, d.dn, tc, F⟩ i V0.heap.size (d.A i 0 + d.D 0 0) (d.A i 1 + d.D 0 0) w9) (by kernel_rfl) ?_ (fun hHeld => ?_)
          · exact ⟨trivial, hX9.drew⟩
          have hH := hHeld.2
          generalize V9.drew = V1 at hH hHeld ⊢
          refine tkT 0 1 rfl (waits_one [] (by kernel_rfl)) (by intro w9 hSw; have hS := hSw.2; clear hSw; (have z := hS.x.a0; have z1 := hS.x.a1; have z2 := hS.x.a2; have z3 := hS.x.a3; clear hS; go_simp) <;> with_reducible rfl) hHeld ?_
          refine tk1 1 rfl hHeld ?_
          refine tkT 2 1 rfl (waits_one [] (by kernel_rfl)) (by intro w9 hSw; have hS := hSw.2; clear hSw; (have z := hS.x.t.d.at'.k3; clear hS; go_simp) <;> with_reducible rfl) hHeld ?_
          refine tk1 3 rfl hHeld ?_
          refine tk1 4 rfl hHeld ?_
          refine tkT 5 1 rfl (waits_one [] (by kernel_rfl)) (by intro w9 hSw; have hS := hSw.2; clear hSw; (have z := haddk w9 hS.x.t.d.old; clear hS; go_simp) <;> with_reducible rfl) hHeld ?_
          refine tk1 6 rfl hHeld ?_
          refine tkT 7 1 rfl (waits_one [] (by kernel_rfl)) (by intro w9 hSw; have hS := hSw.2; clear hSw; (have z := hS.x.t.k1; clear hS; go_simp) <;> with_reducible rfl) hHeld ?_
          refine tk1 8 rfl hHeld ?_
          refine tk2 9 (v := .int .i64 (m : Int)) rfl (by intro w9 hSw; have hS := hSw; clear hSw; have hq := hkm.out; clear hS; (go_simp) <;> with_reducible rfl) hHeld ?_
          refine tk1 10 rfl hHeld ?_
          refine tkT 11 1 rfl (waits_one [] (by kernel_rfl)) (by intro w9 hSw; have hS := hSw.2; clear hSw; (have z := htru w9 hS.x.t.d.old; clear hS; go_simp) <;> with_reducible rfl) hHeld ?_
          refine tk1 12 rfl hHeld ?_
          refine tkT 13 1 rfl (waits_one [] (by kernel_rfl)) (by intro w9 hSw; have hS := hSw.2; clear hSw; (have z := hS.x.t.k1; clear hS; go_simp) <;> with_reducible rfl) hHeld ?_
          refine tk1 14 rfl hHeld ?_
          refine tk2 15 (v := .int .i64 (m : Int)) rfl (by intro w9 hSw; have hS := hSw; clear hSw; have hq := hkm.out; clear hS; (go_simp) <;> with_reducible rfl) hHeld ?_
          refine tk1 16 rfl hHeld ?_
          refine tkT 17 1 rfl (waits_one [] (by kernel_rfl)) (by intro w9 hSw; have hS := hSw.2; clear hSw; (have z := htru w9 hS.x.t.d.old; clear hS; go_simp) <;> with_reducible rfl) hHeld ?_
          refine tk1 18 rfl hHeld ?_
          refine rd1 19 rfl (fun K hK => ?_)
          go_simp
          (go_at_call 68; with_reducible refine (haf _).mono ?_; rintro e w1 ⟨rfl, hb1⟩)
          refine hK.out _ _ ?_ (fun hHeld => ?_)
          · exact ⟨trivial, hH.below hb1⟩
          clear hK K hH
          have hH := hHeld.2
          (try simp only [Act.put, xpA, xpZ, xpS])
          refine rdL 20 rfl (fun K hK => ?_)
          have c0 := hH.s.k0
          have c1 := hH.s.k1
          have z0 := hH.s.f0
          have z1 := hH.s.f1
          go_simp
          clear c0 c1 z0 z1
          refine hK.out _ _ ?_ (fun _ => ?_)
          · trivial
          clear hK K
          (try simp only [Act.put, xpA, xpZ, xpS])
          refine wpAnyP_done (by kernel_rfl) ?_ _
          (try simp only [Act.put, List.getElem_toArray, List.getElem_cons_zero, List.getElem_cons_succ, xpA, xpZ, xpS])
          have hX2 := hH.set lo hi'
          obtain ⟨V2, hV2⟩ : ∃ W, ((w1.setCell ⟨V0.heap.size, 0, none⟩ (.int .i64 lo)).setCell ⟨V0.heap.size, 1, none⟩ (.int .i64 hi')) = W := ⟨_, rfl⟩
          rw [hV2] at hX2
          rw [hV2]
          clear hV2
          have hin := fun W => in_any (F k 0) (lo) (hi') W
          cases hb : inB (F k 0) (lo) (hi') with
          | false =>
            rw [hb] at hin
            have hno : Hdn (¬ d.rfits i F) := ⟨fun h => by
              have := h.2.1 k hlt
              unfold Acid.inLim at this
              rw [hlim.out] at this
              rw [inB_yes this.1 this.2] at hb; cases hb⟩
            clear hb hlim
            go_wp2_with fail
            refine wp_region_late [] (fun w9 => YXS w d ⟨i, ta, d.dn, tc, F⟩ i V0.heap.size (lo) (hi') w9) (fun _ => True) (by kernel_rfl) ?_ (fun hHeld => ?_)
            · exact ⟨hX2.drew, trivial⟩
            have hH := hHeld.1
            generalize V2.drew = V3 at hH hHeld ⊢
            refine tk1 0 rfl hHeld ?_
            refine tk2 1 rfl (by intro w9 hSw; have hS := hSw; clear hSw; (have z := hS.x.t.k1; clear hS; go_simp) <;> with_reducible rfl) hHeld ?_
            refine tk1 2 rfl hHeld ?_
            refine tk1 3 rfl hHeld ?_
            refine tk2 4 rfl (by intro w9 hSw; have hS := hSw; clear hSw; (have z := htrk w9 hS.x.t.d.old; clear hS; go_simp) <;> with_reducible rfl) hHeld ?_
            refine tk1 5 rfl hHeld ?_
            refine tk2 6 rfl (by intro w9 hSw; have hS := hSw; clear hSw; (have z := hS.s.k0; clear hS; go_simp) <;> with_reducible rfl) hHeld ?_
            refine tk1 7 rfl hHeld ?_
            refine tk2 8 rfl (by intro w9 hSw; have hS := hSw; clear hSw; (have z := hS.s.k1; clear hS; go_simp) <;> with_reducible rfl) hHeld ?_
            refine rd1 9 rfl (fun K hK => ?_)
            go_simp
            (go_at_call 65; with_reducible refine (hin _).mono ?_; rintro e w1 ⟨rfl, rfl⟩)
            refine hK.out _ _ ?_ (fun hHeld => ?_)
            · exact ⟨hH, trivial⟩
            clear hK K hH
            have hH := hHeld.1
            (try simp only [Act.put, xpA, xpZ, xpS])
            refine tk1 10 rfl hHeld ?_
            refine wpAnyP_done (by kernel_rfl) ?_ _
            (try simp only [Act.put, List.getElem_toArray, List.getElem_cons_zero, List.getElem_cons_succ, xpA, xpZ, xpS])
            go_wp2
            go_ret
            exact SaysB.no hno.out hHeld.1.x.t.d.old
          | true =>
            rw [hb] at hin
            have hyes : Hdn ((d.acid i).inLim (fun k => F k 0) k) := ⟨by
              unfold Acid.inLim
              rw [hlim.out]
              exact inB_iff.1 hb⟩
            clear hb hlim
            go_wp2_with fail
            refine wp_region_late [] (fun w9 => YXS w d ⟨i, ta, d.dn, tc, F⟩ i V0.heap.size (lo) (hi') w9) (fun _ => True) (by kernel_rfl) ?_ (fun hHeld => ?_)
            · exact ⟨hX2.drew, trivial⟩
            have hH := hHeld.1
            generalize V2.drew = V3 at hH hHeld ⊢
            refine tk1 0 rfl hHeld ?_
            refine tk2 1 rfl (by intro w9 hSw; have hS := hSw; clear hSw; (have z := hS.x.t.k1; clear hS; go_simp) <;> with_reducible rfl) hHeld ?_
            refine tk1 2 rfl hHeld ?_
            refine tk1 3 rfl hHeld ?_
            refine tk2 4 rfl (by intro w9 hSw; have hS := hSw; clear hSw; (have z := htrk w9 hS.x.t.d.old; clear hS; go_simp) <;> with_reducible rfl) hHeld ?_
            refine tk1 5 rfl hHeld ?_
            refine tk2 6 rfl (by intro w9 hSw; have hS := hSw; clear hSw; (have z := hS.s.k0; clear hS; go_simp) <;> with_reducible rfl) hHeld ?_
            refine tk1 7 rfl hHeld ?_
            refine tk2 8 rfl (by intro w9 hSw; have hS := hSw; clear hSw; (have z := hS.s.k1; clear hS; go_simp) <;> with_reducible rfl) hHeld ?_
            refine rd1 9 rfl (fun K hK => ?_)
            go_simp
            (go_at_call 65; with_reducible refine (hin _).mono ?_; rintro e w1 ⟨rfl, rfl⟩)
            refine hK.out _ _ ?_ (fun hHeld => ?_)
            · exact ⟨hH, trivial⟩
            clear hK K hH
            have hH := hHeld.1
            (try simp only [Act.put, xpA, xpZ, xpS])
            refine tk1 10 rfl hHeld ?_
            refine wpAnyP_done (by kernel_rfl) ?_ _
            (try simp only [Act.put, List.getElem_toArray, List.getElem_cons_zero, List.getElem_cons_succ, xpA, xpZ, xpS])
            go_wp2
            go_roundw
            case rel => exact ⟨k + 1, by omega, by go_num, hHeld.1.x, ⟨all_succ (p := fun j => (d.acid i).inLim (fun k => F k 0) j) hall.out hyes.out⟩⟩
            case measure => simp [intOf]; omega



      · have hy : ¬ (k : Int) < d.hours := by have := hhr.out; omega
        have hlims : Hdn (∀ j, j < d.dn → (d.acid i).inLim (fun k => F k 0) j) := ⟨fun j hj => hall.out j (by omega)⟩
        clear hall
        obtain ⟨m0, m1, m2, m3, m4, m5⟩ := id hXk.t.d.at'
        go_wp2_with fail
        go_loopw [8] (fun i' wr => ∃ q : Nat, q ≤ d.sn ∧ i' = .int .i64 q ∧ YX w d ⟨i, ta, d.dn, tc, F⟩ i wr ∧ Hdn (∀ s, s < q → inB (F (d.S s 0).toNat 0) (d.S s 1 - d.S s 2) (d.S s 1 + d.S s 2) = true)) (fun i' _ => d.sn - (intOf i').toNat)
        case atStart => exact ⟨0, Nat.zero_le _, rfl, hXk, ⟨fun _ h => absurd h (Nat.not_lt_zero _)⟩⟩
        clear hXk hlt hy hk hk0 m0 m1 m2 m3 m4 m5
        case round =>
          obtain ⟨s, hs, rfl, hXs, hcl⟩ := hrel
          have hs0 : (0 : Int) ≤ (s : Int) := Int.natCast_nonneg _
          obtain ⟨m0, m1, m2, m3, m4, m5⟩ := id hXs.t.d.at'
          by_cases hlts : s < d.sn
          · have hys : (s : Int) < (d.sn : Int) := by omega
            have hs66 : (s : Int) < 6 := by have := hok.strips; omega
            obtain ⟨b', off', cap', e', hbl', hp'⟩ := hd.strips.pos (by omega)
            obtain ⟨es, et⟩ : d.sa = some ⟨b', off', none⟩ ∧ d.sc = cap' := by injection e' with e1 e2 e3; exact ⟨e1, e3⟩
            clear e'
            obtain ⟨⟨v0, v1⟩, ⟨v2, v3⟩, v4, v5⟩ := hok.strip' hlts
            obtain ⟨hn, hhn⟩ : ∃ n : Nat, d.S s 0 = n := ⟨(d.S s 0).toNat, by omega⟩
            have hnd : hn < d.dn := by have := hhr.out; omega
            have hp2 := hp'.below hXs.t.d.old hbl'
            have e0 := hp2.first hlts (by decide)
            have e1 := hp2 s hlts 1 (by decide)
            have e2 := hp2 s hlts 2 (by decide)
            rw [hhn] at e0
            clear hp2 v0 v1
            have hwc : Hdn (IntKind.i64.wrap (d.S s 1 - d.S s 2) = d.S s 1 - d.S s 2) := ⟨IntWalk.i64_in _ (by omega)⟩
            have hwd : Hdn (IntKind.i64.wrap (d.S s 1 + d.S s 2) = d.S s 1 + d.S s 2) := ⟨IntWalk.i64_in _ (by omega)⟩
            have htrh : ∀ W, Below w.heap.size w W → W.cell? ⟨bt, ot + hn, none⟩ = some (.int .i64 (F hn 0)) := fun W hB => (hpt.below hB hbt).one hnd
            obtain ⟨W5, hW5⟩ : ∃ W5, wr.alloc (Obj.cells #[.int .i64 hn, .int .i64 (d.S s 1), .int .i64 (d.S s 2)] 60) = W5 := ⟨_, rfl⟩
            have hXt : YXT w d ⟨i, ta, d.dn, tc, F⟩ i wr.heap.size hn (d.S s 1) (d.S s 2) W5 := by
              rw [← hW5]
              exact ⟨hXs.alloc _, cells_new wr _ _ rfl, cells_new wr _ _ rfl, cells_new wr _ _ rfl, by rw [World.size_alloc]; omega⟩
            have hin := fun W => in_any (F hn 0) (d.S s 1 - d.S s 2) (d.S s 1 + d.S s 2) W
            have hHn : Hdn ((d.S s 0).toNat = hn) := ⟨by omega⟩
            clear hhn
            cases hb : inB (F hn 0) (d.S s 1 - d.S s 2) (d.S s 1 + d.S s 2) with
            | false =>
              rw [hb] at hin
              have hno : Hdn (¬ d.rfits i F) := ⟨fun h => by have := h.2.2 s hlts; rw [hHn.out, hb] at this; cases this⟩
              clear hb
              go_wp2_with fail
              refine wp_region_late [] (fun w9 => YXT w d ⟨i, ta, d.dn, tc, F⟩ i wr.heap.size hn (d.S s 1) (d.S s 2) w9) (fun _ => True) (by kernel_rfl) ?_ (fun hHeld => ?_)
              · exact ⟨hXt.drew, trivial⟩
              have hH := hHeld.1
              generalize W5.drew = V6 at hH hHeld ⊢
              refine tk1 0 rfl hHeld ?_
              refine tk2 1 rfl (by intro w9 hSw; have hS := hSw; clear hSw; (have z := hS.x.t.k1; clear hS; go_simp) <;> with_reducible rfl) hHeld ?_
              refine tk1 2 rfl hHeld ?_
              refine tk2 3 rfl (by intro w9 hSw; have hS := hSw; clear hSw; (have z := hS.t0; clear hS; go_simp) <;> with_reducible rfl) hHeld ?_
              refine tk1 4 rfl hHeld ?_
              refine tk2 5 rfl (by intro w9 hSw; have hS := hSw; clear hSw; (have z := htrh w9 hS.x.t.d.old; clear hS; go_simp) <;> with_reducible rfl) hHeld ?_
              refine tk1 6 rfl hHeld ?_
              refine tk2 7 rfl (by intro w9 hSw; have hS := hSw; clear hSw; (have z := hS.t1; clear hS; go_simp) <;> with_reducible rfl) hHeld ?_
              refine tk1 8 rfl hHeld ?_
              refine tk2 9 rfl (by intro w9 hSw; have hS := hSw; clear hSw; (have z := hS.t2; clear hS; go_simp) <;> with_reducible rfl) hHeld ?_
              refine tk2 10 (v := .int .i64 (d.S s 1 - d.S s 2)) rfl (by intro w9 hSw; have hS := hSw; clear hSw; have hq := hwc.out; clear hS; (go_simp) <;> with_reducible rfl) hHeld ?_
              refine tk1 11 rfl hHeld ?_
              refine tk2 12 rfl (by intro w9 hSw; have hS := hSw; clear hSw; (have z := hS.t1; clear hS; go_simp) <;> with_reducible rfl) hHeld ?_
              refine tk1 13 rfl hHeld ?_
              refine tk2 14 rfl (by intro w9 hSw; have hS := hSw; clear hSw; (have z := hS.t2; clear hS; go_simp) <;> with_reducible rfl) hHeld ?_
              refine tk2 15 (v := .int .i64 (d.S s 1 + d.S s 2)) rfl (by intro w9 hSw; have hS := hSw; clear hSw; have hq := hwd.out; clear hS; (go_simp) <;> with_reducible rfl) hHeld ?_
              refine rd1 16 rfl (fun K hK => ?_)
              go_simp
              (go_at_call 65; with_reducible refine (hin _).mono ?_; rintro e w1 ⟨rfl, rfl⟩)
              refine hK.out _ _ ?_ (fun hHeld => ?_)
              · exact ⟨hH, trivial⟩
              clear hK K hH
              have hH := hHeld.1
              (try simp only [Act.put, xpA, xpZ, xpS])
              refine tk1 17 rfl hHeld ?_
              refine wpAnyP_done (by kernel_rfl) ?_ _
              (try simp only [Act.put, List.getElem_toArray, List.getElem_cons_zero, List.getElem_cons_succ, xpA, xpZ, xpS])
              go_wp2
              go_ret
              exact SaysB.no hno.out hHeld.1.x.t.d.old

            | true =>
              rw [hb] at hin
              have hyes : Hdn (inB (F (d.S s 0).toNat 0) (d.S s 1 - d.S s 2) (d.S s 1 + d.S s 2) = true) := ⟨by rw [hHn.out, hb]⟩
              clear hb
              go_wp2_with fail
              refine wp_region_late [] (fun w9 => YXT w d ⟨i, ta, d.dn, tc, F⟩ i wr.heap.size hn (d.S s 1) (d.S s 2) w9) (fun _ => True) (by kernel_rfl) ?_ (fun hHeld => ?_)
              · exact ⟨hXt.drew, trivial⟩
              have hH := hHeld.1
              generalize W5.drew = V6 at hH hHeld ⊢
              refine tk1 0 rfl hHeld ?_
              refine tk2 1 rfl (by intro w9 hSw; have hS := hSw; clear hSw; (have z := hS.x.t.k1; clear hS; go_simp) <;> with_reducible rfl) hHeld ?_
              refine tk1 2 rfl hHeld ?_
              refine tk2 3 rfl (by intro w9 hSw; have hS := hSw; clear hSw; (have z := hS.t0; clear hS; go_simp) <;> with_reducible rfl) hHeld ?_
              refine tk1 4 rfl hHeld ?_
              refine tk2 5 rfl (by intro w9 hSw; have hS := hSw; clear hSw; (have z := htrh w9 hS.x.t.d.old; clear hS; go_simp) <;> with_reducible rfl) hHeld ?_
              refine tk1 6 rfl hHeld ?_
              refine tk2 7 rfl (by intro w9 hSw; have hS := hSw; clear hSw; (have z := hS.t1; clear hS; go_simp) <;> with_reducible rfl) hHeld ?_
              refine tk1 8 rfl hHeld ?_
              refine tk2 9 rfl (by intro w9 hSw; have hS := hSw; clear hSw; (have z := hS.t2; clear hS; go_simp) <;> with_reducible rfl) hHeld ?_
              refine tk2 10 (v := .int .i64 (d.S s 1 - d.S s 2)) rfl (by intro w9 hSw; have hS := hSw; clear hSw; have hq := hwc.out; clear hS; (go_simp) <;> with_reducible rfl) hHeld ?_
              refine tk1 11 rfl hHeld ?_
              refine tk2 12 rfl (by intro w9 hSw; have hS := hSw; clear hSw; (have z := hS.t1; clear hS; go_simp) <;> with_reducible rfl) hHeld ?_
              refine tk1 13 rfl hHeld ?_
              refine tk2 14 rfl (by intro w9 hSw; have hS := hSw; clear hSw; (have z := hS.t2; clear hS; go_simp) <;> with_reducible rfl) hHeld ?_
              refine tk2 15 (v := .int .i64 (d.S s 1 + d.S s 2)) rfl (by intro w9 hSw; have hS := hSw; clear hSw; have hq := hwd.out; clear hS; (go_simp) <;> with_reducible rfl) hHeld ?_
              refine rd1 16 rfl (fun K hK => ?_)
              go_simp
              (go_at_call 65; with_reducible refine (hin _).mono ?_; rintro e w1 ⟨rfl, rfl⟩)
              refine hK.out _ _ ?_ (fun hHeld => ?_)
              · exact ⟨hH, trivial⟩
              clear hK K hH
              have hH := hHeld.1
              (try simp only [Act.put, xpA, xpZ, xpS])
              refine tk1 17 rfl hHeld ?_
              refine wpAnyP_done (by kernel_rfl) ?_ _
              (try simp only [Act.put, List.getElem_toArray, List.getElem_cons_zero, List.getElem_cons_succ, xpA, xpZ, xpS])
              go_wp2
              go_roundw
              case rel => exact ⟨s + 1, by omega, by go_num, hHeld.1.x, ⟨all_succ (p := fun s => inB (F (d.S s 0).toNat 0) (d.S s 1 - d.S s 2) (d.S s 1 + d.S s 2) = true) hcl.out hyes.out⟩⟩
              case measure => simp [intOf]; omega

          · have hns : ¬ (s : Int) < (d.sn : Int) := by omega
            have hfit : Hdn (d.rfits i F) := ⟨hbit'.out, hlims.out, fun j hj => hcl.out j (by omega)⟩
            clear hcl
            go_wp2
            go_ret
            exact SaysB.yes hfit.out hXs.t.d.old
end Go.Proofs.YtlhgkepdoinlnaaGreatDoor
