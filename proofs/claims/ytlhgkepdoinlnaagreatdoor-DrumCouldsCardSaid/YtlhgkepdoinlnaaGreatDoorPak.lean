/- A part of the proof: see the last file. -/
import Derived.Test.YtlhgkepdoinlnaaGreatDoorPai
import Derived.Test.YtlhgkepdoinlnaaGreatDoorPag
import Derived.Test.YtlhgkepdoinlnaaGreatDoorPaj
set_option linter.unusedVariables false
set_option linter.unusedSimpArgs false
set_option linter.unusedSectionVars false
namespace Go.Proofs.YtlhgkepdoinlnaaGreatDoor
open Go.RowKit Go.Gen Go.Drum
theorem Tryz.infoB : (Tryz.prog.info? 47).map (fun i => (i.zero, i.size, i.bytes)) = some (some (.agg #[.int .i64 0, .int .i64 0]), 2, 16) := by kernel_rfl
/-- the reference's blocks: the drum's, the acid's. -/
structure BY (w : World) (d : Drm) (i : Nat) (W : World) : Prop where
  o : PoD w d W
  a0 : W.cell? ⟨w.heap.size + 1, 0, none⟩ = some (.int .i64 (d.A i 0))
  a1 : W.cell? ⟨w.heap.size + 1, 1, none⟩ = some (.int .i64 (d.A i 1))
  a2 : W.cell? ⟨w.heap.size + 1, 2, none⟩ = some (.int .i64 (d.A i 2))
  a3 : W.cell? ⟨w.heap.size + 1, 3, none⟩ = some (.int .i64 (d.A i 3))
  lt : w.heap.size + 1 < W.heap.size
theorem BY.beyond {w : World} {d : Drm} {i : Nat} {W W' : World} (h : BY w d i W) (hb : Below (w.heap.size + 2) W W') : BY w d i W' := by
  have hl := h.lt
  have c : ∀ j, W'.cell? ⟨w.heap.size + 1, j, none⟩ = W.cell? ⟨w.heap.size + 1, j, none⟩ := fun j => hb.cell (p := ⟨w.heap.size + 1, j, none⟩) (by show w.heap.size + 1 < _; omega)
  exact ⟨⟨h.o.at'.below hb (by omega), h.o.old.trans (hb.mono (by omega)), Nat.lt_of_lt_of_le h.o.lt hb.size⟩, (c 0).trans h.a0, (c 1).trans h.a1, (c 2).trans h.a2, (c 3).trans h.a3, Nat.lt_of_lt_of_le hl hb.size⟩
theorem BY.below {w : World} {d : Drm} {i : Nat} {W W' : World} (h : BY w d i W) (hb : Below W.heap.size W W') : BY w d i W' := h.beyond (hb.mono h.lt)
theorem BY.drew {w : World} {d : Drm} {i : Nat} {W : World} (h : BY w d i W) : BY w d i W.drew := h.below (Below.refl _ _).drew
/-- a span's block behind a world. -/
structure IX (W0 : World) (Z : Nat) (s0 s1 : Int) (W : World) : Prop where
  o : Below W0.heap.size W0 W
  s : Two W Z s0 s1
  zl : W0.heap.size ≤ Z
  lz : Z < W.heap.size
theorem IX.below {W0 : World} {Z : Nat} {s0 s1 : Int} {W W' : World} (h : IX W0 Z s0 s1 W) (hb : Below W.heap.size W W') : IX W0 Z s0 s1 W' :=
  ⟨h.o.trans (hb.mono h.o.size), h.s.below hb h.lz, h.zl, Nat.lt_of_lt_of_le h.lz hb.size⟩
theorem IX.drew {W0 : World} {Z : Nat} {s0 s1 : Int} {W : World} (h : IX W0 Z s0 s1 W) : IX W0 Z s0 s1 W.drew := h.below (Below.refl _ _).drew
theorem IX.alloc {W0 : World} {Z : Nat} {s0 s1 : Int} {W : World} (h : IX W0 Z s0 s1 W) (o : Obj) : IX W0 Z s0 s1 (W.alloc o) := h.below ((Below.refl _ _).alloc (Nat.le_refl _) o)
theorem IX.set {W0 : World} {Z : Nat} {s0 s1 : Int} {W : World} (h : IX W0 Z s0 s1 W) (u0 u1 : Int) : IX W0 Z u0 u1 ((W.setCell ⟨Z, 0, none⟩ (.int .i64 u0)).setCell ⟨Z, 1, none⟩ (.int .i64 u1)) :=
  ⟨(h.o.setCell (p := ⟨Z, 0, none⟩) h.zl _).setCell (p := ⟨Z, 1, none⟩) h.zl _, h.s.set01 u0 u1, h.zl, by rw [World.size_setCell, World.size_setCell]; exact h.lz⟩
/-- the reference's blocks and a row. -/
structure RY (w : World) (d : Drm) (i : Nat) (g n : Nat) (r : Nat → Int × Int) (W : World) : Prop where
  f : BY w d i W
  row : CAt W g n r
  lt : g < W.heap.size
theorem RY.below {w : World} {d : Drm} {i : Nat} {g n : Nat} {r : Nat → Int × Int} {W W' : World} (h : RY w d i g n r W) (hb : Below W.heap.size W W') : RY w d i g n r W' :=
  ⟨h.f.below hb, h.row.below hb h.lt, Nat.lt_of_lt_of_le h.lt hb.size⟩
theorem RY.drew {w : World} {d : Drm} {i : Nat} {g n : Nat} {r : Nat → Int × Int} {W : World} (h : RY w d i g n r W) : RY w d i g n r W.drew := h.below (Below.refl _ _).drew
theorem RY.put {w : World} {d : Drm} {i : Nat} {g n : Nat} {r : Nat → Int × Int} {W : World} (h : RY w d i g n r W) (hg : w.heap.size + 2 ≤ g) (k : Nat) (hk : k < n) (x y : Int) :
    RY w d i g n (fun j => if j = k then (x, y) else r j) ((W.setCell ⟨g, k * 2, none⟩ (.int .i64 x)).setCell ⟨g, k * 2 + 1, none⟩ (.int .i64 y)) :=
  ⟨h.f.beyond (((Below.refl _ W).setCell (p := ⟨g, k * 2, none⟩) (by show _ ≤ g; omega) _).setCell (p := ⟨g, k * 2 + 1, none⟩) (by show _ ≤ g; omega) _), h.row.store k hk x y, by rw [World.size_setCell, World.size_setCell]; exact h.lt⟩
theorem two_one (x y : Int) : ∀ u ∈ [Value.int .i64 x, Value.int .i64 y], u.oneCell' = true := fun u hu => by
  rcases List.mem_cons.1 hu with rfl | hu
  · rfl
  · rcases List.mem_cons.1 hu with rfl | hu
    · rfl
    · cases hu
/-- what the reference's Bounds returns. -/
def RBo (d : Drm) (i : Nat) (w : World) (e : Ending) (w' : World) : Prop :=
  (d.poss i ∧ ∃ g cap, e = .returned (.tuple #[.slice (some ⟨g, 0, none⟩) d.dn cap, .bool true]) ∧ w.heap.size ≤ g ∧ g < w'.heap.size ∧ CAt w' g d.dn ((d.acid i).ends d.dn) ∧ Below w.heap.size w w') ∨ (¬ d.poss i ∧ e = .returned (.tuple #[.slice none 0 0, .bool false]) ∧ Below w.heap.size w w')
set_option maxRecDepth 100000 in
set_option maxHeartbeats 8000000 in
theorem rbounds_any (d : Drm) (i : Nat) (w : World) (hd : DIn w d) (hok : d.Ok) (hi : i < d.an) :
    Calls Tryz.prog 69 #[d.val, .int .i64 i] w (RBo d i w) := by
  have hsm := hok.small hi
  obtain ⟨i0, hinf, hzz, hzs, hzb⟩ := info_parts Tryz.infoB
  obtain ⟨W0, hW⟩ : ∃ W0, w.alloc (.cells #[.slice d.aa d.an d.ac, .int .i64 d.known, .int .i64 d.hours, .slice d.da d.dn d.dc, .slice d.sa d.sn d.sc, .slice d.ba d.bn d.bc] 27) = W0 := ⟨_, rfl⟩
  have hX0 : PoD w d W0 := by rw [← hW]; exact PoD.new w d
  have hz : W0.heap.size = w.heap.size + 1 := by rw [← hW, World.size_alloc]
  obtain ⟨han1, han2⟩ := hok.acids
  have hkn := hok.known
  have h16 : d.known < 16 := by
    have := two_pow_le han2
    omega
  have hha := fun W => has_any d.known i (by omega) (by omega) W
  have hhr : Hdn ((d.dn : Int) = d.hours) := ⟨hok.adds⟩
  obtain ⟨hh1, hh2⟩ := hok.hours
  obtain ⟨⟨x0, x1, x2⟩, x3, x4, x5⟩ := hok.acid' hi
  obtain ⟨b, off, cap, e, hbl, hp⟩ := hd.acids.pos (by omega)
  obtain ⟨ea, ec⟩ : d.aa = some ⟨b, off, none⟩ ∧ d.ac = cap := by injection e with e1 e2 e3; exact ⟨e1, e3⟩
  clear e
  have hp1 := hp.below hX0.old hbl
  have e0 := hp1.first hi (by decide)
  have e1 := hp1 i hi 1 (by decide)
  have e2 := hp1 i hi 2 (by decide)
  have e3 := hp1 i hi 3 (by decide)
  clear hp1 hp
  obtain ⟨ba, oa, ca, ea', hba, hpa⟩ := hd.adds.pos (by have := hhr.out; omega)
  obtain ⟨eda, edc⟩ : d.da = some ⟨ba, oa, none⟩ ∧ d.dc = ca := by injection ea' with e1 e2 e3; exact ⟨e1, e3⟩
  clear ea'
  rw [ea, ec, eda, edc] at hW
  have hadd0 : ∀ W, Below w.heap.size w W → W.cell? ⟨ba, oa, none⟩ = some (.int .i64 (d.D 0 0)) := fun W hB => by
    have := (hpa.below hB hba).one (i := 0) (by have := hhr.out; omega)
    rw [Nat.add_zero] at this
    exact this
  obtain ⟨W1, hW1⟩ : ∃ W, W0.alloc (Obj.cells #[.int .i64 (d.A i 0), .int .i64 (d.A i 1), .int .i64 (d.A i 2), .int .i64 (d.A i 3)] 106) = W := ⟨_, rfl⟩
  have hX1 : BY w d i W1 := by
    have hs3 : W1.heap.size = w.heap.size + 1 + 1 := by rw [← hW1, World.size_alloc, hz]
    refine ⟨by rw [← hW1]; exact hX0.alloc _, ?_, ?_, ?_, ?_, by omega⟩
    all_goals
      rw [← hz, ← hW1]
      exact cells_new W0 _ _ rfl
  have hdp : 1 ≤ d.dn := by have := hhr.out; omega
  have hdp0 : 0 < d.dn := hdp
  obtain ⟨⟨q0, q1, q2, q3, q4, q5⟩, _, _⟩ := id hX0
  obtain ⟨⟨p0, p1, p2, p3, p4, p5⟩, _, _⟩ := id hX1.o
  have hi0 : (0 : Int) ≤ (i : Int) := Int.natCast_nonneg _
  have hi1 : (i : Int) < (d.an : Int) := by omega
  cases hbit : bitB d.known i with
  | false =>
    rw [hbit] at hha
    have hno : Hdn (¬ d.poss i) := ⟨fun h => by have := h.1; rw [hbit] at this; cases this⟩
    clear hbit
    go_enter Tryz.func69, Tryz.ntmps69
    go_wp2_with (go_at_call 28; (with_reducible refine (hha _).mono ?_); rintro e w1 ⟨rfl, rfl⟩)
    go_ret2
    exact .inr ⟨hno.out, rfl, hX1.o.old⟩
  | true =>
    rw [hbit] at hha
    have hbit' : Hdn (bitB d.known i = true) := ⟨hbit⟩
    clear hbit
    go_enter Tryz.func69, Tryz.ntmps69
    go_wp2_with (go_at_call 28; (with_reducible refine (hha _).mono ?_); rintro e w1 ⟨rfl, rfl⟩)
    clear hha e0 e1 e2 e3 q0 q1 q2 q3 q4 q5
    have hg01 := hok.add' (i := 0) (by omega)
    have hwa : Hdn (IntKind.i64.wrap (d.A i 0 + d.D 0 0) = d.A i 0 + d.D 0 0) := ⟨IntWalk.i64_in _ (by omega)⟩
    have hwb : Hdn (IntKind.i64.wrap (d.A i 1 + d.D 0 0) = d.A i 1 + d.D 0 0) := ⟨IntWalk.i64_in _ (by omega)⟩
    clear hg01
    go_loopw [7, 8] (fun u i' wr => ∃ k : Nat, k ≤ d.dn ∧ i' = .int .i64 k ∧ BY w d i wr ∧ wr.ownsRow (w.heap.size + 2) 47 2 u k (crsL (d.acid i).fwd k) ∧ Hdn (∀ j, j < k → ((d.acid i).fwd j).1 ≤ ((d.acid i).fwd j).2)) (fun _ i' _ => d.dn - (intOf i').toNat)
    case atStart => exact ⟨0, Nat.zero_le _, rfl, hX1, World.ownsRow_nil _ _ _ _, ⟨fun _ h => absurd h (Nat.not_lt_zero _)⟩⟩
    clear hX1 p0 p1 p2 p3 p4 p5
    case round =>
      obtain ⟨k, hk5, rfl, hX, hown, hall⟩ := hrel
      have hk6 : (0 : Int) ≤ (k : Int) := Int.natCast_nonneg _
      by_cases hlt : k < d.dn
      · have hk7 : (k : Int) < d.hours := by have := hhr.out; omega
        have hk8 : (k : Int) < (d.dn : Int) := by omega
        have hk12 : (k : Int) < 12 := by omega
        have hdn12 : (0 : Int) < (d.dn : Int) := by omega
        have haddk : ∀ W, Below w.heap.size w W → W.cell? ⟨ba, oa + k, none⟩ = some (.int .i64 (d.D k 0)) := fun W hB => (hpa.below hB hba).one hlt
        obtain ⟨⟨q0, q1, q2, q3, q4, q5⟩, _, _⟩ := id hX.o
        go_wp2_with fail
        clear q0 q1 q2 q3 q4 q5
        refine wp_region_late [18] (fun _ => True) (fun w9 => Below wr.heap.size wr w9) (by kernel_rfl) ?_ (fun hHeld => ?_)
        · exact ⟨trivial, (Below.refl _ _).drew⟩
        have hH := hHeld.2
        generalize wr.drew = V0 at hH hHeld ⊢
        have hT := Two.new V0 47 0 0
        have hV0 := hH
        refine tk1 0 rfl hHeld ?_
        refine tk1 1 rfl hHeld ?_
        refine tkT 2 1 rfl (waits_one [] (by kernel_rfl)) (by intro w9 hSw; have hS := hSw.2; clear hSw; (have z := (hX.below hS).a0; clear hS; go_simp) <;> with_reducible rfl) hHeld ?_
        refine tk1 3 rfl hHeld ?_
        refine tkT 4 1 rfl (waits_one [] (by kernel_rfl)) (by intro w9 hSw; have hS := hSw.2; clear hSw; (have z := (hX.below hS).o.at'.k3; clear hS; go_simp) <;> with_reducible rfl) hHeld ?_
        refine tk1 5 rfl hHeld ?_
        refine tkT 6 1 rfl (waits_one [] (by kernel_rfl)) (by intro w9 hSw; have hS := hSw.2; clear hSw; (have z := hadd0 w9 (hX.o.old.trans (hS.mono hX.o.old.size)); clear hS; go_simp) <;> with_reducible rfl) hHeld ?_
        refine tk2 7 (v := .int .i64 (d.A i 0 + d.D 0 0)) rfl (by intro w9 hSw; have hS := hSw; clear hSw; have hq := hwa.out; clear hS; (go_simp) <;> with_reducible rfl) hHeld ?_
        refine tk1 8 rfl hHeld ?_
        refine tk1 9 rfl hHeld ?_
        refine tkT 10 1 rfl (waits_one [] (by kernel_rfl)) (by intro w9 hSw; have hS := hSw.2; clear hSw; (have z := (hX.below hS).a1; clear hS; go_simp) <;> with_reducible rfl) hHeld ?_
        refine tk1 11 rfl hHeld ?_
        refine tkT 12 1 rfl (waits_one [] (by kernel_rfl)) (by intro w9 hSw; have hS := hSw.2; clear hSw; (have z := (hX.below hS).o.at'.k3; clear hS; go_simp) <;> with_reducible rfl) hHeld ?_
        refine tk1 13 rfl hHeld ?_
        refine tkT 14 1 rfl (waits_one [] (by kernel_rfl)) (by intro w9 hSw; have hS := hSw.2; clear hSw; (have z := hadd0 w9 (hX.o.old.trans (hS.mono hX.o.old.size)); clear hS; go_simp) <;> with_reducible rfl) hHeld ?_
        refine tk2 15 (v := .int .i64 (d.A i 1 + d.D 0 0)) rfl (by intro w9 hSw; have hS := hSw; clear hSw; have hq := hwb.out; clear hS; (go_simp) <;> with_reducible rfl) hHeld ?_
        refine tk1 16 rfl hHeld ?_
        refine rd1 17 rfl (fun K hK => ?_)
        go_simp
        refine hK.out _ _ ?_ (fun hHeld => ?_)
        · exact ⟨trivial, hH.alloc hH.size _⟩
        clear hK K hH
        have hH := hHeld.2
        (try simp only [Act.put, xpA, xpZ, xpS])
        refine rdL 18 rfl (fun K hK => ?_)
        have c0 := hT.k0
        have c1 := hT.k1
        have z0 := hT.f0
        have z1 := hT.f1
        go_simp
        clear c0 c1 z0 z1
        refine hK.out _ _ ?_ (fun _ => ?_)
        · trivial
        clear hK K
        (try simp only [Act.put, xpA, xpZ, xpS])
        refine wpAnyP_done (by kernel_rfl) ?_ _
        (try simp only [Act.put, List.getElem_toArray, List.getElem_cons_zero, List.getElem_cons_succ, xpA, xpZ, xpS])
        obtain ⟨V9, hV9⟩ : ∃ W, V0.alloc (Obj.cells #[.int .i64 (d.A i 0 + d.D 0 0), .int .i64 (d.A i 1 + d.D 0 0)] 47) = W := ⟨_, rfl⟩
        have hI9 : IX wr V0.heap.size (d.A i 0 + d.D 0 0) (d.A i 1 + d.D 0 0) V9 := by
          rw [← hV9]
          exact ⟨hV0.alloc hV0.size _, Two.new _ _ _ _, hV0.size, by rw [World.size_alloc]; omega⟩
        rw [hV9]
        clear hV9 hT hV0 hH hHeld
        by_cases hk00 : k = 0
        (have hgt : ¬ (0 : Int) < (k : Int) := by omega
         have hst : Hdn ((d.acid i).fwd k = cuts (k : Int) (d.acid i).cl d.sn (d.A i 0 + d.D 0 0, d.A i 1 + d.D 0 0)) := ⟨by rw [hk00, Acid.fwd, Acid.next, if_pos rfl]; rfl⟩
         go_wp2_with fail
         obtain ⟨s0, hs0⟩ : ∃ x, d.A i 0 + d.D 0 0 = x := ⟨_, rfl⟩
         obtain ⟨s1, hs1⟩ : ∃ x, d.A i 1 + d.D 0 0 = x := ⟨_, rfl⟩
         rw [hs0, hs1] at hI9 hst
         clear hs0 hs1
         have hI2 := hI9
         clear hI9)
        rotate_left
        (have hgt : (0 : Int) < (k : Int) := by omega
         obtain ⟨m, hm⟩ : ∃ m, k = m + 1 := ⟨k - 1, by omega⟩
         have hkm : Hdn (IntKind.i64.wrap ((k : Int) - 1) = m) := ⟨by rw [show (k : Int) - 1 = m by omega]; exact IntWalk.i64_in _ (by omega)⟩
         obtain ⟨g, cap, rfl, hgB, hgl⟩ := row_slice hown (by omega)
         have hsm0 := Acid.fwd_small hsm m (by omega)
         have hle0 := hall.out m (by omega)
         have hcat := cat_of_row hown
         obtain ⟨f, hf⟩ : ∃ f, (d.acid i).fwd m = f := ⟨_, rfl⟩
         have hrow : ∀ W, Below wr.heap.size wr W → W.cell? ⟨g, m * 2, none⟩ = some (.int .i64 f.1) ∧ W.cell? ⟨g, m * 2 + 1, none⟩ = some (.int .i64 f.2) := fun W hB => by
           have := (hcat.below hB hgl).c m (by omega)
           rw [hf] at this
           exact this
         rw [hf] at hsm0 hle0
         obtain ⟨f0, f1⟩ := f
         (try dsimp only at hsm0 hle0 hrow)
         have hadk := hok.add' hlt
         have haf := fun W => rafter_any (d.A i 0) (d.A i 1) (d.A i 2) (d.A i 3) (d.D k 0) f0 f1 ⟨⟨by omega, by omega⟩, by omega, by omega⟩ (by omega) ⟨⟨by omega, by omega⟩, by omega, by omega⟩ W
         obtain ⟨s0, hs0⟩ : ∃ x, max 0 (f0 - d.A i 3) + d.D k 0 = x := ⟨_, rfl⟩
         obtain ⟨s1, hs1⟩ : ∃ x, max 0 (f1 - d.A i 2) + d.D k 0 = x := ⟨_, rfl⟩
         have hst : Hdn ((d.acid i).fwd k = cuts (k : Int) (d.acid i).cl d.sn (s0, s1)) := ⟨by
           rw [← hs0, ← hs1, hm, Acid.fwd, Acid.next, if_neg (by omega), hf]; rfl⟩
         rw [hs0, hs1] at haf
         have hm0 : (0 : Int) ≤ (m : Int) := Int.natCast_nonneg _
         have hmk : (m : Int) < (k : Int) := by omega
         have hm12 : (m : Int) < 12 := by omega
         clear hm hs0 hs1 hsm0 hle0 hf hadk hcat
         go_wp2_with fail
         refine wp_region_late [12] (fun _ => True) (fun w9 => IX wr V0.heap.size (d.A i 0 + d.D 0 0) (d.A i 1 + d.D 0 0) w9) (by kernel_rfl) ?_ (fun hHeld => ?_)
         · exact ⟨trivial, hI9.drew⟩
         have hH := hHeld.2
         generalize V9.drew = V1 at hH hHeld ⊢
         refine tkT 0 1 rfl (waits_one [] (by kernel_rfl)) (by intro w9 hSw; have hS := hSw.2; clear hSw; (have hq := hX.below hS.o; have z := hq.a0; have z1 := hq.a1; have z2 := hq.a2; have z3 := hq.a3; clear hq; clear hS; go_simp) <;> with_reducible rfl) hHeld ?_
         refine tk1 1 rfl hHeld ?_
         refine tkT 2 1 rfl (waits_one [] (by kernel_rfl)) (by intro w9 hSw; have hS := hSw.2; clear hSw; (have z := (hX.below hS.o).o.at'.k3; clear hS; go_simp) <;> with_reducible rfl) hHeld ?_
         refine tk1 3 rfl hHeld ?_
         refine tk1 4 rfl hHeld ?_
         refine tkT 5 1 rfl (waits_one [] (by kernel_rfl)) (by intro w9 hSw; have hS := hSw.2; clear hSw; (have z := haddk w9 (hX.o.old.trans (hS.o.mono hX.o.old.size)); clear hS; go_simp) <;> with_reducible rfl) hHeld ?_
         refine tk1 6 rfl hHeld ?_
         refine tk1 7 rfl hHeld ?_
         refine tk2 8 (v := .int .i64 (m : Int)) rfl (by intro w9 hSw; have hS := hSw; clear hSw; have hq := hkm.out; clear hS; (go_simp) <;> with_reducible rfl) hHeld ?_
         refine tk1 9 rfl hHeld ?_
         refine tkT 10 1 rfl (waits_one [] (by kernel_rfl)) (by intro w9 hSw; have hS := hSw.2; clear hSw; (have hq := hrow w9 hS.o; have z := hq.1; have z1 := hq.2; clear hq; clear hS; go_simp) <;> with_reducible rfl) hHeld ?_
         refine rd1 11 rfl (fun K hK => ?_)
         go_simp
         (go_at_call 68; with_reducible refine (haf _).mono ?_; rintro e w1 ⟨rfl, hb1⟩)
         refine hK.out _ _ ?_ (fun hHeld => ?_)
         · exact ⟨trivial, hH.below hb1⟩
         clear hK K hH
         have hH := hHeld.2
         (try simp only [Act.put, xpA, xpZ, xpS])
         refine rdL 12 rfl (fun K hK => ?_)
         have c0 := hH.s.k0
         have c1 := hH.s.k1
         have z0 := hH.s.f0
         have z1 := hH.s.f1
         go_simp
         clear c0 c1 z0 z1
         refine hK.out _ _ ?_ (fun _ => ?_)
         · trivial
         clear hK K
         (try simp only [Act.put, xpA, xpZ, xpS])
         refine wpAnyP_done (by kernel_rfl) ?_ _
         (try simp only [Act.put, List.getElem_toArray, List.getElem_cons_zero, List.getElem_cons_succ, xpA, xpZ, xpS])
         have hI2 := hH.set s0 s1
         generalize (w1.setCell ⟨V0.heap.size, 0, none⟩ (.int .i64 s0)).setCell ⟨V0.heap.size, 1, none⟩ (.int .i64 s1) = V2 at hI2 ⊢
         clear hH hHeld haf hI9 hb1 hkm
         go_wp2_with fail
        )
        all_goals
          clear hk00
          clear hwa hwb
          have hsr := hok.strips
          obtain ⟨wo, hwo⟩ : ∃ W, W = wr := ⟨_, rfl⟩
          subst hwo
          go_loopw [10] (fun i' V => ∃ q : Nat, q ≤ d.sn ∧ i' = .int .i64 q ∧ ∃ y0 y1 : Int, IX wo V0.heap.size y0 y1 V ∧ Hdn ((y0, y1) = cuts (k : Int) (d.acid i).cl q (s0, s1))) (fun i' _ => d.sn - (intOf i').toNat)
          case atStart => exact ⟨0, Nat.zero_le _, rfl, _, _, hI2, ⟨by rw [cuts]⟩⟩
          case round =>
            obtain ⟨q, hq, rfl, y0, y1, hIq, hcq⟩ := hrel
            have hq0 : (0 : Int) ≤ (q : Int) := Int.natCast_nonneg _
            have hXq := hX.below hIq.o
            obtain ⟨m0, m1, m2, m3, m4, m5⟩ := id hXq.o.at'
            by_cases hltq : q < d.sn
            · have hyq : (q : Int) < (d.sn : Int) := by omega
              have hq66 : (q : Int) < 6 := by omega
              obtain ⟨b', off', cap', e', hbl', hp'⟩ := hd.strips.pos (by omega)
              obtain ⟨es, et⟩ : d.sa = some ⟨b', off', none⟩ ∧ d.sc = cap' := by injection e' with e1 e2 e3; exact ⟨e1, e3⟩
              clear e'
              obtain ⟨⟨v0, v1⟩, ⟨v2, v3⟩, v4, v5⟩ := hok.strip' hltq
              have hp2 := hp'.below hXq.o.old hbl'
              have e0 := hp2.first hltq (by decide)
              have e1 := hp2 q hltq 1 (by decide)
              have e2 := hp2 q hltq 2 (by decide)
              clear hp'
              by_cases heq : d.S q 0 = (k : Int)
              · rw [heq] at e0
                have hbo := fun W => both_any y0 y1 (d.S q 1 - d.S q 2) (d.S q 1 + d.S q 2) W
                obtain ⟨u0, hu0⟩ : ∃ x, max y0 (d.S q 1 - d.S q 2) = x := ⟨_, rfl⟩
                obtain ⟨u1, hu1⟩ : ∃ x, min y1 (d.S q 1 + d.S q 2) = x := ⟨_, rfl⟩
                rw [hu0, hu1] at hbo
                have hcq2 : Hdn ((u0, u1) = cuts (k : Int) (d.acid i).cl (q + 1) (s0, s1)) := ⟨by
                  rw [cuts, if_pos (show ((d.acid i).cl q).1 = (k : Int) from heq), ← hcq.out, ← hu0, ← hu1]; rfl⟩
                clear hu0 hu1 heq
                obtain ⟨W5, hW5⟩ : ∃ W5, wr.alloc (Obj.cells #[.int .i64 (k : Int), .int .i64 (d.S q 1), .int .i64 (d.S q 2)] 60) = W5 := ⟨_, rfl⟩
                have hI5 : IX wo V0.heap.size y0 y1 W5 := by rw [← hW5]; exact hIq.alloc _
                have t0 : W5.cell? ⟨wr.heap.size, 0, none⟩ = some (.int .i64 (k : Int)) := by rw [← hW5]; exact cells_new wr _ _ rfl
                have t1 : W5.cell? ⟨wr.heap.size, 1, none⟩ = some (.int .i64 (d.S q 1)) := by rw [← hW5]; exact cells_new wr _ _ rfl
                have t2 : W5.cell? ⟨wr.heap.size, 2, none⟩ = some (.int .i64 (d.S q 2)) := by rw [← hW5]; exact cells_new wr _ _ rfl
                obtain ⟨_, ⟨g0, g1, _, _⟩, _, _⟩ := id hI5
                clear hp2
                go_wp2_with (go_at_call 91; (with_reducible refine (hbo _).mono ?_); rintro e w6 ⟨rfl, hb6⟩; have hI6 := hI5.below hb6; obtain ⟨_, ⟨c0, c1, f0, f1⟩, _, _⟩ := id hI6)
                have hI7 := hI6.set u0 u1
                generalize (w6.setCell ⟨V0.heap.size, 0, none⟩ (.int .i64 u0)).setCell ⟨V0.heap.size, 1, none⟩ (.int .i64 u1) = W7 at hI7 ⊢
                clear hI5 hI6 hb6 c0 c1 f0 f1 t0 t1 t2 e0 e1 e2 hW5 g0 g1
                (try go_wp2)
                go_roundw
                case rel => exact ⟨q + 1, by omega, by go_num, _, _, hI7, hcq2⟩
                case measure => simp [intOf]; omega
              · have hcq2 : Hdn ((y0, y1) = cuts (k : Int) (d.acid i).cl (q + 1) (s0, s1)) := ⟨by
                  rw [cuts, if_neg (show ¬ ((d.acid i).cl q).1 = (k : Int) from heq), ← hcq.out]⟩
                have hne : ((d.S q 0 == (k : Int)) = false) := beq_false_of_ne heq
                obtain ⟨W5, hW5⟩ : ∃ W5, wr.alloc (Obj.cells #[.int .i64 (d.S q 0), .int .i64 (d.S q 1), .int .i64 (d.S q 2)] 60) = W5 := ⟨_, rfl⟩
                have hI5 : IX wo V0.heap.size y0 y1 W5 := by rw [← hW5]; exact hIq.alloc _
                have t0 : W5.cell? ⟨wr.heap.size, 0, none⟩ = some (.int .i64 (d.S q 0)) := by rw [← hW5]; exact cells_new wr _ _ rfl
                have t1 : W5.cell? ⟨wr.heap.size, 1, none⟩ = some (.int .i64 (d.S q 1)) := by rw [← hW5]; exact cells_new wr _ _ rfl
                have t2 : W5.cell? ⟨wr.heap.size, 2, none⟩ = some (.int .i64 (d.S q 2)) := by rw [← hW5]; exact cells_new wr _ _ rfl
                obtain ⟨_, ⟨g0, g1, _, _⟩, _, _⟩ := id hI5
                clear hp2
                go_wp2
                clear hne
                go_roundw
                case rel => exact ⟨q + 1, by omega, by go_num, _, _, hI5, hcq2⟩
                case measure => simp [intOf]; omega
            · have hnq : ¬ (q : Int) < (d.sn : Int) := by omega
              obtain rfl : q = d.sn := by omega
              have hfw : Hdn ((d.acid i).fwd k = (y0, y1)) := ⟨by rw [hst.out, ← hcq.out]⟩
              clear hcq
              obtain ⟨_, ⟨c0, c1, _, _⟩, _, _⟩ := id hIq
              have hB9 := hX.o.old.trans (hIq.o.mono hX.o.old.size)
              by_cases hem : y1 < y0
              · have hno : Hdn (¬ d.poss i) := ⟨fun H => by have := H.2 k hlt; rw [hfw.out] at this; (try dsimp only at this); omega⟩
                go_wp2
                go_ret2
                exact .inr ⟨hno.out, rfl, hB9⟩
              · have hyes : Hdn (((d.acid i).fwd k).1 ≤ ((d.acid i).fwd k).2) := ⟨by rw [hfw.out]; (try dsimp only); omega⟩
                have hcrs : Hdn (crsL (d.acid i).fwd (k + 1) = crsL (d.acid i).fwd k ++ [.int .i64 y0, .int .i64 y1]) := ⟨by unfold crsL; rw [hfw.out]; cases k <;> rfl⟩
                have hown2 := row_below hown hIq.o
                have hz2 := hIq.o.size
                have hz1 := hX.lt
                go_wp2_with (at_builtin; refine wpList_append_own _ rfl _ _ 41 rfl (w.heap.size + 2) 47 i0 (.agg #[.int .i64 0, .int .i64 0]) 2 16 Tryz.underlying41 hinf hzz hzs hzb rfl (by decide) _ _ _ rfl (hown2.alloc _) ⟨wr.heap.size, 0, none⟩ 1 1 [.int .i64 y0, .int .i64 y1] rfl rfl (cells_two _ _ _ _) (two_one _ _) (by unfold maxLen; omega) (by omega) (by rw [World.size_alloc]; omega) ?_)
                intro v3 w3 hown3 hgrow _
                have hX4 : BY w d i w3 := (hX.below hIq.o).beyond ((((Below.refl _ wr).alloc (by omega) _).grown hgrow (by rw [World.size_alloc]; omega) (fun k hk => (hown2.lt k hk).1)))
                rw [← hcrs.out] at hown3
                clear hgrow hown hown2 hI2 hIq hXq c0 c1 hcrs hfw
                go_wp2
                go_roundw
                case rel => exact ⟨k + 1, by omega, by go_num, hX4, hown3, ⟨all_succ (p := fun j => ((d.acid i).fwd j).1 ≤ ((d.acid i).fwd j).2) hall.out hyes.out⟩⟩
                case measure => simp [intOf]; omega

      · 
        have hkd : k = d.dn := by omega
        have hcan : (d.acid i).can d.dn := fun j hj => hall.out j (by omega)
        have hposs : Hdn (d.poss i) := ⟨⟨hbit'.out, hcan⟩⟩
        subst hkd
        obtain ⟨g, cap, rfl, hgB, hgl⟩ := row_slice hown hdp
        have hR : RY w d i g d.dn (d.acid i).fwd wr := ⟨hX, cat_of_row hown, hgl⟩
        have hk7 : ¬ (d.dn : Int) < d.hours := by have := hhr.out; omega
        obtain ⟨⟨q0, q1, q2, q3, q4, q5⟩, _, _⟩ := id hX.o
        clear hown hX hall hwa hwb
        have hend0 : ∀ j, j < d.dn → d.dn ≤ j + 1 + 0 → (d.acid i).fwd j = (d.acid i).ends d.dn j := by
          intro j hj hj2
          obtain rfl : j = d.dn - 1 := by omega
          exact (Acid.ends_last _ _ hdp).symm
        have hend0 : Hdn _ := ⟨hend0⟩
        go_wp2_with fail
        go_loopw [12] (fun i' wr2 => ∃ m : Nat, m + 1 ≤ d.dn ∧ ∃ x : Int, i' = .int .i64 x ∧ Hdn (x = d.hours - 2 - (m : Int)) ∧ ∃ r, RY w d i g d.dn r wr2 ∧ Hdn (∀ j, j < d.dn → d.dn ≤ j + 1 + m → r j = (d.acid i).ends d.dn j) ∧ Hdn (∀ j, j < d.dn → j + 1 + m < d.dn → r j = (d.acid i).fwd j)) (fun i' _ => (intOf i' + 1).toNat)
        case atStart => exact ⟨0, by omega, _, rfl, ⟨by omega⟩, _, hR, hend0, ⟨fun _ _ _ => rfl⟩⟩
        case round =>
          obtain ⟨m, hm1, x, rfl, hx, r, hX2, hhi, hlo⟩ := hrel
          have hm0 : (0 : Int) ≤ (m : Int) := Int.natCast_nonneg _
          clear q0 q1 q2 q3 q4 q5 hR
          obtain ⟨⟨q0, q1, q2, q3, q4, q5⟩, _, _⟩ := id hX2.f.o
          by_cases hlt2 : m + 1 < d.dn
          · obtain ⟨h, hh⟩ : ∃ h, d.dn = m + 2 + h := ⟨d.dn - 2 - m, by omega⟩
            obtain rfl : x = (h : Int) := by have := hx.out; have := hhr.out; omega
            clear hx
            have hh0 : (0 : Int) ≤ (h : Int) := Int.natCast_nonneg _
            have hh12 : (h : Int) ≤ 12 := by have := hhr.out; omega
            have hhn : h < d.dn := by omega
            have hh1 : h + 1 < d.dn := by omega
            have hhi1 : (h : Int) < (d.dn : Int) := by omega
            have hhi2 : (h : Int) + 1 < (d.dn : Int) := by omega
            have hhi3 : (0 : Int) ≤ (h : Int) + 1 := by omega
            have hw1 : Hdn (IntKind.i64.wrap ((h : Int) + 1) = (h : Int) + 1) := ⟨IntWalk.i64_in _ (by omega)⟩
            have hw2 : Hdn (((h : Int) + 1).toNat = h + 1) := ⟨by omega⟩
            have hsm1 := Acid.ends_small hsm hcan (by have := hhr.out; omega) hh1
            have hst : Hdn ((d.acid i).ends d.dn h = (max ((d.acid i).fwd h).1 ((d.acid i).back (h+1) ((d.acid i).ends d.dn (h+1))).1, min ((d.acid i).fwd h).2 ((d.acid i).back (h+1) ((d.acid i).ends d.dn (h+1))).2)) := ⟨Acid.ends_step _ _ _ hh1⟩
            have hr1 := hhi.out (h + 1) hh1 (by omega)
            have hr0 := hlo.out h hhn (by omega)
            have haddh : ∀ W, Below w.heap.size w W → W.cell? ⟨ba, oa + (h + 1), none⟩ = some (.int .i64 (d.D (h + 1) 0)) := fun W hB => (hpa.below hB hba).one hh1
            have hadk := hok.add' hh1
            obtain ⟨E, hE⟩ : ∃ E, (d.acid i).ends d.dn (h+1) = E := ⟨_, rfl⟩
            obtain ⟨X, hXe⟩ : ∃ X, (d.acid i).fwd h = X := ⟨_, rfl⟩
            rw [hE] at hst hsm1 hr1
            rw [hXe] at hst hr0
            have hbf := fun (W : World) => rbefore_any (d.A i 0) (d.A i 1) (d.A i 2) (d.A i 3) (d.D (h + 1) 0) E.1 E.2 ⟨⟨by omega, by omega⟩, by omega, by omega⟩ (by omega) ⟨⟨by omega, by omega⟩, by omega, by omega⟩ W
            have hbk : Hdn ((d.acid i).back (h+1) E = (if 0 < E.1 - d.D (h + 1) 0 then E.1 - d.D (h + 1) 0 + d.A i 2 else 0, E.2 - d.D (h + 1) 0 + d.A i 3)) := ⟨rfl⟩
            clear hE hXe hsm1 hadk
            obtain ⟨y0, y1⟩ := E
            obtain ⟨x0', x1'⟩ := X
            (try dsimp only at hbf hbk hst)
            obtain ⟨B0, hB0⟩ : ∃ B, (if 0 < y0 - d.D (h + 1) 0 then y0 - d.D (h + 1) 0 + d.A i 2 else 0) = B := ⟨_, rfl⟩
            obtain ⟨B1, hB1⟩ : ∃ B, y1 - d.D (h + 1) 0 + d.A i 3 = B := ⟨_, rfl⟩
            rw [hB0, hB1] at hbf hbk
            rw [hbk.out] at hst
            (try dsimp only at hst)
            clear hB0 hB1
            have hbo := fun W => both_any x0' x1' B0 B1 W
            obtain ⟨X0, hX0⟩ : ∃ X, max x0' B0 = X := ⟨_, rfl⟩
            obtain ⟨X1, hX1⟩ : ∃ X, min x1' B1 = X := ⟨_, rfl⟩
            rw [hX0, hX1] at hbo hst
            clear hX0 hX1
            have hrh : Hdn (r h = (x0', x1')) := ⟨hr0⟩
            have hrh1 : Hdn (r (h + 1) = (y0, y1)) := ⟨hr1⟩
            have hhH : Hdn (d.dn = m + 2 + h) := ⟨hh⟩
            clear hr0 hr1 hh
            go_wp2_with fail
            refine wp_region_late [21] (fun _ => True) (fun w9 => RY w d i g d.dn r w9) (by kernel_rfl) ?_ (fun hHeld => ?_)
            · exact ⟨trivial, hX2.drew⟩
            have hH := hHeld.2
            generalize wr.drew = V5 at hH hHeld ⊢
            refine tk1 0 rfl hHeld ?_
            refine tk1 1 rfl hHeld ?_
            refine tk1 2 rfl hHeld ?_
            refine tk1 3 rfl hHeld ?_
            refine tk1 4 rfl hHeld ?_
            refine tkT 5 1 rfl (waits_one [] (by kernel_rfl)) (by intro w9 hSw; have hS := hSw.2; clear hSw; (have hq := hS.row.c h hhn; rw [hrh.out] at hq; have z := hq.1; have z1 := hq.2; clear hq; clear hS; go_simp) <;> with_reducible rfl) hHeld ?_
            refine tkT 6 1 rfl (waits_one [] (by kernel_rfl)) (by intro w9 hSw; have hS := hSw.2; clear hSw; (have z := hS.f.a0; have z1 := hS.f.a1; have z2 := hS.f.a2; have z3 := hS.f.a3; clear hS; go_simp) <;> with_reducible rfl) hHeld ?_
            refine tk1 7 rfl hHeld ?_
            refine tkT 8 1 rfl (waits_one [] (by kernel_rfl)) (by intro w9 hSw; have hS := hSw.2; clear hSw; (have z := hS.f.o.at'.k3; clear hS; go_simp) <;> with_reducible rfl) hHeld ?_
            refine tk1 9 rfl hHeld ?_
            refine tk2 10 (v := .int .i64 ((h : Int) + 1)) rfl (by intro w9 hSw; have hS := hSw; clear hSw; have hq := hw1.out; clear hS; (go_simp) <;> with_reducible rfl) hHeld ?_
            refine tk2 11 (v := .pointer (some ⟨ba, oa + (h + 1), none⟩)) rfl (by intro w9 hSw; have hS := hSw; clear hSw; have hq := hw2.out; clear hS; (go_simp) <;> with_reducible rfl) hHeld ?_
            refine tkT 12 1 rfl (waits_one [] (by kernel_rfl)) (by intro w9 hSw; have hS := hSw.2; clear hSw; (have z := haddh w9 hS.f.o.old; clear hS; go_simp) <;> with_reducible rfl) hHeld ?_
            refine tk1 13 rfl hHeld ?_
            refine tk1 14 rfl hHeld ?_
            refine tk2 15 (v := .int .i64 ((h : Int) + 1)) rfl (by intro w9 hSw; have hS := hSw; clear hSw; have hq := hw1.out; clear hS; (go_simp) <;> with_reducible rfl) hHeld ?_
            refine tk2 16 (v := .pointer (some ⟨g, (h + 1) * 2, none⟩)) rfl (by intro w9 hSw; have hS := hSw; clear hSw; have hq := hw2.out; clear hS; (go_simp) <;> with_reducible rfl) hHeld ?_
            refine tkT 17 1 rfl (waits_one [] (by kernel_rfl)) (by intro w9 hSw; have hS := hSw.2; clear hSw; (have hq := hS.row.c (h + 1) hh1; rw [hrh1.out] at hq; have z := hq.1; have z1 := hq.2; clear hq; clear hS; go_simp) <;> with_reducible rfl) hHeld ?_
            refine rd1 18 rfl (fun K hK => ?_)
            go_simp
            (go_at_call 117; with_reducible refine (hbf _).mono ?_; rintro e w1 ⟨rfl, hb1⟩)
            have hH2 := hH.below hb1
            refine hK.out _ _ ?_ (fun hHeld => ?_)
            · exact ⟨trivial, hH2⟩
            clear hK K hH
            have hH := hHeld.2
            (try simp only [Act.put, xpA, xpZ, xpS])
            refine rd1 19 rfl (fun K hK => ?_)
            go_simp
            (go_at_call 91; with_reducible refine (hbo _).mono ?_; rintro e w2 ⟨rfl, hb2⟩)
            have hH3 := hH.below hb2
            refine hK.out _ _ ?_ (fun hHeld => ?_)
            · exact ⟨trivial, hH3⟩
            clear hK K hH
            have hH := hHeld.2
            (try simp only [Act.put, xpA, xpZ, xpS])
            refine tk1 20 rfl hHeld ?_
            refine rdL 21 rfl (fun K hK => ?_)
            have c0 := (hH.row.c h hhn).1
            have c1 := (hH.row.c h hhn).2
            have z0 := hH.row.z (h * 2)
            have z1 := hH.row.z (h * 2 + 1)
            go_simp
            clear c0 c1 z0 z1
            refine hK.out _ _ ?_ (fun _ => ?_)
            · trivial
            clear hK K
            (try simp only [Act.put, xpA, xpZ, xpS])
            refine wpAnyP_done (by kernel_rfl) ?_ _
            (try simp only [Act.put, List.getElem_toArray, List.getElem_cons_zero, List.getElem_cons_succ, xpA, xpZ, xpS])
            have hQ := hH.put hgB h hhn X0 X1
            generalize (w2.setCell ⟨g, h * 2, none⟩ (.int .i64 X0)).setCell ⟨g, h * 2 + 1, none⟩ (.int .i64 X1) = W7 at hQ ⊢
            clear hH hX2 hbf hbo q0 q1 q2 q3 q4 q5
            go_wp2
            go_roundw
            case rel =>
              have hh := hhH.out
              refine ⟨m + 1, by omega, _, rfl, ⟨by have := hhr.out; omega⟩, _, hQ, ⟨fun j hj hj2 => ?_⟩, ⟨fun j hj hj2 => ?_⟩⟩
              · by_cases hjk : j = h
                · rw [if_pos hjk, hjk, hst.out]
                · rw [if_neg hjk]; exact hhi.out j hj (by omega)
              · rw [if_neg (by omega)]; exact hlo.out j hj (by omega)
            case measure => simp [intOf] <;> omega
          · obtain rfl : x = -1 := by have := hx.out; have := hhr.out; omega
            clear hx
            have hfe : ∀ j, j < d.dn → r j = (d.acid i).ends d.dn j := fun j hj => hhi.out j hj (by omega)
            have hfin := hX2.row.congr hfe
            have hfl := hX2.lt
            have hfo := hX2.f.o.old
            clear hX2 hhi hlo hfe
            go_wp2
            refine bodyPost_ret (v := .tuple #[.slice (some ⟨g, 0, none⟩) d.dn cap, .bool true]) (by simp [results, Tryz.results69, go_sem]) rfl ?_
            exact .inl ⟨hposs.out, g, cap, rfl, by omega, hfl, hfin, hfo⟩
end Go.Proofs.YtlhgkepdoinlnaaGreatDoor
