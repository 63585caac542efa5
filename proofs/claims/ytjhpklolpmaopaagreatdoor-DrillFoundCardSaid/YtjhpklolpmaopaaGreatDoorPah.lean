/- A part of the proof: see the last file. -/
import Derived.Test.YtjhpklolpmaopaaGreatDoorPaa
import Derived.Test.YtjhpklolpmaopaaGreatDoorPag
import Derived.Deep.MidRow
import Derived.Deep.Upon
set_option linter.unusedVariables false
set_option linter.unusedSimpArgs false
set_option linter.unusedSectionVars false
namespace Go.Proofs.YtjhpklolpmaopaaGreatDoor
open Go.RowKit
/-- the cells of a course. -/
def crsL (f : Nat → Int × Int) : Nat → List Value
 | 0 => []
 | n+1 => crsL f n ++ [.int .i64 (f n).1, .int .i64 (f n).2]
theorem rows_apart {w : World} {B1 B2 s1 s2 n1 n2 g : Nat} {e1 e2 : TypeId} {v1 v2 : Value} {xs1 xs2 : List Value} (h1 : w.ownsRow B1 e1 s1 v1 n1 xs1) (h2 : w.ownsRow B2 e2 s2 v2 n2 xs2) (he : e1 ≠ e2) (hg : v1.ownBlock = some g) : v1.ownBlock ≠ v2.ownBlock := by
 intro e
 rcases h1.2 with ⟨h, _⟩ | ⟨g1, c1, u1, rfl, _, k1, _⟩
 ·subst h; cases hg
 ·rcases h2.2 with ⟨h, _⟩ | ⟨g2, c2, u2, rfl, _, k2, _⟩
  ·subst h; cases e
  ·have e' : g1 = g2 := Option.some.inj e
   subst e'
   rw [k1] at k2
   injection k2 with k2
   injection k2 with _ k3 _
   exact he k3
theorem rows_kept {w w' : World} {B1 B2 s1 s2 n1 n2 : Nat} {e1 e2 : TypeId} {v1 v2 : Value} {xs1 xs2 : List Value} (h1 : w.ownsRow B1 e1 s1 v1 n1 xs1) (h2 : w.ownsRow B2 e2 s2 v2 n2 xs2) (he : e1 ≠ e2) (hg : w.grownBy w' v2.ownBlock) : w'.ownsRow B1 e1 s1 v1 n1 xs1 := by
 cases hb : v1.ownBlock with
 | none => exact h1.kept hg (.inl hb)
 | some g => exact h1.kept hg (.inr (rows_apart h1 h2 he hb))
theorem nar_hit {k : Int} {cl : Nat → Int × Int × Int} {j : Nat} {s : Int × Int} {l : List (Int × Int)} {s0 : Int × Int} (h : narF (s0 :: l) = nar k cl j s) (hk : (cl j).1 = k) : narF (s0 :: (l ++ [((cl j).2.1, (cl j).2.2)])) = nar k cl (j+1) s := by
 rw [← List.cons_append, narF_push, h]; conv => rhs; unfold nar
 rw [if_pos hk]
theorem nar_miss {k : Int} {cl : Nat → Int × Int × Int} {j : Nat} {s : Int × Int} {l : List (Int × Int)} {s0 : Int × Int} (h : narF (s0 :: l) = nar k cl j s) (hk : ¬ (cl j).1 = k) : narF (s0 :: l) = nar k cl (j+1) s := by
 rw [h]; conv => rhs; unfold nar
 rw [if_neg hk]
theorem below_setCells {B b : Nat} {a : World} (hb : B ≤ b) : ∀ (vs : List Value) (o : Nat) (w : World), Below B a w → Below B a (w.setCells b o vs)
 | [], _, _, h => h
 | v :: r, o, w, h => by
  rw [World.setCells]
  exact below_setCells hb r (o + 1) _ (h.setCell (p := ⟨b, o, none⟩) hb v)
theorem crsL_length (f : Nat → Int × Int) : ∀ n, (crsL f n).length = 2 * n
 | 0 => rfl
 | n+1 => by unfold crsL; rw [List.length_append, crsL_length f n]; simp; omega
theorem crsL_at (f : Nat → Int × Int) : ∀ n i, i < n → (crsL f n)[i * 2]? = some (.int .i64 (f i).1) ∧ (crsL f n)[i * 2 + 1]? = some (.int .i64 (f i).2)
 | 0, i, h => absurd h (Nat.not_lt_zero i)
 | n+1, i, h => by
  have hl := crsL_length f n
  unfold crsL
  by_cases hi : i = n
  ·subst hi
   refine ⟨?_, ?_⟩
   ·rw [List.getElem?_append_right (by omega), show i * 2 - (crsL f i).length = 0 by omega]; rfl
   ·rw [List.getElem?_append_right (by omega), show i * 2 + 1 - (crsL f i).length = 1 by omega]; rfl
  ·obtain ⟨h1, h2⟩ := crsL_at f n i (by omega)
   refine ⟨?_, ?_⟩
   ·rw [List.getElem?_append_left (by omega)]; exact h1
   ·rw [List.getElem?_append_left (by omega)]; exact h2
theorem crsL_one (f : Nat → Int × Int) : ∀ n, ∀ v ∈ crsL f n, v.oneCell' = true
 | 0, v, h => by cases h
 | n+1, v, h => by
  unfold crsL at h
  rcases List.mem_append.1 h with h | h
  ·exact crsL_one f n v h
  ·simp only [List.mem_cons, List.not_mem_nil, or_false] at h
   rcases h with rfl | rfl <;> rfl
theorem crsL_congr {f g : Nat → Int × Int} : ∀ {n : Nat}, (∀ j, j < n → f j = g j) → crsL f n = crsL g n
 | 0, _ => rfl
 | n+1, h => by unfold crsL; rw [crsL_congr (n := n) fun j hj => h j (by omega), h n (by omega)]
theorem cat_range {W : World} {C : Nat} {f : Nat → Int × Int} (h : CAt W C f) : W.rangeAt C 0 (crsL f 13) := fun j v hj => by
 have hl := (List.getElem?_eq_some_iff.1 hj).1
 rw [crsL_length] at hl
 obtain ⟨a0, a1⟩ := h.c (j / 2) (by omega)
 obtain ⟨k0, k1⟩ := crsL_at f 13 (j / 2) (by omega)
 rw [Nat.zero_add]
 have hm2 : j % 2 = 0 ∨ j % 2 = 1 := by omega
 rcases hm2 with hm | hm
 ·rw [show j / 2 * 2 = j by omega] at a0 k0; rw [a0, ← k0, hj]
 ·rw [show j / 2 * 2 + 1 = j by omega] at a1 k1; rw [a1, ← k1, hj]
theorem course_put {w W : World} {C R H : Nat} {f g : Nat → Int × Int} {c0 c1 w0 w1 : Int} {v : Value} (k : Nat) (hk : k < 13) {o1 o2 : Nat} (h1 : o1 = k * 2) (h2 : o2 = k * 2 + 1) (x y : Int) (hC : CAt W C f) (hR : CAt W R g) (hA : AAt W H c0 c1 w0 w1 v) (hb : Below w.heap.size w W) (hRC : R ≠ C) (hHC : H ≠ C) (hl : w.heap.size ≤ C) :
  CAt ((W.setCell ⟨C, o1, none⟩ (.int .i64 x)).setCell ⟨C, o2, none⟩ (.int .i64 y)) C (fun j => if j = k then (x, y) else f j) ∧ CAt ((W.setCell ⟨C, o1, none⟩ (.int .i64 x)).setCell ⟨C, o2, none⟩ (.int .i64 y)) R g ∧ AAt ((W.setCell ⟨C, o1, none⟩ (.int .i64 x)).setCell ⟨C, o2, none⟩ (.int .i64 y)) H c0 c1 w0 w1 v ∧ Below w.heap.size w ((W.setCell ⟨C, o1, none⟩ (.int .i64 x)).setCell ⟨C, o2, none⟩ (.int .i64 y)) ∧ ((W.setCell ⟨C, o1, none⟩ (.int .i64 x)).setCell ⟨C, o2, none⟩ (.int .i64 y)).heap.size = W.heap.size := by
 subst h1; subst h2
 refine ⟨hC.store k hk x y, (hR.far (Below.heap_setCell W ⟨C, _, none⟩ _ R hRC)).far (Below.heap_setCell _ ⟨C, _, none⟩ _ R hRC), (hA.far (Below.heap_setCell W ⟨C, _, none⟩ _ H hHC)).far (Below.heap_setCell _ ⟨C, _, none⟩ _ H hHC), (hb.setCell (p := ⟨C, _, none⟩) hl _).setCell (p := ⟨C, _, none⟩) hl _, ?_⟩
 rw [World.size_setCell, World.size_setCell]
theorem row_cap {w : World} {B g n cap size : Nat} {e : TypeId} {xs : List Value} (h : w.ownsRow B e size (.slice (some ⟨g, 0, none⟩) n cap) n xs) : n ≤ cap := by
 rcases h.2 with ⟨h, _⟩ | ⟨g1, c1, u1, e1, _, _, k2, _⟩
 ·cases h
 ·injection e1 with _ _ e3
  omega
theorem row_below {w w' : World} {B B' : Nat} {e : TypeId} {size : Nat} {v : Value} {n : Nat} {xs : List Value} (h : w.ownsRow B e size v n xs) (hb : Below B' w w') (hl : ∀ g, v.ownBlock = some g → g < B' := by intro g hg; have e := Option.some.inj hg; dsimp only at e; omega) : w'.ownsRow B e size v n xs := by
 obtain ⟨h1, h2⟩ := h
 refine ⟨h1, ?_⟩
 rcases h2 with h2 | ⟨g, cap, cur, rfl, a2, a3, a4⟩
 ·exact .inl h2
 ·exact .inr ⟨g, cap, cur, rfl, a2, by rw [hb.block g (hl g rfl)]; exact a3, a4⟩
set_option maxRecDepth 100000 in
set_option maxHeartbeats 8000000 in
theorem course_any (a : Axis) (v : Value) (w : World) (hf : a.fine) (hv : CSp w v a.n a.cl) :
  Calls Tryz.prog 58 #[.agg #[.int .i64 a.c0, .int .i64 a.c1, .int .i64 a.w0, .int .i64 a.w1, v], .slice none 0 0] w fun e w' => (a.can ∧ e = .returned (.agg (crsL a.ends 13).toArray) ∧ Below w.heap.size w w') ∨ (¬ a.can ∧ e = .panicked [{ v := .iface 225 (.agg #[]), recovered := false }] ∧ Below w.heap.size w w') := by
 obtain ⟨i0, hi, hz0, hz1, hz2⟩ := info_parts Tryz.info24
 have hfw := Axis.fwd_bound hf
 have hff := hf
 obtain ⟨hc, hw, hfew, hcl⟩ := hf
 obtain ⟨va, vc, hvs⟩ := hv.slice
 subst hvs
 obtain ⟨W0, hW0⟩ : ∃ W0, (((w.alloc (Obj.cells #[.int .i64 a.c0, .int .i64 a.c1, .int .i64 a.w0, .int .i64 a.w1, .slice va a.n vc] 114)).alloc (Obj.cells #[.int .i64 0, .int .i64 0, .int .i64 0, .int .i64 0, .int .i64 0, .int .i64 0, .int .i64 0, .int .i64 0, .int .i64 0, .int .i64 0, .int .i64 0, .int .i64 0, .int .i64 0, .int .i64 0, .int .i64 0, .int .i64 0, .int .i64 0, .int .i64 0, .int .i64 0, .int .i64 0, .int .i64 0, .int .i64 0, .int .i64 0, .int .i64 0, .int .i64 0, .int .i64 0] 90)).alloc (Obj.cells #[.int .i64 0, .int .i64 0, .int .i64 0, .int .i64 0, .int .i64 0, .int .i64 0, .int .i64 0, .int .i64 0, .int .i64 0, .int .i64 0, .int .i64 0, .int .i64 0, .int .i64 0, .int .i64 0, .int .i64 0, .int .i64 0, .int .i64 0, .int .i64 0, .int .i64 0, .int .i64 0, .int .i64 0, .int .i64 0, .int .i64 0, .int .i64 0, .int .i64 0, .int .i64 0] 90)) = W0 := ⟨_, rfl⟩
 have hsz : W0.heap.size = w.heap.size + 1 + 1 + 1 := by rw [← hW0, World.size_alloc, World.size_alloc, World.size_alloc]
 have hb0 : Below w.heap.size w W0 := by rw [← hW0]; exact (((Below.refl _ _).alloc (Nat.le_refl _) _).alloc (by rw [World.size_alloc]; omega) _).alloc (by rw [World.size_alloc, World.size_alloc]; omega) _
 have hA0 : AAt W0 w.heap.size a.c0 a.c1 a.w0 a.w1 (.slice va a.n vc) := by
  rw [← hW0]
  exact (AAt.new w 114 a.c0 a.c1 a.w0 a.w1 (.slice va a.n vc)).below (B := w.heap.size + 1) (((Below.refl (w.heap.size + 1) _).alloc (by rw [World.size_alloc]; omega) _).alloc (by rw [World.size_alloc, World.size_alloc]; omega) _) (by omega)
 have hR0 : CAt W0 (w.heap.size + 1) (fun _ => (0, 0)) := by
  have h := cat_new (w.alloc (Obj.cells #[.int .i64 a.c0, .int .i64 a.c1, .int .i64 a.w0, .int .i64 a.w1, .slice va a.n vc] 114)) 90
  rw [World.size_alloc] at h
  rw [← hW0]
  exact h.below ((Below.refl _ _).alloc (Nat.le_refl _) _) (by rw [World.size_alloc, World.size_alloc]; omega)
 have hC0 : CAt W0 (w.heap.size + 1 + 1) (fun _ => (0, 0)) := by
  have h := cat_new ((w.alloc (Obj.cells #[.int .i64 a.c0, .int .i64 a.c1, .int .i64 a.w0, .int .i64 a.w1, .slice va a.n vc] 114)).alloc (Obj.cells #[.int .i64 0, .int .i64 0, .int .i64 0, .int .i64 0, .int .i64 0, .int .i64 0, .int .i64 0, .int .i64 0, .int .i64 0, .int .i64 0, .int .i64 0, .int .i64 0, .int .i64 0, .int .i64 0, .int .i64 0, .int .i64 0, .int .i64 0, .int .i64 0, .int .i64 0, .int .i64 0, .int .i64 0, .int .i64 0, .int .i64 0, .int .i64 0, .int .i64 0, .int .i64 0] 90)) 90
  rw [World.size_alloc, World.size_alloc, hW0] at h
  exact h
 go_enter Tryz.func58, Tryz.ntmps58
 go_wp2
 try rw [hW0]
 clear hW0
 go_loopw [15] (fun i wr => ∃ (k : Nat) (f : Nat → Int × Int), k ≤ 13 ∧ i = .int .i64 k ∧ CAt wr (w.heap.size + 1 + 1) f ∧ (∀ j, j < k → f j = a.fwd j ∧ (a.fwd j).1 ≤ (a.fwd j).2) ∧ CAt wr (w.heap.size + 1) (fun _ => (0, 0)) ∧ AAt wr w.heap.size a.c0 a.c1 a.w0 a.w1 (.slice va a.n vc) ∧ Below w.heap.size w wr ∧ w.heap.size + 1 + 1 + 1 ≤ wr.heap.size) (fun i _ => 13 - (intOf i).toNat)
 case atStart => exact ⟨0, _, Nat.zero_le _, rfl, hC0, fun j hj => absurd hj (Nat.not_lt_zero j), hR0, hA0, hb0, by omega⟩
 case round =>
  clear hC0 hR0 hA0 hb0 hsz W0
  obtain ⟨wo, rfl⟩ : ∃ wo : World, wo = wr := ⟨wr, rfl⟩
  obtain ⟨k, f, hk, rfl, hC, hkn, hR, hA, hbl, hsw⟩ := hrel
  by_cases hlt : k < 13
  ·cases k with
   | zero =>
    have hA' := hA
    obtain ⟨q0, q1, q2, q3, q4, q5, q6, q7, q8, q9⟩ := hA'
    have aq := fun o => (hA.below ((Below.refl wo.heap.size wo).alloc (Nat.le_refl _) o) (by omega)).k4
    have hcc : Calls Tryz.prog 97 #[.slice (some ⟨wo.heap.size + 1, 0, none⟩) 2 2] ((wo.alloc (Obj.cells #[.int .i64 a.c0, .int .i64 a.c1] 24)).alloc (Obj.cells #[.slice va a.n vc, .slice none 0 0] 112)) fun e w' => ∃ v, e = .returned v ∧ w'.ownsRow (wo.heap.size + 1 + 1) 117 3 v a.n (clueCells a.cl a.n) ∧ Below (wo.heap.size + 1 + 1) ((wo.alloc (Obj.cells #[.int .i64 a.c0, .int .i64 a.c1] 24)).alloc (Obj.cells #[.slice va a.n vc, .slice none 0 0] 112)) w' := by
     obtain ⟨A1, hA1⟩ : ∃ A, wo.alloc (Obj.cells #[.int .i64 a.c0, .int .i64 a.c1] 24) = A := ⟨_, rfl⟩
     have s1 : A1.heap.size = wo.heap.size + 1 := by rw [← hA1, World.size_alloc]
     have hv1 := ((hv.below hbl).below (w' := A1) (by rw [← hA1]; exact (Below.refl wo.heap.size wo).alloc (Nat.le_refl _) _)).below ((Below.refl A1.heap.size A1).alloc (Nat.le_refl _) (Obj.cells #[.slice va a.n vc, .slice none 0 0] 112))
     have h := concat_any A1.heap.size (.slice va a.n vc) a.n a.cl (A1.alloc (Obj.cells #[.slice va a.n vc, .slice none 0 0] 112)) (by omega) (by rw [World.size_alloc]; omega) (cells_new A1 _ _ rfl) (cells_new A1 _ _ rfl) hv1
     rw [World.size_alloc, s1] at h
     rw [hA1]
     exact h
    go_wp2_with (go_at_call 97; with_reducible refine hcc.mono ?_; rintro e w1 ⟨v1, rfl, hown1, hb1⟩; obtain ⟨x1, x2, rfl⟩ := ownsRow_slice hown1)
    have hspw : ((wo.alloc (Obj.cells #[.int .i64 a.c0, .int .i64 a.c1] 24)).alloc (Obj.cells #[.slice va a.n vc, .slice none 0 0] 112)).ownsRow wo.heap.size 24 2 (.slice (some ⟨wo.heap.size, 0, none⟩) 1 1) 1 (spCells [(a.c0, a.c1)]) := (World.ownsRow_lit (base := wo.heap.size) (size := 2) wo #[.int .i64 a.c0, .int .i64 a.c1] 1 (Nat.le_refl _) (by unfold maxLen; omega) rfl).alloc _
    have hbW : Below wo.heap.size wo ((wo.alloc (Obj.cells #[.int .i64 a.c0, .int .i64 a.c1] 24)).alloc (Obj.cells #[.slice va a.n vc, .slice none 0 0] 112)) := ((Below.refl _ _).alloc (Nat.le_refl _) _).alloc (by rw [World.size_alloc]; omega) _
    have hcr : w1.ownsRow (wo.heap.size + 1 + 1) 117 3 (.slice x1 a.n x2) a.n (clueCells a.cl a.n) := hown1
    have hsp1 : w1.ownsRow wo.heap.size 24 2 (.slice (some ⟨wo.heap.size, 0, none⟩) 1 1) 1 (spCells [(a.c0, a.c1)]) := row_below hspw hb1
    have hbw : Below wo.heap.size wo w1 := hbW.trans (hb1.mono (by omega))
    have hs1 := hb1.size
    clear hown1 hb1 hcc
    go_loopw [7, 48] (fun v i wr => ∃ (j : Nat) (l : List (Int × Int)), j ≤ a.n ∧ i = .int .i64 j ∧ wr.ownsRow wo.heap.size 24 2 v (l.length + 1) (spCells ((a.c0, a.c1) :: l)) ∧ narF ((a.c0, a.c1) :: l) = nar 0 a.cl j (a.c0, a.c1) ∧ l.length ≤ j ∧ Below wo.heap.size wo wr ∧ wr.ownsRow (wo.heap.size + 1 + 1) 117 3 (.slice x1 a.n x2) a.n (clueCells a.cl a.n)) (fun _ i _ => a.n - (intOf i).toNat)
    case atStart => exact ⟨0, [], Nat.zero_le _, rfl, hsp1, rfl, Nat.le_refl _, hbw, hcr⟩
    case round =>
     clear hsp1 hcr hbw hspw hbW hs1
     obtain ⟨j, l, hj, rfl, hsp, hnar, hlj, hb2, hcr⟩ := hrel
     by_cases hltj : j < a.n
     ·obtain ⟨g1, cap1, e1⟩ := ownsRow_pos (by omega) hcr
      obtain ⟨g7, cap7, e7⟩ := ownsRow_pos (by omega) hsp
      rw [Value.slice.injEq] at e1
      obtain ⟨rfl, _, rfl⟩ := e1
      subst e7
      have hj0 : (0 : Int) ≤ (j : Int) := Int.natCast_nonneg _
      have hj1 : (j : Int) < (a.n : Int) := by omega
      obtain ⟨m0, m1, m2⟩ := clueCells_at a.cl a.n j hltj
      have r0 := (hcr.cellAt (j * 3) (by omega)).trans m0
      have r1 := (hcr.cellAt (j * 3 + 1) (by omega)).trans m1
      have r2 := (hcr.cellAt (j * 3 + 2) (by omega)).trans m2
      have hwz := hb2.size
      by_cases hq : (a.cl j).1 = 0
      ·have hq' := hq
       have hnar2 := nar_hit hnar hq
       generalize hy : a.cl j = y at r0 r1 r2 hq hnar2
       obtain ⟨y0, y1, y2⟩ := y
       dsimp only at r0 r1 r2 hq hnar2
       subst hq
       go_wp2_with (at_builtin; refine wpList_append_own _ rfl _ _ 120 rfl wo.heap.size 24 i0 (.agg #[.int .i64 0, .int .i64 0]) 2 16 Tryz.underlying120 hi hz0 hz1 hz2 rfl (by decide) _ _ _ rfl ((hsp.alloc _).alloc _) ⟨wr.heap.size + 1, 0, none⟩ 1 1 [.int .i64 y1, .int .i64 y2] rfl rfl ?c1 ?c2 ?c3 ?c4 ?c5 ?_)
       case c2 => exact ⟨rfl, rfl⟩
       case c3 => unfold maxLen; omega
       case c4 => omega
       case c5 => first | omega | (simp only [World.size_alloc]; omega)
       intro v3 w3 hown3 hgrow _
       have hlb := hsp.lt g7 rfl
       have hb3 : Below wo.heap.size wo w3 := ((hb2.alloc hb2.size _).alloc (by rw [World.size_alloc]; omega) _).grown hgrow (by simp only [World.size_alloc]; omega) fun q hq => by have e := Option.some.inj hq; dsimp only at e; omega
       have hcr3 := rows_kept ((hcr.alloc _).alloc _) ((hsp.alloc _).alloc _) (by decide) hgrow
       have hown4 : w3.ownsRow wo.heap.size 24 2 v3 ((l ++ [(y1, y2)]).length + 1) (spCells ((a.c0, a.c1) :: (l ++ [(y1, y2)]))) := by
        rw [← List.cons_append, spCells_append, List.length_append]; exact hown3
       clear hgrow hown3 hcr hsp hb2
       go_wp2
       go_roundw
       case rel => exact ⟨j + 1, _, by omega, by go_num, hown4, hnar2, by rw [List.length_append]; simp only [List.length_cons, List.length_nil]; omega, hb3, hcr3⟩
       case measure => simp [intOf]; omega
      ·have hnar2 := nar_miss hnar hq
       generalize hy : a.cl j = y at r0 r1 r2 hq
       obtain ⟨y0, y1, y2⟩ := y
       dsimp only at r0 r1 r2 hq
       have hb3 : Below wo.heap.size wo (wr.alloc (Obj.cells #[.int .i64 y0, .int .i64 y1, .int .i64 y2] 117)) := hb2.alloc hb2.size _
       have hcr3 := hcr.alloc (Obj.cells #[.int .i64 y0, .int .i64 y1, .int .i64 y2] 117)
       have hsp3 := hsp.alloc (Obj.cells #[.int .i64 y0, .int .i64 y1, .int .i64 y2] 117)
       go_wp2
       go_roundw
       case rel => exact ⟨j + 1, l, by omega, by go_num, hsp3, hnar2, by omega, hb3, hcr3⟩
       case measure => simp [intOf]; omega
     ·obtain rfl : j = a.n := by omega
      obtain ⟨g7, cap7, e7⟩ := ownsRow_pos (by omega) hsp
      subst e7
      have hlb := hsp.lt g7 rfl
      have hfk : narF ((a.c0, a.c1) :: l) = a.fwd 0 := hnar.trans rfl
      have hnw := narrow_any g7 0 cap7 (a.c0, a.c1) l wr (by omega) (row_cap hsp) hlb.2 (sps_of_row hsp rfl)
      rw [hfk] at hnw
      have hbs2 := hb2.size
      by_cases hne : (a.fwd 0).1 ≤ (a.fwd 0).2
      ·rw [decide_eq_true hne] at hnw
       have hfk2 : (fun j => if j = 0 then a.fwd 0 else f j) = (fun j => if j = 0 then ((a.fwd 0).1, (a.fwd 0).2) else f j) := rfl
       have hbig := hfw 0 (by omega)
       generalize hx : a.fwd 0 = x at hnw hne hbig hfk2
       obtain ⟨X0, X1⟩ := x
       dsimp only at hnw hne hbig hfk2
       have hpo := fun W => possible_yes X0 X1 W
       have hCr := hC.below hb2 (by omega)
       go_wp2_with (first
        | (go_at_call 99; with_reducible refine hnw.mono ?_; rintro e w3 ⟨rfl, hb3⟩)
        | (go_at_call 98; with_reducible refine (hpo _).mono ?_; rintro e w4 ⟨rfl, hb4⟩; have hs3 := hb3.size; have hs4 := hb4.size; have hb5 := (hb2.trans (hb3.mono hbs2)).trans (hb4.mono (by omega)); have hC4 := hC.below hb5 (by omega); obtain ⟨ck0, ck1⟩ := hC4.c 0 (by omega); have cf0 := hC4.z (0 * 2); have cf1 := hC4.z (0 * 2 + 1); simp only [Nat.zero_mul, Nat.zero_add] at ck0 ck1 cf0 cf1))
       obtain ⟨p1, p2, p3, p4, p5⟩ := course_put 0 (by omega) (o1 := 0) (o2 := 1) (by omega) (by omega) X0 X1 hC4 (hR.below hb5 (by omega)) (hA.below hb5 (by omega)) (hbl.trans (hb5.mono hbl.size)) (by omega) (by omega) (Nat.le_trans (Nat.le_succ _) (Nat.le_succ _))
       clear hC4 ck0 ck1 cf0 cf1 hb5 hb3 hb4 hCr hb2 hcr hsp hnw hpo
       go_roundw
       case rel =>
        refine ⟨0 + 1, _, by omega, by go_num, p1, fun j hj => ?_, p2, p3, p4, by omega⟩
        by_cases hjk : j = 0
        ·subst hjk; simp only [if_true]; rw [hx]; exact ⟨rfl, hne⟩
        ·rw [if_neg hjk]; exact hkn j (by omega)
       case measure => first | (simp [intOf]; done) | (simp [intOf]; omega)
      ·rw [decide_eq_false hne] at hnw
       have hbig := hfw 0 (by omega)
       have hno : ¬ a.can := fun h => hne (h 0 (by omega))
       generalize a.fwd 0 = x at hnw hne hbig
       obtain ⟨X0, X1⟩ := x
       dsimp only at hnw hne hbig
       have hpo := fun W => possible_no X0 X1 W
       go_wp2_with (first
        | (go_at_call 99; with_reducible refine hnw.mono ?_; rintro e w3 ⟨rfl, hb3⟩)
        | (go_at_call 98; with_reducible refine (hpo _).mono ?_; rintro e w4 ⟨rfl, hb4⟩; have hs3 := hb3.size; have hs4 := hb4.size; have hb5 := (hb2.trans (hb3.mono hbs2)).trans (hb4.mono (by omega))))
       exact ⟨rfl, .inr ⟨hno, rfl, hbl.trans (hb5.mono hbl.size)⟩⟩
   | succ k =>
    have hA' := hA
    obtain ⟨q0, q1, q2, q3, q4, q5, q6, q7, q8, q9⟩ := hA'
    obtain ⟨hk1, hk2⟩ := hkn k (by omega)
    obtain ⟨c0, c1⟩ := hC.c k (by omega)
    rw [hk1] at c0 c1
    have hbb := hfw k (by omega)
    have hfe : a.fwd (k + 1) = nar ((k : Int) + 1) a.cl a.n ((a.fwd k).1 + a.w0, (a.fwd k).2 + a.w1) := rfl
    generalize hxk : a.fwd k = x at c0 c1 hbb hfe
    obtain ⟨z0, z1⟩ := x
    dsimp only at c0 c1 hbb hfe
    have aq2 := fun o p => (hA.below (((Below.refl wo.heap.size wo).alloc (Nat.le_refl _) o).alloc (by rw [World.size_alloc]; omega) p) (by omega)).k2
    have aq3 := fun o p => (hA.below (((Below.refl wo.heap.size wo).alloc (Nat.le_refl _) o).alloc (by rw [World.size_alloc]; omega) p) (by omega)).k3
    have aq4 := fun o p => (hA.below (((Below.refl wo.heap.size wo).alloc (Nat.le_refl _) o).alloc (by rw [World.size_alloc]; omega) p) (by omega)).k4
    have cq0 := fun o => (((Below.refl wo.heap.size wo).alloc (Nat.le_refl _) o).cell (p := ⟨w.heap.size + 1 + 1, k * 2, none⟩) (by show w.heap.size + 1 + 1 < _; omega)).trans c0
    have cq1 := fun o => (((Below.refl wo.heap.size wo).alloc (Nat.le_refl _) o).cell (p := ⟨w.heap.size + 1 + 1, k * 2 + 1, none⟩) (by show w.heap.size + 1 + 1 < _; omega)).trans c1
    have hki : ((k + 1 : Nat) : Int) - 1 = (k : Int) := by omega
    have hk00 : (0 : Int) ≤ (k : Int) := by omega
    have hk13 : (k : Int) < 13 := by omega
    have hkp : (0 : Int) < ((k + 1 : Nat) : Int) := by omega
    have hcc : Calls Tryz.prog 97 #[.slice (some ⟨wo.heap.size + 1 + 1, 0, none⟩) 2 2] (((wo.alloc (Obj.cells #[.int .i64 (z0 + a.w0), .int .i64 (z1 + a.w1)] 24)).alloc (Obj.cells #[.int .i64 z0, .int .i64 z1] 24)).alloc (Obj.cells #[.slice va a.n vc, .slice none 0 0] 112)) fun e w' => ∃ v, e = .returned v ∧ w'.ownsRow (wo.heap.size + 1 + 1 + 1) 117 3 v a.n (clueCells a.cl a.n) ∧ Below (wo.heap.size + 1 + 1 + 1) (((wo.alloc (Obj.cells #[.int .i64 (z0 + a.w0), .int .i64 (z1 + a.w1)] 24)).alloc (Obj.cells #[.int .i64 z0, .int .i64 z1] 24)).alloc (Obj.cells #[.slice va a.n vc, .slice none 0 0] 112)) w' := by
     obtain ⟨A1, hA1⟩ : ∃ A, (wo.alloc (Obj.cells #[.int .i64 (z0 + a.w0), .int .i64 (z1 + a.w1)] 24)).alloc (Obj.cells #[.int .i64 z0, .int .i64 z1] 24) = A := ⟨_, rfl⟩
     have s1 : A1.heap.size = wo.heap.size + 1 + 1 := by rw [← hA1, World.size_alloc, World.size_alloc]
     have hv1 := ((hv.below hbl).below (w' := A1) (by rw [← hA1]; exact ((Below.refl wo.heap.size wo).alloc (Nat.le_refl _) _).alloc (by rw [World.size_alloc]; omega) _)).below ((Below.refl A1.heap.size A1).alloc (Nat.le_refl _) (Obj.cells #[.slice va a.n vc, .slice none 0 0] 112))
     have h := concat_any A1.heap.size (.slice va a.n vc) a.n a.cl (A1.alloc (Obj.cells #[.slice va a.n vc, .slice none 0 0] 112)) (by omega) (by rw [World.size_alloc]; omega) (cells_new A1 _ _ rfl) (cells_new A1 _ _ rfl) hv1
     rw [World.size_alloc, s1] at h
     rw [hA1]
     exact h
    go_wp2_with (go_at_call 97; with_reducible refine hcc.mono ?_; rintro e w1 ⟨v1, rfl, hown1, hb1⟩; obtain ⟨x1, x2, rfl⟩ := ownsRow_slice hown1)
    have hspw : (((wo.alloc (Obj.cells #[.int .i64 (z0 + a.w0), .int .i64 (z1 + a.w1)] 24)).alloc (Obj.cells #[.int .i64 z0, .int .i64 z1] 24)).alloc (Obj.cells #[.slice va a.n vc, .slice none 0 0] 112)).ownsRow wo.heap.size 24 2 (.slice (some ⟨wo.heap.size, 0, none⟩) 1 1) 1 (spCells [(z0 + a.w0, z1 + a.w1)]) := ((World.ownsRow_lit (base := wo.heap.size) (size := 2) wo #[.int .i64 (z0 + a.w0), .int .i64 (z1 + a.w1)] 1 (Nat.le_refl _) (by unfold maxLen; omega) rfl).alloc _).alloc _
    have hbW : Below wo.heap.size wo (((wo.alloc (Obj.cells #[.int .i64 (z0 + a.w0), .int .i64 (z1 + a.w1)] 24)).alloc (Obj.cells #[.int .i64 z0, .int .i64 z1] 24)).alloc (Obj.cells #[.slice va a.n vc, .slice none 0 0] 112)) := (((Below.refl _ _).alloc (Nat.le_refl _) _).alloc (by rw [World.size_alloc]; omega) _).alloc (by rw [World.size_alloc, World.size_alloc]; omega) _
    clear aq2 aq3 aq4 cq0 cq1 c0 c1
    have hcr : w1.ownsRow (wo.heap.size + 1 + 1 + 1) 117 3 (.slice x1 a.n x2) a.n (clueCells a.cl a.n) := hown1
    have hsp1 : w1.ownsRow wo.heap.size 24 2 (.slice (some ⟨wo.heap.size, 0, none⟩) 1 1) 1 (spCells [(z0 + a.w0, z1 + a.w1)]) := row_below hspw hb1
    have hbw : Below wo.heap.size wo w1 := hbW.trans (hb1.mono (by omega))
    have hs1 := hb1.size
    clear hown1 hb1 hcc
    go_loopw [7, 48] (fun v i wr => ∃ (j : Nat) (l : List (Int × Int)), j ≤ a.n ∧ i = .int .i64 j ∧ wr.ownsRow wo.heap.size 24 2 v (l.length + 1) (spCells ((z0 + a.w0, z1 + a.w1) :: l)) ∧ narF ((z0 + a.w0, z1 + a.w1) :: l) = nar ((k : Int) + 1) a.cl j (z0 + a.w0, z1 + a.w1) ∧ l.length ≤ j ∧ Below wo.heap.size wo wr ∧ wr.ownsRow (wo.heap.size + 1 + 1 + 1) 117 3 (.slice x1 a.n x2) a.n (clueCells a.cl a.n)) (fun _ i _ => a.n - (intOf i).toNat)
    case atStart => exact ⟨0, [], Nat.zero_le _, rfl, hsp1, rfl, Nat.le_refl _, hbw, hcr⟩
    case round =>
     clear hsp1 hcr hbw hspw hbW hs1
     obtain ⟨j, l, hj, rfl, hsp, hnar, hlj, hb2, hcr⟩ := hrel
     by_cases hltj : j < a.n
     ·obtain ⟨g1, cap1, e1⟩ := ownsRow_pos (by omega) hcr
      obtain ⟨g7, cap7, e7⟩ := ownsRow_pos (by omega) hsp
      rw [Value.slice.injEq] at e1
      obtain ⟨rfl, _, rfl⟩ := e1
      subst e7
      have hj0 : (0 : Int) ≤ (j : Int) := Int.natCast_nonneg _
      have hj1 : (j : Int) < (a.n : Int) := by omega
      obtain ⟨m0, m1, m2⟩ := clueCells_at a.cl a.n j hltj
      have r0 := (hcr.cellAt (j * 3) (by omega)).trans m0
      have r1 := (hcr.cellAt (j * 3 + 1) (by omega)).trans m1
      have r2 := (hcr.cellAt (j * 3 + 2) (by omega)).trans m2
      have hwz := hb2.size
      by_cases hq : (a.cl j).1 = ((k : Int) + 1)
      ·have hq' := hq
       have hnar2 := nar_hit hnar hq
       generalize hy : a.cl j = y at r0 r1 r2 hq hnar2
       obtain ⟨y0, y1, y2⟩ := y
       dsimp only at r0 r1 r2 hq hnar2
       subst hq
       go_wp2_with (at_builtin; refine wpList_append_own _ rfl _ _ 120 rfl wo.heap.size 24 i0 (.agg #[.int .i64 0, .int .i64 0]) 2 16 Tryz.underlying120 hi hz0 hz1 hz2 rfl (by decide) _ _ _ rfl ((hsp.alloc _).alloc _) ⟨wr.heap.size + 1, 0, none⟩ 1 1 [.int .i64 y1, .int .i64 y2] rfl rfl ?d1 ?d2 ?d3 ?d4 ?d5 ?_)
       case d2 => exact ⟨rfl, rfl⟩
       case d3 => unfold maxLen; omega
       case d4 => omega
       case d5 => first | omega | (simp only [World.size_alloc]; omega)
       intro v3 w3 hown3 hgrow _
       have hlb := hsp.lt g7 rfl
       have hb3 : Below wo.heap.size wo w3 := ((hb2.alloc hb2.size _).alloc (by rw [World.size_alloc]; omega) _).grown hgrow (by simp only [World.size_alloc]; omega) fun q hq => by have e := Option.some.inj hq; dsimp only at e; omega
       have hcr3 := rows_kept ((hcr.alloc _).alloc _) ((hsp.alloc _).alloc _) (by decide) hgrow
       have hown4 : w3.ownsRow wo.heap.size 24 2 v3 ((l ++ [(y1, y2)]).length + 1) (spCells ((z0 + a.w0, z1 + a.w1) :: (l ++ [(y1, y2)]))) := by
        rw [← List.cons_append, spCells_append, List.length_append]; exact hown3
       clear hgrow hown3 hcr hsp hb2
       go_wp2
       go_roundw
       case rel => exact ⟨j + 1, _, by omega, by go_num, hown4, hnar2, by rw [List.length_append]; simp only [List.length_cons, List.length_nil]; omega, hb3, hcr3⟩
       case measure => simp [intOf]; omega
      ·have hnar2 := nar_miss hnar hq
       generalize hy : a.cl j = y at r0 r1 r2 hq
       obtain ⟨y0, y1, y2⟩ := y
       dsimp only at r0 r1 r2 hq
       have hb3 : Below wo.heap.size wo (wr.alloc (Obj.cells #[.int .i64 y0, .int .i64 y1, .int .i64 y2] 117)) := hb2.alloc hb2.size _
       have hcr3 := hcr.alloc (Obj.cells #[.int .i64 y0, .int .i64 y1, .int .i64 y2] 117)
       have hsp3 := hsp.alloc (Obj.cells #[.int .i64 y0, .int .i64 y1, .int .i64 y2] 117)
       go_wp2
       go_roundw
       case rel => exact ⟨j + 1, l, by omega, by go_num, hsp3, hnar2, by omega, hb3, hcr3⟩
       case measure => simp [intOf]; omega
     ·obtain rfl : j = a.n := by omega
      obtain ⟨g7, cap7, e7⟩ := ownsRow_pos (by omega) hsp
      subst e7
      have hlb := hsp.lt g7 rfl
      have hfk : narF ((z0 + a.w0, z1 + a.w1) :: l) = a.fwd (k + 1) := hnar.trans hfe.symm
      have hnw := narrow_any g7 0 cap7 (z0 + a.w0, z1 + a.w1) l wr (by omega) (row_cap hsp) hlb.2 (sps_of_row hsp rfl)
      rw [hfk] at hnw
      have hbs2 := hb2.size
      by_cases hne : (a.fwd (k + 1)).1 ≤ (a.fwd (k + 1)).2
      ·rw [decide_eq_true hne] at hnw
       have hfk2 : (fun j => if j = (k + 1) then a.fwd (k + 1) else f j) = (fun j => if j = (k + 1) then ((a.fwd (k + 1)).1, (a.fwd (k + 1)).2) else f j) := rfl
       have hbig := hfw (k + 1) (by omega)
       generalize hx : a.fwd (k + 1) = x at hnw hne hbig hfk2
       obtain ⟨X0, X1⟩ := x
       dsimp only at hnw hne hbig hfk2
       have hpo := fun W => possible_yes X0 X1 W
       have hCr := hC.below hb2 (by omega)
       go_wp2_with (first
        | (go_at_call 99; with_reducible refine hnw.mono ?_; rintro e w3 ⟨rfl, hb3⟩)
        | (go_at_call 98; with_reducible refine (hpo _).mono ?_; rintro e w4 ⟨rfl, hb4⟩; have hs3 := hb3.size; have hs4 := hb4.size; have hb5 := (hb2.trans (hb3.mono hbs2)).trans (hb4.mono (by omega)); have hC4 := hC.below hb5 (by omega); obtain ⟨ck0, ck1⟩ := hC4.c (k + 1) (by omega); have cf0 := hC4.z ((k + 1) * 2); have cf1 := hC4.z ((k + 1) * 2 + 1)))
       obtain ⟨p1, p2, p3, p4, p5⟩ := course_put (k + 1) (by omega) rfl rfl X0 X1 hC4 (hR.below hb5 (by omega)) (hA.below hb5 (by omega)) (hbl.trans (hb5.mono hbl.size)) (by omega) (by omega) (Nat.le_trans (Nat.le_succ _) (Nat.le_succ _))
       clear hC4 ck0 ck1 cf0 cf1 hb5 hb3 hb4 hCr hb2 hcr hsp hnw hpo
       go_roundw
       case rel =>
        refine ⟨(k + 1) + 1, _, by omega, by go_num, p1, fun j hj => ?_, p2, p3, p4, by omega⟩
        by_cases hjk : j = (k + 1)
        ·subst hjk; simp only [if_true]; rw [hx]; exact ⟨rfl, hne⟩
        ·rw [if_neg hjk]; exact hkn j (by omega)
       case measure => first | (simp [intOf]; done) | (simp [intOf]; omega)
      ·rw [decide_eq_false hne] at hnw
       have hbig := hfw (k + 1) (by omega)
       have hno : ¬ a.can := fun h => hne (h (k + 1) (by omega))
       generalize a.fwd (k + 1) = x at hnw hne hbig
       obtain ⟨X0, X1⟩ := x
       dsimp only at hnw hne hbig
       have hpo := fun W => possible_no X0 X1 W
       go_wp2_with (first
        | (go_at_call 99; with_reducible refine hnw.mono ?_; rintro e w3 ⟨rfl, hb3⟩)
        | (go_at_call 98; with_reducible refine (hpo _).mono ?_; rintro e w4 ⟨rfl, hb4⟩; have hs3 := hb3.size; have hs4 := hb4.size; have hb5 := (hb2.trans (hb3.mono hbs2)).trans (hb4.mono (by omega))))
       exact ⟨rfl, .inr ⟨hno, rfl, hbl.trans (hb5.mono hbl.size)⟩⟩
  ·have hk13 : k = 13 := by omega
   have hk14 : ¬ (k : Int) < 13 := by omega
   have hcan : a.can := fun j hj => (hkn j (by omega)).2
   have hfn : ∀ j, j < 13 → f j = a.fwd j := fun j hj => (hkn j (by omega)).1
   clear hkn
   go_wp2
   go_loopw [70] (fun i wr => ∃ (m : Nat) (f : Nat → Int × Int), m ≤ 12 ∧ i = .int .i64 m ∧ CAt wr (w.heap.size + 1 + 1) f ∧ (∀ j, j ≤ 12 - m → f j = if j = 12 - m then a.ends j else a.fwd j) ∧ (∀ j, 12 - m ≤ j → j ≤ 12 → f j = a.ends j) ∧ CAt wr (w.heap.size + 1) (fun _ => (0, 0)) ∧ AAt wr w.heap.size a.c0 a.c1 a.w0 a.w1 (.slice va a.n vc) ∧ Below w.heap.size w wr ∧ w.heap.size + 1 + 1 + 1 ≤ wr.heap.size) (fun i _ => 12 - (intOf i).toNat)
   case atStart =>
    refine ⟨0, f, Nat.zero_le _, rfl, hC, fun j hj => ?_, fun j hj hj2 => ?_, hR, hA, hbl, hsw⟩
    ·by_cases h : j = 12 - 0
     ·rw [if_pos h, hfn j (by omega), h]; rfl
     ·rw [if_neg h, hfn j (by omega)]
    ·rw [show j = 12 by omega, hfn 12 (by omega)]; rfl
   case round =>
    clear hC hfn hR hA hbl hsw
    obtain ⟨wo, rfl⟩ : ∃ wo : World, wo = wr := ⟨wr, rfl⟩
    obtain ⟨m, f, hm, rfl, hC, hlo, hhi, hR, hA, hbl, hsw⟩ := hrel
    by_cases hlt : m < 12
    ·have hA' := hA
     obtain ⟨q0, q1, q2, q3, q4, q5, q6, q7, q8, q9⟩ := hA'
     have hn1 := hhi (12 - m) (by omega) (by omega)
     have hn0 := hlo (11 - m) (by omega)
     rw [if_neg (by omega)] at hn0
     obtain ⟨c0, c1⟩ := hC.c (11 - m) (by omega)
     obtain ⟨c2, c3⟩ := hC.c (12 - m) (by omega)
     rw [hn0] at c0 c1
     rw [hn1] at c2 c3
     have hst := a.ends_step (11 - m) (by omega)
     rw [show 11 - m + 1 = 12 - m by omega] at hst
     have hb1 := Axis.ends_bound hff hcan (12 - m)
     have hb2 := hfw (11 - m) (by omega)
     have hce := Axis.ends_can hff hcan (11 - m)
     rw [hst] at hce
     obtain ⟨d, hd⟩ : ∃ d : Nat, d + m = 11 := ⟨11 - m, by omega⟩
     rw [show 11 - m = d by omega] at c0 c1 hst hb2 hce hn0
     rw [show 12 - m = d + 1 by omega] at c2 c3 hst hb1 hn1 hce
     generalize hxd : a.fwd d = x at c0 c1 hst hb2 hce
     obtain ⟨x0, x1⟩ := x
     generalize hyd : a.ends (d + 1) = y at c2 c3 hst hb1 hce
     obtain ⟨y0, y1⟩ := y
     dsimp only at c0 c1 hst hb2 hce c2 c3 hb1
     have hdm : (11 : Int) - (m : Int) = (d : Int) := by omega
     have hd0 : (0 : Int) ≤ (d : Int) := by omega
     have hd1 : (d : Int) < 13 := by omega
     have hd2 : (d : Int) + 1 < 13 := by omega
     have hd3 : (0 : Int) ≤ (d : Int) + 1 := by omega
     have hm12 : (m : Int) < 12 := by omega
     have hm0 : (0 : Int) ≤ (m : Int) := by omega
     have aq2 := fun o => (hA.below ((Below.refl wo.heap.size wo).alloc (Nat.le_refl _) o) (by omega)).k2
     have aq3 := fun o => (hA.below ((Below.refl wo.heap.size wo).alloc (Nat.le_refl _) o) (by omega)).k3
     have cq0 := fun o p => ((((Below.refl wo.heap.size wo).alloc (Nat.le_refl _) o).alloc (by rw [World.size_alloc]; omega) p).cell (p := ⟨w.heap.size + 1 + 1, d * 2, none⟩) (by show w.heap.size + 1 + 1 < _; omega)).trans c0
     have cq1 := fun o p => ((((Below.refl wo.heap.size wo).alloc (Nat.le_refl _) o).alloc (by rw [World.size_alloc]; omega) p).cell (p := ⟨w.heap.size + 1 + 1, d * 2 + 1, none⟩) (by show w.heap.size + 1 + 1 < _; omega)).trans c1
     obtain ⟨W3, hW3⟩ : ∃ W, (((wo.alloc (Obj.cells #[.int .i64 y0, .int .i64 y1] 24)).alloc (Obj.cells #[.int .i64 (y0 - a.w1), .int .i64 (y1 - a.w0)] 24)).alloc (Obj.cells #[.int .i64 x0, .int .i64 x1, .int .i64 (y0 - a.w1), .int .i64 (y1 - a.w0)] 24)).drew = W := ⟨_, rfl⟩
     have hs3 : W3.heap.size = wo.heap.size + 1 + 1 + 1 := by rw [← hW3, World.size_drew, World.size_alloc, World.size_alloc, World.size_alloc]
     have hbW : Below wo.heap.size wo W3 := by rw [← hW3]; exact ((((Below.refl _ _).alloc (Nat.le_refl _) _).alloc (by rw [World.size_alloc]; omega) _).alloc (by rw [World.size_alloc, World.size_alloc]; omega) _).drew
     have hnw : Calls Tryz.prog 99 #[.slice (some ⟨wo.heap.size + 1 + 1, 0, none⟩) 2 2] W3 fun e w' => e = .returned (.tuple #[.agg #[.int .i64 (max x0 (y0 - a.w1)), .int .i64 (min x1 (y1 - a.w0))], .bool (decide ((max x0 (y0 - a.w1)) ≤ (min x1 (y1 - a.w0))))]) ∧ Below W3.heap.size W3 w' := by
      refine narrow_any (wo.heap.size + 1 + 1) 0 2 (x0, x1) [(y0 - a.w1, y1 - a.w0)] W3 (by simp) (by simp) (by omega) ?_
      have hz : ((wo.alloc (Obj.cells #[.int .i64 y0, .int .i64 y1] 24)).alloc (Obj.cells #[.int .i64 (y0 - a.w1), .int .i64 (y1 - a.w0)] 24)).heap.size = wo.heap.size + 1 + 1 := by rw [World.size_alloc, World.size_alloc]
      rw [← hz, ← hW3]
      intro j p hj
      match j, hj with
      | 0, hj => simp at hj; subst hj; exact ⟨cells_new _ _ _ rfl, cells_new _ _ _ rfl⟩
      | 1, hj => simp at hj; subst hj; exact ⟨cells_new _ _ _ rfl, cells_new _ _ _ rfl⟩
      | n+2, hj => simp at hj
     rw [decide_eq_true hce] at hnw
     generalize hX0 : max x0 (y0 - a.w1) = X0 at hnw hst hce
     generalize hX1 : min x1 (y1 - a.w0) = X1 at hnw hst hce
     have hpo := fun W => possible_yes X0 X1 W
     have eB0 : ((wo.alloc (Obj.cells #[.int .i64 y0, .int .i64 y1] 24)).alloc (Obj.cells #[.int .i64 (y0 - a.w1), .int .i64 (y1 - a.w0)] 24)).cell? ⟨wo.heap.size + 1, 0, none⟩ = some (.int .i64 (y0 - a.w1)) := by
      have h := cells_new (wo.alloc (Obj.cells #[.int .i64 y0, .int .i64 y1] 24)) #[.int .i64 (y0 - a.w1), .int .i64 (y1 - a.w0)] 24 (j := 0) rfl
      rw [World.size_alloc] at h; exact h
     have eB1 : ((wo.alloc (Obj.cells #[.int .i64 y0, .int .i64 y1] 24)).alloc (Obj.cells #[.int .i64 (y0 - a.w1), .int .i64 (y1 - a.w0)] 24)).cell? ⟨wo.heap.size + 1, 1, none⟩ = some (.int .i64 (y1 - a.w0)) := by
      have h := cells_new (wo.alloc (Obj.cells #[.int .i64 y0, .int .i64 y1] 24)) #[.int .i64 (y0 - a.w1), .int .i64 (y1 - a.w0)] 24 (j := 1) rfl
      rw [World.size_alloc] at h; exact h
     have hne1 : w.heap.size + 1 + 1 ≠ wo.heap.size + 1 := by omega
     have eW0 : W3.cell? ⟨wo.heap.size + 1, 0, none⟩ = some (.int .i64 (y0 - a.w1)) := by
      rw [← hW3]; exact (((Below.refl _ _).alloc (Nat.le_refl _) _).cell (p := ⟨wo.heap.size + 1, 0, none⟩) (by simp)).trans eB0
     have eW1 : W3.cell? ⟨wo.heap.size + 1, 1, none⟩ = some (.int .i64 (y1 - a.w0)) := by
      rw [← hW3]; exact (((Below.refl _ _).alloc (Nat.le_refl _) _).cell (p := ⟨wo.heap.size + 1, 1, none⟩) (by simp)).trans eB1
     go_wp2_with fail
     refine wp_region_late [11] (fun w9 => w9.cell? ⟨wo.heap.size + 1, 0, none⟩ = some (.int .i64 (y0 - a.w1)) ∧ w9.cell? ⟨wo.heap.size + 1, 1, none⟩ = some (.int .i64 (y1 - a.w0))) (fun w9 => w9.cell? ⟨w.heap.size + 1 + 1, d * 2, none⟩ = some (.int .i64 x0) ∧ w9.cell? ⟨w.heap.size + 1 + 1, d * 2 + 1, none⟩ = some (.int .i64 x1)) (by kernel_rfl) ?_ (fun hHeld => ?_)
     ·(exact ⟨⟨eB0, eB1⟩, cq0 _ _, cq1 _ _⟩)
     refine tk2 0 rfl (by (intro w9 hSw; (try dsimp only at hSw); go_simp) <;> with_reducible rfl) hHeld ?_
     refine tk2 1 rfl (by (intro w9 hSw; (try dsimp only at hSw); go_simp) <;> with_reducible rfl) hHeld ?_
     refine tk2 2 rfl (by (intro w9 hSw; (try dsimp only at hSw); go_simp) <;> with_reducible rfl) hHeld ?_
     refine wpAnyP_take 8 (i := 3) (v := ?_) rfl (by kernel_rfl) (by kernel_rfl) (by kernel_rfl) (by kernel_rfl) (by rfl) (by kernel_rfl) (fun _ _ _ h => h) (Or.inl ⟨by rfl, ?_⟩) hHeld ?_
     rotate_left 1
     ·((intro w9 hSw; (try dsimp only at hSw); go_simp) <;> with_reducible rfl)
     (try simp only [Act.put, xpA, xpZ, xpS])
     refine tk2 4 rfl (by (intro w9 hSw; (try dsimp only at hSw); go_simp) <;> with_reducible rfl) hHeld ?_
     refine rd1 5 rfl (fun K hK => ?_)
     go_simp
     refine hK.out _ _ ?_ (fun hHeld => ?_)
     ·(((try rw [hW3]); exact ⟨⟨eW0, eW1⟩, (hbW.cell (p := ⟨w.heap.size + 1 + 1, d * 2, none⟩) (by show w.heap.size + 1 + 1 < _; omega)).trans c0, (hbW.cell (p := ⟨w.heap.size + 1 + 1, d * 2 + 1, none⟩) (by show w.heap.size + 1 + 1 < _; omega)).trans c1⟩))
     clear hK K
     (try simp only [Act.put, xpA, xpZ, xpS])
     refine rd1 6 rfl (fun K hK => ?_)
     go_simp
     (go_at_call 99; (try rw [hW3]); with_reducible refine hnw.mono ?_; rintro e w3 ⟨rfl, hb3⟩; have hz3 := hb3.size)
     refine hK.out _ _ ?_ (fun hHeld => ?_)
     ·(exact ⟨⟨(hb3.cell (p := ⟨wo.heap.size + 1, 0, none⟩) (by show wo.heap.size + 1 < _; omega)).trans hHeld.1.1, (hb3.cell (p := ⟨wo.heap.size + 1, 1, none⟩) (by show wo.heap.size + 1 < _; omega)).trans hHeld.1.2⟩, (hb3.cell (p := ⟨w.heap.size + 1 + 1, d * 2, none⟩) (by show w.heap.size + 1 + 1 < _; omega)).trans hHeld.2.1, (hb3.cell (p := ⟨w.heap.size + 1 + 1, d * 2 + 1, none⟩) (by show w.heap.size + 1 + 1 < _; omega)).trans hHeld.2.2⟩)
     clear hK K
     (try simp only [Act.put, xpA, xpZ, xpS])
     refine tk2 7 rfl (by (intro w9 hSw; (try dsimp only at hSw); go_simp) <;> with_reducible rfl) hHeld ?_
     refine tk2 8 rfl (by (intro w9 hSw; (try dsimp only at hSw); go_simp) <;> with_reducible rfl) hHeld ?_
     refine rd1 9 rfl (fun K hK => ?_)
     go_simp
     (go_at_call 98; with_reducible refine (hpo _).mono ?_; rintro e w4 ⟨rfl, hb4⟩; have hz4 := hb4.size; have hb5 := (hbW.trans (hb3.mono (by omega))).trans (hb4.mono (by omega)); have hC4 := hC.below hb5 (by omega); obtain ⟨ck0, ck1⟩ := hC4.c d (by omega); have cf0 := hC4.z (d * 2); have cf1 := hC4.z (d * 2 + 1))
     refine hK.out _ _ ?_ (fun hHeld => ?_)
     ·(exact ⟨⟨(hb4.cell (p := ⟨wo.heap.size + 1, 0, none⟩) (by show wo.heap.size + 1 < _; omega)).trans hHeld.1.1, (hb4.cell (p := ⟨wo.heap.size + 1, 1, none⟩) (by show wo.heap.size + 1 < _; omega)).trans hHeld.1.2⟩, (hb4.cell (p := ⟨w.heap.size + 1 + 1, d * 2, none⟩) (by show w.heap.size + 1 + 1 < _; omega)).trans hHeld.2.1, (hb4.cell (p := ⟨w.heap.size + 1 + 1, d * 2 + 1, none⟩) (by show w.heap.size + 1 + 1 < _; omega)).trans hHeld.2.2⟩)
     clear hK K
     (try simp only [Act.put, xpA, xpZ, xpS])
     refine tk2 10 rfl (by (intro w9 hSw; (try dsimp only at hSw); go_simp) <;> with_reducible rfl) hHeld ?_
     refine wpAnyP_ready (rs := [11]) (by kernel_rfl) (by simp) ?_
     refine AllReadyP.behind (o := _) rfl (by kernel_rfl) (fun K hK => ?_) AllReadyP.nil
     ·go_simp
      refine hK.out _ _ ?_ (fun hHeld => ?_)
      ·(exact ⟨(by rw [World.cell?_setCell_far _ _ _ _ (by simp; omega), World.cell?_setCell_far _ _ _ _ (by simp; omega)]; exact hHeld.1.1), (by rw [World.cell?_setCell_far _ _ _ _ (by simp; omega), World.cell?_setCell_far _ _ _ _ (by simp; omega)]; exact hHeld.1.2)⟩)
      clear hK K
      (try simp only [Act.put, xpA, xpZ, xpS])
      refine wpAnyP_done (by kernel_rfl) ?_ _
      (try simp only [Act.put, List.getElem_toArray, List.getElem_cons_zero, List.getElem_cons_succ, xpA, xpZ, xpS])
      obtain ⟨p1, p2, p3, p4, p5⟩ := course_put d (by omega) rfl rfl X0 X1 hC4 (hR.below hb5 (by omega)) (hA.below hb5 (by omega)) (hbl.trans (hb5.mono hbl.size)) (by omega) (by omega) (Nat.le_trans (Nat.le_succ _) (Nat.le_succ _))
      clear hC4 ck0 ck1 cf0 cf1 hb5 hb3 hb4 hnw hpo aq2 aq3 cq0 cq1 hbW
      go_wp2
      go_roundw
      case rel =>
       refine ⟨m + 1, _, by omega, by go_num, p1, fun j hj => ?_, fun j hj hj2 => ?_, p2, p3, p4, by omega⟩
       ·by_cases hjk : j = d
        ·subst hjk; rw [if_pos rfl, if_pos (by omega), hst]
        ·rw [if_neg hjk, if_neg (by omega), hlo j (by omega), if_neg (by omega)]
       ·by_cases hjk : j = d
        ·subst hjk; rw [if_pos rfl, hst]
        ·rw [if_neg hjk]; exact hhi j (by omega) hj2
      case measure => simp [intOf]; omega
    ·have hm12 : m = 12 := by omega
     have hm13 : ¬ (m : Int) < 12 := by omega
     have hfe : ∀ j, j < 13 → f j = a.ends j := fun j hj => hhi j (by omega) (by omega)
     have hrg := cat_range hC
     rw [crsL_congr hfe] at hrg
     have hth : wo.there (w.heap.size + 1) 0 (crsL a.ends 13).toArray.size := fun j hj => by
      rw [List.size_toArray, crsL_length] at hj
      refine ⟨?_, hR.z _⟩
      rw [Nat.zero_add]
      obtain ⟨e0, e1⟩ := hR.c (j / 2) (by omega)
      have hm2 : j % 2 = 0 ∨ j % 2 = 1 := by omega
      rcases hm2 with h | h
      ·rw [show j / 2 * 2 = j by omega] at e0; rw [e0]; rfl
      ·rw [show j / 2 * 2 + 1 = j by omega] at e1; rw [e1]; rfl
     have hi1 : (Tryz.prog.info? 90).map (·.size) = some 26 := by kernel_rfl
     have hi2 : (Tryz.prog.info? 90).map (·.size) = some (crsL a.ends 13).length := by rw [crsL_length]; exact hi1
     have hi3 : (Tryz.prog.info? 90).map (·.size) = some (crsL a.ends 13).toArray.size := by rw [List.size_toArray]; exact hi2
     have hone := all_oneCell_toArray (crsL_one a.ends 13)
     have hrw := World.rangeAt_setCells_same wo (w.heap.size + 1) 0 (crsL a.ends 13) (by rw [List.size_toArray] at hth; exact hth)
     have hlast := run_loadVar_mid (P := Tryz.prog) _ (w.heap.size + 1) 0 90 (crsL a.ends 13) _ hrw Tryz.underlying90 rfl hi2
     have hbz : Below w.heap.size w (wo.setCells (w.heap.size + 1) 0 (crsL a.ends 13)) := below_setCells (Nat.le_succ _) _ 0 _ hbl
     generalize hL : crsL a.ends 13 = L at *
     clear hi1
     go_wp2_with (first
      | (refine wpList_load_mid rfl 90 _ rfl (w.heap.size + 1 + 1) 0 rfl L _ hrg Tryz.underlying90 rfl hi2 ?_)
      | (refine wpList_store_mid rfl 90 _ _ rfl (w.heap.size + 1) 0 L.toArray rfl rfl hth hi3 hone ?_))
     refine bodyPost_ret (v := .agg L.toArray) (by simp [results, Tryz.results58]; exact hlast) rfl ?_
     first
      | exact ⟨rfl, hbz⟩
      | exact ⟨by rw [hL], hbz⟩
      | exact .inl ⟨hcan, by rw [hL], hbz⟩
end Go.Proofs.YtjhpklolpmaopaaGreatDoor
