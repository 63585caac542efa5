/- A part of the proof: see the last file. -/
import Derived.Test.YtbgjocgjmjkneaaGreatDoorPaa
import Derived.Test.YtbgjocgjmjkneaaGreatDoorPap
import Derived.Test.YtbgjocgjmjkneaaGreatDoorPak
import Derived.Test.YtbgjocgjmjkneaaGreatDoorPbh
import Derived.Test.YtbgjocgjmjkneaaGreatDoorPal
import Derived.Test.YtbgjocgjmjkneaaGreatDoorPao
import Derived.Test.YtbgjocgjmjkneaaGreatDoorPai
import Derived.Test.YtbgjocgjmjkneaaGreatDoorPam
set_option linter.unusedVariables false
set_option linter.unusedSimpArgs false
set_option linter.unusedSectionVars false
namespace Go.Proofs.YtbgjocgjmjkneaaGreatDoor
open Go.RowKit
theorem rbounds_m (m : Mach) (hok : m.ok = true) : ∃ b : Bool, (b = true ↔ m.can) ∧ ∀ (v : Value) (W : World), MkSl W v m.rn m.mark → Calls Tryz.prog 56 #[m.val, v] W fun e w' => ∃ vx vy, e = .returned (.tuple #[vx, vy, .bool b]) ∧ (b = true → ∃ gx cx gy cy, vx = .slice (some ⟨gx, 0, none⟩) 13 cx ∧ vy = .slice (some ⟨gy, 0, none⟩) 13 cy ∧ W.heap.size ≤ gx ∧ W.heap.size ≤ gy ∧ gx < w'.heap.size ∧ gy < w'.heap.size ∧ CAt w' gx m.axX.ends ∧ CAt w' gy m.axY.ends) ∧ Below W.heap.size W w' := by
  by_cases hc : m.can
  · refine ⟨true, ⟨fun _ => hc, fun _ => rfl⟩, fun v W hm => ?_⟩
    obtain ⟨b, hb, hC⟩ := rbounds_any m v m.rn m.mark W (Mach.fineX hok) (Mach.fineY hok) hm
    obtain rfl : b = true := hb.2 hc
    exact hC
  · refine ⟨false, ⟨fun h => (by cases h), fun h => absurd h hc⟩, fun v W hm => ?_⟩
    obtain ⟨b, hb, hC⟩ := rbounds_any m v m.rn m.mark W (Mach.fineX hok) (Mach.fineY hok) hm
    obtain rfl : b = false := by
      cases b with
      | false => rfl
      | true => exact absurd (hb.1 rfl) hc
    exact hC
/-- a machine in a block of its own. -/
structure PoR (w : World) (m : Mach) (W : World) : Prop where
  mat : MAt W w.heap.size m
  old : Below w.heap.size w W
  big : w.heap.size < W.heap.size
theorem PoR.below {w : World} {m : Mach} {W W' : World} (h : PoR w m W) (hb : Below W.heap.size W W') : PoR w m W' :=
  ⟨h.mat.below hb h.big, h.old.trans (hb.mono h.old.size), Nat.lt_of_lt_of_le h.big hb.size⟩
structure PoK (w : World) (m : Mach) (W : World) : Prop where
  mat : MAt W w.heap.size m
  old : Below w.heap.size w W
  big : w.heap.size + 3 ≤ W.heap.size
theorem PoK.below {w : World} {m : Mach} {W W' : World} (h : PoK w m W) (hb : Below W.heap.size W W') : PoK w m W' :=
  have := h.big
  ⟨h.mat.below hb (by omega), h.old.trans (hb.mono h.old.size), Nat.le_trans h.big hb.size⟩
structure KcR (w : World) (m : Mach) (gx gy : Nat) (EX EY : Nat → Int × Int) (W : World) : Prop where
  cx : CAt W gx EX
  cy : CAt W gy EY
  old : Below w.heap.size w W
  big : w.heap.size + 3 ≤ W.heap.size
  nx : gx ≠ w.heap.size + 1 ∧ gx ≠ w.heap.size + 1 + 1
  ny : gy ≠ w.heap.size + 1 ∧ gy ≠ w.heap.size + 1 + 1
theorem KcR.put {w : World} {m : Mach} {gx gy : Nat} {EX EY : Nat → Int × Int} {W : World} (h : KcR w m gx gy EX EY W) {D : Nat} (h1 : w.heap.size + 1 ≤ D) (h2 : D ≤ w.heap.size + 2) (x y : Value) : KcR w m gx gy EX EY ((W.setCell ⟨D, 0, none⟩ x).setCell ⟨D, 1, none⟩ y) :=
  have a := h.nx
  have b := h.ny
  ⟨h.cx.far2 (by omega) _ _ _ _, h.cy.far2 (by omega) _ _ _ _, (h.old.setCell (p := ⟨D, 0, none⟩) (by show w.heap.size ≤ D; omega) _).setCell (p := ⟨D, 1, none⟩) (by show w.heap.size ≤ D; omega) _, by rw [World.size_setCell, World.size_setCell]; exact h.big, h.nx, h.ny⟩
set_option maxRecDepth 100000 in
set_option maxHeartbeats 4000000 in
theorem rpossible_b (m : Mach) (hok : m.ok = true) : ∃ b : Bool, (b = true ↔ m.can) ∧ ∀ w, MIn w m → Calls Tryz.prog 52 #[m.val] w fun e w' => e = .returned (.bool b) ∧ Below w.heap.size w w' := by
  obtain ⟨b, hb, hbounds⟩ := rbounds_m m hok
  refine ⟨b, hb, fun w h => ?_⟩
  obtain ⟨W0, hW⟩ : ∃ W0, w.alloc (.cells #[.slice m.sa m.sn m.sc, .int .i64 m.c0, .int .i64 m.c1, .int .i64 m.d0, .int .i64 m.d1, .int .i64 m.w0, .int .i64 m.w1, .int .i64 m.v0, .int .i64 m.v1, .slice m.ra m.rn m.rc] 33) = W0 := ⟨_, rfl⟩
  have hO : Below w.heap.size w W0 := by rw [← hW]; exact (Below.refl _ _).alloc (Nat.le_refl _) _
  have hM : MAt W0 w.heap.size m := by rw [← hW]; exact MAt.new w m
  have hsz : W0.heap.size = w.heap.size + 1 := by rw [← hW, World.size_alloc]
  have hP : PoR w m W0.drew := (⟨hM, hO, by omega⟩ : PoR w m W0).below (Below.refl _ _).drew
  have hmarks := fun (W : World) (hB : Below w.heap.size w W) => rmarks_any m W hok (h.below hB)
  clear hb
  go_enter Tryz.func52, Tryz.ntmps52
  go_wp2_with fail
  refine wp_region_late [] (fun w9 => PoR w m w9) (fun w9 => True) (by kernel_rfl) ?_ (fun hHeld => ?_)
  · (exact ⟨hP, trivial⟩)
  refine tk0 0 ?_ rfl (Or.inl ⟨by rfl, ?_⟩) hHeld ?_
  rotate_left 1
  · ((intro w9 hSw; obtain ⟨⟨q0, q1, q2, q3, q4, q5, q6, q7, q8, q9⟩, _, _⟩ := hSw; go_simp) <;> with_reducible rfl)
  (try simp only [Act.put, pA, pZ, pS])
  refine tk0 1 ?_ rfl (Or.inl ⟨by rfl, ?_⟩) hHeld ?_
  rotate_left 1
  · ((intro w9 hSw; obtain ⟨⟨q0, q1, q2, q3, q4, q5, q6, q7, q8, q9⟩, _, _⟩ := hSw; go_simp) <;> with_reducible rfl)
  (try simp only [Act.put, pA, pZ, pS])
  refine wpAnyP_ready (rs := [2]) (by kernel_rfl) (by simp) ?_
  refine AllReadyP.cons (o := _) rfl (fun K hK => ?_) AllReadyP.nil
  · go_simp
    (go_at_call 58; with_reducible refine (hmarks _ hHeld.1.old).mono ?_; rintro e w5 ⟨v5, rfl, hms, hb5⟩)
    refine hK.out _ _ ?_ (fun hHeld => ?_)
    · (exact ⟨hHeld.1.below hb5, trivial⟩)
    clear hK K
    (try simp only [Act.put, pA, pZ, pS])
    refine wpAnyP_ready (rs := [3]) (by kernel_rfl) (by simp) ?_
    refine AllReadyP.cons (o := _) rfl (fun K hK => ?_) AllReadyP.nil
    · go_simp
      (go_at_call 56; with_reducible refine (hbounds _ _ hms).mono ?_; rintro e w6 ⟨vx, vy, rfl, hyes, hb6⟩)
      refine hK.out _ _ ?_ (fun hHeld => ?_)
      · (exact ⟨hHeld.1.below hb6, trivial⟩)
      clear hK K
      (try simp only [Act.put, pA, pZ, pS])
      refine tk0 4 ?_ rfl (Or.inl ⟨by rfl, ?_⟩) hHeld ?_
      rotate_left 1
      · ((intro w9 hSw; obtain ⟨⟨q0, q1, q2, q3, q4, q5, q6, q7, q8, q9⟩, _, _⟩ := hSw; go_simp) <;> with_reducible rfl)
      (try simp only [Act.put, pA, pZ, pS])
      refine tk0 5 ?_ rfl (Or.inl ⟨by rfl, ?_⟩) hHeld ?_
      rotate_left 1
      · ((intro w9 hSw; obtain ⟨⟨q0, q1, q2, q3, q4, q5, q6, q7, q8, q9⟩, _, _⟩ := hSw; go_simp) <;> with_reducible rfl)
      (try simp only [Act.put, pA, pZ, pS])
      refine tk0 6 ?_ rfl (Or.inl ⟨by rfl, ?_⟩) hHeld ?_
      rotate_left 1
      · ((intro w9 hSw; obtain ⟨⟨q0, q1, q2, q3, q4, q5, q6, q7, q8, q9⟩, _, _⟩ := hSw; go_simp) <;> with_reducible rfl)
      (try simp only [Act.put, pA, pZ, pS])
      refine tk0 7 ?_ rfl (Or.inl ⟨by rfl, ?_⟩) hHeld ?_
      rotate_left 1
      · ((intro w9 hSw; obtain ⟨⟨q0, q1, q2, q3, q4, q5, q6, q7, q8, q9⟩, _, _⟩ := hSw; go_simp) <;> with_reducible rfl)
      (try simp only [Act.put, pA, pZ, pS])
      refine tk0 8 ?_ rfl (Or.inl ⟨by rfl, ?_⟩) hHeld ?_
      rotate_left 1
      · ((intro w9 hSw; obtain ⟨⟨q0, q1, q2, q3, q4, q5, q6, q7, q8, q9⟩, _, _⟩ := hSw; go_simp) <;> with_reducible rfl)
      (try simp only [Act.put, pA, pZ, pS])
      refine tk0 9 ?_ rfl (Or.inl ⟨by rfl, ?_⟩) hHeld ?_
      rotate_left 1
      · ((intro w9 hSw; obtain ⟨⟨q0, q1, q2, q3, q4, q5, q6, q7, q8, q9⟩, _, _⟩ := hSw; go_simp) <;> with_reducible rfl)
      (try simp only [Act.put, pA, pZ, pS])
      refine tk0 10 ?_ rfl (Or.inl ⟨by rfl, ?_⟩) hHeld ?_
      rotate_left 1
      · ((intro w9 hSw; obtain ⟨⟨q0, q1, q2, q3, q4, q5, q6, q7, q8, q9⟩, _, _⟩ := hSw; go_simp) <;> with_reducible rfl)
      (try simp only [Act.put, pA, pZ, pS])
      refine wpAnyP_done (by kernel_rfl) ?_ _
      (try simp only [Act.put, List.getElem_toArray, List.getElem_cons_zero, List.getElem_cons_succ, pA, pZ, pS])
      have hB6 := hHeld.1.old
      clear hHeld hyes hms hmarks hbounds
      go_wp2
      go_ret
      exact ⟨rfl, hB6⟩
end Go.Proofs.YtbgjocgjmjkneaaGreatDoor
namespace Go.Proofs.YtbgjocgjmjkneaaGreatDoor
open Go.RowKit Go.Can
/-- the marks of a machine, and a box at a blank. -/
def withF (m : Mach) (k : Nat) (b : Int × Int × Int × Int) : Nat → Int × Int × Int × Int × Int := fun i => if i = m.rn then ((k : Int), b.1, b.2.1, b.2.2.1, b.2.2.2) else m.mark i
def wX (m : Mach) (k : Nat) (b : Int × Int × Int × Int) : Axis := mkX m (m.rn + 1) (withF m k b)
def wY (m : Mach) (k : Nat) (b : Int × Int × Int × Int) : Axis := mkY m (m.rn + 1) (withF m k b)
theorem plusX (m : Mach) (k : Nat) (b : Int × Int × Int × Int) : m.axX.Plus (wX m k b) k b.1 b.2.1 :=
  ⟨rfl, rfl, rfl, rfl, rfl, fun i hi => by
    have hi : i < m.rn := hi
    show ((withF m k b i).1, (withF m k b i).2.1, (withF m k b i).2.2.1) = _
    unfold withF; rw [if_neg (by omega)]; rfl, by
    show ((withF m k b m.rn).1, (withF m k b m.rn).2.1, (withF m k b m.rn).2.2.1) = _
    unfold withF; rw [if_pos rfl]⟩
theorem plusY (m : Mach) (k : Nat) (b : Int × Int × Int × Int) : m.axY.Plus (wY m k b) k b.2.2.1 b.2.2.2 :=
  ⟨rfl, rfl, rfl, rfl, rfl, fun i hi => by
    have hi : i < m.rn := hi
    show ((withF m k b i).1, (withF m k b i).2.2.2.1, (withF m k b i).2.2.2.2) = _
    unfold withF; rw [if_neg (by omega)]; rfl, by
    show ((withF m k b m.rn).1, (withF m k b m.rn).2.2.2.1, (withF m k b m.rn).2.2.2.2) = _
    unfold withF; rw [if_pos rfl]⟩
def canW (m : Mach) (k : Nat) (b : Int × Int × Int × Int) : Prop := (wX m k b).can ∧ (wY m k b).can
def bdB (b : Int × Int × Int × Int) : Prop := (-110 ≤ b.1 ∧ b.1 ≤ 110) ∧ (-110 ≤ b.2.1 ∧ b.2.1 ≤ 110) ∧ (-110 ≤ b.2.2.1 ∧ b.2.2.1 ≤ 110) ∧ (-110 ≤ b.2.2.2 ∧ b.2.2.2 ≤ 110)
theorem wX_fine {m : Mach} {k : Nat} {b : Int × Int × Int × Int} (hok : m.ok = true) (hk : k ≤ 12) (hb : bdB b) : (wX m k b).fine :=
  (plusX m k b).fine (Mach.fineX hok) (by have := (Mach.ok_parts hok).2.1; show m.rn ≤ 7; omega) hk hb.1 hb.2.1
theorem wY_fine {m : Mach} {k : Nat} {b : Int × Int × Int × Int} (hok : m.ok = true) (hk : k ≤ 12) (hb : bdB b) : (wY m k b).fine :=
  (plusY m k b).fine (Mach.fineY hok) (by have := (Mach.ok_parts hok).2.1; show m.rn ≤ 7; omega) hk hb.2.2.1 hb.2.2.2
theorem rb_with (m : Mach) (hok : m.ok = true) (k : Nat) (hk : k ≤ 12) (bx : Int × Int × Int × Int) (hb : bdB bx) : ∃ b : Bool, (b = true ↔ canW m k bx) ∧ ∀ (v : Value) (W : World), MkSl W v (m.rn + 1) (withF m k bx) → Calls Tryz.prog 56 #[m.val, v] W fun e w' => ∃ vx vy, e = .returned (.tuple #[vx, vy, .bool b]) ∧ (b = true → ∃ gx cx gy cy, vx = .slice (some ⟨gx, 0, none⟩) 13 cx ∧ vy = .slice (some ⟨gy, 0, none⟩) 13 cy ∧ W.heap.size ≤ gx ∧ W.heap.size ≤ gy ∧ gx < w'.heap.size ∧ gy < w'.heap.size ∧ CAt w' gx (wX m k bx).ends ∧ CAt w' gy (wY m k bx).ends) ∧ Below W.heap.size W w' := by
  by_cases hc : canW m k bx
  · refine ⟨true, ⟨fun _ => hc, fun _ => rfl⟩, fun v W hm => ?_⟩
    obtain ⟨b, hb, hC⟩ := rbounds_any m v (m.rn + 1) (withF m k bx) W (wX_fine hok hk hb) (wY_fine hok hk hb) hm
    obtain rfl : b = true := hb.2 hc
    exact hC
  · refine ⟨false, ⟨fun h => (by cases h), fun h => absurd h hc⟩, fun v W hm => ?_⟩
    obtain ⟨b, hb, hC⟩ := rbounds_any m v (m.rn + 1) (withF m k bx) W (wX_fine hok hk hb) (wY_fine hok hk hb) hm
    obtain rfl : b = false := by cases b with | false => rfl | true => exact absurd (hb.1 rfl) hc
    exact hC
def un5 (f : Int × Int × Int × Int × Int) : Int × Int × Int × Int := f.2
theorem boxS_bd {m : Mach} {HX HY : Nat → Int} {r : Int} (hn1 : 2 ≤ m.sn) (hn2 : m.sn ≤ 4) (hr : 0 ≤ r ∧ r ≤ 4) (hS : ∀ i, i < m.sn → (-20 ≤ m.SX i ∧ m.SX i ≤ 20) ∧ (-20 ≤ m.SY i ∧ m.SY i ≤ 20)) (hH : ∀ i, i < m.sn → small (HX i, HY i)) (t k : Nat) (hk : k < (ords m.sn).length) : bdB (boxS m HX HY r t k) := by
  unfold boxS
  have hq := ords_perm hn1 hn2 _ (List.getElem_mem hk)
  rw [List.getD_eq_getElem?_getD, List.getElem?_eq_getElem hk]
  have := boxB_bound (t := t) (q := (ords m.sn)[k]) (r := r) hr hS (HX := HX) (HY := HY) (fun i hi => hH _ (hq.2 i hi)) m.sn (Nat.le_refl _) (by omega)
  show bdB (boxB m.SX m.SY HX HY r t (ords m.sn)[k] m.sn)
  unfold bdB
  omega
theorem box_bd {m : Mach} {HX HY : Nat → Int} {r : Int} {cnt : Nat} {f : Nat → Int × Int × Int × Int × Int} (hn1 : 2 ≤ m.sn) (hn2 : m.sn ≤ 4) (hr : 0 ≤ r ∧ r ≤ 4) (hS : ∀ i, i < m.sn → (-20 ≤ m.SX i ∧ m.SX i ≤ 20) ∧ (-20 ≤ m.SY i ∧ m.SY i ≤ 20)) (hH : ∀ i, i < m.sn → small (HX i, HY i)) (h : BoxL (boxS m HX HY r) (ords m.sn).length 8 0 cnt f) {i : Nat} (hi : i < cnt) : bdB (un5 (f i)) := by
  obtain ⟨t', k', _, h2, h3, _⟩ := h.made i hi
  rw [h3]
  exact boxS_bd hn1 hn2 hr hS hH t' k' h2
/-- a box goes at a blank just if the button agrees at a point of what is known there. -/
theorem boxes_agree {m : Mach} {HX HY : Nat → Int} {r : Int} {cnt : Nat} {f : Nat → Int × Int × Int × Int × Int} (hok : m.ok = true) (hc : m.can) (hn1 : 2 ≤ m.sn) (hn2 : m.sn ≤ 4) (hr : 0 ≤ r ∧ r ≤ 4) (hS : ∀ i, i < m.sn → (-20 ≤ m.SX i ∧ m.SX i ≤ 20) ∧ (-20 ≤ m.SY i ∧ m.SY i ≤ 20)) (hH : ∀ i, i < m.sn → small (HX i, HY i)) (h : BoxL (boxS m HX HY r) (ords m.sn).length 8 0 cnt f) {k : Nat} (hk : k ≤ 12) :
    (∃ i, i < cnt ∧ canW m k (un5 (f i))) ↔ ∃ x y, InBox (m.axX.ends k).1 (m.axX.ends k).2 (m.axY.ends k).1 (m.axY.ends k).2 x y ∧ agreeB m.sn HX HY m.SX m.SY r x y = true := by
  have bX := Axis.any_bound (Mach.fineX hok) k hk
  have bY := Axis.any_bound (Mach.fineY hok) k hk
  constructor
  · rintro ⟨i, hi, cx, cy⟩
    have hbd := box_bd hn1 hn2 hr hS hH h hi
    obtain ⟨t', k', h1, h2, h3, _⟩ := h.made i hi
    have e3 : un5 (f i) = boxS m HX HY r t' k' := by rw [h3]; rfl
    rw [e3] at cx cy hbd
    obtain ⟨x, x1, x2, x3, x4⟩ := ((plusX m k _).can (Mach.fineX hok) (wX_fine hok hk hbd) hc.1 hk).1 cx
    obtain ⟨y, y1, y2, y3, y4⟩ := ((plusY m k _).can (Mach.fineY hok) (wY_fine hok hk hbd) hc.2 hk).1 cy
    refine ⟨x, y, by unfold InBox; omega, (agree_box (by omega) (by omega)).2 ⟨t', h1, (ords m.sn)[k'], List.getElem_mem h2, ?_⟩⟩
    have e4 : boxS m HX HY r t' k' = boxB m.SX m.SY HX HY r t' (ords m.sn)[k'] m.sn := by unfold boxS; rw [List.getD_eq_getElem?_getD, List.getElem?_eq_getElem h2]; rfl
    rw [← e4]
    exact ⟨x3, x4, y3, y4⟩
  · rintro ⟨x, y, hin, hag⟩
    unfold InBox at hin
    obtain ⟨t', h1, q, hq, hb⟩ := (agree_box (by omega) (by omega)).1 hag
    obtain ⟨k', h2, rfl⟩ := List.getElem_of_mem hq
    have e4 : boxS m HX HY r t' k' = boxB m.SX m.SY HX HY r t' (ords m.sn)[k'] m.sn := by unfold boxS; rw [List.getD_eq_getElem?_getD, List.getElem?_eq_getElem h2]; rfl
    rw [← e4] at hb
    obtain ⟨b1, b2, b3, b4⟩ := hb
    have hE : boxE (boxS m HX HY r t' k') = false := by unfold boxE; rw [decide_eq_false (by omega), decide_eq_false (by omega)]; rfl
    obtain ⟨i, hi, hf⟩ := h.has t' k' h2 (by omega) hE
    have hbd := box_bd hn1 hn2 hr hS hH h hi
    have e3 : un5 (f i) = boxS m HX HY r t' k' := by rw [hf]; rfl
    refine ⟨i, hi, ?_, ?_⟩
    · rw [e3] at hbd ⊢
      exact ((plusX m k _).can (Mach.fineX hok) (wX_fine hok hk hbd) hc.1 hk).2 ⟨x, by omega, by omega, b1, b2⟩
    · rw [e3] at hbd ⊢
      exact ((plusY m k _).can (Mach.fineY hok) (wY_fine hok hk hbd) hc.2 hk).2 ⟨y, by omega, by omega, b3, b4⟩
theorem sg_true {m : Mach} {HX HY : Nat → Int} {r : Int} {cnt : Nat} {f : Nat → Int × Int × Int × Int × Int} (hok : m.ok = true) (hc : m.can) (hn1 : 2 ≤ m.sn) (hn2 : m.sn ≤ 4) (hr : 0 ≤ r ∧ r ≤ 4) (hS : ∀ i, i < m.sn → (-20 ≤ m.SX i ∧ m.SX i ≤ 20) ∧ (-20 ≤ m.SY i ∧ m.SY i ≤ 20)) (hH : ∀ i, i < m.sn → small (HX i, HY i)) (h : BoxL (boxS m HX HY r) (ords m.sn).length 8 0 cnt f) {k : Nat} (hk : k ≤ 12) {sg : Bool}
    (hsg : sg = false ↔ ∀ x y, InBox (m.axX.ends k).1 (m.axX.ends k).2 (m.axY.ends k).1 (m.axY.ends k).2 x y → agreeB m.sn HX HY m.SX m.SY r x y = false) : (∃ i, i < cnt ∧ canW m k (un5 (f i))) ↔ sg = true := by
  rw [boxes_agree hok hc hn1 hn2 hr hS hH h hk]
  constructor
  · rintro ⟨x, y, h1, h2⟩
    cases hs : sg with
    | true => rfl
    | false => rw [hsg.1 hs x y h1] at h2; cases h2
  · intro hs
    false_or_by_contra
    rename_i hno
    have : sg = false := hsg.2 fun x y hin => by
      cases ha : agreeB m.sn HX HY m.SX m.SY r x y with
      | false => rfl
      | true => exact absurd ⟨x, y, hin, ha⟩ hno
    rw [this] at hs; cases hs
theorem cells_one1 (w : World) (a : Value) (e : TypeId) : ∀ (j : Nat) (u : Value), [a][j]? = some u → (w.alloc (Obj.cells #[a] e)).cell? ((⟨w.heap.size, 0, none⟩ : Addr).add j) = some u := by
  intro j u h
  match j, h with
  | 0, h => simp at h; subst h; simp [go_sem, Addr.add]
  | n+1, h => simp at h
set_option maxRecDepth 100000 in
set_option maxHeartbeats 8000000 in
theorem rcould_any (m : Mach) (a1 : Option Addr) (c1 : Nat) (r : Int) (HX HY : Nat → Int) (w : World) (hkg : KG w) (h : MIn w m) (hp : PSl w (.slice a1 m.sn c1) m.sn HX HY) (hok : m.ok = true) (hc : m.can) (hbu : butB m.sn HX HY r = true)
    (sg : Nat → Bool) (hsg : ∀ k, k ≤ 12 → (sg k = false ↔ ∀ x y, InBox (m.axX.ends k).1 (m.axX.ends k).2 (m.axY.ends k).1 (m.axY.ends k).2 x y → agreeB m.sn HX HY m.SX m.SY r x y = false)) :
    Calls Tryz.prog 15 #[m.val, .agg #[.slice a1 m.sn c1, .int .i64 r]] w fun e w' => ∃ v : Value, e = .returned v ∧ w'.ownsRow w.heap.size 3 1 v (blanksTo sg 12).length (iCells (blanksTo sg 12)) ∧ Below w.heap.size w w' := by
  obtain ⟨⟨q1, q2⟩, hr, hH⟩ := but_parts hbu
  obtain ⟨i0, hi, hz0, hz1, hz2⟩ := info_parts infoInt
  have hst := (Mach.ok_parts hok).1
  have hfewr := (Mach.ok_parts hok).2.1
  have hS : ∀ i, i < m.sn → (-20 ≤ m.SX i ∧ m.SX i ≤ 20) ∧ (-20 ≤ m.SY i ∧ m.SY i ≤ 20) := fun i hi => by
    unfold Mach.okStops arB at hst
    rw [Bool.and_eq_true, allB_iff] at hst
    have := hst.2 i hi
    unfold ptB at this
    rw [Bool.and_eq_true, inB_iff, inB_iff] at this
    omega
  obtain ⟨W0, hW0⟩ : ∃ W0, (w.alloc (.cells #[.slice m.sa m.sn m.sc, .int .i64 m.c0, .int .i64 m.c1, .int .i64 m.d0, .int .i64 m.d1, .int .i64 m.w0, .int .i64 m.w1, .int .i64 m.v0, .int .i64 m.v1, .slice m.ra m.rn m.rc] 33)).alloc (Obj.cells #[.slice a1 m.sn c1, .int .i64 r] 25) = W0 := ⟨_, rfl⟩
  have hSX : SB w W0 m (.slice a1 m.sn c1) r := by rw [← hW0]; exact SB.new w m _ r
  have hkW := hkg.below hSX.old
  have hbxs := rboxes_any m a1 c1 r HX HY W0 hkW (h.below hSX.old) (hp.below hSX.old) q1 q2 hr hS hH
  have c0 := hSX.c0
  have c1' := hSX.c1
  obtain ⟨y0, y1, y2, y3, y4, y5, y6, y7, y8, y9⟩ := hSX.mach
  clear hst
  go_enter Tryz.func15, Tryz.ntmps15
  go_wp2_with (first | (go_at_call 55; with_reducible refine hbxs.mono ?_; rintro e w1 ⟨v, cnt, f, rfl, hmk, hbl8, hb1⟩))
  clear c0 c1' y0 y1 y2 y3 y4 y5 y6 y7 y8 y9 hbxs hkW
  have hSB1 := hSX.below hb1
  have hb01 : Below w.heap.size w w1 := hSB1.old
  have hM1 : MIn w1 m := h.below hb01
  have hbd := fun i (hi : i < cnt) => box_bd q1 q2 hr hS hH hbl8 hi
  have hst := fun k (hk : k ≤ 12) => sg_true hok hc q1 q2 hr hS hH hbl8 hk (hsg k hk)
  have hmade : ∀ i, i < cnt → (f i).1 = 0 := fun i hi => by obtain ⟨_, _, _, _, h3, _⟩ := hbl8.made i hi; rw [h3]; rfl
  have hfew : cnt ≤ 216 := by have := hbl8.few; omega
  obtain ⟨ba, bc, rfl, hmp⟩ := hmk
  clear hb1 hbl8 hsg hS hH hSX hW0 hp h
  go_loopw [5, 7] (fun v i wr => ∃ j : Nat, j ≤ 12 ∧ i = .int .i64 ((j : Int) + 1) ∧ wr.ownsRow w1.heap.size 3 1 v (blanksTo sg j).length (iCells (blanksTo sg j)) ∧ Below w1.heap.size w1 wr) (fun _ i _ => 14 - (intOf i).toNat)
  case atStart => exact ⟨0, by omega, rfl, ⟨by simp [iCells, blanksTo], .inl ⟨rfl, by simp [blanksTo]⟩⟩, Below.refl _ _⟩
  case round =>
    obtain ⟨j, hj, rfl, hown, hbl⟩ := hrel
    rename World => wm
    obtain ⟨vb, vd, rfl⟩ := ownsRow_slice hown
    have hll := blanksTo_length sg j
    by_cases hlt : j < 12
    · have hlt' : (j : Int) + 1 ≤ 12 := by omega
      go_wp2
      go_loopw [8, 9] (fun c i wz => ∃ (q : Nat) (b : Bool), q ≤ cnt ∧ i = .int .i64 q ∧ c = .bool b ∧ Below wm.heap.size wm wz ∧ Hid (b = true ↔ ∃ i, i < q ∧ canW m (j + 1) (un5 (f i)))) (fun _ i _ => cnt - (intOf i).toNat)
      case atStart => exact ⟨0, false, Nat.zero_le _, rfl, rfl, Below.refl _ _, ⟨⟨fun h => (by cases h), fun ⟨i, h1, _⟩ => absurd h1 (Nat.not_lt_zero i)⟩⟩⟩
      case round =>
        obtain ⟨q, b, hqc, rfl, rfl, hbz, hbm⟩ := hrel
        rename World => wz
        have hq0 : (0 : Int) ≤ (q : Int) := Int.natCast_nonneg _
        have hwz : Below w1.heap.size w1 wz := hbl.trans (hbz.mono hbl.size)
        cases b with
        | true =>
          replace hbm : PLift (∃ i, i < q ∧ canW m (j + 1) (un5 (f i))) := ⟨hbm.down.1 rfl⟩
          have hsgj : sg (j + 1) = true := (hst (j + 1) (by omega)).1 (by obtain ⟨i, h1, h2⟩ := hbm.down; exact ⟨i, by omega, h2⟩)
          have hbt := blanksTo_yes hsgj
          have hownz := ownsRow_below hown hbz
          have hzz := hwz.size
          clear hst hsgj
          by_cases hlq : q < cnt
          · have hq1 : (q : Int) < (cnt : Int) := by omega
            go_wp2_with (at_builtin; refine wpList_append_own _ rfl _ _ 34 rfl w1.heap.size 3 i0 (.int .i64 0) 1 8 Tryz.underlying34 hi hz0 hz1 hz2 rfl (by decide) _ (blanksTo sg j).length _ rfl (hownz.alloc _) ⟨wz.heap.size, 0, none⟩ 1 1 [.int .i64 ((j : Int) + 1)] rfl rfl ?c1 ?c2 ?c3 ?c4 ?c5 ?_)
            case c1 => exact cells_one1 _ _ _
            case c2 => simp [Value.oneCell']
            case c3 => unfold maxLen; omega
            case c4 => omega
            case c5 => (try simp only [World.size_alloc]); omega
            intro v4 w4 hown4 hgrow4 _
            have hb4 : Below w1.heap.size w1 w4 := (hwz.alloc hwz.size _).grown hgrow4 (by rw [World.size_alloc]; omega) fun x hx => (hown.lt x hx).1
            have hown5 : w4.ownsRow w1.heap.size 3 1 v4 (blanksTo sg (j + 1)).length (iCells (blanksTo sg (j + 1))) := by rw [hbt]; unfold iCells; rw [List.map_append, List.length_append]; exact hown4
            clear hgrow4 hown4
            go_wp2
            go_roundw
            case rel => exact ⟨j + 1, by omega, by go_num, hown5, hb4⟩
            case measure => simp [intOf]; omega
          · obtain rfl : q = cnt := by omega
            go_wp2_with (at_builtin; refine wpList_append_own _ rfl _ _ 34 rfl w1.heap.size 3 i0 (.int .i64 0) 1 8 Tryz.underlying34 hi hz0 hz1 hz2 rfl (by decide) _ (blanksTo sg j).length _ rfl (hownz.alloc _) ⟨wz.heap.size, 0, none⟩ 1 1 [.int .i64 ((j : Int) + 1)] rfl rfl ?c1 ?c2 ?c3 ?c4 ?c5 ?_)
            case c1 => exact cells_one1 _ _ _
            case c2 => simp [Value.oneCell']
            case c3 => unfold maxLen; omega
            case c4 => omega
            case c5 => (try simp only [World.size_alloc]); omega
            intro v4 w4 hown4 hgrow4 _
            have hb4 : Below w1.heap.size w1 w4 := (hwz.alloc hwz.size _).grown hgrow4 (by rw [World.size_alloc]; omega) fun x hx => (hown.lt x hx).1
            have hown5 : w4.ownsRow w1.heap.size 3 1 v4 (blanksTo sg (j + 1)).length (iCells (blanksTo sg (j + 1))) := by rw [hbt]; unfold iCells; rw [List.map_append, List.length_append]; exact hown4
            clear hgrow4 hown4
            go_wp2
            go_roundw
            case rel => exact ⟨j + 1, by omega, by go_num, hown5, hb4⟩
            case measure => simp [intOf]; omega
        | false =>
          by_cases hlq : q < cnt
          · have hq1 : (q : Int) < (cnt : Int) := by omega
            obtain ⟨gb, go_, rfl, hgl, hgp⟩ := hmp (by omega)
            obtain ⟨d0, d1, d2, d3, d4⟩ := hgp q hlq
            have hz1' := hbl.size
            have hD : ∀ W, Below wz.heap.size wz W → MAt W w.heap.size m ∧ W.cell? ⟨gb, go_ + q * 5, none⟩ = some (.int .i64 0) ∧ W.cell? ⟨gb, go_ + q * 5 + 1, none⟩ = some (.int .i64 (un5 (f q)).1) ∧ W.cell? ⟨gb, go_ + q * 5 + 2, none⟩ = some (.int .i64 (un5 (f q)).2.1) ∧ W.cell? ⟨gb, go_ + q * 5 + 3, none⟩ = some (.int .i64 (un5 (f q)).2.2.1) ∧ W.cell? ⟨gb, go_ + q * 5 + 4, none⟩ = some (.int .i64 (un5 (f q)).2.2.2) := fun W hW => by
              have hWW : Below w1.heap.size w1 W := hwz.trans (hW.mono hwz.size)
              have old : ∀ off, W.cell? ⟨gb, off, none⟩ = w1.cell? ⟨gb, off, none⟩ := fun off => hWW.cell (p := ⟨gb, off, none⟩) hgl
              refine ⟨hSB1.mach.below hWW (by have := hSB1.big; omega), ?_, (old _).trans d1, (old _).trans d2, (old _).trans d3, (old _).trans d4⟩
              rw [old, d0, hmade q hlq]
            have hmr := fun (W : World) (hW : Below wz.heap.size wz W) => rmarks_any m W hok (hM1.below (hwz.trans (hW.mono hwz.size)))
            obtain ⟨cb, hcb, hbo⟩ := rb_with m hok (j + 1) (by omega) (un5 (f q)) (hbd q hlq)
            have hstep : Hid (cb = true ↔ ∃ i, i < q + 1 ∧ canW m (j + 1) (un5 (f i))) := ⟨by
              rw [hcb]
              constructor
              · intro hh; exact ⟨q, by omega, hh⟩
              · rintro ⟨i, h1, h2⟩
                rcases Nat.lt_or_eq_of_le (Nat.le_of_lt_succ h1) with h3 | h3
                · have := hbm.down.2 ⟨i, h3, h2⟩; cases this
                · rw [← h3]; exact h2⟩
            clear hcb d0 d1 d2 d3 d4 hbm hst
            generalize hbx : un5 (f q) = bx at *
            obtain ⟨e0, e1, e2, e3⟩ := bx
            dsimp only at hD
            go_wp2_with fail
            refine wp_region_late [] (fun w9 => Below wz.heap.size wz w9) (fun w9 => True) (by kernel_rfl) ?_ (fun hHeld => ?_)
            · (exact ⟨(Below.refl _ _).drew, trivial⟩)
            generalize wz.drew = V at hHeld ⊢
            refine tk0 0 ?_ rfl (Or.inl ⟨by rfl, ?_⟩) hHeld ?_
            rotate_left 1
            · ((intro w9 hSw; obtain ⟨z0, z1, z2, z3, z4, z5, z6, z7, z8, z9⟩ := (hD w9 hSw).1; clear hSw; go_simp) <;> with_reducible rfl)
            (try simp only [Act.put, pA, pZ, pS])
            refine tk0 1 ?_ rfl (Or.inl ⟨by rfl, ?_⟩) hHeld ?_
            rotate_left 1
            · ((intro w9 hSw; obtain ⟨z0, z1, z2, z3, z4, z5, z6, z7, z8, z9⟩ := (hD w9 hSw).1; clear hSw; go_simp) <;> with_reducible rfl)
            (try simp only [Act.put, pA, pZ, pS])
            refine tk0 3 ?_ rfl (Or.inl ⟨by rfl, ?_⟩) hHeld ?_
            rotate_left 1
            · ((intro w9 hSw; clear hSw; go_simp) <;> with_reducible rfl)
            (try simp only [Act.put, pA, pZ, pS])
            refine tk0 4 ?_ rfl (Or.inl ⟨by rfl, ?_⟩) hHeld ?_
            rotate_left 1
            · ((intro w9 hSw; clear hSw; go_simp) <;> with_reducible rfl)
            (try simp only [Act.put, pA, pZ, pS])
            refine tk0 5 ?_ rfl (Or.inl ⟨by rfl, ?_⟩) hHeld ?_
            rotate_left 1
            · ((intro w9 hSw; clear hSw; go_simp) <;> with_reducible rfl)
            (try simp only [Act.put, pA, pZ, pS])
            refine tk0 6 ?_ rfl (Or.inl ⟨by rfl, ?_⟩) hHeld ?_
            rotate_left 1
            · ((intro w9 hSw; have z0 := (hD w9 hSw).2.1; have z1 := (hD w9 hSw).2.2.1; have z2 := (hD w9 hSw).2.2.2.1; have z3 := (hD w9 hSw).2.2.2.2.1; have z4 := (hD w9 hSw).2.2.2.2.2; clear hSw; go_simp) <;> with_reducible rfl)
            (try simp only [Act.put, pA, pZ, pS])
            refine tk0 7 ?_ rfl (Or.inl ⟨by rfl, ?_⟩) hHeld ?_
            rotate_left 1
            · ((intro w9 hSw; clear hSw; go_simp) <;> with_reducible rfl)
            (try simp only [Act.put, pA, pZ, pS])
            refine wpAnyP_ready (rs := [2]) (by kernel_rfl) (by simp) ?_
            refine AllReadyP.cons (o := _) rfl (fun K hK => ?_) AllReadyP.nil
            · go_simp
              (go_at_call 58; with_reducible refine (hmr _ hHeld.1).mono ?_; rintro e w5 ⟨vm, rfl, hmk5, hb5⟩)
              obtain ⟨ma, mc, rfl, _⟩ := id hmk5
              refine hK.out _ _ ?_ (fun hHeld => ?_)
              · (exact ⟨hHeld.1.trans (hb5.mono hHeld.1.size), trivial⟩)
              clear hK K
              (try simp only [Act.put, pA, pZ, pS])
              refine wpAnyP_ready (rs := [8]) (by kernel_rfl) (by simp) ?_
              refine AllReadyP.cons (o := _) rfl (fun K hK => ?_) AllReadyP.nil
              · go_simp
                (go_at_call 57; with_reducible refine (rwith_any ma m.rn mc m.mark 0 e0 e1 e2 e3 ((j : Int) + 1) _ hmk5 (by omega)).mono ?_; rintro e w6 ⟨vw, rfl, hmk6, hb6⟩)
                have hmk7 : MkSl w6 vw (m.rn + 1) (withF m (j + 1) (e0, e1, e2, e3)) := hmk6
                refine hK.out _ _ ?_ (fun hHeld => ?_)
                · (exact ⟨hHeld.1.trans (hb6.mono hHeld.1.size), trivial⟩)
                clear hK K
                (try simp only [Act.put, pA, pZ, pS])
                refine wpAnyP_ready (rs := [9]) (by kernel_rfl) (by simp) ?_
                refine AllReadyP.cons (o := _) rfl (fun K hK => ?_) AllReadyP.nil
                · go_simp
                  (go_at_call 56; with_reducible refine (hbo _ _ hmk7).mono ?_; rintro e w7 ⟨vx, vy, rfl, _, hb7⟩)
                  refine hK.out _ _ ?_ (fun hHeld => ?_)
                  · (exact ⟨hHeld.1.trans (hb7.mono hHeld.1.size), trivial⟩)
                  clear hK K
                  (try simp only [Act.put, pA, pZ, pS])
                  refine tk0 10 ?_ rfl (Or.inl ⟨by rfl, ?_⟩) hHeld ?_
                  rotate_left 1
                  · ((intro w9 hSw; clear hSw; go_simp) <;> with_reducible rfl)
                  (try simp only [Act.put, pA, pZ, pS])
                  refine tk0 11 ?_ rfl (Or.inl ⟨by rfl, ?_⟩) hHeld ?_
                  rotate_left 1
                  · ((intro w9 hSw; clear hSw; go_simp) <;> with_reducible rfl)
                  (try simp only [Act.put, pA, pZ, pS])
                  refine tk0 12 ?_ rfl (Or.inl ⟨by rfl, ?_⟩) hHeld ?_
                  rotate_left 1
                  · ((intro w9 hSw; clear hSw; go_simp) <;> with_reducible rfl)
                  (try simp only [Act.put, pA, pZ, pS])
                  refine tk0 13 ?_ rfl (Or.inl ⟨by rfl, ?_⟩) hHeld ?_
                  rotate_left 1
                  · ((intro w9 hSw; clear hSw; go_simp) <;> with_reducible rfl)
                  (try simp only [Act.put, pA, pZ, pS])
                  refine tk0 14 ?_ rfl (Or.inl ⟨by rfl, ?_⟩) hHeld ?_
                  rotate_left 1
                  · ((intro w9 hSw; clear hSw; go_simp) <;> with_reducible rfl)
                  (try simp only [Act.put, pA, pZ, pS])
                  refine wpAnyP_done (by kernel_rfl) ?_ _
                  (try simp only [Act.put, List.getElem_toArray, List.getElem_cons_zero, List.getElem_cons_succ, pA, pZ, pS])
                  have hO9 := hHeld.1
                  clear hHeld
                  go_wp2
                  go_roundw
                  case rel => exact ⟨q + 1, cb, by omega, by go_num, rfl, hbz.trans (hO9.mono hbz.size), hstep⟩
                  case measure => simp [intOf]; omega
          · obtain rfl : q = cnt := by omega
            have hsgj : sg (j + 1) = false := by
              cases hs : sg (j + 1) with
              | false => rfl
              | true => have := hbm.down.2 ((hst (j + 1) (by omega)).2 hs); cases this
            have hbt := blanksTo_no hsgj
            have hownz := ownsRow_below hown hbz
            clear hst hsgj hbm
            go_wp2
            go_roundw
            case rel => exact ⟨j + 1, by omega, by go_num, by rw [hbt]; exact hownz, hwz⟩
            case measure => simp [intOf]; omega
    · obtain rfl : j = 12 := by omega
      go_wp2
      go_ret
      exact ⟨_, rfl, hown.mono hb01.size, hb01.trans (hbl.mono hb01.size)⟩
end Go.Proofs.YtbgjocgjmjkneaaGreatDoor
namespace Go.Proofs.YtbgjocgjmjkneaaGreatDoor
open Go.RowKit
set_option maxRecDepth 100000 in
set_option maxHeartbeats 2000000 in
theorem Could_no (a1 : Option Addr) (n c1 : Nat) (r : Int) (HX HY : Nat → Int) (m : Mach) (w : World) (hn : n ≤ 1000) (hs : m.sn ≤ 1000) (hr : m.rn ≤ 9223372036854775807) (hp : PSl w (.slice a1 n c1) n HX HY) (h : MIn w m)
    (er : Int) (hA : Able m (butB n HX HY r && decide (n = m.sn)) er) (hne : er ≠ 0) :
    Calls Tryz.prog 13 #[m.val, .agg #[.slice a1 n c1, .int .i64 r]] w fun e w' => e = .returned (.tuple #[.slice none 0 0, .int .i64 er]) ∧ Below w.heap.size w w' := by
  generalize hfine : (butB n HX HY r && decide (n = m.sn)) = fine at hA
  obtain ⟨L, er', hE, hC⟩ := examine_any m fine w hs hr h
  obtain rfl : er' = er := Able.same hE.able hA
  clear hA
  have hif := fun (W : World) (hB : Below w.heap.size w W) => isOf_any (.slice a1 n c1) a1 n c1 r HX HY m W rfl hn (by omega) (hp.below hB)
  rw [hfine] at hif
  clear hfine
  obtain ⟨W0, hW0⟩ : ∃ W0, (w.alloc (.cells #[.slice m.sa m.sn m.sc, .int .i64 m.c0, .int .i64 m.c1, .int .i64 m.d0, .int .i64 m.d1, .int .i64 m.w0, .int .i64 m.w1, .int .i64 m.v0, .int .i64 m.v1, .slice m.ra m.rn m.rc] 33)).alloc (Obj.cells #[.slice a1 n c1, .int .i64 r] 25) = W0 := ⟨_, rfl⟩
  have hSX : SB w W0 m (.slice a1 n c1) r := by rw [← hW0]; exact SB.new w m _ r
  have hal : (#[.slice none 0 0, .int .i64 0, .int .i64 0, .int .i64 0, .int .i64 0, .int .i64 0, .int .i64 0, .int .i64 0, .int .i64 0, .slice none 0 0, .int .i64 0, .int .i64 0, .int .i64 0, .int .i64 0, .int .i64 0, .int .i64 0, .int .i64 0, .int .i64 0, .int .i64 0, .int .i64 0, .int .i64 0, .int .i64 0, .int .i64 0, .int .i64 0, .int .i64 0, .int .i64 0, .int .i64 0, .int .i64 0, .int .i64 0, .int .i64 0, .int .i64 0, .int .i64 0, .int .i64 0, .int .i64 0, .int .i64 0, .int .i64 0, .int .i64 0, .int .i64 0, .int .i64 0, .int .i64 0, .int .i64 0, .int .i64 0, .int .i64 0, .int .i64 0, .int .i64 0, .int .i64 0, .int .i64 0, .int .i64 0, .int .i64 0, .int .i64 0, .int .i64 0, .int .i64 0, .int .i64 0, .int .i64 0, .int .i64 0, .int .i64 0, .int .i64 0, .int .i64 0, .int .i64 0, .int .i64 0, .int .i64 0, .int .i64 0] : Array Value) = zst.toArray := rfl
  have hlz : zst.length = 62 := zM.st_length rfl rfl
  have hlL := hE.length
  have hoL := all_oneCell_toArray hE.one
  have hi0 : (Tryz.prog.info? 96).map (·.size) = some 62 := by kernel_rfl
  have hiL : (Tryz.prog.info? 96).map (·.size) = some L.length := by rw [hlL]; exact hi0
  have hiA : (Tryz.prog.info? 96).map (·.size) = some L.toArray.size := by rw [List.size_toArray, hlL]; exact hi0
  have hS0 := fun (W : World) => SAt.new W zst 96
  have hth := fun (W : World) (g : Nat) (H : SAt W g zst) => H.there 0 L.toArray.size (by rw [List.size_toArray, hlL, hlz]; omega)
  have hfi := fun (W : World) (g : Nat) (H : SAt W g zst) => SAt.fill (L' := L) H (by rw [hlL, hlz])
  clear hi0 hE
  generalize zst = Z at *
  go_enter Tryz.func13, Tryz.ntmps13
  go_wp2_with fail
  refine wp_region_late [] (fun w9 => SB w w9 m (.slice a1 n c1) r) (fun w9 => True) (by kernel_rfl) ?_ (fun hHeld => ?_)
  · (exact ⟨hSX.drew, trivial⟩)
  generalize W0.drew = V at hHeld ⊢
  refine tk0 0 ?_ rfl (Or.inl ⟨by rfl, ?_⟩) hHeld ?_
  rotate_left 1
  · ((intro w9 hSw; have q0 := hSw.mach.k0; have q1 := hSw.mach.k1; have q2 := hSw.mach.k2; have q3 := hSw.mach.k3; have q4 := hSw.mach.k4; have q5 := hSw.mach.k5; have q6 := hSw.mach.k6; have q7 := hSw.mach.k7; have q8 := hSw.mach.k8; have q9 := hSw.mach.k9; clear hSw; go_simp) <;> with_reducible rfl)
  (try simp only [Act.put, pA, pZ, pS])
  refine tk0 1 ?_ rfl (Or.inl ⟨by rfl, ?_⟩) hHeld ?_
  rotate_left 1
  · ((intro w9 hSw; have q0 := hSw.c0; have q1 := hSw.c1; clear hSw; go_simp) <;> with_reducible rfl)
  (try simp only [Act.put, pA, pZ, pS])
  refine tk0 2 ?_ rfl (Or.inl ⟨by rfl, ?_⟩) hHeld ?_
  rotate_left 1
  · ((intro w9 hSw; have q0 := hSw.mach.k0; have q1 := hSw.mach.k1; have q2 := hSw.mach.k2; have q3 := hSw.mach.k3; have q4 := hSw.mach.k4; have q5 := hSw.mach.k5; have q6 := hSw.mach.k6; have q7 := hSw.mach.k7; have q8 := hSw.mach.k8; have q9 := hSw.mach.k9; clear hSw; go_simp) <;> with_reducible rfl)
  (try simp only [Act.put, pA, pZ, pS])
  refine wpAnyP_ready (rs := [3, 8]) (by kernel_rfl) (by simp) ?_
  refine AllReadyP.cons (o := _) rfl (fun K hK => ?_) (AllReadyP.cons (o := _) rfl (fun K hK => ?_) AllReadyP.nil)
  · go_simp
    (go_at_call 49; with_reducible refine (hif _ hHeld.1.old).mono ?_; rintro e w1 ⟨rfl, hb1⟩)
    refine hK.out _ _ ?_ (fun hHeld => ?_)
    · (exact ⟨hHeld.1.below hb1, trivial⟩)
    clear hK K
    (try simp only [Act.put, pA, pZ, pS])
    refine wpAnyP_ready (rs := [4, 8]) (by kernel_rfl) (by simp) ?_
    refine AllReadyP.cons (o := _) rfl (fun K hK => ?_) (AllReadyP.cons (o := _) rfl (fun K hK => ?_) AllReadyP.nil)
    · go_simp
      (go_at_call 50; with_reducible refine (hC _ hHeld.1.old).mono ?_; rintro e w2 ⟨rfl, hb2⟩)
      refine hK.out _ _ ?_ (fun hHeld => ?_)
      · (exact ⟨hHeld.1.below hb2, trivial⟩)
      clear hK K
      (try simp only [Act.put, pA, pZ, pS])
      refine tk0 5 ?_ rfl (Or.inl ⟨by rfl, ?_⟩) hHeld ?_
      rotate_left 1
      · ((intro w9 hSw; clear hSw; go_simp) <;> with_reducible rfl)
      (try simp only [Act.put, pA, pZ, pS])
      refine tk0 6 ?_ rfl (Or.inl ⟨by rfl, ?_⟩) hHeld ?_
      rotate_left 1
      · ((intro w9 hSw; clear hSw; go_simp) <;> with_reducible rfl)
      (try simp only [Act.put, pA, pZ, pS])
      refine tk0 7 ?_ rfl (Or.inl ⟨by rfl, ?_⟩) hHeld ?_
      rotate_left 1
      · ((intro w9 hSw; clear hSw; go_simp) <;> with_reducible rfl)
      (try simp only [Act.put, pA, pZ, pS])
      refine wpAnyP_ready (rs := [8]) (by kernel_rfl) (by simp) ?_
      refine AllReadyP.cons (o := _) rfl (fun K hK => ?_) AllReadyP.nil
      · go_simp
        (try simp only [hal])
        have hZ := hS0 w2
        have hgzz := hHeld.1.big
        refine hK.out _ _ ?_ (fun hHeld => ?_)
        · (exact ⟨hHeld.1.alloc _, trivial⟩)
        clear hK K
        (try simp only [Act.put, pA, pZ, pS])
        refine wpAnyP_ready (rs := [9]) (by kernel_rfl) (by simp) ?_
        refine AllReadyP.cons (o := _) rfl (fun K hK => ?_) AllReadyP.nil
        · refine step_store_mid rfl 96 _ _ rfl w2.heap.size 0 L.toArray rfl rfl (hth _ _ hZ) hiA hoL ?_
          have hL5 := hfi _ _ hZ
          have hK5 := hHeld.1.put hgzz L
          refine hK.out _ _ ?_ (fun hHeld => ?_)
          · (exact ⟨hK5, trivial⟩)
          clear hK K
          (try simp only [Act.put, pA, pZ, pS])
          refine tk0 10 ?_ rfl (Or.inl ⟨by rfl, ?_⟩) hHeld ?_
          rotate_left 1
          · ((intro w9 hSw; clear hSw; go_simp) <;> with_reducible rfl)
          (try simp only [Act.put, pA, pZ, pS])
          refine wpAnyP_done (by kernel_rfl) ?_ _
          (try simp only [Act.put, List.getElem_toArray, List.getElem_cons_zero, List.getElem_cons_succ, pA, pZ, pS])
          have hO9 := hHeld.1.old
          clear hth hfi hS0 hHeld hC hif
          go_wp2
          refine bodyPost_ret (v := .tuple #[.slice none 0 0, .int .i64 er']) (by simp [results, Tryz.results13, go_sem]) rfl ⟨rfl, hO9⟩
    · go_simp
      (try simp only [hal])
      have hZ := hS0 w1
      have hgzz := hHeld.1.big
      refine hK.out _ _ ?_ (fun hHeld => ?_)
      · (exact ⟨hHeld.1.alloc _, trivial⟩)
      clear hK K
      (try simp only [Act.put, pA, pZ, pS])
      refine wpAnyP_ready (rs := [4]) (by kernel_rfl) (by simp) ?_
      refine AllReadyP.cons (o := _) rfl (fun K hK => ?_) AllReadyP.nil
      · go_simp
        (go_at_call 50; with_reducible refine (hC _ hHeld.1.old).mono ?_; rintro e w2 ⟨rfl, hb2⟩)
        replace hZ := hZ.below hb2 (by first | (rw [World.size_alloc]; exact Nat.lt_succ_self _) | (have hz := hb1.size; rw [World.size_alloc] at hz; omega))
        refine hK.out _ _ ?_ (fun hHeld => ?_)
        · (exact ⟨hHeld.1.below hb2, trivial⟩)
        clear hK K
        (try simp only [Act.put, pA, pZ, pS])
        refine tk0 5 ?_ rfl (Or.inl ⟨by rfl, ?_⟩) hHeld ?_
        rotate_left 1
        · ((intro w9 hSw; clear hSw; go_simp) <;> with_reducible rfl)
        (try simp only [Act.put, pA, pZ, pS])
        refine tk0 6 ?_ rfl (Or.inl ⟨by rfl, ?_⟩) hHeld ?_
        rotate_left 1
        · ((intro w9 hSw; clear hSw; go_simp) <;> with_reducible rfl)
        (try simp only [Act.put, pA, pZ, pS])
        refine tk0 7 ?_ rfl (Or.inl ⟨by rfl, ?_⟩) hHeld ?_
        rotate_left 1
        · ((intro w9 hSw; clear hSw; go_simp) <;> with_reducible rfl)
        (try simp only [Act.put, pA, pZ, pS])
        refine wpAnyP_ready (rs := [9]) (by kernel_rfl) (by simp) ?_
        refine AllReadyP.cons (o := _) rfl (fun K hK => ?_) AllReadyP.nil
        · refine step_store_mid rfl 96 _ _ rfl w1.heap.size 0 L.toArray rfl rfl (hth _ _ hZ) hiA hoL ?_
          have hL5 := hfi _ _ hZ
          have hK5 := hHeld.1.put hgzz L
          refine hK.out _ _ ?_ (fun hHeld => ?_)
          · (exact ⟨hK5, trivial⟩)
          clear hK K
          (try simp only [Act.put, pA, pZ, pS])
          refine tk0 10 ?_ rfl (Or.inl ⟨by rfl, ?_⟩) hHeld ?_
          rotate_left 1
          · ((intro w9 hSw; clear hSw; go_simp) <;> with_reducible rfl)
          (try simp only [Act.put, pA, pZ, pS])
          refine wpAnyP_done (by kernel_rfl) ?_ _
          (try simp only [Act.put, List.getElem_toArray, List.getElem_cons_zero, List.getElem_cons_succ, pA, pZ, pS])
          have hO9 := hHeld.1.old
          clear hth hfi hS0 hHeld hC hif
          go_wp2
          refine bodyPost_ret (v := .tuple #[.slice none 0 0, .int .i64 er']) (by simp [results, Tryz.results13, go_sem]) rfl ⟨rfl, hO9⟩
  · go_simp
    (try simp only [hal])
    have hZ := hS0 V
    have hgzz := hHeld.1.big
    refine hK.out _ _ ?_ (fun hHeld => ?_)
    · (exact ⟨hHeld.1.alloc _, trivial⟩)
    clear hK K
    (try simp only [Act.put, pA, pZ, pS])
    refine wpAnyP_ready (rs := [3]) (by kernel_rfl) (by simp) ?_
    refine AllReadyP.cons (o := _) rfl (fun K hK => ?_) AllReadyP.nil
    · go_simp
      (go_at_call 49; with_reducible refine (hif _ hHeld.1.old).mono ?_; rintro e w1 ⟨rfl, hb1⟩)
      replace hZ := hZ.below hb1 (by first | (rw [World.size_alloc]; exact Nat.lt_succ_self _) | (have hz := hb1.size; rw [World.size_alloc] at hz; omega))
      refine hK.out _ _ ?_ (fun hHeld => ?_)
      · (exact ⟨hHeld.1.below hb1, trivial⟩)
      clear hK K
      (try simp only [Act.put, pA, pZ, pS])
      refine wpAnyP_ready (rs := [4]) (by kernel_rfl) (by simp) ?_
      refine AllReadyP.cons (o := _) rfl (fun K hK => ?_) AllReadyP.nil
      · go_simp
        (go_at_call 50; with_reducible refine (hC _ hHeld.1.old).mono ?_; rintro e w2 ⟨rfl, hb2⟩)
        replace hZ := hZ.below hb2 (by first | (rw [World.size_alloc]; exact Nat.lt_succ_self _) | (have hz := hb1.size; rw [World.size_alloc] at hz; omega))
        refine hK.out _ _ ?_ (fun hHeld => ?_)
        · (exact ⟨hHeld.1.below hb2, trivial⟩)
        clear hK K
        (try simp only [Act.put, pA, pZ, pS])
        refine tk0 5 ?_ rfl (Or.inl ⟨by rfl, ?_⟩) hHeld ?_
        rotate_left 1
        · ((intro w9 hSw; clear hSw; go_simp) <;> with_reducible rfl)
        (try simp only [Act.put, pA, pZ, pS])
        refine tk0 6 ?_ rfl (Or.inl ⟨by rfl, ?_⟩) hHeld ?_
        rotate_left 1
        · ((intro w9 hSw; clear hSw; go_simp) <;> with_reducible rfl)
        (try simp only [Act.put, pA, pZ, pS])
        refine tk0 7 ?_ rfl (Or.inl ⟨by rfl, ?_⟩) hHeld ?_
        rotate_left 1
        · ((intro w9 hSw; clear hSw; go_simp) <;> with_reducible rfl)
        (try simp only [Act.put, pA, pZ, pS])
        refine wpAnyP_ready (rs := [9]) (by kernel_rfl) (by simp) ?_
        refine AllReadyP.cons (o := _) rfl (fun K hK => ?_) AllReadyP.nil
        · refine step_store_mid rfl 96 _ _ rfl V.heap.size 0 L.toArray rfl rfl (hth _ _ hZ) hiA hoL ?_
          have hL5 := hfi _ _ hZ
          have hK5 := hHeld.1.put hgzz L
          refine hK.out _ _ ?_ (fun hHeld => ?_)
          · (exact ⟨hK5, trivial⟩)
          clear hK K
          (try simp only [Act.put, pA, pZ, pS])
          refine tk0 10 ?_ rfl (Or.inl ⟨by rfl, ?_⟩) hHeld ?_
          rotate_left 1
          · ((intro w9 hSw; clear hSw; go_simp) <;> with_reducible rfl)
          (try simp only [Act.put, pA, pZ, pS])
          refine wpAnyP_done (by kernel_rfl) ?_ _
          (try simp only [Act.put, List.getElem_toArray, List.getElem_cons_zero, List.getElem_cons_succ, pA, pZ, pS])
          have hO9 := hHeld.1.old
          clear hth hfi hS0 hHeld hC hif
          go_wp2
          refine bodyPost_ret (v := .tuple #[.slice none 0 0, .int .i64 er']) (by simp [results, Tryz.results13, go_sem]) rfl ⟨rfl, hO9⟩
end Go.Proofs.YtbgjocgjmjkneaaGreatDoor
namespace Go.Proofs.YtbgjocgjmjkneaaGreatDoor
open Go.RowKit Go.Can
/-- a machine among others. -/
structure MOff (W : World) (b o : Nat) (m : Mach) : Prop where
  k0 : W.cell? ⟨b, o, none⟩ = some (.slice m.sa m.sn m.sc)
  k1 : W.cell? ⟨b, o + 1, none⟩ = some (.int .i64 m.c0)
  k2 : W.cell? ⟨b, o + 2, none⟩ = some (.int .i64 m.c1)
  k3 : W.cell? ⟨b, o + 3, none⟩ = some (.int .i64 m.d0)
  k4 : W.cell? ⟨b, o + 4, none⟩ = some (.int .i64 m.d1)
  k5 : W.cell? ⟨b, o + 5, none⟩ = some (.int .i64 m.w0)
  k6 : W.cell? ⟨b, o + 6, none⟩ = some (.int .i64 m.w1)
  k7 : W.cell? ⟨b, o + 7, none⟩ = some (.int .i64 m.v0)
  k8 : W.cell? ⟨b, o + 8, none⟩ = some (.int .i64 m.v1)
  k9 : W.cell? ⟨b, o + 9, none⟩ = some (.slice m.ra m.rn m.rc)
theorem MOff.below {W W' : World} {b o : Nat} {m : Mach} {B : Nat} (h : MOff W b o m) (hb : Below B W W') (hl : b < B) : MOff W' b o m :=
  ⟨(hb.cell (p := ⟨b, o, none⟩) hl).trans h.k0, (hb.cell (p := ⟨b, o + 1, none⟩) hl).trans h.k1, (hb.cell (p := ⟨b, o + 2, none⟩) hl).trans h.k2, (hb.cell (p := ⟨b, o + 3, none⟩) hl).trans h.k3, (hb.cell (p := ⟨b, o + 4, none⟩) hl).trans h.k4, (hb.cell (p := ⟨b, o + 5, none⟩) hl).trans h.k5, (hb.cell (p := ⟨b, o + 6, none⟩) hl).trans h.k6, (hb.cell (p := ⟨b, o + 7, none⟩) hl).trans h.k7, (hb.cell (p := ⟨b, o + 8, none⟩) hl).trans h.k8, (hb.cell (p := ⟨b, o + 9, none⟩) hl).trans h.k9⟩
/-- a list of machines. -/
structure MLs (w : World) (b off n : Nat) (M : Nat → Mach) : Prop where
  cells : ∀ i, i < n → MOff w b (off + i * 10) (M i)
  ins : ∀ i, i < n → MIn w (M i)
  lt : b < w.heap.size
theorem MLs.below {w w' : World} {b off n : Nat} {M : Nat → Mach} (h : MLs w b off n M) (hb : Below w.heap.size w w') : MLs w' b off n M :=
  ⟨fun i hi => (h.cells i hi).below hb h.lt, fun i hi => (h.ins i hi).below hb, Nat.lt_of_lt_of_le h.lt hb.size⟩
def MSl (w : World) (v : Value) (n : Nat) (M : Nat → Mach) : Prop := (∃ a c, v = .slice a 0 c ∧ n = 0) ∨ ∃ b off c, v = .slice (some ⟨b, off, none⟩) n c ∧ MLs w b off n M
theorem MSl.below {w w' : World} {v : Value} {n : Nat} {M : Nat → Mach} (h : MSl w v n M) (hb : Below w.heap.size w w') : MSl w' v n M := by
  rcases h with h | ⟨b, off, c, h1, h2⟩
  · exact .inl h
  · exact .inr ⟨b, off, c, h1, h2.below hb⟩
theorem could_st (m : Mach) (a1 : Option Addr) (bn c1 : Nat) (r : Int) (HX HY : Nat → Int) (w : World) (hbn : bn = m.sn) (hp : PSl w (.slice a1 bn c1) bn HX HY) (h : MIn w m) (hok : m.ok = true)
    (hbu : butB bn HX HY r = true) (sg : Nat → Bool) (hsg : ∀ k, k ≤ 12 → (sg k = false ↔ ∀ x y, InBox (m.axX.ends k).1 (m.axX.ends k).2 (m.axY.ends k).1 (m.axY.ends k).2 x y → agreeB m.sn HX HY m.SX m.SY r x y = false))
    (L : List Value) (hLe : L = m.st (crsL m.axX.ends 13) (crsL m.axY.ends 13)) (hlL : L.length = 62) :
    ∀ V, Below w.heap.size w V → Calls Tryz.prog 51 #[.agg L.toArray, .agg #[.slice a1 bn c1, .int .i64 r]] V fun e w' => ∃ v : Value, e = .returned v ∧ w'.ownsRow V.heap.size 3 1 v (blanksTo sg 12).length (iCells (blanksTo sg 12)) ∧ Below V.heap.size V w' := by
  subst hbn
  obtain ⟨⟨q1, q2⟩, ⟨q3, q4⟩, q5⟩ := but_parts hbu
  obtain ⟨b1, o1, k1, e1, l1, p1⟩ := PSl_posD hp (by omega)
  cases e1
  obtain ⟨sb, so, k0, e0, lsb, pS⟩ := PSl_posD h.stops (by omega)
  have hsa : PLift (m.sa = some ⟨sb, so, none⟩) := ⟨by injection e0⟩
  clear e0
  have hst := (Mach.ok_parts hok).1
  have hsS : ∀ i, i < m.sn → (-20 ≤ m.SX i ∧ m.SX i ≤ 20) ∧ (-20 ≤ m.SY i ∧ m.SY i ≤ 20) := fun i hi => by
    unfold Mach.okStops arB at hst
    rw [Bool.and_eq_true, allB_iff] at hst
    have := hst.2 i hi
    unfold ptB at this
    rw [Bool.and_eq_true, inB_iff, inB_iff] at this
    omega
  have hbX := fun k (hk : k ≤ 12) => (by have := Axis.any_bound (Mach.fineX hok) k hk; exact ⟨this.1, this.2.1, by omega⟩ : -48 ≤ (m.axX.ends k).1 ∧ (m.axX.ends k).2 ≤ 48 ∧ (m.axX.ends k).1 ≤ 1000)
  have hbY := fun k (hk : k ≤ 12) => (by have := Axis.any_bound (Mach.fineY hok) k hk; exact ⟨this.1, this.2.1, by omega⟩ : -48 ≤ (m.axY.ends k).1 ∧ (m.axY.ends k).2 ≤ 48 ∧ (m.axY.ends k).1 ≤ 1000)
  have hat : ∀ (j : Nat) (W : World), j < 12 → Calls Tryz.prog 64 #[.agg L.toArray, .int .i64 ((j : Int) + 1)] W fun e w' => e = .returned (.agg #[.int .i64 (m.axX.ends (j + 1)).1, .int .i64 (m.axX.ends (j + 1)).2, .int .i64 (m.axY.ends (j + 1)).1, .int .i64 (m.axY.ends (j + 1)).2]) ∧ Below W.heap.size W w' := fun j W hj => by
    obtain ⟨x0, x1⟩ := st_atX m m.axX.ends m.axY.ends (j + 1) (by omega)
    obtain ⟨x2, x3⟩ := st_atY m m.axX.ends m.axY.ends (j + 1) (by omega)
    rw [← hLe] at x0 x1 x2 x3
    have := at_any L (j + 1) (by omega) _ _ _ _ W x0 x1 x2 x3
    rw [show ((j + 1 : Nat) : Int) = (j : Int) + 1 by omega] at this
    exact this
  have hLm : ∀ (j : Nat) (u : Value), m.cells[j]? = some u → L[j]? = some u := fun j u h => by
    rw [hLe]
    unfold Mach.st
    rw [List.getElem?_append_left (by exact (List.getElem?_eq_some_iff.1 h).1)]
    exact h
  intro V hO
  exact could_any m L m.axX.ends m.axY.ends b1 o1 c1 sb so r HX HY sg V hsa.down hLm hat hlL (pS.below hO lsb) (p1.below hO l1) (Nat.lt_of_lt_of_le lsb hO.size) (Nat.lt_of_lt_of_le l1 hO.size) q3 (by omega) q1 q2 hsS q5 hbX hbY hsg
/-- the numbers below j of which something is so. -/
def whoL (P : Nat → Bool) (j : Nat) : List Nat := (List.range j).filter P
theorem whoL_yes {P : Nat → Bool} {j : Nat} (h : P j = true) : whoL P (j + 1) = whoL P j ++ [j] := by unfold whoL; rw [List.range_succ, List.filter_append]; simp [h]
theorem whoL_no {P : Nat → Bool} {j : Nat} (h : P j = false) : whoL P (j + 1) = whoL P j := by unfold whoL; rw [List.range_succ, List.filter_append]; simp [h]
theorem whoL_length (P : Nat → Bool) (j : Nat) : (whoL P j).length ≤ j := by unfold whoL; exact Nat.le_trans (List.length_filter_le _ _) (by simp)
/-- a machine and a button that fit each other are as defined. -/
def fitB8 (bn : Nat) (HX HY : Nat → Int) (r : Int) (m : Mach) : Bool := m.ok && (butB bn HX HY r && decide (bn = m.sn))
def seenB (sg : Nat → Nat → Bool) (i : Nat) : Bool := decide (0 < (blanksTo (sg i) 12).length)
set_option maxRecDepth 100000 in
set_option maxHeartbeats 400000 in
theorem Who_odd (la : Option Addr) (n lc : Nat) (a1 : Option Addr) (bn c1 : Nat) (r : Int) (w : World) (hn : n ≤ 9223372036854775807) (ho : ¬ (1 ≤ n ∧ n ≤ 4)) :
    Calls Tryz.prog 10 #[.slice la n lc, .agg #[.slice a1 bn c1, .int .i64 r]] w fun e w' => e = .returned (.tuple #[.slice none 0 0, .int .i64 2]) ∧ Below w.heap.size w w' := by
  have hin : inB (n : Int) 1 4 = false := by cases hh : inB (n : Int) 1 4 with | false => rfl | true => have := inB_iff.1 hh; omega
  have hwi := fun (W : World) => within_any (n : Int) 1 4 W
  rw [hin] at hwi
  go_enter Tryz.func10, Tryz.ntmps10
  go_wp2_with (first | (go_at_call 47; with_reducible refine (hwi _).mono ?_; rintro e w8 ⟨rfl, rfl⟩))
  refine bodyPost_ret (v := .tuple #[.slice none 0 0, .int .i64 2]) (by simp [results, Tryz.results10, go_sem]) rfl ⟨rfl, (Below.refl _ _).alloc (Nat.le_refl _) _⟩
set_option maxRecDepth 100000 in
set_option maxHeartbeats 8000000 in
theorem Who_some (b off n lc : Nat) (M : Nat → Mach) (a1 : Option Addr) (bn c1 : Nat) (r : Int) (HX HY : Nat → Int) (sg : Nat → Nat → Bool) (w : World) (hn1 : 1 ≤ n) (hn4 : n ≤ 4) (hbn : bn ≤ 1000) (hM : MLs w b off n M) (hsz : ∀ i, i < n → (M i).sn ≤ 1000 ∧ (M i).rn ≤ 1000)
    (hp : PSl w (.slice a1 bn c1) bn HX HY)
    (hsg : ∀ i, i < n → ∀ k, k ≤ 12 → (sg i k = false ↔ ∀ x y, InBox ((M i).axX.ends k).1 ((M i).axX.ends k).2 ((M i).axY.ends k).1 ((M i).axY.ends k).2 x y → agreeB (M i).sn HX HY (M i).SX (M i).SY r x y = false)) :
    Calls Tryz.prog 10 #[.slice (some ⟨b, off, none⟩) n lc, .agg #[.slice a1 bn c1, .int .i64 r]] w fun e w' => Below w.heap.size w w' ∧
      (((∃ i, i < n ∧ fitB8 bn HX HY r (M i) = false) ∧ e = .returned (.tuple #[.slice none 0 0, .int .i64 2])) ∨
       ((∀ i, i < n → fitB8 bn HX HY r (M i) = true) ∧ (∃ i, i < n ∧ ¬ (M i).can) ∧ e = .returned (.tuple #[.slice none 0 0, .int .i64 7])) ∨
       ((∀ i, i < n → fitB8 bn HX HY r (M i) = true) ∧ (∀ i, i < n → (M i).can) ∧ ∃ v, e = .returned (.tuple #[v, .int .i64 0]) ∧ w'.ownsRow w.heap.size 3 1 v (whoL (seenB sg) n).length (iCells (whoL (seenB sg) n)))) := by
  obtain ⟨i0, hi, hz0, hz1, hz2⟩ := info_parts infoInt
  have hin : inB (n : Int) 1 4 = true := inB_yes (by omega) (by omega)
  have hwi := fun (W : World) => within_any (n : Int) 1 4 W
  rw [hin] at hwi
  obtain ⟨W0, hW0⟩ : ∃ W0, w.alloc (Obj.cells #[.slice a1 bn c1, .int .i64 r] 25) = W0 := ⟨_, rfl⟩
  have hB0 : Below w.heap.size w W0 := by rw [← hW0]; exact (Below.refl _ _).alloc (Nat.le_refl _) _
  have hs0 : W0.heap.size = w.heap.size + 1 := by rw [← hW0]; exact World.size_alloc _ _
  have c0 : W0.cell? ⟨w.heap.size, 0, none⟩ = some (.slice a1 bn c1) := by rw [← hW0]; exact cells_new w _ _ rfl
  have c1' : W0.cell? ⟨w.heap.size, 1, none⟩ = some (.int .i64 r) := by rw [← hW0]; exact cells_new w _ _ rfl
  go_enter Tryz.func10, Tryz.ntmps10
  go_wp2_with (first | (go_at_call 47; with_reducible refine (hwi _).mono ?_; rintro e w8 ⟨rfl, rfl⟩))
  go_loopw [19] (fun i wr => ∃ j : Nat, j ≤ n ∧ i = .int .i64 j ∧ Below W0.heap.size W0 wr ∧ Hid (∀ k, k < j → fitB8 bn HX HY r (M k) = true)) (fun i _ => n - (intOf i).toNat)
  case atStart => exact ⟨0, Nat.zero_le _, rfl, Below.refl _ _, ⟨fun k hk => absurd hk (Nat.not_lt_zero k)⟩⟩
  case round =>
    obtain ⟨j, hj, rfl, hbl, hall⟩ := hrel
    rename World => wm
    have hj0 : (0 : Int) ≤ (j : Int) := Int.natCast_nonneg _
    have hww : Below w.heap.size w wm := hB0.trans (hbl.mono hB0.size)
    have hzl := hww.size
    have hzl0 := hbl.size
    by_cases hlt : j < n
    · have hj1 : (j : Int) < (n : Int) := by omega
      obtain ⟨hs, hr⟩ := hsz j hlt
      have hMj := (hM.ins j hlt)
      obtain ⟨y0, y1, y2, y3, y4, y5, y6, y7, y8, y9⟩ := (hM.cells j hlt).below hww hM.lt
      have hism := fun (W : World) (hW : Below w.heap.size w W) => isMachine_any (M j) W hs (by omega) (hMj.below hW)
      have hiso := fun (W : World) (hW : Below w.heap.size w W) => isOf_any (.slice a1 bn c1) a1 bn c1 r HX HY (M j) W rfl hbn (by omega) (hp.below hW)
      have hst : Hid (∀ x y, (M j).ok = x → (butB bn HX HY r && decide (bn = (M j).sn)) = y → fitB8 bn HX HY r (M j) = (x && y)) := ⟨fun x y hx hy => by unfold fitB8; rw [hx, hy]⟩
      generalize hx : (M j).ok = x at *
      generalize hy : (butB bn HX HY r && decide (bn = (M j).sn)) = y at *
      have hfx := Hid.mk (hst.down x y rfl rfl)
      clear hst
      have hnew := MAt.new wm (M j)
      have hAl : Below wm.heap.size wm (wm.alloc (.cells #[.slice (M j).sa (M j).sn (M j).sc, .int .i64 (M j).c0, .int .i64 (M j).c1, .int .i64 (M j).d0, .int .i64 (M j).d1, .int .i64 (M j).w0, .int .i64 (M j).w1, .int .i64 (M j).v0, .int .i64 (M j).v1, .slice (M j).ra (M j).rn (M j).rc] 33)) := (Below.refl _ _).alloc (Nat.le_refl _) _
      have hz2' : (wm.alloc (.cells #[.slice (M j).sa (M j).sn (M j).sc, .int .i64 (M j).c0, .int .i64 (M j).c1, .int .i64 (M j).d0, .int .i64 (M j).d1, .int .i64 (M j).w0, .int .i64 (M j).w1, .int .i64 (M j).v0, .int .i64 (M j).v1, .slice (M j).ra (M j).rn (M j).rc] 33)).heap.size = wm.heap.size + 1 := World.size_alloc _ _
      generalize hWA : wm.alloc (.cells #[.slice (M j).sa (M j).sn (M j).sc, .int .i64 (M j).c0, .int .i64 (M j).c1, .int .i64 (M j).d0, .int .i64 (M j).d1, .int .i64 (M j).w0, .int .i64 (M j).w1, .int .i64 (M j).v0, .int .i64 (M j).v1, .slice (M j).ra (M j).rn (M j).rc] 33) = WA at hnew hAl hz2'
      have hwA : Below w.heap.size w WA := hww.trans (hAl.mono hww.size)
      have h0A : Below W0.heap.size W0 WA := hbl.trans (hAl.mono hbl.size)
      have hF : ∀ W, Below WA.heap.size WA W → MAt W wm.heap.size (M j) ∧ W.cell? ⟨w.heap.size, 0, none⟩ = some (.slice a1 bn c1) ∧ W.cell? ⟨w.heap.size, 1, none⟩ = some (.int .i64 r) := fun W hW => by
        have h0W := h0A.trans (hW.mono h0A.size)
        exact ⟨hnew.below hW (by omega), (h0W.cell (p := ⟨w.heap.size, 0, none⟩) (by show w.heap.size < _; omega)).trans c0, (h0W.cell (p := ⟨w.heap.size, 1, none⟩) (by show w.heap.size < _; omega)).trans c1'⟩
      obtain ⟨x0, x1, x2, x3, x4, x5, x6, x7, x8, x9⟩ := hnew
      cases x with
      | false =>
        go_wp2_with (first | (go_at_call 48; with_reducible refine (hism _ hwA).mono ?_; rintro e w3 ⟨rfl, hb3⟩))
        refine bodyPost_ret (v := .tuple #[.slice none 0 0, .int .i64 2]) (by simp [results, Tryz.results10, go_sem]) rfl ⟨hwA.trans (hb3.mono hwA.size), .inl ⟨⟨j, hlt, hfx.down⟩, rfl⟩⟩
      | true =>
        cases y with
        | false =>
          go_wp2_with (first
            | (go_at_call 48; with_reducible refine (hism _ hwA).mono ?_; rintro e w3 ⟨rfl, hb3⟩; obtain ⟨⟨v0, v1, v2, v3, v4, v5, v6, v7, v8, v9⟩, d0, d1⟩ := hF _ hb3; have hw3 := hwA.trans (hb3.mono hwA.size))
            | (go_at_call 49; with_reducible refine (hiso _ hw3).mono ?_; rintro e w4 ⟨rfl, hb4⟩))
          refine bodyPost_ret (v := .tuple #[.slice none 0 0, .int .i64 2]) (by simp [results, Tryz.results10, go_sem]) rfl ⟨hw3.trans (hb4.mono hw3.size), .inl ⟨⟨j, hlt, hfx.down⟩, rfl⟩⟩
        | true =>
          go_wp2_with (first
            | (go_at_call 48; with_reducible refine (hism _ hwA).mono ?_; rintro e w3 ⟨rfl, hb3⟩; obtain ⟨⟨v0, v1, v2, v3, v4, v5, v6, v7, v8, v9⟩, d0, d1⟩ := hF _ hb3; have hw3 := hwA.trans (hb3.mono hwA.size))
            | (go_at_call 49; with_reducible refine (hiso _ hw3).mono ?_; rintro e w4 ⟨rfl, hb4⟩))
          have hw4 : Below W0.heap.size W0 w4 := h0A.trans ((hb3.trans (hb4.mono hb3.size)).mono h0A.size)
          go_roundw
          case rel => exact ⟨j + 1, by omega, by go_num, hw4, ⟨fun k hk => (Nat.lt_or_eq_of_le (Nat.le_of_lt_succ hk)).elim (fun h1 => hall.down k h1) (fun h1 => by rw [h1]; exact hfx.down)⟩⟩
          case measure => simp [intOf]; omega
    · obtain rfl : j = n := by omega
      have hall := hall.down
      have hparts : ∀ i, i < j → (M i).ok = true ∧ butB bn HX HY r = true ∧ bn = (M i).sn := fun i hi => by
        have := hall i hi
        unfold fitB8 at this
        rw [Bool.and_eq_true, Bool.and_eq_true, decide_eq_true_iff] at this
        exact this
      have hbu := (hparts 0 (by omega)).2.1
      go_wp2
      go_loopw [8, 35] (fun v i wr => ∃ q : Nat, q ≤ j ∧ i = .int .i64 q ∧ Below wm.heap.size wm wr ∧ wr.ownsRow wm.heap.size 3 1 v (whoL (seenB sg) q).length (iCells (whoL (seenB sg) q)) ∧ Hid (∀ k, k < q → (M k).can)) (fun _ i _ => j - (intOf i).toNat)
      case atStart => exact ⟨0, Nat.zero_le _, rfl, Below.refl _ _, ⟨by simp [iCells, whoL], .inl ⟨rfl, by simp [whoL]⟩⟩, ⟨fun k hk => absurd hk (Nat.not_lt_zero k)⟩⟩
      case round =>
        obtain ⟨q, hq, rfl, hbz, hown, hcan⟩ := hrel
        rename World => wz
        obtain ⟨vb, vd, rfl⟩ := ownsRow_slice hown
        have hq0 : (0 : Int) ≤ (q : Int) := Int.natCast_nonneg _
        have hwz : Below w.heap.size w wz := hww.trans (hbz.mono hww.size)
        have hz9 := hbz.size
        by_cases hlq : q < j
        · have hq1 : (q : Int) < (j : Int) := by omega
          obtain ⟨hs, hr⟩ := hsz q hlq
          obtain ⟨p1, p2, p3'⟩ := hparts q hlq
          have p3 := Hid.mk p3'
          clear p3'
          have hMq := (hM.ins q hlq)
          obtain ⟨y0, y1, y2, y3, y4, y5, y6, y7, y8, y9⟩ := (hM.cells q hlq).below hwz hM.lt
          obtain ⟨L, er, hE, hC⟩ := examine_any (M q) true w hs (by omega) hMq
          have hlz : zst.length = 62 := zM.st_length rfl rfl
          have hlL := hE.length
          have hoL := all_oneCell_toArray hE.one
          have hi0 : (Tryz.prog.info? 96).map (·.size) = some 62 := by kernel_rfl
          have hiL : (Tryz.prog.info? 96).map (·.size) = some L.length := by rw [hlL]; exact hi0
          have hiA : (Tryz.prog.info? 96).map (·.size) = some L.toArray.size := by rw [List.size_toArray, hlL]; exact hi0
          have hS0 := fun (W : World) => SAt.new W zst 96
          have hth := fun (W : World) (g : Nat) (H : SAt W g zst) => H.there 0 L.toArray.size (by rw [List.size_toArray, hlL, hlz]; omega)
          have hfi := fun (W : World) (g : Nat) (H : SAt W g zst) => SAt.fill (L' := L) H (by rw [hlL, hlz])
          have hal : (#[.slice none 0 0, .int .i64 0, .int .i64 0, .int .i64 0, .int .i64 0, .int .i64 0, .int .i64 0, .int .i64 0, .int .i64 0, .slice none 0 0, .int .i64 0, .int .i64 0, .int .i64 0, .int .i64 0, .int .i64 0, .int .i64 0, .int .i64 0, .int .i64 0, .int .i64 0, .int .i64 0, .int .i64 0, .int .i64 0, .int .i64 0, .int .i64 0, .int .i64 0, .int .i64 0, .int .i64 0, .int .i64 0, .int .i64 0, .int .i64 0, .int .i64 0, .int .i64 0, .int .i64 0, .int .i64 0, .int .i64 0, .int .i64 0, .int .i64 0, .int .i64 0, .int .i64 0, .int .i64 0, .int .i64 0, .int .i64 0, .int .i64 0, .int .i64 0, .int .i64 0, .int .i64 0, .int .i64 0, .int .i64 0, .int .i64 0, .int .i64 0, .int .i64 0, .int .i64 0, .int .i64 0, .int .i64 0, .int .i64 0, .int .i64 0, .int .i64 0, .int .i64 0, .int .i64 0, .int .i64 0, .int .i64 0, .int .i64 0] : Array Value) = zst.toArray := rfl
          have hnew := MAt.new wz (M q)
          have hAl : Below wz.heap.size wz (wz.alloc (.cells #[.slice (M q).sa (M q).sn (M q).sc, .int .i64 (M q).c0, .int .i64 (M q).c1, .int .i64 (M q).d0, .int .i64 (M q).d1, .int .i64 (M q).w0, .int .i64 (M q).w1, .int .i64 (M q).v0, .int .i64 (M q).v1, .slice (M q).ra (M q).rn (M q).rc] 33)) := (Below.refl _ _).alloc (Nat.le_refl _) _
          have hz2' : (wz.alloc (.cells #[.slice (M q).sa (M q).sn (M q).sc, .int .i64 (M q).c0, .int .i64 (M q).c1, .int .i64 (M q).d0, .int .i64 (M q).d1, .int .i64 (M q).w0, .int .i64 (M q).w1, .int .i64 (M q).v0, .int .i64 (M q).v1, .slice (M q).ra (M q).rn (M q).rc] 33)).heap.size = wz.heap.size + 1 := World.size_alloc _ _
          generalize hWA : wz.alloc (.cells #[.slice (M q).sa (M q).sn (M q).sc, .int .i64 (M q).c0, .int .i64 (M q).c1, .int .i64 (M q).d0, .int .i64 (M q).d1, .int .i64 (M q).w0, .int .i64 (M q).w1, .int .i64 (M q).v0, .int .i64 (M q).v1, .slice (M q).ra (M q).rn (M q).rc] 33) = WA at hnew hAl hz2'
          have hwA : Below w.heap.size w WA := hwz.trans (hAl.mono hwz.size)
          have hzA : Below wm.heap.size wm WA := hbz.trans (hAl.mono hbz.size)
          obtain ⟨x0, x1, x2, x3, x4, x5, x6, x7, x8, x9⟩ := hnew
          clear hi0
          generalize zst = Z at *
          have hmq : Hid (∀ x, (M q).can → L = (M q).st (crsL (M q).axX.ends 13) (crsL (M q).axY.ends 13) → sg q = x → ∀ V, Below w.heap.size w V → Calls Tryz.prog 51 #[.agg L.toArray, .agg #[.slice a1 bn c1, .int .i64 r]] V fun e w' => ∃ v : Value, e = .returned v ∧ w'.ownsRow V.heap.size 3 1 v (blanksTo x 12).length (iCells (blanksTo x 12)) ∧ Below V.heap.size V w') :=
            ⟨fun x _ hLe hx => by subst hx; exact could_st (M q) a1 bn c1 r HX HY w p3.down hp hMq p1 p2 (sg q) (hsg q hlq) L hLe hlL⟩
          by_cases hc : (M q).can
          · obtain ⟨hLe, rfl⟩ := hE.ok (by rw [p1]; rfl) hc
            have hco := hmq.down (sg q) hc hLe rfl
            have hcan' : Hid (∀ k, k < q + 1 → (M k).can) := ⟨fun k hk => (Nat.lt_or_eq_of_le (Nat.le_of_lt_succ hk)).elim (fun h1 => hcan.down k h1) (fun h1 => by rw [h1]; exact hc)⟩
            have hsee : Hid (seenB sg q = decide (0 < (blanksTo (sg q) 12).length)) := ⟨rfl⟩
            clear hmq hE hLe
            generalize blanksTo (sg q) 12 = bl at hco hsee
            have hll := whoL_length (seenB sg) q
            rcases Nat.eq_zero_or_pos bl.length with hp0 | hp0
            · have hw0 : Hid (whoL (seenB sg) (q + 1) = whoL (seenB sg) q) := ⟨whoL_no (by rw [hsee.down, hp0]; rfl)⟩
              rw [hp0] at hco
              go_wp2_with (first
                | (go_at_call 50; with_reducible refine (hC _ hwA).mono ?_; rintro e w3 ⟨rfl, hb3⟩)
                | (with_reducible refine wpList_store_mid rfl 96 _ _ rfl w3.heap.size 0 L.toArray rfl rfl (hth _ _ (hS0 w3)) hiA hoL ?_; have hL5 := hfi _ _ (hS0 w3); have hb5 : Below w3.heap.size w3 ((w3.alloc (Obj.cells Z.toArray 96)).setCells w3.heap.size 0 L) := below_setCells (Nat.le_refl _) L 0 _ ((Below.refl _ _).alloc (Nat.le_refl _) _); generalize (w3.alloc (Obj.cells Z.toArray 96)).setCells w3.heap.size 0 L = W5 at hL5 hb5 ⊢; have hw5 := hwA.trans ((hb3.trans (hb5.mono hb3.size)).mono hwA.size); have h05 : Below wz.heap.size wz W5 := hAl.trans ((hb3.trans (hb5.mono hb3.size)).mono hAl.size); have hwm5 : Below W0.heap.size W0 W5 := hbl.trans ((hbz.trans (h05.mono hbz.size)).mono hbl.size); have d0 := (hwm5.cell (p := ⟨w.heap.size, 0, none⟩) (by show w.heap.size < _; omega)).trans c0; have d1 := (hwm5.cell (p := ⟨w.heap.size, 1, none⟩) (by show w.heap.size < _; omega)).trans c1'; have hrg := hL5.c)
                | (with_reducible refine wpList_load_mid rfl 96 _ rfl w3.heap.size 0 rfl L _ hrg Tryz.underlying96 rfl hiL ?_)
                | (go_at_call 51; with_reducible refine (hco _ hw5).mono ?_; rintro e w6 ⟨v, rfl, hrow6, hb6⟩; obtain ⟨va, vc, rfl⟩ := ownsRow_slice hrow6))
              have h06 := h05.trans (hb6.mono h05.size)
              go_roundw
              case rel => exact ⟨q + 1, by omega, by go_num, hbz.trans (h06.mono hbz.size), by rw [hw0.down]; exact ownsRow_below hown h06, hcan'⟩
              case measure => simp [intOf]; omega
            · have hw0 : Hid (whoL (seenB sg) (q + 1) = whoL (seenB sg) q ++ [q]) := ⟨whoL_yes (by rw [hsee.down]; exact decide_eq_true hp0)⟩
              generalize bl.length = bln at hco hp0
              have hp1 : (0 : Int) < (bln : Int) := by omega
              go_wp2_with (first
                | (go_at_call 50; with_reducible refine (hC _ hwA).mono ?_; rintro e w3 ⟨rfl, hb3⟩)
                | (with_reducible refine wpList_store_mid rfl 96 _ _ rfl w3.heap.size 0 L.toArray rfl rfl (hth _ _ (hS0 w3)) hiA hoL ?_; have hL5 := hfi _ _ (hS0 w3); have hb5 : Below w3.heap.size w3 ((w3.alloc (Obj.cells Z.toArray 96)).setCells w3.heap.size 0 L) := below_setCells (Nat.le_refl _) L 0 _ ((Below.refl _ _).alloc (Nat.le_refl _) _); generalize (w3.alloc (Obj.cells Z.toArray 96)).setCells w3.heap.size 0 L = W5 at hL5 hb5 ⊢; have hw5 := hwA.trans ((hb3.trans (hb5.mono hb3.size)).mono hwA.size); have h05 : Below wz.heap.size wz W5 := hAl.trans ((hb3.trans (hb5.mono hb3.size)).mono hAl.size); have hwm5 : Below W0.heap.size W0 W5 := hbl.trans ((hbz.trans (h05.mono hbz.size)).mono hbl.size); have d0 := (hwm5.cell (p := ⟨w.heap.size, 0, none⟩) (by show w.heap.size < _; omega)).trans c0; have d1 := (hwm5.cell (p := ⟨w.heap.size, 1, none⟩) (by show w.heap.size < _; omega)).trans c1'; have hrg := hL5.c)
                | (with_reducible refine wpList_load_mid rfl 96 _ rfl w3.heap.size 0 rfl L _ hrg Tryz.underlying96 rfl hiL ?_)
                | (go_at_call 51; with_reducible refine (hco _ hw5).mono ?_; rintro e w6 ⟨v, rfl, hrow6, hb6⟩; obtain ⟨va, vc, rfl⟩ := ownsRow_slice hrow6; have h06 := h05.trans (hb6.mono h05.size); have hwm6 := hbz.trans (h06.mono hbz.size); have hown6 := ownsRow_below hown h06; have hz6 := hwm6.size)
                | (at_builtin; refine wpList_append_own _ rfl _ _ 34 rfl wm.heap.size 3 i0 (.int .i64 0) 1 8 Tryz.underlying34 hi hz0 hz1 hz2 rfl (by decide) _ (whoL (seenB sg) q).length _ rfl (hown6.alloc _) ⟨w6.heap.size, 0, none⟩ 1 1 [.int .i64 (q : Int)] rfl rfl ?c1 ?c2 ?c3 ?c4 ?c5 ?_))
              case c1 => exact cells_one1 _ _ _
              case c2 => simp [Value.oneCell']
              case c3 => unfold maxLen; omega
              case c4 => omega
              case c5 => (try simp only [World.size_alloc]); omega
              intro v7 w7 hown7 hgrow7 _
              have hb7 : Below wm.heap.size wm w7 := (hwm6.alloc hwm6.size _).grown hgrow7 (by rw [World.size_alloc]; omega) fun x hx => (hown.lt x hx).1
              have hown8 : w7.ownsRow wm.heap.size 3 1 v7 (whoL (seenB sg) (q + 1)).length (iCells (whoL (seenB sg) (q + 1))) := by rw [hw0.down]; unfold iCells; rw [List.map_append, List.length_append]; exact hown7
              clear hgrow7 hown7
              go_wp2
              go_roundw
              case rel => exact ⟨q + 1, by omega, by go_num, hb7, hown8, hcan'⟩
              case measure => simp [intOf]; omega
          · obtain ⟨hLz, rfl⟩ := hE.rule (by rw [p1]; rfl) hc
            clear hmq hE hLz
            go_wp2_with (first
              | (go_at_call 50; with_reducible refine (hC _ hwA).mono ?_; rintro e w3 ⟨rfl, hb3⟩)
              | (with_reducible refine wpList_store_mid rfl 96 _ _ rfl w3.heap.size 0 L.toArray rfl rfl (hth _ _ (hS0 w3)) hiA hoL ?_; have hL5 := hfi _ _ (hS0 w3); have hb5 : Below w3.heap.size w3 ((w3.alloc (Obj.cells Z.toArray 96)).setCells w3.heap.size 0 L) := below_setCells (Nat.le_refl _) L 0 _ ((Below.refl _ _).alloc (Nat.le_refl _) _); generalize (w3.alloc (Obj.cells Z.toArray 96)).setCells w3.heap.size 0 L = W5 at hL5 hb5 ⊢; have hw5 := hwA.trans ((hb3.trans (hb5.mono hb3.size)).mono hwA.size); have h05 : Below wz.heap.size wz W5 := hAl.trans ((hb3.trans (hb5.mono hb3.size)).mono hAl.size); have hwm5 : Below W0.heap.size W0 W5 := hbl.trans ((hbz.trans (h05.mono hbz.size)).mono hbl.size); have d0 := (hwm5.cell (p := ⟨w.heap.size, 0, none⟩) (by show w.heap.size < _; omega)).trans c0; have d1 := (hwm5.cell (p := ⟨w.heap.size, 1, none⟩) (by show w.heap.size < _; omega)).trans c1'; have hrg := hL5.c))
            refine bodyPost_ret (v := .tuple #[.slice none 0 0, .int .i64 7]) (by simp [results, Tryz.results10, go_sem]) rfl ⟨hw5, .inr (.inl ⟨hall, ⟨q, hlq, hc⟩, rfl⟩)⟩
        · obtain rfl : q = j := by omega
          have hO9 := PLift.up hown
          clear hown
          go_wp2
          refine bodyPost_ret (v := .tuple #[.slice vb (whoL (seenB sg) q).length vd, .int .i64 0]) (by simp [results, Tryz.results10, go_sem]) rfl ⟨hwz, .inr (.inr ⟨hall, hcan.down, _, rfl, hO9.down.mono hzl⟩)⟩
end Go.Proofs.YtbgjocgjmjkneaaGreatDoor
namespace Go.Proofs.YtbgjocgjmjkneaaGreatDoor
open Go.RowKit Go.Can
theorem rcould_bn (m : Mach) (a1 : Option Addr) (bn c1 : Nat) (r : Int) (HX HY : Nat → Int) (w : World) (hbn : bn = m.sn) (hkg : KG w) (h : MIn w m) (hp : PSl w (.slice a1 bn c1) bn HX HY) (hok : m.ok = true) (hc : m.can) (hbu : butB bn HX HY r = true)
    (sg : Nat → Bool) (hsg : ∀ k, k ≤ 12 → (sg k = false ↔ ∀ x y, InBox (m.axX.ends k).1 (m.axX.ends k).2 (m.axY.ends k).1 (m.axY.ends k).2 x y → agreeB m.sn HX HY m.SX m.SY r x y = false)) :
    Calls Tryz.prog 15 #[m.val, .agg #[.slice a1 bn c1, .int .i64 r]] w fun e w' => ∃ v : Value, e = .returned v ∧ w'.ownsRow w.heap.size 3 1 v (blanksTo sg 12).length (iCells (blanksTo sg 12)) ∧ Below w.heap.size w w' := by
  subst hbn
  exact rcould_any m a1 c1 r HX HY w hkg h hp hok hc hbu sg hsg
set_option maxRecDepth 100000 in
set_option maxHeartbeats 8000000 in
theorem rWho_some (b off n lc : Nat) (M : Nat → Mach) (a1 : Option Addr) (bn c1 : Nat) (r : Int) (HX HY : Nat → Int) (sg : Nat → Nat → Bool) (w : World) (hkg : KG w) (hn4 : n ≤ 4) (hM : MLs w b off n M)
    (hp : PSl w (.slice a1 bn c1) bn HX HY) (hall : ∀ i, i < n → fitB8 bn HX HY r (M i) = true) (hcan : ∀ i, i < n → (M i).can)
    (hsg : ∀ i, i < n → ∀ k, k ≤ 12 → (sg i k = false ↔ ∀ x y, InBox ((M i).axX.ends k).1 ((M i).axX.ends k).2 ((M i).axY.ends k).1 ((M i).axY.ends k).2 x y → agreeB (M i).sn HX HY (M i).SX (M i).SY r x y = false)) :
    Calls Tryz.prog 16 #[.slice (some ⟨b, off, none⟩) n lc, .agg #[.slice a1 bn c1, .int .i64 r]] w fun e w' => ∃ v : Value, e = .returned v ∧ w'.ownsRow w.heap.size 3 1 v (whoL (seenB sg) n).length (iCells (whoL (seenB sg) n)) ∧ Below w.heap.size w w' := by
  obtain ⟨i0, hi, hz0, hz1, hz2⟩ := info_parts infoInt
  have hparts : ∀ i, i < n → (M i).ok = true ∧ butB bn HX HY r = true ∧ bn = (M i).sn := fun i hi => by
    have := hall i hi
    unfold fitB8 at this
    rw [Bool.and_eq_true, Bool.and_eq_true, decide_eq_true_iff] at this
    exact this
  obtain ⟨W0, hW0⟩ : ∃ W0, w.alloc (Obj.cells #[.slice a1 bn c1, .int .i64 r] 25) = W0 := ⟨_, rfl⟩
  have hB0 : Below w.heap.size w W0 := by rw [← hW0]; exact (Below.refl _ _).alloc (Nat.le_refl _) _
  have hs0 : W0.heap.size = w.heap.size + 1 := by rw [← hW0]; exact World.size_alloc _ _
  have c0 : W0.cell? ⟨w.heap.size, 0, none⟩ = some (.slice a1 bn c1) := by rw [← hW0]; exact cells_new w _ _ rfl
  have c1' : W0.cell? ⟨w.heap.size, 1, none⟩ = some (.int .i64 r) := by rw [← hW0]; exact cells_new w _ _ rfl
  go_enter Tryz.func16, Tryz.ntmps16
  go_wp2_with fail
  go_loopw [5, 6] (fun v i wr => ∃ q : Nat, q ≤ n ∧ i = .int .i64 q ∧ Below W0.heap.size W0 wr ∧ wr.ownsRow W0.heap.size 3 1 v (whoL (seenB sg) q).length (iCells (whoL (seenB sg) q))) (fun _ i _ => n - (intOf i).toNat)
  case atStart => exact ⟨0, Nat.zero_le _, rfl, Below.refl _ _, ⟨by simp [iCells, whoL], .inl ⟨rfl, by simp [whoL]⟩⟩⟩
  case round =>
    obtain ⟨q, hq, rfl, hwm, hown⟩ := hrel
    rename World => wz
    obtain ⟨vb, vd, rfl⟩ := ownsRow_slice hown
    have hq0 : (0 : Int) ≤ (q : Int) := Int.natCast_nonneg _
    have hwz : Below w.heap.size w wz := hB0.trans (hwm.mono hB0.size)
    have hz9 := hwm.size
    by_cases hlq : q < n
    · have hq1 : (q : Int) < (n : Int) := by omega
      obtain ⟨p1, p2, p3'⟩ := hparts q hlq
      have p3 := Hid.mk p3'
      clear p3'
      have hco : ∀ V, Below w.heap.size w V → Calls Tryz.prog 15 #[(M q).val, .agg #[.slice a1 bn c1, .int .i64 r]] V fun e w' => ∃ v : Value, e = .returned v ∧ w'.ownsRow V.heap.size 3 1 v (blanksTo (sg q) 12).length (iCells (blanksTo (sg q) 12)) ∧ Below V.heap.size V w' :=
        fun V hV => rcould_bn (M q) a1 bn c1 r HX HY V p3.down (hkg.below hV) ((hM.ins q hlq).below hV) (hp.below hV) p1 (hcan q hlq) p2 (sg q) (hsg q hlq)
      have hD : ∀ W, Below wz.heap.size wz W → MOff W b (off + q * 10) (M q) ∧ W.cell? ⟨w.heap.size, 0, none⟩ = some (.slice a1 bn c1) ∧ W.cell? ⟨w.heap.size, 1, none⟩ = some (.int .i64 r) := fun W hW => by
        have h0W := hwm.trans (hW.mono hwm.size)
        exact ⟨(hM.cells q hlq).below (hwz.trans (hW.mono hwz.size)) hM.lt, (h0W.cell (p := ⟨w.heap.size, 0, none⟩) (by show w.heap.size < _; omega)).trans c0, (h0W.cell (p := ⟨w.heap.size, 1, none⟩) (by show w.heap.size < _; omega)).trans c1'⟩
      have hsee : Hid (seenB sg q = decide (0 < (blanksTo (sg q) 12).length)) := ⟨rfl⟩
      generalize blanksTo (sg q) 12 = bl at hco hsee
      have hll := whoL_length (seenB sg) q
      rcases Nat.eq_zero_or_pos bl.length with hp0 | hp0
      · have hw0 : Hid (whoL (seenB sg) (q + 1) = whoL (seenB sg) q) := ⟨whoL_no (by rw [hsee.down, hp0]; rfl)⟩
        rw [hp0] at hco
        go_wp2_with fail
        refine wp_region_late [] (fun w9 => Below wz.heap.size wz w9) (fun w9 => True) (by kernel_rfl) ?_ (fun hHeld => ?_)
        · (exact ⟨(Below.refl _ _).drew, trivial⟩)
        generalize wz.drew = V at hHeld ⊢
        refine tk0 0 ?_ rfl (Or.inl ⟨by rfl, ?_⟩) hHeld ?_
        rotate_left 1
        · ((intro w9 hSw; clear hSw; go_simp) <;> with_reducible rfl)
        (try simp only [Act.put, pA, pZ, pS])
        refine tk0 1 ?_ rfl (Or.inl ⟨by rfl, ?_⟩) hHeld ?_
        rotate_left 1
        · ((intro w9 hSw; clear hSw; go_simp) <;> with_reducible rfl)
        (try simp only [Act.put, pA, pZ, pS])
        refine tk0 2 ?_ rfl (Or.inl ⟨by rfl, ?_⟩) hHeld ?_
        rotate_left 1
        · ((intro w9 hSw; clear hSw; go_simp) <;> with_reducible rfl)
        (try simp only [Act.put, pA, pZ, pS])
        refine tk0 3 ?_ rfl (Or.inl ⟨by rfl, ?_⟩) hHeld ?_
        rotate_left 1
        · ((intro w9 hSw; obtain ⟨z0, z1, z2, z3, z4, z5, z6, z7, z8, z9⟩ := (hD w9 hSw).1; clear hSw; go_simp) <;> with_reducible rfl)
        (try simp only [Act.put, pA, pZ, pS])
        refine tk0 4 ?_ rfl (Or.inl ⟨by rfl, ?_⟩) hHeld ?_
        rotate_left 1
        · ((intro w9 hSw; have z0 := (hD w9 hSw).2.1; have z1 := (hD w9 hSw).2.2; clear hSw; go_simp) <;> with_reducible rfl)
        (try simp only [Act.put, pA, pZ, pS])
        refine wpAnyP_ready (rs := [5]) (by kernel_rfl) (by simp) ?_
        refine AllReadyP.cons (o := _) rfl (fun K hK => ?_) AllReadyP.nil
        · go_simp
          (go_at_call 15; with_reducible refine (hco _ (hwz.trans (hHeld.1.mono hwz.size))).mono ?_; rintro e w5 ⟨v5, rfl, hrow5, hb5⟩; obtain ⟨va, vc, rfl⟩ := ownsRow_slice hrow5)
          refine hK.out _ _ ?_ (fun hHeld => ?_)
          · (exact ⟨hHeld.1.trans (hb5.mono hHeld.1.size), trivial⟩)
          clear hK K
          (try simp only [Act.put, pA, pZ, pS])
          refine tk0 6 ?_ rfl (Or.inl ⟨by rfl, ?_⟩) hHeld ?_
          rotate_left 1
          · ((intro w9 hSw; clear hSw; go_simp) <;> with_reducible rfl)
          (try simp only [Act.put, pA, pZ, pS])
          refine tk0 7 ?_ rfl (Or.inl ⟨by rfl, ?_⟩) hHeld ?_
          rotate_left 1
          · ((intro w9 hSw; clear hSw; go_simp) <;> with_reducible rfl)
          (try simp only [Act.put, pA, pZ, pS])
          refine wpAnyP_done (by kernel_rfl) ?_ _
          (try simp only [Act.put, List.getElem_toArray, List.getElem_cons_zero, List.getElem_cons_succ, pA, pZ, pS])
          have hO9 := hHeld.1
          clear hHeld
          go_wp2
          go_roundw
          case rel => exact ⟨q + 1, by omega, by go_num, hwm.trans (hO9.mono hwm.size), by rw [hw0.down]; exact ownsRow_below hown hO9⟩
          case measure => simp [intOf]; omega
      · have hw0 : Hid (whoL (seenB sg) (q + 1) = whoL (seenB sg) q ++ [q]) := ⟨whoL_yes (by rw [hsee.down]; exact decide_eq_true hp0)⟩
        generalize bl.length = bln at hco hp0
        have hp1 : (0 : Int) < (bln : Int) := by omega
        go_wp2_with fail
        refine wp_region_late [] (fun w9 => Below wz.heap.size wz w9) (fun w9 => True) (by kernel_rfl) ?_ (fun hHeld => ?_)
        · (exact ⟨(Below.refl _ _).drew, trivial⟩)
        generalize wz.drew = V at hHeld ⊢
        refine tk0 0 ?_ rfl (Or.inl ⟨by rfl, ?_⟩) hHeld ?_
        rotate_left 1
        · ((intro w9 hSw; clear hSw; go_simp) <;> with_reducible rfl)
        (try simp only [Act.put, pA, pZ, pS])
        refine tk0 1 ?_ rfl (Or.inl ⟨by rfl, ?_⟩) hHeld ?_
        rotate_left 1
        · ((intro w9 hSw; clear hSw; go_simp) <;> with_reducible rfl)
        (try simp only [Act.put, pA, pZ, pS])
        refine tk0 2 ?_ rfl (Or.inl ⟨by rfl, ?_⟩) hHeld ?_
        rotate_left 1
        · ((intro w9 hSw; clear hSw; go_simp) <;> with_reducible rfl)
        (try simp only [Act.put, pA, pZ, pS])
        refine tk0 3 ?_ rfl (Or.inl ⟨by rfl, ?_⟩) hHeld ?_
        rotate_left 1
        · ((intro w9 hSw; obtain ⟨z0, z1, z2, z3, z4, z5, z6, z7, z8, z9⟩ := (hD w9 hSw).1; clear hSw; go_simp) <;> with_reducible rfl)
        (try simp only [Act.put, pA, pZ, pS])
        refine tk0 4 ?_ rfl (Or.inl ⟨by rfl, ?_⟩) hHeld ?_
        rotate_left 1
        · ((intro w9 hSw; have z0 := (hD w9 hSw).2.1; have z1 := (hD w9 hSw).2.2; clear hSw; go_simp) <;> with_reducible rfl)
        (try simp only [Act.put, pA, pZ, pS])
        refine wpAnyP_ready (rs := [5]) (by kernel_rfl) (by simp) ?_
        refine AllReadyP.cons (o := _) rfl (fun K hK => ?_) AllReadyP.nil
        · go_simp
          (go_at_call 15; with_reducible refine (hco _ (hwz.trans (hHeld.1.mono hwz.size))).mono ?_; rintro e w5 ⟨v5, rfl, hrow5, hb5⟩; obtain ⟨va, vc, rfl⟩ := ownsRow_slice hrow5)
          refine hK.out _ _ ?_ (fun hHeld => ?_)
          · (exact ⟨hHeld.1.trans (hb5.mono hHeld.1.size), trivial⟩)
          clear hK K
          (try simp only [Act.put, pA, pZ, pS])
          refine tk0 6 ?_ rfl (Or.inl ⟨by rfl, ?_⟩) hHeld ?_
          rotate_left 1
          · ((intro w9 hSw; clear hSw; go_simp) <;> with_reducible rfl)
          (try simp only [Act.put, pA, pZ, pS])
          refine tk0 7 ?_ rfl (Or.inl ⟨by rfl, ?_⟩) hHeld ?_
          rotate_left 1
          · ((intro w9 hSw; clear hSw; go_simp) <;> with_reducible rfl)
          (try simp only [Act.put, pA, pZ, pS])
          refine wpAnyP_done (by kernel_rfl) ?_ _
          (try simp only [Act.put, List.getElem_toArray, List.getElem_cons_zero, List.getElem_cons_succ, pA, pZ, pS])
          have hO9 := hHeld.1
          clear hHeld
          have hwm6 := hwm.trans (hO9.mono hwm.size)
          have hown6 := ownsRow_below hown hO9
          have hz6 := hwm6.size
          go_wp2_with (at_builtin; refine wpList_append_own _ rfl _ _ 34 rfl W0.heap.size 3 i0 (.int .i64 0) 1 8 Tryz.underlying34 hi hz0 hz1 hz2 rfl (by decide) _ (whoL (seenB sg) q).length _ rfl (hown6.alloc _) ⟨w5.heap.size, 0, none⟩ 1 1 [.int .i64 (q : Int)] rfl rfl ?c1 ?c2 ?c3 ?c4 ?c5 ?_)
          case c1 => exact cells_one1 _ _ _
          case c2 => simp [Value.oneCell']
          case c3 => unfold maxLen; omega
          case c4 => omega
          case c5 => (try simp only [World.size_alloc]); omega
          intro v7 w7 hown7 hgrow7 _
          have hb7 : Below W0.heap.size W0 w7 := (hwm6.alloc hwm6.size _).grown hgrow7 (by rw [World.size_alloc]; omega) fun x hx => (hown.lt x hx).1
          have hown8 : w7.ownsRow W0.heap.size 3 1 v7 (whoL (seenB sg) (q + 1)).length (iCells (whoL (seenB sg) (q + 1))) := by rw [hw0.down]; unfold iCells; rw [List.map_append, List.length_append, hs0]; exact hown7
          clear hgrow7 hown7
          go_wp2
          go_roundw
          case rel => exact ⟨q + 1, by omega, by go_num, hb7, hown8⟩
          case measure => simp [intOf]; omega
    · obtain rfl : q = n := by omega
      go_wp2
      go_ret
      exact ⟨_, rfl, hown.mono hB0.size, hwz⟩
end Go.Proofs.YtbgjocgjmjkneaaGreatDoor
namespace Go.Proofs.YtbgjocgjmjkneaaGreatDoor
open Go.RowKit
end Go.Proofs.YtbgjocgjmjkneaaGreatDoor
namespace Go.Proofs.YtbgjocgjmjkneaaGreatDoor
open Go.RowKit
end Go.Proofs.YtbgjocgjmjkneaaGreatDoor
namespace Go.Proofs.YtbgjocgjmjkneaaGreatDoor
open Go.RowKit
set_option maxRecDepth 100000 in
set_option maxHeartbeats 1000000 in
theorem slim_any (m : Mach) (w : World) (hs : m.sn ≤ 9223372036854775807) (hr : m.rn ≤ 9223372036854775807) :
    Calls Tryz.prog 9 #[m.val] w fun e w' => e = .returned (.bool (decide (m.sn ≤ 6) && decide (m.rn ≤ 6))) ∧ Below w.heap.size w w' := by
  obtain ⟨W0, hW⟩ : ∃ W0, w.alloc (.cells #[.slice m.sa m.sn m.sc, .int .i64 m.c0, .int .i64 m.c1, .int .i64 m.d0, .int .i64 m.d1, .int .i64 m.w0, .int .i64 m.w1, .int .i64 m.v0, .int .i64 m.v1, .slice m.ra m.rn m.rc] 33) = W0 := ⟨_, rfl⟩
  have hb0 : Below w.heap.size w W0 := by rw [← hW]; exact (Below.refl _ _).alloc (Nat.le_refl _) _
  have hMB : MAt W0 w.heap.size m := by rw [← hW]; exact MAt.new w m
  obtain ⟨q0, q1, q2, q3, q4, q5, q6, q7, q8, q9⟩ := hMB
  by_cases h1 : m.sn ≤ 6
  · have h1' : (m.sn : Int) ≤ 6 := by omega
    by_cases h2 : m.rn ≤ 6
    · have h2' : (m.rn : Int) ≤ 6 := by omega
      go_enter Tryz.func9, Tryz.ntmps9
      go_wp2
      go_ret
      exact ⟨ret_bool (by simp [h1, h2, h1', h2']), hb0⟩
    · have h2' : ¬ (m.rn : Int) ≤ 6 := by omega
      go_enter Tryz.func9, Tryz.ntmps9
      go_wp2
      go_ret
      exact ⟨ret_bool (by simp [h1, h2, h1', h2']), hb0⟩
  · have h1' : ¬ (m.sn : Int) ≤ 6 := by omega
    go_enter Tryz.func9, Tryz.ntmps9
    go_wp2
    go_ret
    exact ⟨ret_bool (by simp [h1, h1']), hb0⟩
/-! ### what Known and Machine answer, in one form -/
end Go.Proofs.YtbgjocgjmjkneaaGreatDoor
namespace Go.Proofs.YtbgjocgjmjkneaaGreatDoor
open Go.RowKit Go.Can
/-- the blocks of a machine and a truth. -/
structure MX (w W : World) (m : Mach) (a1 : Option Addr) (n1 c1 : Nat) (a2 : Option Addr) (n2 c2 : Nat) : Prop where
  mach : MAt W w.heap.size m
  x0 : W.cell? ⟨w.heap.size + 1, 0, none⟩ = some (.slice a1 n1 c1)
  x1 : W.cell? ⟨w.heap.size + 1, 1, none⟩ = some (.slice a2 n2 c2)
  old : Below w.heap.size w W
  big : w.heap.size + 2 ≤ W.heap.size
theorem MX.new (w : World) (m : Mach) (a1 : Option Addr) (n1 c1 : Nat) (a2 : Option Addr) (n2 c2 : Nat) : MX w ((w.alloc (.cells #[.slice m.sa m.sn m.sc, .int .i64 m.c0, .int .i64 m.c1, .int .i64 m.d0, .int .i64 m.d1, .int .i64 m.w0, .int .i64 m.w1, .int .i64 m.v0, .int .i64 m.v1, .slice m.ra m.rn m.rc] 33)).alloc (.cells #[.slice a1 n1 c1, .slice a2 n2 c2] 45)) m a1 n1 c1 a2 n2 c2 := by
  refine ⟨(MAt.new w m).below ((Below.refl _ _).alloc (Nat.le_refl _) _) (by rw [World.size_alloc]; omega), ?_, ?_, ((Below.refl _ _).alloc (Nat.le_refl _) _).alloc (by rw [World.size_alloc]; omega) _, by rw [World.size_alloc, World.size_alloc]; omega⟩
  · have h := cells_new (w.alloc (.cells #[.slice m.sa m.sn m.sc, .int .i64 m.c0, .int .i64 m.c1, .int .i64 m.d0, .int .i64 m.d1, .int .i64 m.w0, .int .i64 m.w1, .int .i64 m.v0, .int .i64 m.v1, .slice m.ra m.rn m.rc] 33)) #[.slice a1 n1 c1, .slice a2 n2 c2] 45 (j := 0) rfl
    rw [World.size_alloc] at h; exact h
  · have h := cells_new (w.alloc (.cells #[.slice m.sa m.sn m.sc, .int .i64 m.c0, .int .i64 m.c1, .int .i64 m.d0, .int .i64 m.d1, .int .i64 m.w0, .int .i64 m.w1, .int .i64 m.v0, .int .i64 m.v1, .slice m.ra m.rn m.rc] 33)) #[.slice a1 n1 c1, .slice a2 n2 c2] 45 (j := 1) rfl
    rw [World.size_alloc] at h; exact h
theorem MX.below {w W W' : World} {m : Mach} {a1 : Option Addr} {n1 c1 : Nat} {a2 : Option Addr} {n2 c2 : Nat} (h : MX w W m a1 n1 c1 a2 n2 c2) (hb : Below W.heap.size W W') : MX w W' m a1 n1 c1 a2 n2 c2 :=
  have hg := h.big
  ⟨h.mach.below hb (by omega), (hb.cell (p := ⟨w.heap.size + 1, 0, none⟩) (by show w.heap.size + 1 < _; omega)).trans h.x0, (hb.cell (p := ⟨w.heap.size + 1, 1, none⟩) (by show w.heap.size + 1 < _; omega)).trans h.x1, h.old.trans (hb.mono h.old.size), Nat.le_trans h.big hb.size⟩
end Go.Proofs.YtbgjocgjmjkneaaGreatDoor
