/- A part of the proof: see the last file. -/
import Derived.Test.YtmjmmokbaocboaaGreatDoorPar
import Derived.Test.YtmjmmokbaocboaaGreatDoorPam
import Derived.Test.YtmjmmokbaocboaaGreatDoorPak
import Derived.Test.YtmjmmokbaocboaaGreatDoorPao
set_option linter.unusedVariables false
set_option linter.unusedSimpArgs false
set_option linter.unusedSectionVars false
namespace Go.Proofs.YtmjmmokbaocboaaGreatDoor
open Go.RowKit
theorem rbounds_m (m : Mach) (hok : m.ok = true) : ∃ b : Bool, (b = true ↔ m.can) ∧ ∀ (v : Value) (W : World), MkSl W v m.rn m.mark → Calls Tryz.prog 70 #[m.val, v] W fun e w' => ∃ vx vy, e = .returned (.tuple #[vx, vy, .bool b]) ∧ (b = true → ∃ gx cx gy cy, vx = .slice (some ⟨gx, 0, none⟩) 13 cx ∧ vy = .slice (some ⟨gy, 0, none⟩) 13 cy ∧ W.heap.size ≤ gx ∧ W.heap.size ≤ gy ∧ gx < w'.heap.size ∧ gy < w'.heap.size ∧ CAt w' gx m.axX.ends ∧ CAt w' gy m.axY.ends) ∧ Below W.heap.size W w' := by
  by_cases hc : m.can
  · refine ⟨true, ⟨fun _ => hc, fun _ => rfl⟩, fun v W hm => ?_⟩
    obtain ⟨b, hb, hC⟩ := rbounds_any m v m.rn m.mark W (Mach.fineX hok) (Mach.fineY hok) hm
    obtain rfl : b = true := hb.2 hc
    exact hC
  · refine ⟨false, ⟨fun h => (by cases h), fun h => absurd h hc⟩, fun v W hm => ?_⟩
    obtain ⟨b, hb, hC⟩ := rbounds_any m v m.rn m.mark W (Mach.fineX hok) (Mach.fineY hok) hm
    obtain rfl : b = false := by
      cases b with
      | false => rfl
      | true => exact absurd (hb.1 rfl) hc
    exact hC
/-- a machine in a block of its own. -/
structure PoR (w : World) (m : Mach) (W : World) : Prop where
  mat : MAt W w.heap.size m
  old : Below w.heap.size w W
  big : w.heap.size < W.heap.size
theorem PoR.below {w : World} {m : Mach} {W W' : World} (h : PoR w m W) (hb : Below W.heap.size W W') : PoR w m W' :=
  ⟨h.mat.below hb h.big, h.old.trans (hb.mono h.old.size), Nat.lt_of_lt_of_le h.big hb.size⟩
structure PoK (w : World) (m : Mach) (W : World) : Prop where
  mat : MAt W w.heap.size m
  old : Below w.heap.size w W
  big : w.heap.size + 3 ≤ W.heap.size
theorem PoK.below {w : World} {m : Mach} {W W' : World} (h : PoK w m W) (hb : Below W.heap.size W W') : PoK w m W' :=
  have := h.big
  ⟨h.mat.below hb (by omega), h.old.trans (hb.mono h.old.size), Nat.le_trans h.big hb.size⟩
structure KcR (w : World) (m : Mach) (gx gy : Nat) (EX EY : Nat → Int × Int) (W : World) : Prop where
  cx : CAt W gx EX
  cy : CAt W gy EY
  old : Below w.heap.size w W
  big : w.heap.size + 3 ≤ W.heap.size
  nx : gx ≠ w.heap.size + 1 ∧ gx ≠ w.heap.size + 1 + 1
  ny : gy ≠ w.heap.size + 1 ∧ gy ≠ w.heap.size + 1 + 1
theorem KcR.put {w : World} {m : Mach} {gx gy : Nat} {EX EY : Nat → Int × Int} {W : World} (h : KcR w m gx gy EX EY W) {D : Nat} (h1 : w.heap.size + 1 ≤ D) (h2 : D ≤ w.heap.size + 2) (x y : Value) : KcR w m gx gy EX EY ((W.setCell ⟨D, 0, none⟩ x).setCell ⟨D, 1, none⟩ y) :=
  have a := h.nx
  have b := h.ny
  ⟨h.cx.far2 (by omega) _ _ _ _, h.cy.far2 (by omega) _ _ _ _, (h.old.setCell (p := ⟨D, 0, none⟩) (by show w.heap.size ≤ D; omega) _).setCell (p := ⟨D, 1, none⟩) (by show w.heap.size ≤ D; omega) _, by rw [World.size_setCell, World.size_setCell]; exact h.big, h.nx, h.ny⟩
set_option maxRecDepth 100000 in
set_option maxHeartbeats 4000000 in
theorem rpossible_b (m : Mach) (hok : m.ok = true) : ∃ b : Bool, (b = true ↔ m.can) ∧ ∀ w, MIn w m → Calls Tryz.prog 68 #[m.val] w fun e w' => e = .returned (.bool b) ∧ Below w.heap.size w w' := by
  obtain ⟨b, hb, hbounds⟩ := rbounds_m m hok
  refine ⟨b, hb, fun w h => ?_⟩
  obtain ⟨W0, hW⟩ : ∃ W0, w.alloc (.cells #[.slice m.sa m.sn m.sc, .int .i64 m.c0, .int .i64 m.c1, .int .i64 m.d0, .int .i64 m.d1, .int .i64 m.w0, .int .i64 m.w1, .int .i64 m.v0, .int .i64 m.v1, .slice m.ra m.rn m.rc] 29) = W0 := ⟨_, rfl⟩
  have hO : Below w.heap.size w W0 := by rw [← hW]; exact (Below.refl _ _).alloc (Nat.le_refl _) _
  have hM : MAt W0 w.heap.size m := by rw [← hW]; exact MAt.new w m
  have hsz : W0.heap.size = w.heap.size + 1 := by rw [← hW, World.size_alloc]
  have hP : PoR w m W0.drew := (⟨hM, hO, by omega⟩ : PoR w m W0).below (Below.refl _ _).drew
  have hmarks := fun (W : World) (hB : Below w.heap.size w W) => rmarks_any m W hok (h.below hB)
  clear hb
  go_enter Tryz.func68, Tryz.ntmps68
  go_wp2_with fail
  refine wp_region_late [] (fun w9 => PoR w m w9) (fun w9 => True) (by kernel_rfl) ?_ (fun hHeld => ?_)
  · (exact ⟨hP, trivial⟩)
  refine wpAnyP_take0 (i := 0) (v := ?_) rfl (by kernel_rfl) (by kernel_rfl) (by kernel_rfl) (by kernel_rfl) (by rfl) (fun _ _ _ h => h) (Or.inl ⟨by rfl, ?_⟩) hHeld ?_
  rotate_left 1
  · ((intro w9 hSw; obtain ⟨⟨q0, q1, q2, q3, q4, q5, q6, q7, q8, q9⟩, _, _⟩ := hSw; go_simp) <;> with_reducible rfl)
  (try simp only [Act.put, List.setIfInBounds_toArray, List.set_cons_zero, List.set_cons_succ])
  refine wpAnyP_take0 (i := 1) (v := ?_) rfl (by kernel_rfl) (by kernel_rfl) (by kernel_rfl) (by kernel_rfl) (by rfl) (fun _ _ _ h => h) (Or.inl ⟨by rfl, ?_⟩) hHeld ?_
  rotate_left 1
  · ((intro w9 hSw; obtain ⟨⟨q0, q1, q2, q3, q4, q5, q6, q7, q8, q9⟩, _, _⟩ := hSw; go_simp) <;> with_reducible rfl)
  (try simp only [Act.put, List.setIfInBounds_toArray, List.set_cons_zero, List.set_cons_succ])
  refine wpAnyP_ready (rs := [2]) (by kernel_rfl) (by simp) ?_
  refine AllReadyP.cons (o := _) rfl (fun K hK => ?_) AllReadyP.nil
  · go_simp
    (go_at_call 72; with_reducible refine (hmarks _ hHeld.1.old).mono ?_; rintro e w5 ⟨v5, rfl, hms, hb5⟩)
    refine hK.out _ _ ?_ (fun hHeld => ?_)
    · (exact ⟨hHeld.1.below hb5, trivial⟩)
    clear hK K
    (try simp only [Act.put, List.setIfInBounds_toArray, List.set_cons_zero, List.set_cons_succ])
    refine wpAnyP_ready (rs := [3]) (by kernel_rfl) (by simp) ?_
    refine AllReadyP.cons (o := _) rfl (fun K hK => ?_) AllReadyP.nil
    · go_simp
      (go_at_call 70; with_reducible refine (hbounds _ _ hms).mono ?_; rintro e w6 ⟨vx, vy, rfl, hyes, hb6⟩)
      refine hK.out _ _ ?_ (fun hHeld => ?_)
      · (exact ⟨hHeld.1.below hb6, trivial⟩)
      clear hK K
      (try simp only [Act.put, List.setIfInBounds_toArray, List.set_cons_zero, List.set_cons_succ])
      refine wpAnyP_take0 (i := 4) (v := ?_) rfl (by kernel_rfl) (by kernel_rfl) (by kernel_rfl) (by kernel_rfl) (by rfl) (fun _ _ _ h => h) (Or.inl ⟨by rfl, ?_⟩) hHeld ?_
      rotate_left 1
      · ((intro w9 hSw; obtain ⟨⟨q0, q1, q2, q3, q4, q5, q6, q7, q8, q9⟩, _, _⟩ := hSw; go_simp) <;> with_reducible rfl)
      (try simp only [Act.put, List.setIfInBounds_toArray, List.set_cons_zero, List.set_cons_succ])
      refine wpAnyP_take0 (i := 5) (v := ?_) rfl (by kernel_rfl) (by kernel_rfl) (by kernel_rfl) (by kernel_rfl) (by rfl) (fun _ _ _ h => h) (Or.inl ⟨by rfl, ?_⟩) hHeld ?_
      rotate_left 1
      · ((intro w9 hSw; obtain ⟨⟨q0, q1, q2, q3, q4, q5, q6, q7, q8, q9⟩, _, _⟩ := hSw; go_simp) <;> with_reducible rfl)
      (try simp only [Act.put, List.setIfInBounds_toArray, List.set_cons_zero, List.set_cons_succ])
      refine wpAnyP_take0 (i := 6) (v := ?_) rfl (by kernel_rfl) (by kernel_rfl) (by kernel_rfl) (by kernel_rfl) (by rfl) (fun _ _ _ h => h) (Or.inl ⟨by rfl, ?_⟩) hHeld ?_
      rotate_left 1
      · ((intro w9 hSw; obtain ⟨⟨q0, q1, q2, q3, q4, q5, q6, q7, q8, q9⟩, _, _⟩ := hSw; go_simp) <;> with_reducible rfl)
      (try simp only [Act.put, List.setIfInBounds_toArray, List.set_cons_zero, List.set_cons_succ])
      refine wpAnyP_take0 (i := 7) (v := ?_) rfl (by kernel_rfl) (by kernel_rfl) (by kernel_rfl) (by kernel_rfl) (by rfl) (fun _ _ _ h => h) (Or.inl ⟨by rfl, ?_⟩) hHeld ?_
      rotate_left 1
      · ((intro w9 hSw; obtain ⟨⟨q0, q1, q2, q3, q4, q5, q6, q7, q8, q9⟩, _, _⟩ := hSw; go_simp) <;> with_reducible rfl)
      (try simp only [Act.put, List.setIfInBounds_toArray, List.set_cons_zero, List.set_cons_succ])
      refine wpAnyP_take0 (i := 8) (v := ?_) rfl (by kernel_rfl) (by kernel_rfl) (by kernel_rfl) (by kernel_rfl) (by rfl) (fun _ _ _ h => h) (Or.inl ⟨by rfl, ?_⟩) hHeld ?_
      rotate_left 1
      · ((intro w9 hSw; obtain ⟨⟨q0, q1, q2, q3, q4, q5, q6, q7, q8, q9⟩, _, _⟩ := hSw; go_simp) <;> with_reducible rfl)
      (try simp only [Act.put, List.setIfInBounds_toArray, List.set_cons_zero, List.set_cons_succ])
      refine wpAnyP_take0 (i := 9) (v := ?_) rfl (by kernel_rfl) (by kernel_rfl) (by kernel_rfl) (by kernel_rfl) (by rfl) (fun _ _ _ h => h) (Or.inl ⟨by rfl, ?_⟩) hHeld ?_
      rotate_left 1
      · ((intro w9 hSw; obtain ⟨⟨q0, q1, q2, q3, q4, q5, q6, q7, q8, q9⟩, _, _⟩ := hSw; go_simp) <;> with_reducible rfl)
      (try simp only [Act.put, List.setIfInBounds_toArray, List.set_cons_zero, List.set_cons_succ])
      refine wpAnyP_take0 (i := 10) (v := ?_) rfl (by kernel_rfl) (by kernel_rfl) (by kernel_rfl) (by kernel_rfl) (by rfl) (fun _ _ _ h => h) (Or.inl ⟨by rfl, ?_⟩) hHeld ?_
      rotate_left 1
      · ((intro w9 hSw; obtain ⟨⟨q0, q1, q2, q3, q4, q5, q6, q7, q8, q9⟩, _, _⟩ := hSw; go_simp) <;> with_reducible rfl)
      (try simp only [Act.put, List.setIfInBounds_toArray, List.set_cons_zero, List.set_cons_succ])
      refine wpAnyP_done (by kernel_rfl) ?_ _
      (try simp only [Act.put, List.getElem_toArray, List.getElem_cons_zero, List.getElem_cons_succ, List.setIfInBounds_toArray, List.set_cons_zero, List.set_cons_succ])
      have hB6 := hHeld.1.old
      clear hHeld hyes hms hmarks hbounds
      go_wp2
      go_ret
      exact ⟨rfl, hB6⟩
end Go.Proofs.YtmjmmokbaocboaaGreatDoor
namespace Go.Proofs.YtmjmmokbaocboaaGreatDoor
open Go.RowKit
end Go.Proofs.YtmjmmokbaocboaaGreatDoor
namespace Go.Proofs.YtmjmmokbaocboaaGreatDoor
open Go.RowKit
end Go.Proofs.YtmjmmokbaocboaaGreatDoor
