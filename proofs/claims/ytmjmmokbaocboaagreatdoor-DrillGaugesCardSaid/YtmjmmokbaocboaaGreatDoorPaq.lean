/- A part of the proof: see the last file. -/
import Derived.Test.YtmjmmokbaocboaaGreatDoorPap
import Derived.Test.YtmjmmokbaocboaaGreatDoorPak
import Derived.Test.YtmjmmokbaocboaaGreatDoorPam
import Derived.Test.YtmjmmokbaocboaaGreatDoorPan
set_option linter.unusedVariables false
set_option linter.unusedSimpArgs false
set_option linter.unusedSectionVars false
namespace Go.Proofs.YtmjmmokbaocboaaGreatDoor
open Go.RowKit
def Mach.zmark : Value := .agg #[.int .i64 0, .int .i64 0, .int .i64 0, .int .i64 0, .int .i64 0]
theorem Tryz.info131 : (Tryz.prog.info? 131).map (fun i => (i.zero, i.size, i.bytes)) = some (some Mach.zmark, 5, 40) := by kernel_rfl
theorem cells_five (w : World) (a b c d f : Value) (e : TypeId) : ∀ (j : Nat) (u : Value), [a, b, c, d, f][j]? = some u → (w.alloc (Obj.cells #[a, b, c, d, f] e)).cell? ((⟨w.heap.size, 0, none⟩ : Addr).add j) = some u := by
  intro j u h
  match j, h with
  | 0, h => simp at h; subst h; simp [go_sem, Addr.add]
  | 1, h => simp at h; subst h; simp [go_sem, Addr.add]
  | 2, h => simp at h; subst h; simp [go_sem, Addr.add]
  | 3, h => simp at h; subst h; simp [go_sem, Addr.add]
  | 4, h => simp at h; subst h; simp [go_sem, Addr.add]
  | n+5, h => simp at h
set_option maxRecDepth 100000 in
set_option maxHeartbeats 4000000 in
theorem rmarks_any (m : Mach) (w : World) (hok : m.ok = true) (h : MIn w m) :
    Calls Tryz.prog 72 #[m.val] w fun e w' => ∃ v', e = .returned v' ∧ MkSl w' v' m.rn m.mark ∧ Below w.heap.size w w' := by
  obtain ⟨i0, hi, hz0, hz1, hz2⟩ := info_parts Tryz.info131
  obtain ⟨W0, hW⟩ : ∃ W0, w.alloc (.cells #[.slice m.sa m.sn m.sc, .int .i64 m.c0, .int .i64 m.c1, .int .i64 m.d0, .int .i64 m.d1, .int .i64 m.w0, .int .i64 m.w1, .int .i64 m.v0, .int .i64 m.v1, .slice m.ra m.rn m.rc] 29) = W0 := ⟨_, rfl⟩
  have hO : Below w.heap.size w W0 := by rw [← hW]; exact (Below.refl _ _).alloc (Nat.le_refl _) _
  have hM : MAt W0 w.heap.size m := by rw [← hW]; exact MAt.new w m
  have hsz : W0.heap.size = w.heap.size + 1 := by rw [← hW, World.size_alloc]
  obtain ⟨_, hfew, _, _⟩ := Mach.ok_parts hok
  have hrd := Mach.reads hok
  obtain ⟨q0, q1, q2, q3, q4, q5, q6, q7, q8, q9⟩ := id hM
  go_enter Tryz.func72, Tryz.ntmps72
  go_wp2_with fail
  go_loopw [3, 4] (fun v i wr => ∃ (k : Nat), k ≤ m.rn ∧ i = .int .i64 k ∧ wr.ownsRow W0.heap.size 131 5 v k (markCells m.mark k) ∧ Below W0.heap.size W0 wr) (fun _ i _ => m.rn - (intOf i).toNat)
  case atStart => exact ⟨0, Nat.zero_le _, rfl, ⟨rfl, .inl ⟨rfl, rfl⟩⟩, Below.refl _ _⟩
  case round =>
    obtain ⟨k, hk, rfl, hown, hbl⟩ := hrel
    have hk0 : (0 : Int) ≤ (k : Int) := Int.natCast_nonneg _
    have hMr := hM.below hbl (by omega)
    clear q0 q1 q2 q3 q4 q5 q6 q7 q8 q9
    obtain ⟨q0, q1, q2, q3, q4, q5, q6, q7, q8, q9⟩ := id hMr
    by_cases hlt : k < m.rn
    · have hlt' : (k : Int) < (m.rn : Int) := by omega
      have hrs := (h.below hO).below hbl |>.reads
      obtain ⟨b, off, hra, hb, hp⟩ : ∃ b off, m.ra = some ⟨b, off, none⟩ ∧ b < wr.heap.size ∧ RPts wr b off m.rn m.RB m.RX m.RY m.RE := by
        rcases hrs with ⟨a, c, e, h0⟩ | ⟨b, off, cap, e, hb, hp⟩
        · omega
        · injection e with e1 e2 e3
          exact ⟨b, off, e1, hb, hp⟩
      rw [hra] at q9
      obtain ⟨e0, e1, e2, e3⟩ := hp k hlt
      obtain ⟨r0, r1, r2, r3⟩ := hrd k hlt
      have hmc : markCells m.mark (k + 1) = markCells m.mark k ++ [.int .i64 (m.RB k), .int .i64 (m.RX k - m.RE k), .int .i64 (m.RX k + m.RE k), .int .i64 (m.RY k - m.RE k), .int .i64 (m.RY k + m.RE k)] := rfl
      generalize m.RB k = B at e0 r0 hmc
      generalize m.RX k = X at e1 r1 hmc
      generalize m.RY k = Y at e2 r2 hmc
      generalize m.RE k = E at e3 r3 hmc
      have hw0 : IntKind.i64.wrap (X - E) = X - E := IntWalk.i64_in _ (by omega)
      have hw1 : IntKind.i64.wrap (X + E) = X + E := IntWalk.i64_in _ (by omega)
      have hw2 : IntKind.i64.wrap (Y - E) = Y - E := IntWalk.i64_in _ (by omega)
      have hw3 : IntKind.i64.wrap (Y + E) = Y + E := IntWalk.i64_in _ (by omega)
      clear hp hrs hMr q0 q1 q2 q3 q4 q5 q6 q7 q8
      have hbs := hbl.size
      go_wp2_with (at_builtin; refine wpList_append_own _ rfl _ _ 123 rfl W0.heap.size 131 i0 Mach.zmark 5 40 Tryz.underlying123 hi hz0 hz1 hz2 rfl (by decide) _ k _ rfl ((hown.alloc _).alloc _) ⟨wr.heap.size + 1, 0, none⟩ 1 1 [.int .i64 B, .int .i64 (X - E), .int .i64 (X + E), .int .i64 (Y - E), .int .i64 (Y + E)] rfl rfl ?c1 ?c2 ?c3 ?c4 ?c5 ?_)
      case c1 =>
        have hcf := cells_five (wr.alloc (Obj.cells #[.int .i64 B, .int .i64 X, .int .i64 Y, .int .i64 E] 69)) (.int .i64 B) (.int .i64 (X - E)) (.int .i64 (X + E)) (.int .i64 (Y - E)) (.int .i64 (Y + E)) 131
        rw [World.size_alloc] at hcf
        exact hcf
      case c2 => simp [Value.oneCell']
      case c3 => unfold maxLen; omega
      case c4 => omega
      case c5 => rw [World.size_alloc, World.size_alloc]; omega
      intro v3 w3 hown3 hgrow _
      have hb3 : Below W0.heap.size W0 w3 := ((hbl.alloc hbl.size _).alloc (by rw [World.size_alloc]; omega) _).grown hgrow (by rw [World.size_alloc, World.size_alloc]; omega) fun j hj => (hown.lt j hj).1
      rw [← hmc] at hown3
      clear hgrow hown e0 e1 e2 e3 q9 hmc
      go_wp2
      go_roundw
      case rel => exact ⟨k + 1, by omega, by go_num, by rw [hsz]; exact hown3, hb3⟩
      case measure => simp [intOf]; omega
    · have hkk : k = m.rn := by omega
      have hng : ¬ ((k : Int) < (m.rn : Int)) := by omega
      have hms := own_marks hown
      rw [hkk] at hms
      go_wp2
      go_ret
      exact ⟨_, rfl, hms, hO.trans (hbl.mono hO.size)⟩
end Go.Proofs.YtmjmmokbaocboaaGreatDoor
namespace Go.Proofs.YtmjmmokbaocboaaGreatDoor
open Go.RowKit
theorem rbounds_m (m : Mach) (hok : m.ok = true) : ∃ b : Bool, (b = true ↔ m.can) ∧ ∀ (v : Value) (W : World), MkSl W v m.rn m.mark → Calls Tryz.prog 70 #[m.val, v] W fun e w' => ∃ vx vy, e = .returned (.tuple #[vx, vy, .bool b]) ∧ (b = true → ∃ gx cx gy cy, vx = .slice (some ⟨gx, 0, none⟩) 13 cx ∧ vy = .slice (some ⟨gy, 0, none⟩) 13 cy ∧ W.heap.size ≤ gx ∧ W.heap.size ≤ gy ∧ gx < w'.heap.size ∧ gy < w'.heap.size ∧ CAt w' gx m.axX.ends ∧ CAt w' gy m.axY.ends) ∧ Below W.heap.size W w' := by
  by_cases hc : m.can
  · refine ⟨true, ⟨fun _ => hc, fun _ => rfl⟩, fun v W hm => ?_⟩
    obtain ⟨b, hb, hC⟩ := rbounds_any m v m.rn m.mark W (Mach.fineX hok) (Mach.fineY hok) hm
    obtain rfl : b = true := hb.2 hc
    exact hC
  · refine ⟨false, ⟨fun h => (by cases h), fun h => absurd h hc⟩, fun v W hm => ?_⟩
    obtain ⟨b, hb, hC⟩ := rbounds_any m v m.rn m.mark W (Mach.fineX hok) (Mach.fineY hok) hm
    obtain rfl : b = false := by
      cases b with
      | false => rfl
      | true => exact absurd (hb.1 rfl) hc
    exact hC
/-- a machine in a block of its own. -/
structure PoR (w : World) (m : Mach) (W : World) : Prop where
  mat : MAt W w.heap.size m
  old : Below w.heap.size w W
  big : w.heap.size < W.heap.size
theorem PoR.below {w : World} {m : Mach} {W W' : World} (h : PoR w m W) (hb : Below W.heap.size W W') : PoR w m W' :=
  ⟨h.mat.below hb h.big, h.old.trans (hb.mono h.old.size), Nat.lt_of_lt_of_le h.big hb.size⟩
structure PoK (w : World) (m : Mach) (W : World) : Prop where
  mat : MAt W w.heap.size m
  old : Below w.heap.size w W
  big : w.heap.size + 3 ≤ W.heap.size
theorem PoK.below {w : World} {m : Mach} {W W' : World} (h : PoK w m W) (hb : Below W.heap.size W W') : PoK w m W' :=
  have := h.big
  ⟨h.mat.below hb (by omega), h.old.trans (hb.mono h.old.size), Nat.le_trans h.big hb.size⟩
structure KcR (w : World) (m : Mach) (gx gy : Nat) (EX EY : Nat → Int × Int) (W : World) : Prop where
  cx : CAt W gx EX
  cy : CAt W gy EY
  old : Below w.heap.size w W
  big : w.heap.size + 3 ≤ W.heap.size
  nx : gx ≠ w.heap.size + 1 ∧ gx ≠ w.heap.size + 1 + 1
  ny : gy ≠ w.heap.size + 1 ∧ gy ≠ w.heap.size + 1 + 1
theorem KcR.put {w : World} {m : Mach} {gx gy : Nat} {EX EY : Nat → Int × Int} {W : World} (h : KcR w m gx gy EX EY W) {D : Nat} (h1 : w.heap.size + 1 ≤ D) (h2 : D ≤ w.heap.size + 2) (x y : Value) : KcR w m gx gy EX EY ((W.setCell ⟨D, 0, none⟩ x).setCell ⟨D, 1, none⟩ y) :=
  have a := h.nx
  have b := h.ny
  ⟨h.cx.far2 (by omega) _ _ _ _, h.cy.far2 (by omega) _ _ _ _, (h.old.setCell (p := ⟨D, 0, none⟩) (by show w.heap.size ≤ D; omega) _).setCell (p := ⟨D, 1, none⟩) (by show w.heap.size ≤ D; omega) _, by rw [World.size_setCell, World.size_setCell]; exact h.big, h.nx, h.ny⟩
set_option maxRecDepth 100000 in
set_option maxHeartbeats 4000000 in
theorem rpossible_b (m : Mach) (hok : m.ok = true) : ∃ b : Bool, (b = true ↔ m.can) ∧ ∀ w, MIn w m → Calls Tryz.prog 68 #[m.val] w fun e w' => e = .returned (.bool b) ∧ Below w.heap.size w w' := by
  obtain ⟨b, hb, hbounds⟩ := rbounds_m m hok
  refine ⟨b, hb, fun w h => ?_⟩
  obtain ⟨W0, hW⟩ : ∃ W0, w.alloc (.cells #[.slice m.sa m.sn m.sc, .int .i64 m.c0, .int .i64 m.c1, .int .i64 m.d0, .int .i64 m.d1, .int .i64 m.w0, .int .i64 m.w1, .int .i64 m.v0, .int .i64 m.v1, .slice m.ra m.rn m.rc] 29) = W0 := ⟨_, rfl⟩
  have hO : Below w.heap.size w W0 := by rw [← hW]; exact (Below.refl _ _).alloc (Nat.le_refl _) _
  have hM : MAt W0 w.heap.size m := by rw [← hW]; exact MAt.new w m
  have hsz : W0.heap.size = w.heap.size + 1 := by rw [← hW, World.size_alloc]
  have hP : PoR w m W0.drew := (⟨hM, hO, by omega⟩ : PoR w m W0).below (Below.refl _ _).drew
  have hmarks := fun (W : World) (hB : Below w.heap.size w W) => rmarks_any m W hok (h.below hB)
  clear hb
  go_enter Tryz.func68, Tryz.ntmps68
  go_wp2_with fail
  refine wp_region_late [] (fun w9 => PoR w m w9) (fun w9 => True) (by kernel_rfl) ?_ (fun hHeld => ?_)
  · (exact ⟨hP, trivial⟩)
  refine wpAnyP_take0 (i := 0) (v := ?_) rfl (by kernel_rfl) (by kernel_rfl) (by kernel_rfl) (by kernel_rfl) (by rfl) (fun _ _ _ h => h) (Or.inl ⟨by rfl, ?_⟩) hHeld ?_
  rotate_left 1
  · ((intro w9 hSw; obtain ⟨⟨q0, q1, q2, q3, q4, q5, q6, q7, q8, q9⟩, _, _⟩ := hSw; go_simp) <;> with_reducible rfl)
  (try simp only [Act.put, List.setIfInBounds_toArray, List.set_cons_zero, List.set_cons_succ])
  refine wpAnyP_take0 (i := 1) (v := ?_) rfl (by kernel_rfl) (by kernel_rfl) (by kernel_rfl) (by kernel_rfl) (by rfl) (fun _ _ _ h => h) (Or.inl ⟨by rfl, ?_⟩) hHeld ?_
  rotate_left 1
  · ((intro w9 hSw; obtain ⟨⟨q0, q1, q2, q3, q4, q5, q6, q7, q8, q9⟩, _, _⟩ := hSw; go_simp) <;> with_reducible rfl)
  (try simp only [Act.put, List.setIfInBounds_toArray, List.set_cons_zero, List.set_cons_succ])
  refine wpAnyP_ready (rs := [2]) (by kernel_rfl) (by simp) ?_
  refine AllReadyP.cons (o := _) rfl (fun K hK => ?_) AllReadyP.nil
  · go_simp
    (go_at_call 72; with_reducible refine (hmarks _ hHeld.1.old).mono ?_; rintro e w5 ⟨v5, rfl, hms, hb5⟩)
    refine hK.out _ _ ?_ (fun hHeld => ?_)
    · (exact ⟨hHeld.1.below hb5, trivial⟩)
    clear hK K
    (try simp only [Act.put, List.setIfInBounds_toArray, List.set_cons_zero, List.set_cons_succ])
    refine wpAnyP_ready (rs := [3]) (by kernel_rfl) (by simp) ?_
    refine AllReadyP.cons (o := _) rfl (fun K hK => ?_) AllReadyP.nil
    · go_simp
      (go_at_call 70; with_reducible refine (hbounds _ _ hms).mono ?_; rintro e w6 ⟨vx, vy, rfl, hyes, hb6⟩)
      refine hK.out _ _ ?_ (fun hHeld => ?_)
      · (exact ⟨hHeld.1.below hb6, trivial⟩)
      clear hK K
      (try simp only [Act.put, List.setIfInBounds_toArray, List.set_cons_zero, List.set_cons_succ])
      refine wpAnyP_take0 (i := 4) (v := ?_) rfl (by kernel_rfl) (by kernel_rfl) (by kernel_rfl) (by kernel_rfl) (by rfl) (fun _ _ _ h => h) (Or.inl ⟨by rfl, ?_⟩) hHeld ?_
      rotate_left 1
      · ((intro w9 hSw; obtain ⟨⟨q0, q1, q2, q3, q4, q5, q6, q7, q8, q9⟩, _, _⟩ := hSw; go_simp) <;> with_reducible rfl)
      (try simp only [Act.put, List.setIfInBounds_toArray, List.set_cons_zero, List.set_cons_succ])
      refine wpAnyP_take0 (i := 5) (v := ?_) rfl (by kernel_rfl) (by kernel_rfl) (by kernel_rfl) (by kernel_rfl) (by rfl) (fun _ _ _ h => h) (Or.inl ⟨by rfl, ?_⟩) hHeld ?_
      rotate_left 1
      · ((intro w9 hSw; obtain ⟨⟨q0, q1, q2, q3, q4, q5, q6, q7, q8, q9⟩, _, _⟩ := hSw; go_simp) <;> with_reducible rfl)
      (try simp only [Act.put, List.setIfInBounds_toArray, List.set_cons_zero, List.set_cons_succ])
      refine wpAnyP_take0 (i := 6) (v := ?_) rfl (by kernel_rfl) (by kernel_rfl) (by kernel_rfl) (by kernel_rfl) (by rfl) (fun _ _ _ h => h) (Or.inl ⟨by rfl, ?_⟩) hHeld ?_
      rotate_left 1
      · ((intro w9 hSw; obtain ⟨⟨q0, q1, q2, q3, q4, q5, q6, q7, q8, q9⟩, _, _⟩ := hSw; go_simp) <;> with_reducible rfl)
      (try simp only [Act.put, List.setIfInBounds_toArray, List.set_cons_zero, List.set_cons_succ])
      refine wpAnyP_take0 (i := 7) (v := ?_) rfl (by kernel_rfl) (by kernel_rfl) (by kernel_rfl) (by kernel_rfl) (by rfl) (fun _ _ _ h => h) (Or.inl ⟨by rfl, ?_⟩) hHeld ?_
      rotate_left 1
      · ((intro w9 hSw; obtain ⟨⟨q0, q1, q2, q3, q4, q5, q6, q7, q8, q9⟩, _, _⟩ := hSw; go_simp) <;> with_reducible rfl)
      (try simp only [Act.put, List.setIfInBounds_toArray, List.set_cons_zero, List.set_cons_succ])
      refine wpAnyP_take0 (i := 8) (v := ?_) rfl (by kernel_rfl) (by kernel_rfl) (by kernel_rfl) (by kernel_rfl) (by rfl) (fun _ _ _ h => h) (Or.inl ⟨by rfl, ?_⟩) hHeld ?_
      rotate_left 1
      · ((intro w9 hSw; obtain ⟨⟨q0, q1, q2, q3, q4, q5, q6, q7, q8, q9⟩, _, _⟩ := hSw; go_simp) <;> with_reducible rfl)
      (try simp only [Act.put, List.setIfInBounds_toArray, List.set_cons_zero, List.set_cons_succ])
      refine wpAnyP_take0 (i := 9) (v := ?_) rfl (by kernel_rfl) (by kernel_rfl) (by kernel_rfl) (by kernel_rfl) (by rfl) (fun _ _ _ h => h) (Or.inl ⟨by rfl, ?_⟩) hHeld ?_
      rotate_left 1
      · ((intro w9 hSw; obtain ⟨⟨q0, q1, q2, q3, q4, q5, q6, q7, q8, q9⟩, _, _⟩ := hSw; go_simp) <;> with_reducible rfl)
      (try simp only [Act.put, List.setIfInBounds_toArray, List.set_cons_zero, List.set_cons_succ])
      refine wpAnyP_take0 (i := 10) (v := ?_) rfl (by kernel_rfl) (by kernel_rfl) (by kernel_rfl) (by kernel_rfl) (by rfl) (fun _ _ _ h => h) (Or.inl ⟨by rfl, ?_⟩) hHeld ?_
      rotate_left 1
      · ((intro w9 hSw; obtain ⟨⟨q0, q1, q2, q3, q4, q5, q6, q7, q8, q9⟩, _, _⟩ := hSw; go_simp) <;> with_reducible rfl)
      (try simp only [Act.put, List.setIfInBounds_toArray, List.set_cons_zero, List.set_cons_succ])
      refine wpAnyP_done (by kernel_rfl) ?_ _
      (try simp only [Act.put, List.getElem_toArray, List.getElem_cons_zero, List.getElem_cons_succ, List.setIfInBounds_toArray, List.set_cons_zero, List.set_cons_succ])
      have hB6 := hHeld.1.old
      clear hHeld hyes hms hmarks hbounds
      go_wp2
      go_ret
      exact ⟨rfl, hB6⟩
set_option maxRecDepth 100000 in
set_option maxHeartbeats 8000000 in
theorem rknown_yes (m : Mach) (k : Nat) (hk : k ≤ 12) (hok : m.ok = true) (hcan : m.can) (w : World) (h : MIn w m) : Calls Tryz.prog 53 #[m.val, .int .i64 k] w fun e w' => e = .returned (.tuple #[.agg #[.int .i64 (m.axX.ends k).1, .int .i64 (m.axX.ends k).2], .agg #[.int .i64 (m.axY.ends k).1, .int .i64 (m.axY.ends k).2]]) ∧ Below w.heap.size w w' := by
  obtain ⟨b, hb, hbounds⟩ := rbounds_m m hok
  obtain rfl : b = true := hb.2 hcan
  obtain ⟨W0, hW⟩ : ∃ W0, ((w.alloc (.cells #[.slice m.sa m.sn m.sc, .int .i64 m.c0, .int .i64 m.c1, .int .i64 m.d0, .int .i64 m.d1, .int .i64 m.w0, .int .i64 m.w1, .int .i64 m.v0, .int .i64 m.v1, .slice m.ra m.rn m.rc] 29)).alloc (Obj.cells #[.int .i64 0, .int .i64 0] 26)).alloc (Obj.cells #[.int .i64 0, .int .i64 0] 26) = W0 := ⟨_, rfl⟩
  obtain ⟨A1, hA1⟩ : ∃ A1, w.alloc (.cells #[.slice m.sa m.sn m.sc, .int .i64 m.c0, .int .i64 m.c1, .int .i64 m.d0, .int .i64 m.d1, .int .i64 m.w0, .int .i64 m.w1, .int .i64 m.v0, .int .i64 m.v1, .slice m.ra m.rn m.rc] 29) = A1 := ⟨_, rfl⟩
  have hP : PoK w m W0.drew ∧ Two W0.drew (w.heap.size + 1) 0 0 ∧ Two W0.drew (w.heap.size + 1 + 1) 0 0 := by
    have s1 : A1.heap.size = w.heap.size + 1 := by rw [← hA1, World.size_alloc]
    have s2 : (A1.alloc (Obj.cells #[.int .i64 0, .int .i64 0] 26)).heap.size = w.heap.size + 1 + 1 := by rw [World.size_alloc, s1]
    have m1 : MAt A1 w.heap.size m := by rw [← hA1]; exact MAt.new w m
    have b1 : Below w.heap.size w A1 := by rw [← hA1]; exact (Below.refl _ _).alloc (Nat.le_refl _) _
    have t1 := Two.new A1 26 0 0
    have t2 := Two.new (A1.alloc (Obj.cells #[.int .i64 0, .int .i64 0] 26)) 26 0 0
    have b2 : Below A1.heap.size A1 (A1.alloc (Obj.cells #[.int .i64 0, .int .i64 0] 26)) := (Below.refl _ _).alloc (Nat.le_refl _) _
    have b3 : Below (A1.alloc (Obj.cells #[.int .i64 0, .int .i64 0] 26)).heap.size (A1.alloc (Obj.cells #[.int .i64 0, .int .i64 0] 26)) ((A1.alloc (Obj.cells #[.int .i64 0, .int .i64 0] 26)).alloc (Obj.cells #[.int .i64 0, .int .i64 0] 26)) := (Below.refl _ _).alloc (Nat.le_refl _) _
    have t1' := t1.below b3 (by omega)
    rw [s1] at t1'
    rw [s2] at t2
    rw [hA1] at hW
    rw [hW] at t1' t2 b3
    have hs3 : W0.heap.size = w.heap.size + 1 + 1 + 1 := by rw [← hW, World.size_alloc, s2]
    exact ⟨⟨((m1.below b2 (by omega)).below b3 (by omega)).below (Below.refl W0.heap.size _).drew (by omega), ((b1.trans (b2.mono (by omega))).trans (b3.mono (by omega))).drew, by show w.heap.size + 3 ≤ W0.heap.size; omega⟩, t1'.drew, t2.drew⟩
  obtain ⟨hP, hT1, hT2⟩ := hP
  clear hA1
  have hmarks := fun (W : World) (hB : Below w.heap.size w W) => rmarks_any m W hok (h.below hB)
  have hk0 : (0 : Int) ≤ (k : Int) := Int.natCast_nonneg _
  have hk13 : k < 13 := by omega
  have hki : (k : Int) < 13 := by omega
  clear hb
  go_enter Tryz.func53, Tryz.ntmps53
  go_wp2_with fail
  refine wp_region_late [] (fun w9 => PoK w m w9) (fun w9 => Two w9 (w.heap.size + 1) 0 0 ∧ Two w9 (w.heap.size + 1 + 1) 0 0) (by kernel_rfl) ?_ (fun hHeld => ?_)
  · (exact ⟨hP, hT1, hT2⟩)
  refine wpAnyP_take0 (i := 0) (v := ?_) rfl (by kernel_rfl) (by kernel_rfl) (by kernel_rfl) (by kernel_rfl) (by rfl) (fun _ _ _ h => h) (Or.inl ⟨by rfl, ?_⟩) hHeld ?_
  rotate_left 1
  · ((intro w9 hSw; obtain ⟨⟨q0, q1, q2, q3, q4, q5, q6, q7, q8, q9⟩, _, _⟩ := hSw; go_simp) <;> with_reducible rfl)
  (try simp only [Act.put, List.setIfInBounds_toArray, List.set_cons_zero, List.set_cons_succ])
  refine wpAnyP_take0 (i := 1) (v := ?_) rfl (by kernel_rfl) (by kernel_rfl) (by kernel_rfl) (by kernel_rfl) (by rfl) (fun _ _ _ h => h) (Or.inl ⟨by rfl, ?_⟩) hHeld ?_
  rotate_left 1
  · ((intro w9 hSw; obtain ⟨⟨q0, q1, q2, q3, q4, q5, q6, q7, q8, q9⟩, _, _⟩ := hSw; go_simp) <;> with_reducible rfl)
  (try simp only [Act.put, List.setIfInBounds_toArray, List.set_cons_zero, List.set_cons_succ])
  refine wpAnyP_ready (rs := [2]) (by kernel_rfl) (by simp) ?_
  refine AllReadyP.cons (o := _) rfl (fun K hK => ?_) AllReadyP.nil
  · go_simp
    (go_at_call 72; with_reducible refine (hmarks _ hHeld.1.old).mono ?_; rintro e w5 ⟨v5, rfl, hms, hb5⟩)
    refine hK.out _ _ ?_ (fun hHeld => ?_)
    · (exact ⟨hHeld.1.below hb5, (hHeld.2.1.below hb5 (by have := hHeld.1.big; omega)), (hHeld.2.2.below hb5 (by have := hHeld.1.big; omega))⟩)
    clear hK K
    (try simp only [Act.put, List.setIfInBounds_toArray, List.set_cons_zero, List.set_cons_succ])
    refine wpAnyP_ready (rs := [3]) (by kernel_rfl) (by simp) ?_
    refine AllReadyP.cons (o := _) rfl (fun K hK => ?_) AllReadyP.nil
    · go_simp
      (go_at_call 70; with_reducible refine (hbounds _ _ hms).mono ?_; rintro e w6 ⟨vx, vy, rfl, hyes, hb6⟩)
      refine hK.out _ _ ?_ (fun hHeld => ?_)
      · (exact ⟨hHeld.1.below hb6, (hHeld.2.1.below hb6 (by have := hHeld.1.big; omega)), (hHeld.2.2.below hb6 (by have := hHeld.1.big; omega))⟩)
      clear hK K
      (try simp only [Act.put, List.setIfInBounds_toArray, List.set_cons_zero, List.set_cons_succ])
      refine wpAnyP_take0 (i := 4) (v := ?_) rfl (by kernel_rfl) (by kernel_rfl) (by kernel_rfl) (by kernel_rfl) (by rfl) (fun _ _ _ h => h) (Or.inl ⟨by rfl, ?_⟩) hHeld ?_
      rotate_left 1
      · ((intro w9 hSw; obtain ⟨⟨q0, q1, q2, q3, q4, q5, q6, q7, q8, q9⟩, _, _⟩ := hSw; go_simp) <;> with_reducible rfl)
      (try simp only [Act.put, List.setIfInBounds_toArray, List.set_cons_zero, List.set_cons_succ])
      refine wpAnyP_take0 (i := 5) (v := ?_) rfl (by kernel_rfl) (by kernel_rfl) (by kernel_rfl) (by kernel_rfl) (by rfl) (fun _ _ _ h => h) (Or.inl ⟨by rfl, ?_⟩) hHeld ?_
      rotate_left 1
      · ((intro w9 hSw; obtain ⟨⟨q0, q1, q2, q3, q4, q5, q6, q7, q8, q9⟩, _, _⟩ := hSw; go_simp) <;> with_reducible rfl)
      (try simp only [Act.put, List.setIfInBounds_toArray, List.set_cons_zero, List.set_cons_succ])
      refine wpAnyP_take0 (i := 6) (v := ?_) rfl (by kernel_rfl) (by kernel_rfl) (by kernel_rfl) (by kernel_rfl) (by rfl) (fun _ _ _ h => h) (Or.inl ⟨by rfl, ?_⟩) hHeld ?_
      rotate_left 1
      · ((intro w9 hSw; obtain ⟨⟨q0, q1, q2, q3, q4, q5, q6, q7, q8, q9⟩, _, _⟩ := hSw; go_simp) <;> with_reducible rfl)
      (try simp only [Act.put, List.setIfInBounds_toArray, List.set_cons_zero, List.set_cons_succ])
      refine wpAnyP_take0 (i := 7) (v := ?_) rfl (by kernel_rfl) (by kernel_rfl) (by kernel_rfl) (by kernel_rfl) (by rfl) (fun _ _ _ h => h) (Or.inl ⟨by rfl, ?_⟩) hHeld ?_
      rotate_left 1
      · ((intro w9 hSw; obtain ⟨⟨q0, q1, q2, q3, q4, q5, q6, q7, q8, q9⟩, _, _⟩ := hSw; go_simp) <;> with_reducible rfl)
      (try simp only [Act.put, List.setIfInBounds_toArray, List.set_cons_zero, List.set_cons_succ])
      refine wpAnyP_take0 (i := 8) (v := ?_) rfl (by kernel_rfl) (by kernel_rfl) (by kernel_rfl) (by kernel_rfl) (by rfl) (fun _ _ _ h => h) (Or.inl ⟨by rfl, ?_⟩) hHeld ?_
      rotate_left 1
      · ((intro w9 hSw; obtain ⟨⟨q0, q1, q2, q3, q4, q5, q6, q7, q8, q9⟩, _, _⟩ := hSw; go_simp) <;> with_reducible rfl)
      (try simp only [Act.put, List.setIfInBounds_toArray, List.set_cons_zero, List.set_cons_succ])
      refine wpAnyP_take0 (i := 9) (v := ?_) rfl (by kernel_rfl) (by kernel_rfl) (by kernel_rfl) (by kernel_rfl) (by rfl) (fun _ _ _ h => h) (Or.inl ⟨by rfl, ?_⟩) hHeld ?_
      rotate_left 1
      · ((intro w9 hSw; obtain ⟨⟨q0, q1, q2, q3, q4, q5, q6, q7, q8, q9⟩, _, _⟩ := hSw; go_simp) <;> with_reducible rfl)
      (try simp only [Act.put, List.setIfInBounds_toArray, List.set_cons_zero, List.set_cons_succ])
      refine wpAnyP_take0 (i := 10) (v := ?_) rfl (by kernel_rfl) (by kernel_rfl) (by kernel_rfl) (by kernel_rfl) (by rfl) (fun _ _ _ h => h) (Or.inl ⟨by rfl, ?_⟩) hHeld ?_
      rotate_left 1
      · ((intro w9 hSw; obtain ⟨⟨q0, q1, q2, q3, q4, q5, q6, q7, q8, q9⟩, _, _⟩ := hSw; go_simp) <;> with_reducible rfl)
      (try simp only [Act.put, List.setIfInBounds_toArray, List.set_cons_zero, List.set_cons_succ])
      refine wpAnyP_done (by kernel_rfl) ?_ _
      (try simp only [Act.put, List.getElem_toArray, List.getElem_cons_zero, List.getElem_cons_succ, List.setIfInBounds_toArray, List.set_cons_zero, List.set_cons_succ])
      obtain ⟨gx, cx, gy, cy, rfl, rfl, hlx, hly, hgx, hgy, hCx, hCy⟩ := hyes (by first | rfl | trivial)
      have hs5 := hb5.size
      have hbg := hP.big
      have hU1 := hHeld.2.1.drew
      have hU2 := hHeld.2.2.drew
      have hbk : W0.drew.heap.size = W0.heap.size := rfl
      have hbh : w.heap.size + 3 ≤ W0.heap.size := hbg
      have hK : KcR w m gx gy m.axX.ends m.axY.ends w6.drew := ⟨hCx.below (Below.refl w6.heap.size _).drew hgx, hCy.below (Below.refl w6.heap.size _).drew hgy, hHeld.1.old.drew, hHeld.1.big, ⟨by omega, by omega⟩, ⟨by omega, by omega⟩⟩
      generalize hEX : m.axX.ends = EX at hK
      generalize hEY : m.axY.ends = EY at hK
      generalize hex : EX k = ex
      generalize hey : EY k = ey
      obtain ⟨x0, x1⟩ := ex
      obtain ⟨y0, y1⟩ := ey
      clear hCx hCy hyes hHeld hb6 hb5 hms hmarks hbounds
      go_wp2_with fail
      refine wp_region_late [8, 9] (fun w9 => KcR w m gx gy EX EY w9) (fun w9 => Two w9 (w.heap.size + 1) 0 0 ∧ Two w9 (w.heap.size + 1 + 1) 0 0) (by kernel_rfl) ?_ (fun hHeld => ?_)
      · (exact ⟨hK, hU1, hU2⟩)
      clear hK hU1 hU2
      generalize w6.drew = V at *
      refine wpAnyP_take0 (i := 0) (v := ?_) rfl (by kernel_rfl) (by kernel_rfl) (by kernel_rfl) (by kernel_rfl) (by rfl) (fun _ _ _ h => h) (Or.inl ⟨by rfl, ?_⟩) hHeld ?_
      rotate_left 1
      · ((intro w9 hSw; have c0 := (hSw.cx.c k hk13).1; have c1 := (hSw.cx.c k hk13).2; have d0 := (hSw.cy.c k hk13).1; have d1 := (hSw.cy.c k hk13).2; clear hSw; rw [hex] at c0 c1; rw [hey] at d0 d1; (try dsimp only at c0 c1 d0 d1); go_simp) <;> with_reducible rfl)
      (try simp only [Act.put, List.setIfInBounds_toArray, List.set_cons_zero, List.set_cons_succ])
      refine wpAnyP_take0 (i := 1) (v := ?_) rfl (by kernel_rfl) (by kernel_rfl) (by kernel_rfl) (by kernel_rfl) (by rfl) (fun _ _ _ h => h) (Or.inl ⟨by rfl, ?_⟩) hHeld ?_
      rotate_left 1
      · ((intro w9 hSw; have c0 := (hSw.cx.c k hk13).1; have c1 := (hSw.cx.c k hk13).2; have d0 := (hSw.cy.c k hk13).1; have d1 := (hSw.cy.c k hk13).2; clear hSw; rw [hex] at c0 c1; rw [hey] at d0 d1; (try dsimp only at c0 c1 d0 d1); go_simp) <;> with_reducible rfl)
      (try simp only [Act.put, List.setIfInBounds_toArray, List.set_cons_zero, List.set_cons_succ])
      refine wpAnyP_take0 (i := 2) (v := ?_) rfl (by kernel_rfl) (by kernel_rfl) (by kernel_rfl) (by kernel_rfl) (by rfl) (fun _ _ _ h => h) (Or.inl ⟨by rfl, ?_⟩) hHeld ?_
      rotate_left 1
      · ((intro w9 hSw; have c0 := (hSw.cx.c k hk13).1; have c1 := (hSw.cx.c k hk13).2; have d0 := (hSw.cy.c k hk13).1; have d1 := (hSw.cy.c k hk13).2; clear hSw; rw [hex] at c0 c1; rw [hey] at d0 d1; (try dsimp only at c0 c1 d0 d1); go_simp) <;> with_reducible rfl)
      (try simp only [Act.put, List.setIfInBounds_toArray, List.set_cons_zero, List.set_cons_succ])
      refine wpAnyP_take0 (i := 3) (v := ?_) rfl (by kernel_rfl) (by kernel_rfl) (by kernel_rfl) (by kernel_rfl) (by rfl) (fun _ _ _ h => h) (Or.inl ⟨by rfl, ?_⟩) hHeld ?_
      rotate_left 1
      · ((intro w9 hSw; have c0 := (hSw.cx.c k hk13).1; have c1 := (hSw.cx.c k hk13).2; have d0 := (hSw.cy.c k hk13).1; have d1 := (hSw.cy.c k hk13).2; clear hSw; rw [hex] at c0 c1; rw [hey] at d0 d1; (try dsimp only at c0 c1 d0 d1); go_simp) <;> with_reducible rfl)
      (try simp only [Act.put, List.setIfInBounds_toArray, List.set_cons_zero, List.set_cons_succ])
      refine wpAnyP_take0 (i := 4) (v := ?_) rfl (by kernel_rfl) (by kernel_rfl) (by kernel_rfl) (by kernel_rfl) (by rfl) (fun _ _ _ h => h) (Or.inl ⟨by rfl, ?_⟩) hHeld ?_
      rotate_left 1
      · ((intro w9 hSw; have c0 := (hSw.cx.c k hk13).1; have c1 := (hSw.cx.c k hk13).2; have d0 := (hSw.cy.c k hk13).1; have d1 := (hSw.cy.c k hk13).2; clear hSw; rw [hex] at c0 c1; rw [hey] at d0 d1; (try dsimp only at c0 c1 d0 d1); go_simp) <;> with_reducible rfl)
      (try simp only [Act.put, List.setIfInBounds_toArray, List.set_cons_zero, List.set_cons_succ])
      refine wpAnyP_take0 (i := 5) (v := ?_) rfl (by kernel_rfl) (by kernel_rfl) (by kernel_rfl) (by kernel_rfl) (by rfl) (fun _ _ _ h => h) (Or.inl ⟨by rfl, ?_⟩) hHeld ?_
      rotate_left 1
      · ((intro w9 hSw; have c0 := (hSw.cx.c k hk13).1; have c1 := (hSw.cx.c k hk13).2; have d0 := (hSw.cy.c k hk13).1; have d1 := (hSw.cy.c k hk13).2; clear hSw; rw [hex] at c0 c1; rw [hey] at d0 d1; (try dsimp only at c0 c1 d0 d1); go_simp) <;> with_reducible rfl)
      (try simp only [Act.put, List.setIfInBounds_toArray, List.set_cons_zero, List.set_cons_succ])
      refine wpAnyP_take0 (i := 6) (v := ?_) rfl (by kernel_rfl) (by kernel_rfl) (by kernel_rfl) (by kernel_rfl) (by rfl) (fun _ _ _ h => h) (Or.inl ⟨by rfl, ?_⟩) hHeld ?_
      rotate_left 1
      · ((intro w9 hSw; have c0 := (hSw.cx.c k hk13).1; have c1 := (hSw.cx.c k hk13).2; have d0 := (hSw.cy.c k hk13).1; have d1 := (hSw.cy.c k hk13).2; clear hSw; rw [hex] at c0 c1; rw [hey] at d0 d1; (try dsimp only at c0 c1 d0 d1); go_simp) <;> with_reducible rfl)
      (try simp only [Act.put, List.setIfInBounds_toArray, List.set_cons_zero, List.set_cons_succ])
      refine wpAnyP_take0 (i := 7) (v := ?_) rfl (by kernel_rfl) (by kernel_rfl) (by kernel_rfl) (by kernel_rfl) (by rfl) (fun _ _ _ h => h) (Or.inl ⟨by rfl, ?_⟩) hHeld ?_
      rotate_left 1
      · ((intro w9 hSw; have c0 := (hSw.cx.c k hk13).1; have c1 := (hSw.cx.c k hk13).2; have d0 := (hSw.cy.c k hk13).1; have d1 := (hSw.cy.c k hk13).2; clear hSw; rw [hex] at c0 c1; rw [hey] at d0 d1; (try dsimp only at c0 c1 d0 d1); go_simp) <;> with_reducible rfl)
      (try simp only [Act.put, List.setIfInBounds_toArray, List.set_cons_zero, List.set_cons_succ])
      refine wpAnyP_ready (rs := [8]) (by kernel_rfl) (by simp) ?_
      refine AllReadyP.behind (o := _) rfl (by kernel_rfl) (fun K hK => ?_) AllReadyP.nil
      · have k0 := hHeld.2.1.k0
        have k1 := hHeld.2.1.k1
        have f0 := hHeld.2.1.f0
        have f1 := hHeld.2.1.f1
        have hS1 := hHeld.2.1.set01 x0 x1
        have hS2 := (hHeld.2.2.far (Below.heap_setCell V ⟨w.heap.size + 1, 0, none⟩ (.int .i64 x0) (w.heap.size + 1 + 1) (by show w.heap.size + 1 + 1 ≠ w.heap.size + 1; omega))).far (Below.heap_setCell _ ⟨w.heap.size + 1, 1, none⟩ (.int .i64 x1) (w.heap.size + 1 + 1) (by show w.heap.size + 1 + 1 ≠ w.heap.size + 1; omega))
        go_simp
        refine hK.out _ _ ?_ (fun hHeld => ?_)
        · (exact hHeld.1.put (by omega) (by omega) _ _)
        clear hK K
        (try simp only [Act.put, List.setIfInBounds_toArray, List.set_cons_zero, List.set_cons_succ])
        refine wpAnyP_ready (rs := [9]) (by kernel_rfl) (by simp) ?_
        refine AllReadyP.behind (o := _) rfl (by kernel_rfl) (fun K hK => ?_) AllReadyP.nil
        · have k2 := hS2.k0
          have k3 := hS2.k1
          have f2 := hS2.f0
          have f3 := hS2.f1
          have hS3 := hS2.set01 y0 y1
          have hS4 := (hS1.far (Below.heap_setCell _ ⟨w.heap.size + 1 + 1, 0, none⟩ (.int .i64 y0) (w.heap.size + 1) (by show w.heap.size + 1 ≠ w.heap.size + 1 + 1; omega))).far (Below.heap_setCell _ ⟨w.heap.size + 1 + 1, 1, none⟩ (.int .i64 y1) (w.heap.size + 1) (by show w.heap.size + 1 ≠ w.heap.size + 1 + 1; omega))
          go_simp
          refine hK.out _ _ ?_ (fun hHeld => ?_)
          · (exact hHeld.put (by omega) (by omega) _ _)
          clear hK K
          (try simp only [Act.put, List.setIfInBounds_toArray, List.set_cons_zero, List.set_cons_succ])
          refine wpAnyP_done (by kernel_rfl) ?_ _
          (try simp only [Act.put, List.getElem_toArray, List.getElem_cons_zero, List.getElem_cons_succ, List.setIfInBounds_toArray, List.set_cons_zero, List.set_cons_succ])
          generalize (((V.setCell ⟨w.heap.size + 1, 0, none⟩ (.int .i64 x0)).setCell ⟨w.heap.size + 1, 1, none⟩ (.int .i64 x1)).setCell ⟨w.heap.size + 1 + 1, 0, none⟩ (.int .i64 y0)).setCell ⟨w.heap.size + 1 + 1, 1, none⟩ (.int .i64 y1) = V2 at *
          have hO2 := hHeld.old
          have g0 := hS4.k0
          have g1 := hS4.k1
          have g2 := hS3.k0
          have g3 := hS3.k1
          clear hS1 hS2 hS3 hS4 hHeld k0 k1 k2 k3 f0 f1 f2 f3
          go_wp2_with fail
          refine bodyPost_ret (v := .tuple #[.agg #[.int .i64 x0, .int .i64 x1], .agg #[.int .i64 y0, .int .i64 y1]]) (by simp [results, Tryz.results53, go_sem, g0, g1, g2, g3]) rfl ⟨?_, hO2⟩
          rw [hEX, hEY, hex, hey]
end Go.Proofs.YtmjmmokbaocboaaGreatDoor
namespace Go.Proofs.YtmjmmokbaocboaaGreatDoor
open Go.RowKit
end Go.Proofs.YtmjmmokbaocboaaGreatDoor
namespace Go.Proofs.YtmjmmokbaocboaaGreatDoor
open Go.RowKit
end Go.Proofs.YtmjmmokbaocboaaGreatDoor
