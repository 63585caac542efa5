/- A part of the proof: see the last file. -/
import Derived.Test.YtdilcbocnndkmaaGreatDoorY11
set_option linter.unusedVariables false
set_option linter.unusedSimpArgs false
set_option linter.unusedSectionVars false
namespace Go.Proofs.YtdilcbocnndkmaaGreatDoor
open Go.RowKit Go.Can
theorem ordB_dup {n i k : Nat} {F : Nat → Int} {m : Int} (hi : i < n) (hk : k < i) (h : F i = F k) : ordB n F m = false := by
  unfold ordB
  rw [decide_eq_false (fun hh => (hh i hi).1 k hk h)]; rfl
theorem ordB_out {n i : Nat} {F : Nat → Int} {m : Int} (hi : i < n) (h : inB (F i) 0 (m - 1) = false) : ordB n F m = false := by
  unfold ordB
  rw [decide_eq_false (fun hh => by have := (hh i hi).2; rw [h] at this; cases this)]; rfl
theorem ordB_end {n : Nat} {F : Nat → Int} {m : Int} (h : ∀ i, i < n → (∀ k, k < i → F i ≠ F k) ∧ inB (F i) 0 (m - 1) = true) : ordB n F m = decide ((n : Int) = m) := by
  unfold ordB
  rw [decide_eq_true h]; rfl
set_option maxRecDepth 100000 in
set_option maxHeartbeats 2000000 in
theorem order_some (b off n cap : Nat) (F : Nat → Int) (m : Int) (w : World) (hn : n ≤ 1000) (hm0 : 0 ≤ m) (hm1 : m ≤ 1000) (hp : Ints w b off n F) (hb : b < w.heap.size) :
    Calls Tryz.prog 21 #[.slice (some ⟨b, off, none⟩) n cap, .int .i64 m] w fun e w' => e = .returned (.bool (ordB n F m)) ∧ Below w.heap.size w w' := by
  go_enter Tryz.func21, Tryz.ntmps21
  go_wp2
  go_loopw [5] (fun i wr => ∃ j : Nat, j ≤ n ∧ i = .int .i64 j ∧ Below w.heap.size w wr ∧ ∀ a, a < j → (∀ k, k < a → F a ≠ F k) ∧ inB (F a) 0 (m - 1) = true) (fun i _ => n - (intOf i).toNat)
  case atStart => exact ⟨0, Nat.zero_le _, rfl, Below.refl _ _, fun _ h => absurd h (Nat.not_lt_zero _)⟩
  case round =>
    obtain ⟨i, hi, rfl, hbl, hall⟩ := hrel
    by_cases hlt : i < n
    · have hlt' : (i : Int) < n := by omega
      have hi0 : (0 : Int) ≤ (i : Int) := Int.natCast_nonneg _
      go_wp2
      go_loopw [6] (fun i' wr => ∃ k : Nat, k ≤ i ∧ i' = .int .i64 k ∧ Below w.heap.size w wr ∧ ∀ k', k' < k → F i ≠ F k') (fun i' _ => i - (intOf i').toNat)
      case atStart => exact ⟨0, Nat.zero_le _, rfl, hbl, fun _ h => absurd h (Nat.not_lt_zero _)⟩
      case round =>
        obtain ⟨k, hk, rfl, hbk, hne⟩ := hrel
        have d0 := (hbk.cell (p := ⟨b, off + i, none⟩) hb).trans (hp i hlt)
        by_cases hlk : k < i
        · have hlk' : (k : Int) < i := by omega
          have hkn : (k : Int) < n := by omega
          have hk0 : (0 : Int) ≤ (k : Int) := Int.natCast_nonneg _
          have d1 := (hbk.cell (p := ⟨b, off + k, none⟩) hb).trans (hp k (by omega))
          by_cases he : F i = F k
          · go_wp2
            go_quiet (fail)
            have hb3 : Below w.heap.size w (wr.drewN nq) := ⟨hbk.os, hbk.tape, hbk.output, hbk.size, hbk.block⟩
            go_wp2
            go_ret
            exact ⟨ret_bool (ordB_dup hlt hlk he).symm, hb3⟩
          · go_wp2
            go_quiet (fail)
            have hb3 : Below w.heap.size w (wr.drewN nq) := ⟨hbk.os, hbk.tape, hbk.output, hbk.size, hbk.block⟩
            go_wp2
            go_roundw
            case rel => exact ⟨k + 1, by omega, by go_num, hb3, all_succ (p := fun k' => F i ≠ F k') hne he⟩
            case measure => simp [intOf]; omega
        · obtain rfl : i = k := by omega
          cases hin : inB (F i) 0 (m - 1) with
          | true =>
            go_wp2_with (go_at_call 38; refine (in_any _ _ _ _).mono ?_; rw [hin]; rintro e w' ⟨rfl, rfl⟩)
            go_roundw
            case rel => exact ⟨i + 1, by omega, by go_num, hbk, all_succ (p := fun a => (∀ k, k < a → F a ≠ F k) ∧ inB (F a) 0 (m - 1) = true) hall ⟨hne, hin⟩⟩
            case measure => simp [intOf]; omega
          | false =>
            go_wp2_with (go_at_call 38; refine (in_any _ _ _ _).mono ?_; rw [hin]; rintro e w' ⟨rfl, rfl⟩)
            go_ret
            exact ⟨ret_bool (ordB_out hlt hin).symm, hbk⟩
    · obtain rfl : n = i := by omega
      go_wp2
      go_ret
      exact ⟨ret_bool (ordB_end hall).symm, hbl⟩
set_option maxRecDepth 100000 in
set_option maxHeartbeats 2000000 in
theorem before_any (b1 o1 n c1 b2 o2 c2 : Nat) (q p : List Nat) (w : World) (hn : n ≤ 1000) (h1 : OrdAt w b1 o1 n q) (h2 : OrdAt w b2 o2 n p) (l1 : b1 < w.heap.size) (l2 : b2 < w.heap.size) :
    Calls Tryz.prog 23 #[.slice (some ⟨b1, o1, none⟩) n c1, .slice (some ⟨b2, o2, none⟩) n c2] w fun e w' => e = .returned (.bool (befF q p 0 n)) ∧ Below w.heap.size w w' := by
  go_enter Tryz.func23, Tryz.ntmps23
  go_wp2
  go_loopw [5] (fun i wr => ∃ k : Nat, k ≤ n ∧ i = .int .i64 k ∧ Below w.heap.size w wr ∧ befF q p 0 n = befF q p k (n - k)) (fun i _ => n - (intOf i).toNat)
  case atStart => exact ⟨0, Nat.zero_le _, rfl, Below.refl _ _, rfl⟩
  case round =>
    obtain ⟨k, hk, rfl, hbl, hbe⟩ := hrel
    by_cases hlt : k < n
    · have hlt' : (k : Int) < n := by omega
      have hk0 : (0 : Int) ≤ (k : Int) := Int.natCast_nonneg _
      have d0 := (hbl.cell (p := ⟨b1, o1 + k, none⟩) l1).trans (h1 k hlt)
      have d1 := (hbl.cell (p := ⟨b2, o2 + k, none⟩) l2).trans (h2 k hlt)
      by_cases he : q.getD k 0 = p.getD k 0
      · rw [befF_same hlt he] at hbe
        generalize q.getD k 0 = x at d0 he
        generalize p.getD k 0 = y at d1 he
        subst he
        go_wp2
        go_quiet (fail)
        have hb3 : Below w.heap.size w (wr.drewN nq) := ⟨hbl.os, hbl.tape, hbl.output, hbl.size, hbl.block⟩
        go_wp2
        go_roundw
        case rel => exact ⟨k + 1, by omega, by go_num, hb3, hbe⟩
        case measure => simp [intOf]; omega
      · rw [befF_part hlt he] at hbe
        rw [hbe]
        generalize q.getD k 0 = x at *
        generalize p.getD k 0 = y at *
        have hxy : ¬ ((x : Int) = (y : Int)) := by omega
        go_wp2
        go_quiet (fail)
        have hb3 : Below w.heap.size w (wr.drewN nq) := ⟨hbl.os, hbl.tape, hbl.output, hbl.size, hbl.block⟩
        have d2 : (wr.drewN nq).cell? ⟨b1, o1 + k, none⟩ = some (.int .i64 x) := d0
        have d3 : (wr.drewN nq).cell? ⟨b2, o2 + k, none⟩ = some (.int .i64 y) := d1
        generalize wr.drewN nq = wr2 at *
        go_wp2
        go_quiet (fail)
        rename_i nq2
        go_wp2
        go_ret
        have hfin : decide ((x : Int) < (y : Int)) = decide (x < y) := decide_eq_decide.2 (by omega)
        exact ⟨ret_bool hbe.symm, ⟨hb3.os, hb3.tape, hb3.output, hb3.size, hb3.block⟩⟩
    · obtain rfl : n = k := by omega
      go_wp2
      go_ret
      refine ⟨?_, hbl⟩
      rw [hbe, Nat.sub_self]; rfl
set_option maxRecDepth 100000 in
set_option maxHeartbeats 2000000 in
theorem agrees_any (pb po pc n t ob oo oc hb ho hc : Nat) (q : List Nat) (HX HY PX PY : Nat → Int) (r : Int) (w : World) (ht : t < 8) (h2 : 2 ≤ n) (hn : n ≤ 4) (hr0 : 0 ≤ r) (hr1 : r ≤ 500)
    (hP : Pts w pb po n PX PY) (hH : Pts w hb ho n HX HY) (hO : OrdAt w ob oo n q) (lp : pb < w.heap.size) (lh : hb < w.heap.size) (lo : ob < w.heap.size)
    (hq : ∀ i, i < n → q.getD i 0 < n) (ha : arB n 0 PX PY 80 = true) (hsH : ∀ i, i < n → small (HX i, HY i)) :
    Calls Tryz.prog 22 #[.slice (some ⟨pb, po, none⟩) n pc, .int .i64 t, .slice (some ⟨ob, oo, none⟩) n oc, .slice (some ⟨hb, ho, none⟩) n hc, .int .i64 r] w fun e w' => e = .returned (.bool (agQ (fitB HX HY PX PY r t) n q)) ∧ Below w.heap.size w w' := by
  have hag : ∀ (W : World), Below w.heap.size w W → Calls Tryz.prog 14 #[.slice (some ⟨pb, po, none⟩) n pc, .int .i64 t, .int .i64 1] W fun e w' => ∃ v', e = .returned v' ∧ PSl w' v' n (fun i => (trn t (PX i, PY i)).1) (fun i => (trn t (PX i, PY i)).2) ∧ Below W.heap.size W w' := fun W hb => by
    exact again_any (.slice (some ⟨pb, po, none⟩) n pc) n t 1 PX PY W ht (by omega) (by omega) (.inr ⟨pb, po, pc, rfl, Nat.lt_of_lt_of_le lp hb.size, hP.below hb lp⟩) ha
  have hB := Below.refl w.heap.size w
  go_enter Tryz.func22, Tryz.ntmps22
  go_wp2_with (go_at_call 14; with_reducible refine (hag _ hB).mono ?_; rintro e wA ⟨vx, rfl, hx, hbA⟩; obtain ⟨bx, ox, cx, rfl, lx, px⟩ := PSl_pos hx (by omega))
  go_loopw [12] (fun i wr => ∃ k : Nat, k ≤ n ∧ i = .int .i64 k ∧ Below wA.heap.size wA wr ∧ ∀ m, m < k → fitB HX HY PX PY r t m (q.getD m 0) = true) (fun i _ => n - (intOf i).toNat)
  case atStart => exact ⟨0, Nat.zero_le _, rfl, Below.refl _ _, fun _ h => absurd h (Nat.not_lt_zero _)⟩
  case round =>
    obtain ⟨i, hi, rfl, hbl, hall⟩ := hrel
    have hzl := hbl.size
    have hbw := hbA.trans (hbl.mono hbA.size)
    by_cases hlt : i < n
    · obtain ⟨d1, d2⟩ := (hH.below hbw lh) i hlt
      obtain ⟨d3, d4⟩ := (px.below hbl lx) (q.getD i 0) (hq i hlt)
      have d5 := (hO.below hbw lo) i hlt
      have g1 : hb < wr.heap.size := Nat.lt_of_lt_of_le lh hbw.size
      have g2 : bx < wr.heap.size := Nat.lt_of_lt_of_le lx hbl.size
      have g3 : ob < wr.heap.size := Nat.lt_of_lt_of_le lo hbw.size
      obtain ⟨⟨s1, s2⟩, s3, s4⟩ := hsH i hlt
      obtain ⟨⟨v1, v2⟩, v3, v4⟩ := trn_small (t := t) (arB_smalls ha (q.getD i 0) (hq i hlt))
      have hqi := hq i hlt
      generalize hj : q.getD i 0 = j at *
      dsimp only at s1 s2 s3 s4 d3 d4
      have hfit : fitB HX HY PX PY r t i j = nearB (HX i) (HY i) (trn t (PX j, PY j)).1 (trn t (PX j, PY j)).2 r := rfl
      generalize hqx : (trn t (PX j, PY j)).1 = qx at *
      generalize hqy : (trn t (PX j, PY j)).2 = qy at *
      have hi0 : (0 : Int) ≤ (i : Int) := Int.natCast_nonneg _
      have hi1 : (i : Int) < (n : Int) := by omega
      have hj0 : (0 : Int) ≤ (j : Int) := Int.natCast_nonneg _
      have hj1 : (j : Int) < (n : Int) := by omega
      go_wp2_with fail
      go_region_held3 (fun w' => w'.cell? ⟨ob, oo + i, none⟩ = some (.int .i64 j) ∧ w'.cell? ⟨bx, ox + j * 2, none⟩ = some (.int .i64 qx) ∧ w'.cell? ⟨bx, ox + j * 2 + 1, none⟩ = some (.int .i64 qy) ∧ w'.cell? ⟨hb, ho + i * 2, none⟩ = some (.int .i64 (HX i)) ∧ w'.cell? ⟨hb, ho + i * 2 + 1, none⟩ = some (.int .i64 (HY i)))
        (go_keep) (fail)
      all_goals
        by_cases e1 : r < qx - HX i
        · have hv : nearB (HX i) (HY i) qx qy r = false := nearB_no (inB_no2 (by omega))
          rw [hv] at hfit
          go_wp2
          go_ret
          exact ⟨ret_bool (agQ_no hlt (by rw [hj]; exact hfit)).symm, hbw.trans (((((Below.refl _ _).alloc (Nat.le_refl _) _).alloc (by simp) _).drew).mono hbw.size)⟩
        · by_cases e2 : r < HX i - qx
          · have hv : nearB (HX i) (HY i) qx qy r = false := nearB_no (inB_no1 (by omega))
            rw [hv] at hfit
            go_wp2
            go_ret
            exact ⟨ret_bool (agQ_no hlt (by rw [hj]; exact hfit)).symm, hbw.trans (((((Below.refl _ _).alloc (Nat.le_refl _) _).alloc (by simp) _).drew).mono hbw.size)⟩
          · have hvx : inB qx (HX i - r) (HX i + r) = true := inB_yes (by omega) (by omega)
            by_cases e3 : r < qy - HY i
            · have hv : nearB (HX i) (HY i) qx qy r = false := (nearB_yes hvx).trans (inB_no2 (by omega))
              rw [hv] at hfit
              go_wp2
              go_ret
              exact ⟨ret_bool (agQ_no hlt (by rw [hj]; exact hfit)).symm, hbw.trans (((((Below.refl _ _).alloc (Nat.le_refl _) _).alloc (by simp) _).drew).mono hbw.size)⟩
            · by_cases e4 : r < HY i - qy
              · have hv : nearB (HX i) (HY i) qx qy r = false := (nearB_yes hvx).trans (inB_no1 (by omega))
                rw [hv] at hfit
                go_wp2
                go_ret
                exact ⟨ret_bool (agQ_no hlt (by rw [hj]; exact hfit)).symm, hbw.trans (((((Below.refl _ _).alloc (Nat.le_refl _) _).alloc (by simp) _).drew).mono hbw.size)⟩
              · have hv : nearB (HX i) (HY i) qx qy r = true := (nearB_yes hvx).trans (inB_yes (by omega) (by omega))
                rw [hv] at hfit
                go_wp2
                go_roundw
                case rel => exact ⟨i + 1, by omega, by go_num, hbl.trans (((((Below.refl _ _).alloc (Nat.le_refl _) _).alloc (by simp) _).drew).mono hbl.size), all_succ (p := fun m => fitB HX HY PX PY r t m (q.getD m 0) = true) hall (by rw [hj]; exact hfit)⟩
                case measure => simp [intOf]; omega
    · obtain rfl : n = i := by omega
      go_wp2
      go_ret
      exact ⟨ret_bool (agQ_yes hall).symm, hbw⟩
end Go.Proofs.YtdilcbocnndkmaaGreatDoor
