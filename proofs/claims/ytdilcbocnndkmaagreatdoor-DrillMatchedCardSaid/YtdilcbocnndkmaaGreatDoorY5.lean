/- A part of the proof: see the last file. -/
import Derived.Test.YtdilcbocnndkmaaGreatDoorY4
set_option linter.unusedVariables false
set_option linter.unusedSimpArgs false
set_option linter.unusedSectionVars false
namespace Go.Proofs.YtdilcbocnndkmaaGreatDoor
open Go.RowKit Go.Can
set_option maxRecDepth 100000 in
set_option maxHeartbeats 2000000 in
theorem rmatch_any (pb po pc n hb ho hc : Nat) (HX HY PX PY : Nat → Int) (r : Int) (w : World) (h2 : 2 ≤ n) (hn : n ≤ 4) (hr0 : 0 ≤ r) (hr1 : r ≤ 500) (hk : KG w)
    (hP : Pts w pb po n PX PY) (hH : Pts w hb ho n HX HY) (lp : pb < w.heap.size) (lh : hb < w.heap.size)
    (hsP : ∀ i, i < n → small (PX i, PY i)) (hsH : ∀ i, i < n → small (HX i, HY i)) :
    Calls Tryz.prog 19 #[.agg #[.slice (some ⟨hb, ho, none⟩) n hc, .int .i64 r], .slice (some ⟨pb, po, none⟩) n pc] w fun e w' => Below w.heap.size w w' ∧
      ((matchS n HX HY PX PY r = none ∧ e = .returned (.tuple #[.int .i64 (-1), .slice none 0 0])) ∨
       (∃ t q v, matchS n HX HY PX PY r = some (t, q) ∧ t < 8 ∧ q ∈ ords n ∧ e = .returned (.tuple #[.int .i64 t, v]) ∧ SlI w' v (q.map Int.ofNat))) := by
  obtain ⟨w0, hw⟩ : ∃ w0, w.alloc (.cells #[.slice (some ⟨hb, ho, none⟩) n hc, .int .i64 r] 24) = w0 := ⟨_, rfl⟩
  have hw0 : Below w.heap.size w w0 := by rw [← hw]; exact (Below.refl _ _).alloc (Nat.le_refl _) _
  have c0 : w0.cell? ⟨w.heap.size, 0, none⟩ = some (.slice (some ⟨hb, ho, none⟩) n hc) := by rw [← hw]; have := cells_two w (.slice (some ⟨hb, ho, none⟩) n hc) (.int .i64 r) 24 0 _ rfl; simp [Addr.add]
  have c1 : w0.cell? ⟨w.heap.size, 1, none⟩ = some (.int .i64 r) := by rw [← hw]; have := cells_two w (.slice (some ⟨hb, ho, none⟩) n hc) (.int .i64 r) 24 1 _ rfl; simp [Addr.add]
  have hsz : w0.heap.size = w.heap.size + 1 := by rw [← hw]; exact World.size_alloc _ _
  have hk0 := hk.below hw0
  go_enter Tryz.func19, Tryz.ntmps19
  go_wp2_with (first | (go_at_call 58; refine (rorders_any n h2 hn _ hk0).mono ?_; rintro e w1 ⟨v, rfl, hv, hb1⟩))
  obtain ⟨lb, lo, lc, rfl, ll, hL⟩ := hv
  have hlen : (ordI n).length = (ords n).length := by unfold ordI; rw [List.length_map]
  have hL' : ∀ i (h : i < (ords n).length), ∃ u, w1.cell? ⟨lb, lo + i, none⟩ = some u ∧ SlI w1 u (((ords n)[i]).map Int.ofNat) := fun i h => by
    obtain ⟨u, g1, g2⟩ := hL i (by omega)
    refine ⟨u, g1, ?_⟩
    have : (ordI n)[i]'(by omega) = ((ords n)[i]).map Int.ofNat := by simp [ordI]
    rw [← this]; exact g2
  have hLn : (ords n).length ≤ 24 := by
    obtain rfl | rfl | rfl : n = 2 ∨ n = 3 ∨ n = 4 := by omega
    · rw [ords2]; decide
    · rw [ords3]; decide
    · rw [ords4]; decide
  have hperm := ords_perm h2 hn
  rw [hlen]
  have hb01 : Below w.heap.size w w1 := hw0.trans (hb1.mono (by omega))
  generalize hLL : ords n = L at *
  have hfind : ∀ t, firstC (fitB HX HY PX PY r t) n n [] = L.find? (agQ (fitB HX HY PX PY r t) n) := fun t => by rw [firstC_ords, hLL]
  go_loopw [7] (fun i wr => ∃ t : Nat, t ≤ 8 ∧ i = .int .i64 t ∧ Below w1.heap.size w1 wr ∧ matchS n HX HY PX PY r = scanP (fun t => firstC (fitB HX HY PX PY r t) n n []) t (8 - t)) (fun i _ => 8 - (intOf i).toNat)
  case atStart => exact ⟨0, by omega, rfl, Below.refl _ _, rfl⟩
  case round =>
    obtain ⟨t, ht, rfl, hbl, hsc⟩ := hrel
    have hzl := hbl.size
    have hz1 := hb1.size
    by_cases hlt : t < 8
    · have hlt' : (t : Int) < 8 := by omega
      go_wp2
      go_loopw [8] (fun i wr => ∃ k : Nat, k ≤ L.length ∧ i = .int .i64 k ∧ Below w1.heap.size w1 wr ∧ ∀ j, j < k → ∀ h : j < L.length, agQ (fitB HX HY PX PY r t) n L[j] = false) (fun i _ => L.length - (intOf i).toNat)
      case atStart => exact ⟨0, Nat.zero_le _, rfl, hbl, fun j hj => absurd hj (Nat.not_lt_zero _)⟩
      case round =>
        obtain ⟨k, hkl, rfl, hbk, hno⟩ := hrel
        have hzk := hbk.size
        have d0 := (hbk.cell (p := ⟨w.heap.size, 0, none⟩) (by show w.heap.size < _; omega)).trans ((hb1.cell (p := ⟨w.heap.size, 0, none⟩) (by show w.heap.size < _; omega)).trans c0)
        have d1 := (hbk.cell (p := ⟨w.heap.size, 1, none⟩) (by show w.heap.size < _; omega)).trans ((hb1.cell (p := ⟨w.heap.size, 1, none⟩) (by show w.heap.size < _; omega)).trans c1)
        by_cases hlk : k < L.length
        · obtain ⟨u, e1, e2⟩ := hL' k hlk
          have e1k := (hbk.cell (p := ⟨lb, lo + k, none⟩) ll).trans e1
          have e2k := e2.below hbk
          obtain ⟨p1, p2⟩ := hperm _ (List.getElem_mem hlk)
          obtain ⟨ob, oo, oc, rfl, g0, g1, g2⟩ := SlI_ord e2k
          rw [p1] at g0 g2
          rw [p1] at e1k
          have hk0 : (0 : Int) ≤ (k : Int) := Int.natCast_nonneg _
          have hk1 : (k : Int) < (L.length : Int) := by omega
          have hww : Below w.heap.size w wr := hb01.trans (hbk.mono hb01.size)
          have hag := fun (W : World) (hbW : Below wr.heap.size wr W) => ragrees_any pb po pc n t ob oo oc hb ho hc L[k] HX HY PX PY r W hlt (by omega) hr0 hr1 ((hP.below hww lp).below hbW (by omega)) ((hH.below hww lh).below hbW (by omega)) (g2.below hbW (by omega)) (Nat.lt_of_lt_of_le lp (Nat.le_trans hww.size hbW.size)) (Nat.lt_of_lt_of_le lh (Nat.le_trans hww.size hbW.size)) (Nat.lt_of_lt_of_le g1 hbW.size) p2 hsP hsH
          cases hv : agQ (fitB HX HY PX PY r t) n L[k] with
          | true =>
            rw [hv] at hag
            go_wp2_with fail
            go_region_held3 (fun w' => w'.cell? ⟨lb, lo + k, none⟩ = some (.slice (some ⟨ob, oo, none⟩) n oc) ∧ w'.cell? ⟨w.heap.size, 0, none⟩ = some (.slice (some ⟨hb, ho, none⟩) n hc) ∧ w'.cell? ⟨w.heap.size, 1, none⟩ = some (.int .i64 r))
              (first
                | (go_keep; done)
                | (go_split_ands
                   refine ⟨?_, ?_, ?_⟩ <;> (rw [hbb.cell (by first | omega | (simp; omega) | simp)]; assumption)))
              (first
                | (go_at_call 59; refine (hag _ ((Below.refl _ _).drew)).mono ?_; rintro e w' ⟨rfl, hbb⟩; have hs := hbb.size; try simp only [World.size_drew] at hs))
            have hbw : Below w1.heap.size w1 w' := hbk.trans (((Below.refl wr.heap.size wr).drew.trans (hbb.mono (by simp))).mono hzk)
            have e1w := (hbw.cell (p := ⟨lb, lo + k, none⟩) ll).trans e1
            rw [p1] at e1w
            go_wp2_with fail
            go_region_held3 (fun w' => w'.cell? ⟨lb, lo + k, none⟩ = some (.slice (some ⟨ob, oo, none⟩) n oc)) (go_keep) (fail)
            go_wp2
            refine bodyPost_ret (v := .tuple #[.int .i64 t, .slice (some ⟨ob, oo, none⟩) n oc]) (by simp [results, Tryz.results19, go_sem]) rfl ⟨hb01.trans ((hbw.mono hb01.size).drew), .inr ⟨t, L[k], _, ?_, hlt, by rw [hLL]; exact List.getElem_mem hlk, rfl, ?_⟩⟩
            · rw [hsc]
              exact scanP_yes hlt (by rw [hfind]; exact find_at hlk hno hv)
            · rw [p1] at e2
              exact e2.below (hbw.drew)
          | false =>
            rw [hv] at hag
            go_wp2_with fail
            go_region_held3 (fun w' => w'.cell? ⟨lb, lo + k, none⟩ = some (.slice (some ⟨ob, oo, none⟩) n oc) ∧ w'.cell? ⟨w.heap.size, 0, none⟩ = some (.slice (some ⟨hb, ho, none⟩) n hc) ∧ w'.cell? ⟨w.heap.size, 1, none⟩ = some (.int .i64 r))
              (first
                | (go_keep; done)
                | (go_split_ands
                   refine ⟨?_, ?_, ?_⟩ <;> (rw [hbb.cell (by first | omega | (simp; omega) | simp)]; assumption)))
              (first
                | (go_at_call 59; refine (hag _ ((Below.refl _ _).drew)).mono ?_; rintro e w' ⟨rfl, hbb⟩; have hs := hbb.size; try simp only [World.size_drew] at hs))
            have hbw : Below w1.heap.size w1 w' := hbk.trans (((Below.refl wr.heap.size wr).drew.trans (hbb.mono (by simp))).mono hzk)
            go_wp2
            go_roundw
            case rel =>
              refine ⟨k + 1, by omega, by go_num, hbw, fun j hj h => ?_⟩
              rcases Nat.lt_succ_iff_lt_or_eq.1 hj with h1 | rfl
              · exact hno j h1 h
              · exact hv
            case measure => simp [intOf]; omega
        · obtain rfl : L.length = k := by omega
          go_wp2
          go_roundw
          case rel =>
            refine ⟨t + 1, by omega, by go_num, hbk, ?_⟩
            rw [hsc]
            exact scanP_no hlt (by rw [hfind]; exact find_no fun j hj h => hno j hj h)
          case measure => simp [intOf]; omega
    · obtain rfl : t = 8 := by omega
      go_wp2
      refine bodyPost_ret (v := .tuple #[.int .i64 (-1), .slice none 0 0]) (by simp [results, Tryz.results19, go_sem]) rfl ⟨hb01.trans (hbl.mono hb01.size), .inl ⟨hsc, rfl⟩⟩
end Go.Proofs.YtdilcbocnndkmaaGreatDoor
