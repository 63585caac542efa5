/- A part of the proof: see the last file. -/
import Derived.Test.YtmjmmokbaocboaaGreatDoorPbi
import Derived.Test.YtmjmmokbaocboaaGreatDoorPao
import Derived.Test.YtmjmmokbaocboaaGreatDoorPae
import Derived.Test.YtmjmmokbaocboaaGreatDoorPaa
import Derived.Test.YtmjmmokbaocboaaGreatDoorPaq
set_option linter.unusedVariables false
set_option linter.unusedSimpArgs false
set_option linter.unusedSectionVars false
namespace Go.Proofs.YtmjmmokbaocboaaGreatDoor
open Go.RowKit Go.Can
set_option maxRecDepth 100000 in
set_option maxHeartbeats 2000000 in
theorem rmatch_any (pb po pc n hb ho hc : Nat) (HX HY PX PY : Nat → Int) (r : Int) (w : World) (h2 : 2 ≤ n) (hn : n ≤ 4) (hr0 : 0 ≤ r) (hr1 : r ≤ 500) (hk : KG w)
    (hP : Pts w pb po n PX PY) (hH : Pts w hb ho n HX HY) (lp : pb < w.heap.size) (lh : hb < w.heap.size)
    (hsP : ∀ i, i < n → small (PX i, PY i)) (hsH : ∀ i, i < n → small (HX i, HY i)) :
    Calls Tryz.prog 54 #[.agg #[.slice (some ⟨hb, ho, none⟩) n hc, .int .i64 r], .slice (some ⟨pb, po, none⟩) n pc] w fun e w' => Below w.heap.size w w' ∧
      ((matchS n HX HY PX PY r = none ∧ e = .returned (.tuple #[.int .i64 (-1), .slice none 0 0])) ∨
       (∃ t q v, matchS n HX HY PX PY r = some (t, q) ∧ t < 8 ∧ q ∈ ords n ∧ e = .returned (.tuple #[.int .i64 t, v]) ∧ SlI w' v (q.map Int.ofNat))) := by
  obtain ⟨w0, hw⟩ : ∃ w0, w.alloc (.cells #[.slice (some ⟨hb, ho, none⟩) n hc, .int .i64 r] 24) = w0 := ⟨_, rfl⟩
  have hw0 : Below w.heap.size w w0 := by rw [← hw]; exact (Below.refl _ _).alloc (Nat.le_refl _) _
  have c0 : w0.cell? ⟨w.heap.size, 0, none⟩ = some (.slice (some ⟨hb, ho, none⟩) n hc) := by rw [← hw]; have := cells_two w (.slice (some ⟨hb, ho, none⟩) n hc) (.int .i64 r) 24 0 _ rfl; simp [Addr.add]
  have c1 : w0.cell? ⟨w.heap.size, 1, none⟩ = some (.int .i64 r) := by rw [← hw]; have := cells_two w (.slice (some ⟨hb, ho, none⟩) n hc) (.int .i64 r) 24 1 _ rfl; simp [Addr.add]
  have hsz : w0.heap.size = w.heap.size + 1 := by rw [← hw]; exact World.size_alloc _ _
  have hk0 := hk.below hw0
  go_enter Tryz.func54, Tryz.ntmps54
  go_wp2_with (first | (go_at_call 98; refine (rorders_any n h2 hn _ hk0).mono ?_; rintro e w1 ⟨v, rfl, hv, hb1⟩))
  obtain ⟨lb, lo, lc, rfl, ll, hL⟩ := hv
  have hlen : (ordI n).length = (ords n).length := by unfold ordI; rw [List.length_map]
  have hL' : ∀ i (h : i < (ords n).length), ∃ u, w1.cell? ⟨lb, lo + i, none⟩ = some u ∧ SlI w1 u (((ords n)[i]).map Int.ofNat) := fun i h => by
    obtain ⟨u, g1, g2⟩ := hL i (by omega)
    refine ⟨u, g1, ?_⟩
    have : (ordI n)[i]'(by omega) = ((ords n)[i]).map Int.ofNat := by simp [ordI]
    rw [← this]; exact g2
  have hLn : (ords n).length ≤ 24 := by
    obtain rfl | rfl | rfl : n = 2 ∨ n = 3 ∨ n = 4 := by omega
    · rw [ords2]; decide
    · rw [ords3]; decide
    · rw [ords4]; decide
  have hperm := ords_perm h2 hn
  rw [hlen]
  have hb01 : Below w.heap.size w w1 := hw0.trans (hb1.mono (by omega))
  generalize hLL : ords n = L at *
  have hfind : ∀ t, firstC (fitB HX HY PX PY r t) n n [] = L.find? (agQ (fitB HX HY PX PY r t) n) := fun t => by rw [firstC_ords, hLL]
  go_loopw [7] (fun i wr => ∃ t : Nat, t ≤ 8 ∧ i = .int .i64 t ∧ Below w1.heap.size w1 wr ∧ matchS n HX HY PX PY r = scanP (fun t => firstC (fitB HX HY PX PY r t) n n []) t (8 - t)) (fun i _ => 8 - (intOf i).toNat)
  case atStart => exact ⟨0, by omega, rfl, Below.refl _ _, rfl⟩
  case round =>
    obtain ⟨t, ht, rfl, hbl, hsc⟩ := hrel
    have hzl := hbl.size
    have hz1 := hb1.size
    by_cases hlt : t < 8
    · have hlt' : (t : Int) < 8 := by omega
      go_wp2
      go_loopw [8] (fun i wr => ∃ k : Nat, k ≤ L.length ∧ i = .int .i64 k ∧ Below w1.heap.size w1 wr ∧ ∀ j, j < k → ∀ h : j < L.length, agQ (fitB HX HY PX PY r t) n L[j] = false) (fun i _ => L.length - (intOf i).toNat)
      case atStart => exact ⟨0, Nat.zero_le _, rfl, hbl, fun j hj => absurd hj (Nat.not_lt_zero _)⟩
      case round =>
        obtain ⟨k, hkl, rfl, hbk, hno⟩ := hrel
        have hzk := hbk.size
        have d0 := (hbk.cell (p := ⟨w.heap.size, 0, none⟩) (by show w.heap.size < _; omega)).trans ((hb1.cell (p := ⟨w.heap.size, 0, none⟩) (by show w.heap.size < _; omega)).trans c0)
        have d1 := (hbk.cell (p := ⟨w.heap.size, 1, none⟩) (by show w.heap.size < _; omega)).trans ((hb1.cell (p := ⟨w.heap.size, 1, none⟩) (by show w.heap.size < _; omega)).trans c1)
        by_cases hlk : k < L.length
        · obtain ⟨u, e1, e2⟩ := hL' k hlk
          have e1k := (hbk.cell (p := ⟨lb, lo + k, none⟩) ll).trans e1
          have e2k := e2.below hbk
          obtain ⟨p1, p2⟩ := hperm _ (List.getElem_mem hlk)
          obtain ⟨ob, oo, oc, rfl, g0, g1, g2⟩ := SlI_ord e2k
          rw [p1] at g0 g2
          rw [p1] at e1k
          have hk0 : (0 : Int) ≤ (k : Int) := Int.natCast_nonneg _
          have hk1 : (k : Int) < (L.length : Int) := by omega
          have hww : Below w.heap.size w wr := hb01.trans (hbk.mono hb01.size)
          have hag := fun (W : World) (hbW : Below wr.heap.size wr W) => ragrees_any pb po pc n t ob oo oc hb ho hc L[k] HX HY PX PY r W hlt (by omega) hr0 hr1 ((hP.below hww lp).below hbW (by omega)) ((hH.below hww lh).below hbW (by omega)) (g2.below hbW (by omega)) (Nat.lt_of_lt_of_le lp (Nat.le_trans hww.size hbW.size)) (Nat.lt_of_lt_of_le lh (Nat.le_trans hww.size hbW.size)) (Nat.lt_of_lt_of_le g1 hbW.size) p2 hsP hsH
          cases hv : agQ (fitB HX HY PX PY r t) n L[k] with
          | true =>
            rw [hv] at hag
            go_wp2_with fail
            go_region_held3 (fun w' => w'.cell? ⟨lb, lo + k, none⟩ = some (.slice (some ⟨ob, oo, none⟩) n oc) ∧ w'.cell? ⟨w.heap.size, 0, none⟩ = some (.slice (some ⟨hb, ho, none⟩) n hc) ∧ w'.cell? ⟨w.heap.size, 1, none⟩ = some (.int .i64 r))
              (first
                | (go_keep; done)
                | (go_split_ands
                   refine ⟨?_, ?_, ?_⟩ <;> (rw [hbb.cell (by first | omega | (simp; omega) | simp)]; assumption)))
              (first
                | (go_at_call 99; refine (hag _ ((Below.refl _ _).drew)).mono ?_; rintro e w' ⟨rfl, hbb⟩; have hs := hbb.size; try simp only [World.size_drew] at hs))
            have hbw : Below w1.heap.size w1 w' := hbk.trans (((Below.refl wr.heap.size wr).drew.trans (hbb.mono (by simp))).mono hzk)
            have e1w := (hbw.cell (p := ⟨lb, lo + k, none⟩) ll).trans e1
            rw [p1] at e1w
            go_wp2_with fail
            go_region_held3 (fun w' => w'.cell? ⟨lb, lo + k, none⟩ = some (.slice (some ⟨ob, oo, none⟩) n oc)) (go_keep) (fail)
            go_wp2
            refine bodyPost_ret (v := .tuple #[.int .i64 t, .slice (some ⟨ob, oo, none⟩) n oc]) (by simp [results, Tryz.results54, go_sem]) rfl ⟨hb01.trans ((hbw.mono hb01.size).drew), .inr ⟨t, L[k], _, ?_, hlt, by rw [hLL]; exact List.getElem_mem hlk, rfl, ?_⟩⟩
            · rw [hsc]
              exact scanP_yes hlt (by rw [hfind]; exact find_at hlk hno hv)
            · rw [p1] at e2
              exact e2.below (hbw.drew)
          | false =>
            rw [hv] at hag
            go_wp2_with fail
            go_region_held3 (fun w' => w'.cell? ⟨lb, lo + k, none⟩ = some (.slice (some ⟨ob, oo, none⟩) n oc) ∧ w'.cell? ⟨w.heap.size, 0, none⟩ = some (.slice (some ⟨hb, ho, none⟩) n hc) ∧ w'.cell? ⟨w.heap.size, 1, none⟩ = some (.int .i64 r))
              (first
                | (go_keep; done)
                | (go_split_ands
                   refine ⟨?_, ?_, ?_⟩ <;> (rw [hbb.cell (by first | omega | (simp; omega) | simp)]; assumption)))
              (first
                | (go_at_call 99; refine (hag _ ((Below.refl _ _).drew)).mono ?_; rintro e w' ⟨rfl, hbb⟩; have hs := hbb.size; try simp only [World.size_drew] at hs))
            have hbw : Below w1.heap.size w1 w' := hbk.trans (((Below.refl wr.heap.size wr).drew.trans (hbb.mono (by simp))).mono hzk)
            go_wp2
            go_roundw
            case rel =>
              refine ⟨k + 1, by omega, by go_num, hbw, fun j hj h => ?_⟩
              rcases Nat.lt_succ_iff_lt_or_eq.1 hj with h1 | rfl
              · exact hno j h1 h
              · exact hv
            case measure => simp [intOf]; omega
        · obtain rfl : L.length = k := by omega
          go_wp2
          go_roundw
          case rel =>
            refine ⟨t + 1, by omega, by go_num, hbk, ?_⟩
            rw [hsc]
            exact scanP_no hlt (by rw [hfind]; exact find_no fun j hj h => hno j hj h)
          case measure => simp [intOf]; omega
    · obtain rfl : t = 8 := by omega
      go_wp2
      refine bodyPost_ret (v := .tuple #[.int .i64 (-1), .slice none 0 0]) (by simp [results, Tryz.results54, go_sem]) rfl ⟨hb01.trans (hbl.mono hb01.size), .inl ⟨hsc, rfl⟩⟩
end Go.Proofs.YtmjmmokbaocboaaGreatDoor
namespace Go.Proofs.YtmjmmokbaocboaaGreatDoor
open Go.RowKit Go.Can
set_option maxRecDepth 100000 in
set_option maxHeartbeats 400000 in
theorem measure_nil (a : Option Addr) (c : Nat) (X Y : Nat → Int) (r : Int) (w : World) :
    Calls Tryz.prog 16 #[.agg #[.slice a 0 c, .int .i64 r]] w fun e w' => e = .returned (.bool (measB 0 X Y r)) ∧ Below w.heap.size w w' := by
  obtain ⟨w0, hw⟩ : ∃ w0, w.alloc (.cells #[.slice a 0 c, .int .i64 r] 24) = w0 := ⟨_, rfl⟩
  have hw0 : Below w.heap.size w w0 := by rw [← hw]; exact (Below.refl _ _).alloc (Nat.le_refl _) _
  have c0 : w0.cell? ⟨w.heap.size, 0, none⟩ = some (.slice a 0 c) := by rw [← hw]; have := cells_two w (.slice a 0 c) (.int .i64 r) 24 0 _ rfl; simp [Addr.add]
  have hpn : ponB 0 2 4 X Y 20 = false := by unfold ponB; rw [show inB ((0 : Nat) : Int) 2 4 = false from inB_no1 (by decide)]; simp
  have hm : measB 0 X Y r = false := by unfold measB; rw [hpn]; simp
  rw [hm]
  go_enter Tryz.func16, Tryz.ntmps16
  go_wp2
  refine wp_loop_rounds 1 ?_
  rw [rounds_succ]
  go_wp2_with (go_at_call 56; refine (points_nil a c 2 4 X Y 20 _).mono ?_; rw [hpn]; rintro e w' ⟨rfl, rfl⟩)
  go_ret
  exact ⟨rfl, hw0⟩
theorem measure_any (v : Value) (n : Nat) (X Y : Nat → Int) (r : Int) (w : World) (hn : n ≤ 1000) (hp : PSl w v n X Y) :
    Calls Tryz.prog 16 #[.agg #[v, .int .i64 r]] w fun e w' => e = .returned (.bool (measB n X Y r)) ∧ Below w.heap.size w w' := by
  rcases hp with ⟨a, c, rfl, rfl⟩ | ⟨b, off, cap, rfl, hb, hp⟩
  · exact measure_nil a c X Y r w
  · exact measure_some b off n cap X Y r w hn hp hb
/-! ### Match, case by case -/
theorem PSl_pos {w : World} {v : Value} {n : Nat} {X Y : Nat → Int} (h : PSl w v n X Y) (hn : 1 ≤ n) : ∃ b off cap, v = .slice (some ⟨b, off, none⟩) n cap ∧ b < w.heap.size ∧ Pts w b off n X Y := by
  rcases h with ⟨a, c, _, h2⟩ | h
  · omega
  · exact h
theorem arB_smalls {n : Nat} {X Y : Nat → Int} (h : arB n 0 X Y 80 = true) : ∀ i, i < n → small (X i, Y i) := fun i hi => arB_small h i hi
end Go.Proofs.YtmjmmokbaocboaaGreatDoor
namespace Go.Proofs.YtmjmmokbaocboaaGreatDoor
open Go.RowKit
set_option maxRecDepth 100000 in
set_option maxHeartbeats 2000000 in
theorem held_any (a1 : Option Addr) (n c1 : Nat) (r : Int) (HX HY : Nat → Int) (m : Mach) (k f : Int) (w : World) (hn : n ≤ 6) (hs : m.sn ≤ 6) (hr : m.rn ≤ 6) (hp : PSl w (.slice a1 n c1) n HX HY) (h : MIn w m) (er : Int) (hA : Able m ((measB n HX HY r && decide (n = m.sn)) && inB k f 12) er) :
    Calls Tryz.prog 11 #[.agg #[.slice a1 n c1, .int .i64 r], m.val, .int .i64 k, .int .i64 f] w fun e w' => e = .returned (.int .i64 er) ∧ Below w.heap.size w w' := by
  have hme := fun (W : World) (hB : Below w.heap.size w W) => measure_any (.slice a1 n c1) n HX HY r W (by omega) (hp.below hB)
  have hma := fun (W : World) (hB : Below w.heap.size w W) => rmachine_any m W (by omega) (by omega) (h.below hB)
  have hbl := fun (W : World) => rblank_any k f W
  have hab0 := fun (er : Int) (hA : Able m true er) (W : World) (hB : Below w.heap.size w W) => able_any m er hA W (by omega) (by omega) (h.below hB)
  have hargs : ∀ x : Bool, ((measB n HX HY r && decide (n = m.sn)) && inB k f 12) = x → Able m x er := fun x hx => hx ▸ hA
  have hok : ∀ x : Bool, Able m x er → x = false ∨ m.ok = false → er = 2 := fun x hx hh => hx.arg (by
    rcases hh with hh | hh
    · rw [hh]; simp
    · rw [hh]; rfl)
  obtain ⟨W0, hW0⟩ : ∃ W0, (w.alloc (Obj.cells #[.slice a1 n c1, .int .i64 r] 24)).alloc (.cells #[.slice m.sa m.sn m.sc, .int .i64 m.c0, .int .i64 m.c1, .int .i64 m.d0, .int .i64 m.d1, .int .i64 m.w0, .int .i64 m.w1, .int .i64 m.v0, .int .i64 m.v1, .slice m.ra m.rn m.rc] 29) = W0 := ⟨_, rfl⟩
  have hX : PLift (SX w W0 m (.slice a1 n c1) r) := ⟨by rw [← hW0]; exact SX.new w m _ r⟩
  have z0 := hX.down.c0
  have z1 := hX.down.c1
  obtain ⟨y0', y1', y2', y3', y4', y5', y6', y7', y8', y9'⟩ := hX.down.mach
  generalize hg1 : measB n HX HY r = x1 at *
  generalize hg3 : inB k f 12 = x3 at *
  cases x1
  · obtain rfl : er = 2 := hok _ (hargs false (by simp)) (.inl rfl)
    clear hargs hok hA hab0
    have hab := hX
    go_enter Tryz.func11, Tryz.ntmps11
    go_wp2_with (first
      | (go_at_call 16; with_reducible refine (hme _ hX.down.old).mono ?_; rintro e w1 ⟨rfl, hb⟩; replace hX : PLift (SX w w1 m (.slice a1 n c1) r) := ⟨hX.down.below hb⟩; have z0 := hX.down.c0; have z1 := hX.down.c1; obtain ⟨y0', y1', y2', y3', y4', y5', y6', y7', y8', y9'⟩ := hX.down.mach; clear hb)
      | (go_at_call 17; with_reducible refine (hma _ hX.down.old).mono ?_; rintro e w1 ⟨rfl, hb⟩; replace hX : PLift (SX w w1 m (.slice a1 n c1) r) := ⟨hX.down.below hb⟩; have z0 := hX.down.c0; have z1 := hX.down.c1; obtain ⟨y0', y1', y2', y3', y4', y5', y6', y7', y8', y9'⟩ := hX.down.mach; clear hb)
      | (go_at_call 19; with_reducible refine (hbl _).mono ?_; rintro e w1 ⟨rfl, rfl⟩)
      | (go_at_call 25; with_reducible refine (hab _ hX.down.old).mono ?_; rintro e w1 ⟨rfl, hb⟩; replace hX : PLift (SX w w1 m (.slice a1 n c1) r) := ⟨hX.down.below hb⟩; clear hb))
    go_ret
    exact ⟨rfl, hX.down.old⟩
  · cases hg2 : m.ok
    · obtain rfl : er = 2 := hok _ hA (.inr hg2)
      rw [hg2] at hma
      clear hargs hok hA hab0
      have hab := hX
      go_enter Tryz.func11, Tryz.ntmps11
      go_wp2_with (first
        | (go_at_call 16; with_reducible refine (hme _ hX.down.old).mono ?_; rintro e w1 ⟨rfl, hb⟩; replace hX : PLift (SX w w1 m (.slice a1 n c1) r) := ⟨hX.down.below hb⟩; have z0 := hX.down.c0; have z1 := hX.down.c1; obtain ⟨y0', y1', y2', y3', y4', y5', y6', y7', y8', y9'⟩ := hX.down.mach; clear hb)
        | (go_at_call 17; with_reducible refine (hma _ hX.down.old).mono ?_; rintro e w1 ⟨rfl, hb⟩; replace hX : PLift (SX w w1 m (.slice a1 n c1) r) := ⟨hX.down.below hb⟩; have z0 := hX.down.c0; have z1 := hX.down.c1; obtain ⟨y0', y1', y2', y3', y4', y5', y6', y7', y8', y9'⟩ := hX.down.mach; clear hb)
        | (go_at_call 19; with_reducible refine (hbl _).mono ?_; rintro e w1 ⟨rfl, rfl⟩)
        | (go_at_call 25; with_reducible refine (hab _ hX.down.old).mono ?_; rintro e w1 ⟨rfl, hb⟩; replace hX : PLift (SX w w1 m (.slice a1 n c1) r) := ⟨hX.down.below hb⟩; clear hb))
      go_ret
      exact ⟨rfl, hX.down.old⟩
    · rw [hg2] at hma
      by_cases hnn : n = m.sn
      · subst hnn
        cases x3
        · obtain rfl : er = 2 := hok _ (hargs false (by simp)) (.inl rfl)
          clear hargs hok hA hab0
          have hab := hX
          go_enter Tryz.func11, Tryz.ntmps11
          go_wp2_with (first
            | (go_at_call 16; with_reducible refine (hme _ hX.down.old).mono ?_; rintro e w1 ⟨rfl, hb⟩; replace hX : PLift (SX w w1 m (.slice a1 m.sn c1) r) := ⟨hX.down.below hb⟩; have z0 := hX.down.c0; have z1 := hX.down.c1; obtain ⟨y0', y1', y2', y3', y4', y5', y6', y7', y8', y9'⟩ := hX.down.mach; clear hb)
            | (go_at_call 17; with_reducible refine (hma _ hX.down.old).mono ?_; rintro e w1 ⟨rfl, hb⟩; replace hX : PLift (SX w w1 m (.slice a1 m.sn c1) r) := ⟨hX.down.below hb⟩; have z0 := hX.down.c0; have z1 := hX.down.c1; obtain ⟨y0', y1', y2', y3', y4', y5', y6', y7', y8', y9'⟩ := hX.down.mach; clear hb)
            | (go_at_call 19; with_reducible refine (hbl _).mono ?_; rintro e w1 ⟨rfl, rfl⟩)
            | (go_at_call 25; with_reducible refine (hab _ hX.down.old).mono ?_; rintro e w1 ⟨rfl, hb⟩; replace hX : PLift (SX w w1 m (.slice a1 m.sn c1) r) := ⟨hX.down.below hb⟩; clear hb))
          go_ret
          exact ⟨rfl, hX.down.old⟩
        · have hab := hab0 er (hargs true (by simp))
          clear hargs hok hA hab0
          go_enter Tryz.func11, Tryz.ntmps11
          go_wp2_with (first
            | (go_at_call 16; with_reducible refine (hme _ hX.down.old).mono ?_; rintro e w1 ⟨rfl, hb⟩; replace hX : PLift (SX w w1 m (.slice a1 m.sn c1) r) := ⟨hX.down.below hb⟩; have z0 := hX.down.c0; have z1 := hX.down.c1; obtain ⟨y0', y1', y2', y3', y4', y5', y6', y7', y8', y9'⟩ := hX.down.mach; clear hb)
            | (go_at_call 17; with_reducible refine (hma _ hX.down.old).mono ?_; rintro e w1 ⟨rfl, hb⟩; replace hX : PLift (SX w w1 m (.slice a1 m.sn c1) r) := ⟨hX.down.below hb⟩; have z0 := hX.down.c0; have z1 := hX.down.c1; obtain ⟨y0', y1', y2', y3', y4', y5', y6', y7', y8', y9'⟩ := hX.down.mach; clear hb)
            | (go_at_call 19; with_reducible refine (hbl _).mono ?_; rintro e w1 ⟨rfl, rfl⟩)
            | (go_at_call 25; with_reducible refine (hab _ hX.down.old).mono ?_; rintro e w1 ⟨rfl, hb⟩; replace hX : PLift (SX w w1 m (.slice a1 m.sn c1) r) := ⟨hX.down.below hb⟩; clear hb))
          go_ret
          exact ⟨rfl, hX.down.old⟩
      · obtain rfl : er = 2 := hok _ (hargs false (by simp [hnn])) (.inl rfl)
        have hni : ¬ (n : Int) = (m.sn : Int) := by omega
        clear hargs hok hA hab0
        have hab := hX
        go_enter Tryz.func11, Tryz.ntmps11
        go_wp2_with (first
          | (go_at_call 16; with_reducible refine (hme _ hX.down.old).mono ?_; rintro e w1 ⟨rfl, hb⟩; replace hX : PLift (SX w w1 m (.slice a1 n c1) r) := ⟨hX.down.below hb⟩; have z0 := hX.down.c0; have z1 := hX.down.c1; obtain ⟨y0', y1', y2', y3', y4', y5', y6', y7', y8', y9'⟩ := hX.down.mach; clear hb)
          | (go_at_call 17; with_reducible refine (hma _ hX.down.old).mono ?_; rintro e w1 ⟨rfl, hb⟩; replace hX : PLift (SX w w1 m (.slice a1 n c1) r) := ⟨hX.down.below hb⟩; have z0 := hX.down.c0; have z1 := hX.down.c1; obtain ⟨y0', y1', y2', y3', y4', y5', y6', y7', y8', y9'⟩ := hX.down.mach; clear hb)
          | (go_at_call 19; with_reducible refine (hbl _).mono ?_; rintro e w1 ⟨rfl, rfl⟩)
          | (go_at_call 25; with_reducible refine (hab _ hX.down.old).mono ?_; rintro e w1 ⟨rfl, hb⟩; replace hX : PLift (SX w w1 m (.slice a1 n c1) r) := ⟨hX.down.below hb⟩; clear hb))
        go_ret
        exact ⟨rfl, hX.down.old⟩
end Go.Proofs.YtmjmmokbaocboaaGreatDoor
namespace Go.Proofs.YtmjmmokbaocboaaGreatDoor
open Go.RowKit
set_option maxRecDepth 100000 in
set_option maxHeartbeats 4000000 in
theorem rmoved_some (b off n cap : Nat) (X Y : Nat → Int) (x y : Int) (w : World) (hn : n ≤ 1000) (hp : Pts w b off n X Y) (hb : b < w.heap.size) (hx : -80 ≤ x ∧ x ≤ 80) (hy : -80 ≤ y ∧ y ≤ 80) (hall : ∀ i, i < n → small (X i, Y i)) :
    Calls Tryz.prog 55 #[.slice (some ⟨b, off, none⟩) n cap, .int .i64 x, .int .i64 y] w fun e w' => ∃ v', e = .returned v' ∧ w'.ownsRow w.heap.size 74 2 v' n (ptsCells (fun i => (X i + x, Y i + y)) n) ∧ Below w.heap.size w w' := by
  obtain ⟨i0, hi, hz0, hz1, hz2⟩ := info_parts Tryz.info74
  go_enter Tryz.func55, Tryz.ntmps55
  go_wp2
  go_loopw [7, 8] (fun v i wr => ∃ k : Nat, k ≤ n ∧ i = .int .i64 k ∧ wr.ownsRow w.heap.size 74 2 v k (ptsCells (fun i => (X i + x, Y i + y)) k) ∧ Below w.heap.size w wr) (fun _ i _ => n - (intOf i).toNat)
  case atStart => exact ⟨0, Nat.zero_le _, rfl, ⟨rfl, .inl ⟨rfl, rfl⟩⟩, Below.refl _ _⟩
  case round =>
    obtain ⟨k, hk, rfl, hown, hbl⟩ := hrel
    by_cases hlt : k < n
    · obtain ⟨e0, e1⟩ := hp.below hbl hb k hlt
      have ak : u7.ownBlock ≠ some b := fun e => by have := (hown.lt b e).1; omega
      have hbw : b < wr.heap.size := Nat.lt_of_lt_of_le hb hbl.size
      have hk0 : (0 : Int) ≤ (k : Int) := Int.natCast_nonneg _
      have hk1 : (k : Int) < (n : Int) := by omega
      have hbs := hbl.size
      obtain ⟨⟨hx1, hx2⟩, hy1, hy2⟩ := hall k hlt
      dsimp only at hx1 hx2 hy1 hy2
      have hw1 : IntKind.i64.wrap (X k + x) = X k + x := IntWalk.i64_in _ (by omega)
      have hw2 : IntKind.i64.wrap (Y k + y) = Y k + y := IntWalk.i64_in _ (by omega)
      go_wp2_with fail
      go_region_held3 (fun w' => w'.cell? ⟨b, off + k * 2, none⟩ = some (.int .i64 (X k)) ∧ w'.cell? ⟨b, off + k * 2 + 1, none⟩ = some (.int .i64 (Y k)))
        (first
          | go_keep
          | (go_split_ands
             refine ⟨?_, ?_⟩
             · (rw [hgrow.cell_far _ (by simp; omega) (Ne.symm ak)]; assumption)
             · (rw [hgrow.cell_far _ (by simp; omega) (Ne.symm ak)]; assumption)))
        ((refine step_append_lies _ (by rfl) _ _ _ (by rfl) w.heap.size 74 i0 _ 2 16 Tryz.underlying22 hi hz0 hz1 hz2 rfl (by omega) u7 k (ptsCells (fun i => (X i + x, Y i + y)) k) (by rfl) ((hown.alloc _).drew)
            ⟨wr.heap.size, 0, none⟩ 1 1 [.int .i64 (X k + x), .int .i64 (Y k + y)] (by rfl) (by rfl) (World.news_of_block (cs := #[.int .i64 (X k + x), .int .i64 (Y k + y)]) (t := 74) (fr := (0, 0)) (heap_alloc_new wr _)) (by simp [Value.oneCell'])
            (by omega) (by unfold maxLen; omega) (by omega) (by simp; omega) (wr.heap.size + 1) (by simp) ?_; intro gg cap w1 hown1 hgrow hat hlt))
      have hb3 : Below w.heap.size w w1 := ((hbl.alloc hbl.size _).drew).grown hgrow ((hbl.alloc hbl.size _).drew).size fun k hk => (hown.lt k hk).1
      clear hgrow hat hlt
      go_wp2
      go_roundw
      case rel => exact ⟨k + 1, by omega, by go_num, hown1, hb3⟩
      case measure => simp [intOf]; omega
    · obtain rfl : n = k := by omega
      go_wp2
      go_ret
      exact ⟨_, rfl, hown, hbl⟩
end Go.Proofs.YtmjmmokbaocboaaGreatDoor
namespace Go.Proofs.YtmjmmokbaocboaaGreatDoor
open Go.RowKit Go.Can
theorem rmatch_none (a1 : Option Addr) (c1 n : Nat) (a2 : Option Addr) (c2 : Nat) (HX HY PX PY : Nat → Int) (r : Int) (w : World) (hk : KG w) (hp1 : PSl w (.slice a1 n c1) n HX HY) (hp2 : PSl w (.slice a2 n c2) n PX PY) (h : measB n HX HY r = true) (ha : arB n 0 PX PY 80 = true) (hno : matchS n HX HY PX PY r = none) :
    Calls Tryz.prog 54 #[.agg #[.slice a1 n c1, .int .i64 r], .slice a2 n c2] w fun e w' => e = .returned (.tuple #[.int .i64 (-1), .slice none 0 0]) ∧ Below w.heap.size w w' := by
  obtain ⟨⟨q1, q2⟩, ⟨q3, q4⟩, q5⟩ := meas_parts h
  obtain ⟨b1, o1, k1, e1, l1, p1⟩ := PSl_pos hp1 (by omega)
  obtain ⟨b2, o2, k2, e2, l2, p2⟩ := PSl_pos hp2 (by omega)
  cases e1; cases e2
  refine (rmatch_any b2 o2 c2 n b1 o1 c1 HX HY PX PY r w q1 q2 (by omega) (by omega) hk p2 p1 l2 l1 (arB_smalls ha) q5).mono ?_
  rintro e w' ⟨hb, ⟨_, he⟩ | ⟨t, q, v, hs, _⟩⟩
  · exact ⟨he, hb⟩
  · rw [hno] at hs; cases hs
theorem rmatch_some (a1 : Option Addr) (c1 n : Nat) (a2 : Option Addr) (c2 : Nat) (HX HY PX PY : Nat → Int) (r : Int) (w : World) (t : Nat) (q : List Nat) (hk : KG w) (hp1 : PSl w (.slice a1 n c1) n HX HY) (hp2 : PSl w (.slice a2 n c2) n PX PY) (h : measB n HX HY r = true) (ha : arB n 0 PX PY 80 = true) (hyes : matchS n HX HY PX PY r = some (t, q)) :
    Calls Tryz.prog 54 #[.agg #[.slice a1 n c1, .int .i64 r], .slice a2 n c2] w fun e w' => ∃ b o cap, e = .returned (.tuple #[.int .i64 t, .slice (some ⟨b, o, none⟩) n cap]) ∧ OrdAt w' b o n q ∧ b < w'.heap.size ∧ Below w.heap.size w w' := by
  obtain ⟨⟨q1, q2⟩, ⟨q3, q4⟩, q5⟩ := meas_parts h
  obtain ⟨b1, o1, k1, e1, l1, p1⟩ := PSl_pos hp1 (by omega)
  obtain ⟨b2, o2, k2, e2, l2, p2⟩ := PSl_pos hp2 (by omega)
  cases e1; cases e2
  refine (rmatch_any b2 o2 c2 n b1 o1 c1 HX HY PX PY r w q1 q2 (by omega) (by omega) hk p2 p1 l2 l1 (arB_smalls ha) q5).mono ?_
  rintro e w' ⟨hb, ⟨hs, _⟩ | ⟨t', q', v, hs, _, hq, he, hv⟩⟩
  · rw [hyes] at hs; cases hs
  · rw [hyes] at hs
    cases hs
    obtain ⟨b, o, cap, e1, _, e2, e3⟩ := SlI_ord hv
    have hql := (ords_perm q1 q2 q hq).1
    rw [hql] at e1 e3
    exact ⟨b, o, cap, by rw [he, e1], e3, e2, hb⟩
end Go.Proofs.YtmjmmokbaocboaaGreatDoor
namespace Go.Proofs.YtmjmmokbaocboaaGreatDoor
open Go.RowKit
/-- a measure, a machine and two spans. -/
structure RSX (w W : World) (m : Mach) (v1 : Value) (r : Int) (xb yb : Nat) (x0 x1 y0 y1 : Int) : Prop where
  sx : SX w W m v1 r
  tx : Two W xb x0 x1
  ty : Two W yb y0 y1
  lx : xb < W.heap.size
  ly : yb < W.heap.size
theorem RSX.below {w W W' : World} {m : Mach} {v1 : Value} {r : Int} {xb yb : Nat} {x0 x1 y0 y1 : Int} (h : RSX w W m v1 r xb yb x0 x1 y0 y1) (hb : Below W.heap.size W W') : RSX w W' m v1 r xb yb x0 x1 y0 y1 :=
  ⟨h.sx.below hb, h.tx.below hb h.lx, h.ty.below hb h.ly, Nat.lt_of_lt_of_le h.lx hb.size, Nat.lt_of_lt_of_le h.ly hb.size⟩
set_option maxRecDepth 100000 in
set_option maxHeartbeats 2000000 in
theorem rsure_any (b1 o1 c1 : Nat) (r : Int) (HX HY : Nat → Int) (m : Mach) (k : Nat) (hk : k ≤ 12) (w : World) (hKG : KG w) (h : MIn w m) (hok : m.ok = true) (hc : m.can) (p1 : Pts w b1 o1 m.sn HX HY) (l1 : b1 < w.heap.size)
    (hme : measB m.sn HX HY r = true) (v : Int) (hv : IsWord (goodB m.sn HX HY m.SX m.SY r) (m.axX.ends k).1 (m.axX.ends k).2 (m.axY.ends k).1 (m.axY.ends k).2 v) :
    Calls Tryz.prog 12 #[.agg #[.slice (some ⟨b1, o1, none⟩) m.sn c1, .int .i64 r], m.val, .int .i64 k] w fun e w' => e = .returned (.int .i64 v) ∧ Below w.heap.size w w' := by
  obtain ⟨⟨q1, q2⟩, ⟨q3, q4⟩, q5⟩ := meas_parts hme
  obtain ⟨sb, so, k0, e0, lsb, pS⟩ := PSl_posD h.stops (by omega)
  have hsa : PLift (m.sa = some ⟨sb, so, none⟩) := ⟨by injection e0⟩
  clear e0
  have hst := (Mach.ok_parts hok).1
  have hsS : ∀ i, i < m.sn → (-20 ≤ m.SX i ∧ m.SX i ≤ 20) ∧ (-20 ≤ m.SY i ∧ m.SY i ≤ 20) := fun i hi => by
    unfold Mach.okStops arB at hst
    rw [Bool.and_eq_true, allB_iff] at hst
    have := hst.2 i hi
    unfold ptB at this
    rw [Bool.and_eq_true, inB_iff, inB_iff] at this
    omega
  clear hst
  have hbX := Axis.any_bound (Mach.fineX hok) k hk
  have hbY := Axis.any_bound (Mach.fineY hok) k hk
  have hkn := fun (W : World) (hB : Below w.heap.size w W) => rknown_yes m k hk hok hc W (h.below hB)
  have hmv : ∀ (x y : Int) (W : World), -48 ≤ x ∧ x ≤ 48 → -48 ≤ y ∧ y ≤ 48 → Below w.heap.size w W → Calls Tryz.prog 55 #[.slice m.sa m.sn m.sc, .int .i64 x, .int .i64 y] W fun e w' => ∃ pb po pc, e = .returned (.slice (some ⟨pb, po, none⟩) m.sn pc) ∧ pb < w'.heap.size ∧ Pts w' pb po m.sn (fun i => m.SX i + x) (fun i => m.SY i + y) ∧ Below W.heap.size W w' := fun x y W hx hy hB => by
    rw [hsa.down]
    refine (rmoved_some sb so m.sn m.sc m.SX m.SY x y W (by omega) (pS.below hB lsb) (Nat.lt_of_lt_of_le lsb hB.size) (by omega) (by omega) (fun i hi => by have := hsS i hi; unfold small; dsimp only; omega)).mono ?_
    rintro e w' ⟨v', rfl, hown, hb⟩
    obtain ⟨pb, po, pc, rfl, lp, pp⟩ := PSl_posD (PSl_of_own hown) (by omega)
    exact ⟨pb, po, pc, rfl, lp, pp, hb⟩
  have har : ∀ x y : Int, -48 ≤ x ∧ x ≤ 48 → -48 ≤ y ∧ y ≤ 48 → arB m.sn 0 (fun i => m.SX i + x) (fun i => m.SY i + y) 80 = true := fun x y hx hy => by
    unfold arB
    rw [Bool.and_eq_true, allB_iff, inB_iff]
    refine ⟨by omega, fun i hi => ?_⟩
    have := hsS i hi
    exact ptB_small (p := (m.SX i + x, m.SY i + y)) ⟨⟨by dsimp only; omega, by dsimp only; omega⟩, by dsimp only; omega, by dsimp only; omega⟩
  have hno : ∀ (x y : Int) (W : World) (pb po pc : Nat), -48 ≤ x ∧ x ≤ 48 → -48 ≤ y ∧ y ≤ 48 → goodB m.sn HX HY m.SX m.SY r x y = false → Below w.heap.size w W → pb < W.heap.size → Pts W pb po m.sn (fun i => m.SX i + x) (fun i => m.SY i + y) → Calls Tryz.prog 54 #[.agg #[.slice (some ⟨b1, o1, none⟩) m.sn c1, .int .i64 r], .slice (some ⟨pb, po, none⟩) m.sn pc] W fun e w' => e = .returned (.tuple #[.int .i64 (-1), .slice none 0 0]) ∧ Below W.heap.size W w' := fun x y W pb po pc hx hy hg hB lp pp => by
    refine rmatch_none (some ⟨b1, o1, none⟩) c1 m.sn (some ⟨pb, po, none⟩) pc HX HY _ _ r W (hKG.below hB) (.inr ⟨b1, o1, c1, rfl, Nat.lt_of_lt_of_le l1 hB.size, p1.below hB l1⟩) (.inr ⟨pb, po, pc, rfl, lp, pp⟩) hme (har x y hx hy) ?_
    unfold goodB at hg
    cases hm : matchS m.sn HX HY (fun i => m.SX i + x) (fun i => m.SY i + y) r with
    | none => rfl
    | some q => rw [hm] at hg; cases hg
  have hyes : ∀ (x y : Int) (W : World) (pb po pc : Nat), -48 ≤ x ∧ x ≤ 48 → -48 ≤ y ∧ y ≤ 48 → goodB m.sn HX HY m.SX m.SY r x y = true → Below w.heap.size w W → pb < W.heap.size → Pts W pb po m.sn (fun i => m.SX i + x) (fun i => m.SY i + y) → Calls Tryz.prog 54 #[.agg #[.slice (some ⟨b1, o1, none⟩) m.sn c1, .int .i64 r], .slice (some ⟨pb, po, none⟩) m.sn pc] W fun e w' => ∃ (t : Nat) (qb qo qc : Nat), e = .returned (.tuple #[.int .i64 t, .slice (some ⟨qb, qo, none⟩) m.sn qc]) ∧ Below W.heap.size W w' := fun x y W pb po pc hx hy hg hB lp pp => by
    unfold goodB at hg
    cases hm : matchS m.sn HX HY (fun i => m.SX i + x) (fun i => m.SY i + y) r with
    | none => rw [hm] at hg; cases hg
    | some q =>
      obtain ⟨t, q⟩ := q
      refine (rmatch_some (some ⟨b1, o1, none⟩) c1 m.sn (some ⟨pb, po, none⟩) pc HX HY _ _ r W t q (hKG.below hB) (.inr ⟨b1, o1, c1, rfl, Nat.lt_of_lt_of_le l1 hB.size, p1.below hB l1⟩) (.inr ⟨pb, po, pc, rfl, lp, pp⟩) hme (har x y hx hy) hm).mono ?_
      rintro e w' ⟨qb, qo, qc, rfl, _, _, hb⟩
      exact ⟨t, qb, qo, qc, rfl, hb⟩
  obtain ⟨W0, hW0⟩ : ∃ W0, (w.alloc (Obj.cells #[.slice (some ⟨b1, o1, none⟩) m.sn c1, .int .i64 r] 24)).alloc (.cells #[.slice m.sa m.sn m.sc, .int .i64 m.c0, .int .i64 m.c1, .int .i64 m.d0, .int .i64 m.d1, .int .i64 m.w0, .int .i64 m.w1, .int .i64 m.v0, .int .i64 m.v1, .slice m.ra m.rn m.rc] 29) = W0 := ⟨_, rfl⟩
  have hSX : SX w W0 m (.slice (some ⟨b1, o1, none⟩) m.sn c1) r := by rw [← hW0]; exact SX.new w m _ r
  have hX1 := PLift.up hSX
  generalize m.axX.ends k = X at *
  generalize m.axY.ends k = Y at *
  obtain ⟨x0, x1⟩ := X
  obtain ⟨y0, y1⟩ := Y
  dsimp only at hkn hv hbX hbY
  generalize goodB m.sn HX HY m.SX m.SY r = Q at *
  obtain ⟨y0', y1', y2', y3', y4', y5', y6', y7', y8', y9'⟩ := hSX.mach
  go_enter Tryz.func12, Tryz.ntmps12
  go_wp2_with (go_at_call 53; with_reducible refine (hkn _ hX1.down.old).mono ?_; rintro e w1 ⟨rfl, hb1⟩)
  clear y0' y1' y2' y3' y4' y5' y6' y7' y8' y9'
  have hb1' := hb1.size
  have hR0 : RSX w ((w1.alloc (Obj.cells #[.int .i64 x0, .int .i64 x1] 26)).alloc (Obj.cells #[.int .i64 y0, .int .i64 y1] 26)) m (.slice (some ⟨b1, o1, none⟩) m.sn c1) r w1.heap.size (w1.heap.size + 1) x0 x1 y0 y1 := by
    have hz : (w1.alloc (Obj.cells #[.int .i64 x0, .int .i64 x1] 26)).heap.size = w1.heap.size + 1 := World.size_alloc _ _
    have h2 := Two.new (w1.alloc (Obj.cells #[.int .i64 x0, .int .i64 x1] 26)) 26 y0 y1
    rw [hz] at h2
    have hbb : Below (w1.alloc (Obj.cells #[.int .i64 x0, .int .i64 x1] 26)).heap.size (w1.alloc (Obj.cells #[.int .i64 x0, .int .i64 x1] 26)) ((w1.alloc (Obj.cells #[.int .i64 x0, .int .i64 x1] 26)).alloc (Obj.cells #[.int .i64 y0, .int .i64 y1] 26)) := (Below.refl _ _).alloc (Nat.le_refl _) _
    exact ⟨((hX1.down.below hb1).alloc _).alloc _, (Two.new w1 26 x0 x1).below hbb (by omega), h2, by rw [World.size_alloc, World.size_alloc]; omega, by rw [World.size_alloc, World.size_alloc]; omega⟩
  generalize (w1.alloc (Obj.cells #[.int .i64 x0, .int .i64 x1] 26)).alloc (Obj.cells #[.int .i64 y0, .int .i64 y1] 26) = W2 at *
  clear hX1 hb1 hSX hW0 hkn
  have q0 := hR0.tx.k0
  go_wp2
  clear q0
  go_loopw [9, 10, 11] (fun gv nv av wr => ∃ g n aa : Int, gv = .int .i64 g ∧ nv = .int .i64 n ∧ av = .int .i64 aa ∧ x0 ≤ aa ∧ (aa = x0 ∨ aa ≤ x1 + 1) ∧ RSX w wr m (.slice (some ⟨b1, o1, none⟩) m.sn c1) r w1.heap.size (w1.heap.size + 1) x0 x1 y0 y1 ∧ Cnt Q (Seen x0 y0 y1 aa y0) g n ∧ n ≤ 101 * (aa - x0)) (fun _ _ av _ => (x1 + 1 - intOf av).toNat)
  case atStart => exact ⟨0, 0, x0, rfl, rfl, rfl, by omega, .inl rfl, hR0, Cnt.none fun x y => Seen.start, by omega⟩
  case round =>
    obtain ⟨g, n, aa, rfl, rfl, rfl, ha, hax, hR, hC, hn⟩ := hrel
    have q0 := hR.tx.k1
    have q9 := hR.ty.k0
    by_cases hla : aa ≤ x1
    · have hwaa : IntKind.i64.wrap (aa + 1) = aa + 1 := IntWalk.i64_in _ (by omega)
      have hwa : -48 ≤ aa ∧ aa ≤ 48 := by omega
      go_wp2
      clear q0 q9
      go_loopw [9, 10, 12] (fun gv nv bv wr => ∃ g n bb : Int, gv = .int .i64 g ∧ nv = .int .i64 n ∧ bv = .int .i64 bb ∧ y0 ≤ bb ∧ (bb = y0 ∨ bb ≤ y1 + 1) ∧ RSX w wr m (.slice (some ⟨b1, o1, none⟩) m.sn c1) r w1.heap.size (w1.heap.size + 1) x0 x1 y0 y1 ∧ Cnt Q (Seen x0 y0 y1 aa bb) g n ∧ n ≤ 101 * (aa - x0) + (bb - y0)) (fun _ _ bv _ => (y1 + 1 - intOf bv).toNat)
      case atStart => exact ⟨g, n, y0, rfl, rfl, rfl, by omega, .inl rfl, hR, hC, by omega⟩
      case round =>
        obtain ⟨g, n, bb, rfl, rfl, rfl, hbl, hbx, hR, hC, hn⟩ := hrel
        have q0 := hR.ty.k1
        by_cases hlb : bb ≤ y1
        · have hwbb : IntKind.i64.wrap (bb + 1) = bb + 1 := IntWalk.i64_in _ (by omega)
          have hwb : -48 ≤ bb ∧ bb ≤ 48 := by omega
          have hlo := hC.lo
          have hle := hC.le
          have hwn : IntKind.i64.wrap (n + 1) = n + 1 := IntWalk.i64_in _ (by omega)
          have hwg : IntKind.i64.wrap (g + 1) = g + 1 := IntWalk.i64_in _ (by omega)
          cases hq : Q aa bb with
          | true =>
            go_wp2_with fail
            clear q0
            refine wp_region_late [] (fun w9 => RSX w w9 m (.slice (some ⟨b1, o1, none⟩) m.sn c1) r w1.heap.size (w1.heap.size + 1) x0 x1 y0 y1) (fun w9 => True) (by kernel_rfl) ?_ (fun hHeld => ?_)
            · (exact ⟨hR.below (Below.refl _ _).drew, trivial⟩)
            refine wpAnyP_take0 (i := 0) (v := ?_) rfl (by kernel_rfl) (by kernel_rfl) (by kernel_rfl) (by kernel_rfl) (by rfl) (fun _ _ _ h => h) (Or.inl ⟨by rfl, ?_⟩) hHeld ?_
            rotate_left 1
            · ((intro w9 hSw; have q0 := hSw.sx.c0; have q1 := hSw.sx.c1; clear hSw; go_simp) <;> with_reducible rfl)
            (try simp only [Act.put, List.setIfInBounds_toArray, List.set_cons_zero, List.set_cons_succ])
            refine wpAnyP_take0 (i := 1) (v := ?_) rfl (by kernel_rfl) (by kernel_rfl) (by kernel_rfl) (by kernel_rfl) (by rfl) (fun _ _ _ h => h) (Or.inl ⟨by rfl, ?_⟩) hHeld ?_
            rotate_left 1
            · ((intro w9 hSw; have q0 := hSw.sx.mach.k0; clear hSw; go_simp) <;> with_reducible rfl)
            (try simp only [Act.put, List.setIfInBounds_toArray, List.set_cons_zero, List.set_cons_succ])
            refine wpAnyP_take0 (i := 2) (v := ?_) rfl (by kernel_rfl) (by kernel_rfl) (by kernel_rfl) (by kernel_rfl) (by rfl) (fun _ _ _ h => h) (Or.inl ⟨by rfl, ?_⟩) hHeld ?_
            rotate_left 1
            · ((intro w9 hSw; have q0 := hSw.sx.mach.k0; clear hSw; go_simp) <;> with_reducible rfl)
            (try simp only [Act.put, List.setIfInBounds_toArray, List.set_cons_zero, List.set_cons_succ])
            refine wpAnyP_take0 (i := 3) (v := ?_) rfl (by kernel_rfl) (by kernel_rfl) (by kernel_rfl) (by kernel_rfl) (by rfl) (fun _ _ _ h => h) (Or.inl ⟨by rfl, ?_⟩) hHeld ?_
            rotate_left 1
            · ((intro w9 hSw; clear hSw; go_simp) <;> with_reducible rfl)
            (try simp only [Act.put, List.setIfInBounds_toArray, List.set_cons_zero, List.set_cons_succ])
            refine wpAnyP_take0 (i := 4) (v := ?_) rfl (by kernel_rfl) (by kernel_rfl) (by kernel_rfl) (by kernel_rfl) (by rfl) (fun _ _ _ h => h) (Or.inl ⟨by rfl, ?_⟩) hHeld ?_
            rotate_left 1
            · ((intro w9 hSw; clear hSw; go_simp) <;> with_reducible rfl)
            (try simp only [Act.put, List.setIfInBounds_toArray, List.set_cons_zero, List.set_cons_succ])
            refine wpAnyP_ready (rs := [5]) (by kernel_rfl) (by simp) ?_
            refine AllReadyP.cons (o := _) rfl (fun K hK => ?_) AllReadyP.nil
            · go_simp
              (go_at_call 55; with_reducible refine (hmv aa bb _ hwa hwb hHeld.1.sx.old).mono ?_; rintro e w5 ⟨pb, po, pc, rfl, lp, pp, hb5⟩)
              refine hK.out _ _ ?_ (fun hHeld => ?_)
              · (exact ⟨hHeld.1.below hb5, trivial⟩)
              clear hK K
              (try simp only [Act.put, List.setIfInBounds_toArray, List.set_cons_zero, List.set_cons_succ])
              refine wpAnyP_ready (rs := [6]) (by kernel_rfl) (by simp) ?_
              refine AllReadyP.cons (o := _) rfl (fun K hK => ?_) AllReadyP.nil
              · go_simp
                (go_at_call 54; with_reducible refine (hyes aa bb _ pb po pc hwa hwb hq hHeld.1.sx.old lp pp).mono ?_; rintro e w6 ⟨t, qb, qo, qc, rfl, hb6⟩)
                refine hK.out _ _ ?_ (fun hHeld => ?_)
                · (exact ⟨hHeld.1.below hb6, trivial⟩)
                clear hK K
                (try simp only [Act.put, List.setIfInBounds_toArray, List.set_cons_zero, List.set_cons_succ])
                refine wpAnyP_take0 (i := 7) (v := ?_) rfl (by kernel_rfl) (by kernel_rfl) (by kernel_rfl) (by kernel_rfl) (by rfl) (fun _ _ _ h => h) (Or.inl ⟨by rfl, ?_⟩) hHeld ?_
                rotate_left 1
                · ((intro w9 hSw; clear hSw; go_simp) <;> with_reducible rfl)
                (try simp only [Act.put, List.setIfInBounds_toArray, List.set_cons_zero, List.set_cons_succ])
                refine wpAnyP_take0 (i := 8) (v := ?_) rfl (by kernel_rfl) (by kernel_rfl) (by kernel_rfl) (by kernel_rfl) (by rfl) (fun _ _ _ h => h) (Or.inl ⟨by rfl, ?_⟩) hHeld ?_
                rotate_left 1
                · ((intro w9 hSw; clear hSw; go_simp) <;> with_reducible rfl)
                (try simp only [Act.put, List.setIfInBounds_toArray, List.set_cons_zero, List.set_cons_succ])
                refine wpAnyP_take0 (i := 9) (v := ?_) rfl (by kernel_rfl) (by kernel_rfl) (by kernel_rfl) (by kernel_rfl) (by rfl) (fun _ _ _ h => h) (Or.inl ⟨by rfl, ?_⟩) hHeld ?_
                rotate_left 1
                · ((intro w9 hSw; clear hSw; go_simp) <;> with_reducible rfl)
                (try simp only [Act.put, List.setIfInBounds_toArray, List.set_cons_zero, List.set_cons_succ])
                refine wpAnyP_take0 (i := 10) (v := ?_) rfl (by kernel_rfl) (by kernel_rfl) (by kernel_rfl) (by kernel_rfl) (by rfl) (fun _ _ _ h => h) (Or.inl ⟨by rfl, ?_⟩) hHeld ?_
                rotate_left 1
                · ((intro w9 hSw; clear hSw; go_simp) <;> with_reducible rfl)
                (try simp only [Act.put, List.setIfInBounds_toArray, List.set_cons_zero, List.set_cons_succ])
                refine wpAnyP_take0 (i := 11) (v := ?_) rfl (by kernel_rfl) (by kernel_rfl) (by kernel_rfl) (by kernel_rfl) (by rfl) (fun _ _ _ h => h) (Or.inl ⟨by rfl, ?_⟩) hHeld ?_
                rotate_left 1
                · ((intro w9 hSw; clear hSw; go_simp) <;> with_reducible rfl)
                (try simp only [Act.put, List.setIfInBounds_toArray, List.set_cons_zero, List.set_cons_succ])
                refine wpAnyP_done (by kernel_rfl) ?_ _
                (try simp only [Act.put, List.getElem_toArray, List.getElem_cons_zero, List.getElem_cons_succ, List.setIfInBounds_toArray, List.set_cons_zero, List.set_cons_succ])
                have hR9 := hHeld.1
                clear hHeld
                have ht0 : (0 : Int) ≤ (t : Int) := Int.natCast_nonneg _
                go_wp2
                go_roundw
                case rel => exact ⟨g + 1, n + 1, bb + 1, by go_num, by go_num, by go_num, by omega, .inr (by omega), hR9, hC.yes (Seen.step ha hbl hlb) hq, by omega⟩
                case measure => simp [intOf]; omega
          | false =>
            go_wp2_with fail
            clear q0
            refine wp_region_late [] (fun w9 => RSX w w9 m (.slice (some ⟨b1, o1, none⟩) m.sn c1) r w1.heap.size (w1.heap.size + 1) x0 x1 y0 y1) (fun w9 => True) (by kernel_rfl) ?_ (fun hHeld => ?_)
            · (exact ⟨hR.below (Below.refl _ _).drew, trivial⟩)
            refine wpAnyP_take0 (i := 0) (v := ?_) rfl (by kernel_rfl) (by kernel_rfl) (by kernel_rfl) (by kernel_rfl) (by rfl) (fun _ _ _ h => h) (Or.inl ⟨by rfl, ?_⟩) hHeld ?_
            rotate_left 1
            · ((intro w9 hSw; have q0 := hSw.sx.c0; have q1 := hSw.sx.c1; clear hSw; go_simp) <;> with_reducible rfl)
            (try simp only [Act.put, List.setIfInBounds_toArray, List.set_cons_zero, List.set_cons_succ])
            refine wpAnyP_take0 (i := 1) (v := ?_) rfl (by kernel_rfl) (by kernel_rfl) (by kernel_rfl) (by kernel_rfl) (by rfl) (fun _ _ _ h => h) (Or.inl ⟨by rfl, ?_⟩) hHeld ?_
            rotate_left 1
            · ((intro w9 hSw; have q0 := hSw.sx.mach.k0; clear hSw; go_simp) <;> with_reducible rfl)
            (try simp only [Act.put, List.setIfInBounds_toArray, List.set_cons_zero, List.set_cons_succ])
            refine wpAnyP_take0 (i := 2) (v := ?_) rfl (by kernel_rfl) (by kernel_rfl) (by kernel_rfl) (by kernel_rfl) (by rfl) (fun _ _ _ h => h) (Or.inl ⟨by rfl, ?_⟩) hHeld ?_
            rotate_left 1
            · ((intro w9 hSw; have q0 := hSw.sx.mach.k0; clear hSw; go_simp) <;> with_reducible rfl)
            (try simp only [Act.put, List.setIfInBounds_toArray, List.set_cons_zero, List.set_cons_succ])
            refine wpAnyP_take0 (i := 3) (v := ?_) rfl (by kernel_rfl) (by kernel_rfl) (by kernel_rfl) (by kernel_rfl) (by rfl) (fun _ _ _ h => h) (Or.inl ⟨by rfl, ?_⟩) hHeld ?_
            rotate_left 1
            · ((intro w9 hSw; clear hSw; go_simp) <;> with_reducible rfl)
            (try simp only [Act.put, List.setIfInBounds_toArray, List.set_cons_zero, List.set_cons_succ])
            refine wpAnyP_take0 (i := 4) (v := ?_) rfl (by kernel_rfl) (by kernel_rfl) (by kernel_rfl) (by kernel_rfl) (by rfl) (fun _ _ _ h => h) (Or.inl ⟨by rfl, ?_⟩) hHeld ?_
            rotate_left 1
            · ((intro w9 hSw; clear hSw; go_simp) <;> with_reducible rfl)
            (try simp only [Act.put, List.setIfInBounds_toArray, List.set_cons_zero, List.set_cons_succ])
            refine wpAnyP_ready (rs := [5]) (by kernel_rfl) (by simp) ?_
            refine AllReadyP.cons (o := _) rfl (fun K hK => ?_) AllReadyP.nil
            · go_simp
              (go_at_call 55; with_reducible refine (hmv aa bb _ hwa hwb hHeld.1.sx.old).mono ?_; rintro e w5 ⟨pb, po, pc, rfl, lp, pp, hb5⟩)
              refine hK.out _ _ ?_ (fun hHeld => ?_)
              · (exact ⟨hHeld.1.below hb5, trivial⟩)
              clear hK K
              (try simp only [Act.put, List.setIfInBounds_toArray, List.set_cons_zero, List.set_cons_succ])
              refine wpAnyP_ready (rs := [6]) (by kernel_rfl) (by simp) ?_
              refine AllReadyP.cons (o := _) rfl (fun K hK => ?_) AllReadyP.nil
              · go_simp
                (go_at_call 54; with_reducible refine (hno aa bb _ pb po pc hwa hwb hq hHeld.1.sx.old lp pp).mono ?_; rintro e w6 ⟨rfl, hb6⟩)
                refine hK.out _ _ ?_ (fun hHeld => ?_)
                · (exact ⟨hHeld.1.below hb6, trivial⟩)
                clear hK K
                (try simp only [Act.put, List.setIfInBounds_toArray, List.set_cons_zero, List.set_cons_succ])
                refine wpAnyP_take0 (i := 7) (v := ?_) rfl (by kernel_rfl) (by kernel_rfl) (by kernel_rfl) (by kernel_rfl) (by rfl) (fun _ _ _ h => h) (Or.inl ⟨by rfl, ?_⟩) hHeld ?_
                rotate_left 1
                · ((intro w9 hSw; clear hSw; go_simp) <;> with_reducible rfl)
                (try simp only [Act.put, List.setIfInBounds_toArray, List.set_cons_zero, List.set_cons_succ])
                refine wpAnyP_take0 (i := 8) (v := ?_) rfl (by kernel_rfl) (by kernel_rfl) (by kernel_rfl) (by kernel_rfl) (by rfl) (fun _ _ _ h => h) (Or.inl ⟨by rfl, ?_⟩) hHeld ?_
                rotate_left 1
                · ((intro w9 hSw; clear hSw; go_simp) <;> with_reducible rfl)
                (try simp only [Act.put, List.setIfInBounds_toArray, List.set_cons_zero, List.set_cons_succ])
                refine wpAnyP_take0 (i := 9) (v := ?_) rfl (by kernel_rfl) (by kernel_rfl) (by kernel_rfl) (by kernel_rfl) (by rfl) (fun _ _ _ h => h) (Or.inl ⟨by rfl, ?_⟩) hHeld ?_
                rotate_left 1
                · ((intro w9 hSw; clear hSw; go_simp) <;> with_reducible rfl)
                (try simp only [Act.put, List.setIfInBounds_toArray, List.set_cons_zero, List.set_cons_succ])
                refine wpAnyP_take0 (i := 10) (v := ?_) rfl (by kernel_rfl) (by kernel_rfl) (by kernel_rfl) (by kernel_rfl) (by rfl) (fun _ _ _ h => h) (Or.inl ⟨by rfl, ?_⟩) hHeld ?_
                rotate_left 1
                · ((intro w9 hSw; clear hSw; go_simp) <;> with_reducible rfl)
                (try simp only [Act.put, List.setIfInBounds_toArray, List.set_cons_zero, List.set_cons_succ])
                refine wpAnyP_take0 (i := 11) (v := ?_) rfl (by kernel_rfl) (by kernel_rfl) (by kernel_rfl) (by kernel_rfl) (by rfl) (fun _ _ _ h => h) (Or.inl ⟨by rfl, ?_⟩) hHeld ?_
                rotate_left 1
                · ((intro w9 hSw; clear hSw; go_simp) <;> with_reducible rfl)
                (try simp only [Act.put, List.setIfInBounds_toArray, List.set_cons_zero, List.set_cons_succ])
                refine wpAnyP_done (by kernel_rfl) ?_ _
                (try simp only [Act.put, List.getElem_toArray, List.getElem_cons_zero, List.getElem_cons_succ, List.setIfInBounds_toArray, List.set_cons_zero, List.set_cons_succ])
                have hR9 := hHeld.1
                clear hHeld
                go_wp2
                go_roundw
                case rel => exact ⟨g, n + 1, bb + 1, by go_num, by go_num, by go_num, by omega, .inr (by omega), hR9, hC.no (Seen.step ha hbl hlb) hq, by omega⟩
                case measure => simp [intOf]; omega
        · go_wp2
          go_roundw
          case rel => exact ⟨g, n, aa + 1, by go_num, by go_num, by go_num, by omega, .inr (by omega), hR, hC.congr (Seen.row (by omega)), by omega⟩
          case measure => simp [intOf]; omega
    · have hCB : Cnt Q (InBox x0 x1 y0 y1) g n := hC.congr (Seen.all (by omega))
      have hO := hR.sx.old
      by_cases hgn : g = n
      · obtain rfl := hv.same (hCB.word3 hgn)
        subst hgn
        go_wp2
        go_ret
        exact ⟨rfl, hO⟩
      · by_cases hg0 : g = 0
        · obtain rfl := hv.same (hCB.word1 hgn hg0)
          subst hg0
          go_wp2
          go_ret
          exact ⟨rfl, hO⟩
        · obtain rfl := hv.same (hCB.word2 hgn hg0)
          go_wp2
          go_ret
          exact ⟨rfl, hO⟩
end Go.Proofs.YtmjmmokbaocboaaGreatDoor
namespace Go.Proofs.YtmjmmokbaocboaaGreatDoor
open Go.RowKit
set_option maxRecDepth 100000 in
set_option maxHeartbeats 2000000 in
theorem rgauge_any (b1 o1 c1 : Nat) (r : Int) (HX HY : Nat → Int) (m : Mach) (w : World) (hKG : KG w) (h : MIn w m) (hok : m.ok = true) (hc : m.can) (p1 : Pts w b1 o1 m.sn HX HY) (l1 : b1 < w.heap.size)
    (hme : measB m.sn HX HY r = true) (wd : Nat → Int) (hwd : ∀ k, k ≤ 12 → IsWord (goodB m.sn HX HY m.SX m.SY r) (m.axX.ends k).1 (m.axX.ends k).2 (m.axY.ends k).1 (m.axY.ends k).2 (wd k)) (n : Nat) (hgz : IsGauge wd n) :
    Calls Tryz.prog 14 #[.agg #[.slice (some ⟨b1, o1, none⟩) m.sn c1, .int .i64 r], m.val] w fun e w' => e = .returned (.int .i64 n) ∧ Below w.heap.size w w' := by
  have hrs : ∀ (j : Nat) (v : Int) (W : World), j < 12 → wd (j + 1) = v → Below w.heap.size w W → Calls Tryz.prog 12 #[.agg #[.slice (some ⟨b1, o1, none⟩) m.sn c1, .int .i64 r], m.val, .int .i64 ((j : Int) + 1)] W fun e w' => e = .returned (.int .i64 v) ∧ Below W.heap.size W w' := fun j v W hj hv hB => by
    have := rsure_any b1 o1 c1 r HX HY m (j + 1) (by omega) W (hKG.below hB) (h.below hB) hok hc (p1.below hB l1) (Nat.lt_of_lt_of_le l1 hB.size) hme v (hv ▸ hwd (j + 1) (by omega))
    rw [show ((j + 1 : Nat) : Int) = (j : Int) + 1 by omega] at this
    exact this
  obtain ⟨W0, hW0⟩ : ∃ W0, (w.alloc (Obj.cells #[.slice (some ⟨b1, o1, none⟩) m.sn c1, .int .i64 r] 24)).alloc (.cells #[.slice m.sa m.sn m.sc, .int .i64 m.c0, .int .i64 m.c1, .int .i64 m.d0, .int .i64 m.d1, .int .i64 m.w0, .int .i64 m.w1, .int .i64 m.v0, .int .i64 m.v1, .slice m.ra m.rn m.rc] 29) = W0 := ⟨_, rfl⟩
  have hSX : SX w W0 m (.slice (some ⟨b1, o1, none⟩) m.sn c1) r := by rw [← hW0]; exact SX.new w m _ r
  clear hwd
  go_enter Tryz.func14, Tryz.ntmps14
  go_wp2
  go_loopw [5] (fun i wr => ∃ j : Nat, j ≤ 12 ∧ i = .int .i64 j ∧ SX w wr m (.slice (some ⟨b1, o1, none⟩) m.sn c1) r ∧ ∀ i, i < j → wd (i + 1) = 3) (fun i _ => 12 - (intOf i).toNat)
  case atStart => exact ⟨0, Nat.zero_le _, rfl, hSX, fun i hi => absurd hi (Nat.not_lt_zero _)⟩
  case round =>
    obtain ⟨j, hj, rfl, hX, hall⟩ := hrel
    have hO := hX.old
    have z0 := hX.c0
    have z1 := hX.c1
    obtain ⟨y0', y1', y2', y3', y4', y5', y6', y7', y8', y9'⟩ := hX.mach
    have hX1 := PLift.up hX
    clear hX
    by_cases hlt : j < 12
    · have hlt' : (j : Int) < 12 := by omega
      have hwj : IntKind.i64.wrap ((j : Int) + 1) = (j : Int) + 1 := IntWalk.i64_in _ (by omega)
      by_cases hw3 : wd (j + 1) = 3
      · have hr3 := hrs j 3 wr hlt hw3 hO
        go_wp2_with (go_at_call 12; with_reducible refine hr3.mono ?_; rintro e w5 ⟨rfl, hb5⟩)
        go_roundw
        case rel =>
          refine ⟨j + 1, by omega, by go_num, hX1.down.below hb5, fun i hi => ?_⟩
          rcases Nat.lt_succ_iff_lt_or_eq.1 hi with h1 | rfl
          · exact hall i h1
          · exact hw3
        case measure => simp [intOf]; omega
      · obtain rfl : n = j := hgz.same ⟨by omega, hall, fun _ => hw3⟩
        have hr3 := hrs n _ wr hlt rfl hO
        generalize wd (n + 1) = v at *
        go_wp2_with (go_at_call 12; with_reducible refine hr3.mono ?_; rintro e w5 ⟨rfl, hb5⟩)
        go_ret
        exact ⟨rfl, hO.trans (hb5.mono hO.size)⟩
    · obtain rfl : j = 12 := by omega
      obtain rfl : n = 12 := hgz.same ⟨by omega, hall, fun h => absurd h (by omega)⟩
      clear z0 z1 y0' y1' y2' y3' y4' y5' y6' y7' y8' y9' hX1
      go_wp2
      go_ret
      exact ⟨rfl, hO⟩
end Go.Proofs.YtmjmmokbaocboaaGreatDoor
namespace Go.Proofs.YtmjmmokbaocboaaGreatDoor
open Go.RowKit
set_option maxRecDepth 100000 in
set_option maxHeartbeats 2000000 in
theorem Gauge_no1 (a1 : Option Addr) (n c1 : Nat) (r : Int) (HX HY : Nat → Int) (m : Mach) (w : World) (hn : n ≤ 1000) (hs : m.sn ≤ 1000) (hr : m.rn ≤ 9223372036854775807) (hp : PSc w (.slice a1 n c1) n HX HY) (h : MIn w m)
    (hf : (measB n HX HY r && decide (n = m.sn)) = true) (er : Int) (hA : Able m true er) (hne : er ≠ 0) :
    Calls Tryz.prog 13 #[.agg #[.slice a1 n c1, .int .i64 r], m.val] w fun e w' => e = .returned (.tuple #[.int .i64 0, .int .i64 er]) ∧ Below w.heap.size w w' := by
  obtain ⟨L, er', hE, hC⟩ := examine_any m true w hs hr h
  obtain rfl : er' = er := Able.same hE.able hA
  clear hA
  have hif := fun (W : World) (hB : Below w.heap.size w W) => isFor_any (.slice a1 n c1) a1 n c1 r HX HY m W rfl hn (by omega) ⟨hp.1.below hB, hp.2⟩
  rw [show (decide (chkE n HX HY r = 0) && decide (n = m.sn)) = true by rw [← hf, chk_meas]; cases measB n HX HY r <;> simp] at hif
  clear hf
  obtain ⟨W0, hW0⟩ : ∃ W0, (w.alloc (Obj.cells #[.slice a1 n c1, .int .i64 r] 24)).alloc (.cells #[.slice m.sa m.sn m.sc, .int .i64 m.c0, .int .i64 m.c1, .int .i64 m.d0, .int .i64 m.d1, .int .i64 m.w0, .int .i64 m.w1, .int .i64 m.v0, .int .i64 m.v1, .slice m.ra m.rn m.rc] 29) = W0 := ⟨_, rfl⟩
  have hSX : SX w W0 m (.slice a1 n c1) r := by rw [← hW0]; exact SX.new w m _ r
  have hal : (#[.slice none 0 0, .int .i64 0, .int .i64 0, .int .i64 0, .int .i64 0, .int .i64 0, .int .i64 0, .int .i64 0, .int .i64 0, .slice none 0 0, .int .i64 0, .int .i64 0, .int .i64 0, .int .i64 0, .int .i64 0, .int .i64 0, .int .i64 0, .int .i64 0, .int .i64 0, .int .i64 0, .int .i64 0, .int .i64 0, .int .i64 0, .int .i64 0, .int .i64 0, .int .i64 0, .int .i64 0, .int .i64 0, .int .i64 0, .int .i64 0, .int .i64 0, .int .i64 0, .int .i64 0, .int .i64 0, .int .i64 0, .int .i64 0, .int .i64 0, .int .i64 0, .int .i64 0, .int .i64 0, .int .i64 0, .int .i64 0, .int .i64 0, .int .i64 0, .int .i64 0, .int .i64 0, .int .i64 0, .int .i64 0, .int .i64 0, .int .i64 0, .int .i64 0, .int .i64 0, .int .i64 0, .int .i64 0, .int .i64 0, .int .i64 0, .int .i64 0, .int .i64 0, .int .i64 0, .int .i64 0, .int .i64 0, .int .i64 0] : Array Value) = zst.toArray := rfl
  have hlz : zst.length = 62 := zM.st_length rfl rfl
  have hlL := hE.length
  have hoL := all_oneCell_toArray hE.one
  have hi0 : (Tryz.prog.info? 94).map (·.size) = some 62 := by kernel_rfl
  have hiL : (Tryz.prog.info? 94).map (·.size) = some L.length := by rw [hlL]; exact hi0
  have hiA : (Tryz.prog.info? 94).map (·.size) = some L.toArray.size := by rw [List.size_toArray, hlL]; exact hi0
  have hS0 := fun (W : World) => SAt.new W zst 94
  have hth := fun (W : World) (g : Nat) (H : SAt W g zst) => H.there 0 L.toArray.size (by rw [List.size_toArray, hlL, hlz]; omega)
  have hfi := fun (W : World) (g : Nat) (H : SAt W g zst) => SAt.fill (L' := L) H (by rw [hlL, hlz])
  clear hi0 hE
  generalize zst = Z at *
  go_enter Tryz.func13, Tryz.ntmps13
  go_wp2_with fail
  refine wp_region_late [] (fun w9 => SX w w9 m (.slice a1 n c1) r) (fun w9 => True) (by kernel_rfl) ?_ (fun hHeld => ?_)
  · (exact ⟨hSX.drew, trivial⟩)
  generalize W0.drew = V at hHeld ⊢
  refine wpAnyP_take0 (i := 0) (v := ?_) rfl (by kernel_rfl) (by kernel_rfl) (by kernel_rfl) (by kernel_rfl) (by rfl) (fun _ _ _ h => h) (Or.inl ⟨by rfl, ?_⟩) hHeld ?_
  rotate_left 1
  · ((intro w9 hSw; have q0 := hSw.mach.k0; have q1 := hSw.mach.k1; have q2 := hSw.mach.k2; have q3 := hSw.mach.k3; have q4 := hSw.mach.k4; have q5 := hSw.mach.k5; have q6 := hSw.mach.k6; have q7 := hSw.mach.k7; have q8 := hSw.mach.k8; have q9 := hSw.mach.k9; clear hSw; go_simp) <;> with_reducible rfl)
  (try simp only [Act.put, List.setIfInBounds_toArray, List.set_cons_zero, List.set_cons_succ])
  refine wpAnyP_take0 (i := 1) (v := ?_) rfl (by kernel_rfl) (by kernel_rfl) (by kernel_rfl) (by kernel_rfl) (by rfl) (fun _ _ _ h => h) (Or.inl ⟨by rfl, ?_⟩) hHeld ?_
  rotate_left 1
  · ((intro w9 hSw; have q0 := hSw.c0; have q1 := hSw.c1; clear hSw; go_simp) <;> with_reducible rfl)
  (try simp only [Act.put, List.setIfInBounds_toArray, List.set_cons_zero, List.set_cons_succ])
  refine wpAnyP_take0 (i := 2) (v := ?_) rfl (by kernel_rfl) (by kernel_rfl) (by kernel_rfl) (by kernel_rfl) (by rfl) (fun _ _ _ h => h) (Or.inl ⟨by rfl, ?_⟩) hHeld ?_
  rotate_left 1
  · ((intro w9 hSw; have q0 := hSw.mach.k0; have q1 := hSw.mach.k1; have q2 := hSw.mach.k2; have q3 := hSw.mach.k3; have q4 := hSw.mach.k4; have q5 := hSw.mach.k5; have q6 := hSw.mach.k6; have q7 := hSw.mach.k7; have q8 := hSw.mach.k8; have q9 := hSw.mach.k9; clear hSw; go_simp) <;> with_reducible rfl)
  (try simp only [Act.put, List.setIfInBounds_toArray, List.set_cons_zero, List.set_cons_succ])
  refine wpAnyP_ready (rs := [3, 8]) (by kernel_rfl) (by simp) ?_
  refine AllReadyP.cons (o := _) rfl (fun K hK => ?_) (AllReadyP.cons (o := _) rfl (fun K hK => ?_) AllReadyP.nil)
  · go_simp
    (go_at_call 48; with_reducible refine (hif _ hHeld.1.old).mono ?_; rintro e w1 ⟨rfl, hb1⟩)
    refine hK.out _ _ ?_ (fun hHeld => ?_)
    · (exact ⟨hHeld.1.below hb1, trivial⟩)
    clear hK K
    (try simp only [Act.put, List.setIfInBounds_toArray, List.set_cons_zero, List.set_cons_succ])
    refine wpAnyP_ready (rs := [4, 8]) (by kernel_rfl) (by simp) ?_
    refine AllReadyP.cons (o := _) rfl (fun K hK => ?_) (AllReadyP.cons (o := _) rfl (fun K hK => ?_) AllReadyP.nil)
    · go_simp
      (go_at_call 47; with_reducible refine (hC _ hHeld.1.old).mono ?_; rintro e w2 ⟨rfl, hb2⟩)
      refine hK.out _ _ ?_ (fun hHeld => ?_)
      · (exact ⟨hHeld.1.below hb2, trivial⟩)
      clear hK K
      (try simp only [Act.put, List.setIfInBounds_toArray, List.set_cons_zero, List.set_cons_succ])
      refine wpAnyP_take0 (i := 5) (v := ?_) rfl (by kernel_rfl) (by kernel_rfl) (by kernel_rfl) (by kernel_rfl) (by rfl) (fun _ _ _ h => h) (Or.inl ⟨by rfl, ?_⟩) hHeld ?_
      rotate_left 1
      · ((intro w9 hSw; clear hSw; go_simp) <;> with_reducible rfl)
      (try simp only [Act.put, List.setIfInBounds_toArray, List.set_cons_zero, List.set_cons_succ])
      refine wpAnyP_take0 (i := 6) (v := ?_) rfl (by kernel_rfl) (by kernel_rfl) (by kernel_rfl) (by kernel_rfl) (by rfl) (fun _ _ _ h => h) (Or.inl ⟨by rfl, ?_⟩) hHeld ?_
      rotate_left 1
      · ((intro w9 hSw; clear hSw; go_simp) <;> with_reducible rfl)
      (try simp only [Act.put, List.setIfInBounds_toArray, List.set_cons_zero, List.set_cons_succ])
      refine wpAnyP_take0 (i := 7) (v := ?_) rfl (by kernel_rfl) (by kernel_rfl) (by kernel_rfl) (by kernel_rfl) (by rfl) (fun _ _ _ h => h) (Or.inl ⟨by rfl, ?_⟩) hHeld ?_
      rotate_left 1
      · ((intro w9 hSw; clear hSw; go_simp) <;> with_reducible rfl)
      (try simp only [Act.put, List.setIfInBounds_toArray, List.set_cons_zero, List.set_cons_succ])
      refine wpAnyP_ready (rs := [8]) (by kernel_rfl) (by simp) ?_
      refine AllReadyP.cons (o := _) rfl (fun K hK => ?_) AllReadyP.nil
      · go_simp
        (try simp only [hal])
        have hZ := hS0 w2
        have hgz := hHeld.1.big
        refine hK.out _ _ ?_ (fun hHeld => ?_)
        · (exact ⟨hHeld.1.alloc _, trivial⟩)
        clear hK K
        (try simp only [Act.put, List.setIfInBounds_toArray, List.set_cons_zero, List.set_cons_succ])
        refine wpAnyP_ready (rs := [9]) (by kernel_rfl) (by simp) ?_
        refine AllReadyP.cons (o := _) rfl (fun K hK => ?_) AllReadyP.nil
        · refine step_store_mid rfl 94 _ _ rfl w2.heap.size 0 L.toArray rfl rfl (hth _ _ hZ) hiA hoL ?_
          have hL5 := hfi _ _ hZ
          have hK5 := hHeld.1.put hgz L
          refine hK.out _ _ ?_ (fun hHeld => ?_)
          · (exact ⟨hK5, trivial⟩)
          clear hK K
          (try simp only [Act.put, List.setIfInBounds_toArray, List.set_cons_zero, List.set_cons_succ])
          refine wpAnyP_take0 (i := 10) (v := ?_) rfl (by kernel_rfl) (by kernel_rfl) (by kernel_rfl) (by kernel_rfl) (by rfl) (fun _ _ _ h => h) (Or.inl ⟨by rfl, ?_⟩) hHeld ?_
          rotate_left 1
          · ((intro w9 hSw; clear hSw; go_simp) <;> with_reducible rfl)
          (try simp only [Act.put, List.setIfInBounds_toArray, List.set_cons_zero, List.set_cons_succ])
          refine wpAnyP_done (by kernel_rfl) ?_ _
          (try simp only [Act.put, List.getElem_toArray, List.getElem_cons_zero, List.getElem_cons_succ, List.setIfInBounds_toArray, List.set_cons_zero, List.set_cons_succ])
          have hO9 := hHeld.1.old
          clear hth hfi hS0 hHeld hL5 hK5 hC hif
          go_wp2
          refine bodyPost_ret (v := .tuple #[.int .i64 0, .int .i64 er']) (by simp [results, Tryz.results13, go_sem]) rfl ⟨rfl, hO9⟩
    · go_simp
      (try simp only [hal])
      have hZ := hS0 w1
      have hgz := hHeld.1.big
      refine hK.out _ _ ?_ (fun hHeld => ?_)
      · (exact ⟨hHeld.1.alloc _, trivial⟩)
      clear hK K
      (try simp only [Act.put, List.setIfInBounds_toArray, List.set_cons_zero, List.set_cons_succ])
      refine wpAnyP_ready (rs := [4]) (by kernel_rfl) (by simp) ?_
      refine AllReadyP.cons (o := _) rfl (fun K hK => ?_) AllReadyP.nil
      · go_simp
        (go_at_call 47; with_reducible refine (hC _ hHeld.1.old).mono ?_; rintro e w2 ⟨rfl, hb2⟩)
        replace hZ := hZ.below hb2 (by first | (rw [World.size_alloc]; exact Nat.lt_succ_self _) | (have hz := hb1.size; rw [World.size_alloc] at hz; omega))
        refine hK.out _ _ ?_ (fun hHeld => ?_)
        · (exact ⟨hHeld.1.below hb2, trivial⟩)
        clear hK K
        (try simp only [Act.put, List.setIfInBounds_toArray, List.set_cons_zero, List.set_cons_succ])
        refine wpAnyP_take0 (i := 5) (v := ?_) rfl (by kernel_rfl) (by kernel_rfl) (by kernel_rfl) (by kernel_rfl) (by rfl) (fun _ _ _ h => h) (Or.inl ⟨by rfl, ?_⟩) hHeld ?_
        rotate_left 1
        · ((intro w9 hSw; clear hSw; go_simp) <;> with_reducible rfl)
        (try simp only [Act.put, List.setIfInBounds_toArray, List.set_cons_zero, List.set_cons_succ])
        refine wpAnyP_take0 (i := 6) (v := ?_) rfl (by kernel_rfl) (by kernel_rfl) (by kernel_rfl) (by kernel_rfl) (by rfl) (fun _ _ _ h => h) (Or.inl ⟨by rfl, ?_⟩) hHeld ?_
        rotate_left 1
        · ((intro w9 hSw; clear hSw; go_simp) <;> with_reducible rfl)
        (try simp only [Act.put, List.setIfInBounds_toArray, List.set_cons_zero, List.set_cons_succ])
        refine wpAnyP_take0 (i := 7) (v := ?_) rfl (by kernel_rfl) (by kernel_rfl) (by kernel_rfl) (by kernel_rfl) (by rfl) (fun _ _ _ h => h) (Or.inl ⟨by rfl, ?_⟩) hHeld ?_
        rotate_left 1
        · ((intro w9 hSw; clear hSw; go_simp) <;> with_reducible rfl)
        (try simp only [Act.put, List.setIfInBounds_toArray, List.set_cons_zero, List.set_cons_succ])
        refine wpAnyP_ready (rs := [9]) (by kernel_rfl) (by simp) ?_
        refine AllReadyP.cons (o := _) rfl (fun K hK => ?_) AllReadyP.nil
        · refine step_store_mid rfl 94 _ _ rfl w1.heap.size 0 L.toArray rfl rfl (hth _ _ hZ) hiA hoL ?_
          have hL5 := hfi _ _ hZ
          have hK5 := hHeld.1.put hgz L
          refine hK.out _ _ ?_ (fun hHeld => ?_)
          · (exact ⟨hK5, trivial⟩)
          clear hK K
          (try simp only [Act.put, List.setIfInBounds_toArray, List.set_cons_zero, List.set_cons_succ])
          refine wpAnyP_take0 (i := 10) (v := ?_) rfl (by kernel_rfl) (by kernel_rfl) (by kernel_rfl) (by kernel_rfl) (by rfl) (fun _ _ _ h => h) (Or.inl ⟨by rfl, ?_⟩) hHeld ?_
          rotate_left 1
          · ((intro w9 hSw; clear hSw; go_simp) <;> with_reducible rfl)
          (try simp only [Act.put, List.setIfInBounds_toArray, List.set_cons_zero, List.set_cons_succ])
          refine wpAnyP_done (by kernel_rfl) ?_ _
          (try simp only [Act.put, List.getElem_toArray, List.getElem_cons_zero, List.getElem_cons_succ, List.setIfInBounds_toArray, List.set_cons_zero, List.set_cons_succ])
          have hO9 := hHeld.1.old
          clear hth hfi hS0 hHeld hL5 hK5 hC hif
          go_wp2
          refine bodyPost_ret (v := .tuple #[.int .i64 0, .int .i64 er']) (by simp [results, Tryz.results13, go_sem]) rfl ⟨rfl, hO9⟩
  · go_simp
    (try simp only [hal])
    have hZ := hS0 V
    have hgz := hHeld.1.big
    refine hK.out _ _ ?_ (fun hHeld => ?_)
    · (exact ⟨hHeld.1.alloc _, trivial⟩)
    clear hK K
    (try simp only [Act.put, List.setIfInBounds_toArray, List.set_cons_zero, List.set_cons_succ])
    refine wpAnyP_ready (rs := [3]) (by kernel_rfl) (by simp) ?_
    refine AllReadyP.cons (o := _) rfl (fun K hK => ?_) AllReadyP.nil
    · go_simp
      (go_at_call 48; with_reducible refine (hif _ hHeld.1.old).mono ?_; rintro e w1 ⟨rfl, hb1⟩)
      replace hZ := hZ.below hb1 (by first | (rw [World.size_alloc]; exact Nat.lt_succ_self _) | (have hz := hb1.size; rw [World.size_alloc] at hz; omega))
      refine hK.out _ _ ?_ (fun hHeld => ?_)
      · (exact ⟨hHeld.1.below hb1, trivial⟩)
      clear hK K
      (try simp only [Act.put, List.setIfInBounds_toArray, List.set_cons_zero, List.set_cons_succ])
      refine wpAnyP_ready (rs := [4]) (by kernel_rfl) (by simp) ?_
      refine AllReadyP.cons (o := _) rfl (fun K hK => ?_) AllReadyP.nil
      · go_simp
        (go_at_call 47; with_reducible refine (hC _ hHeld.1.old).mono ?_; rintro e w2 ⟨rfl, hb2⟩)
        replace hZ := hZ.below hb2 (by first | (rw [World.size_alloc]; exact Nat.lt_succ_self _) | (have hz := hb1.size; rw [World.size_alloc] at hz; omega))
        refine hK.out _ _ ?_ (fun hHeld => ?_)
        · (exact ⟨hHeld.1.below hb2, trivial⟩)
        clear hK K
        (try simp only [Act.put, List.setIfInBounds_toArray, List.set_cons_zero, List.set_cons_succ])
        refine wpAnyP_take0 (i := 5) (v := ?_) rfl (by kernel_rfl) (by kernel_rfl) (by kernel_rfl) (by kernel_rfl) (by rfl) (fun _ _ _ h => h) (Or.inl ⟨by rfl, ?_⟩) hHeld ?_
        rotate_left 1
        · ((intro w9 hSw; clear hSw; go_simp) <;> with_reducible rfl)
        (try simp only [Act.put, List.setIfInBounds_toArray, List.set_cons_zero, List.set_cons_succ])
        refine wpAnyP_take0 (i := 6) (v := ?_) rfl (by kernel_rfl) (by kernel_rfl) (by kernel_rfl) (by kernel_rfl) (by rfl) (fun _ _ _ h => h) (Or.inl ⟨by rfl, ?_⟩) hHeld ?_
        rotate_left 1
        · ((intro w9 hSw; clear hSw; go_simp) <;> with_reducible rfl)
        (try simp only [Act.put, List.setIfInBounds_toArray, List.set_cons_zero, List.set_cons_succ])
        refine wpAnyP_take0 (i := 7) (v := ?_) rfl (by kernel_rfl) (by kernel_rfl) (by kernel_rfl) (by kernel_rfl) (by rfl) (fun _ _ _ h => h) (Or.inl ⟨by rfl, ?_⟩) hHeld ?_
        rotate_left 1
        · ((intro w9 hSw; clear hSw; go_simp) <;> with_reducible rfl)
        (try simp only [Act.put, List.setIfInBounds_toArray, List.set_cons_zero, List.set_cons_succ])
        refine wpAnyP_ready (rs := [9]) (by kernel_rfl) (by simp) ?_
        refine AllReadyP.cons (o := _) rfl (fun K hK => ?_) AllReadyP.nil
        · refine step_store_mid rfl 94 _ _ rfl V.heap.size 0 L.toArray rfl rfl (hth _ _ hZ) hiA hoL ?_
          have hL5 := hfi _ _ hZ
          have hK5 := hHeld.1.put hgz L
          refine hK.out _ _ ?_ (fun hHeld => ?_)
          · (exact ⟨hK5, trivial⟩)
          clear hK K
          (try simp only [Act.put, List.setIfInBounds_toArray, List.set_cons_zero, List.set_cons_succ])
          refine wpAnyP_take0 (i := 10) (v := ?_) rfl (by kernel_rfl) (by kernel_rfl) (by kernel_rfl) (by kernel_rfl) (by rfl) (fun _ _ _ h => h) (Or.inl ⟨by rfl, ?_⟩) hHeld ?_
          rotate_left 1
          · ((intro w9 hSw; clear hSw; go_simp) <;> with_reducible rfl)
          (try simp only [Act.put, List.setIfInBounds_toArray, List.set_cons_zero, List.set_cons_succ])
          refine wpAnyP_done (by kernel_rfl) ?_ _
          (try simp only [Act.put, List.getElem_toArray, List.getElem_cons_zero, List.getElem_cons_succ, List.setIfInBounds_toArray, List.set_cons_zero, List.set_cons_succ])
          have hO9 := hHeld.1.old
          clear hth hfi hS0 hHeld hL5 hK5 hC hif
          go_wp2
          refine bodyPost_ret (v := .tuple #[.int .i64 0, .int .i64 er']) (by simp [results, Tryz.results13, go_sem]) rfl ⟨rfl, hO9⟩
set_option maxRecDepth 100000 in
set_option maxHeartbeats 2000000 in
theorem Gauge_no2 (a1 : Option Addr) (n c1 : Nat) (r : Int) (HX HY : Nat → Int) (m : Mach) (w : World) (hn : n ≤ 1000) (hs : m.sn ≤ 1000) (hr : m.rn ≤ 9223372036854775807) (hp : PSc w (.slice a1 n c1) n HX HY) (h : MIn w m)
    (hf : (measB n HX HY r && decide (n = m.sn)) = false) (er : Int) (hA : Able m false er) (hne : er ≠ 0) :
    Calls Tryz.prog 13 #[.agg #[.slice a1 n c1, .int .i64 r], m.val] w fun e w' => e = .returned (.tuple #[.int .i64 0, .int .i64 er]) ∧ Below w.heap.size w w' := by
  obtain ⟨L, er', hE, hC⟩ := examine_any m false w hs hr h
  obtain rfl : er' = er := Able.same hE.able hA
  clear hA
  have hif := fun (W : World) (hB : Below w.heap.size w W) => isFor_any (.slice a1 n c1) a1 n c1 r HX HY m W rfl hn (by omega) ⟨hp.1.below hB, hp.2⟩
  rw [show (decide (chkE n HX HY r = 0) && decide (n = m.sn)) = false by rw [← hf, chk_meas]; cases measB n HX HY r <;> simp] at hif
  clear hf
  obtain ⟨W0, hW0⟩ : ∃ W0, (w.alloc (Obj.cells #[.slice a1 n c1, .int .i64 r] 24)).alloc (.cells #[.slice m.sa m.sn m.sc, .int .i64 m.c0, .int .i64 m.c1, .int .i64 m.d0, .int .i64 m.d1, .int .i64 m.w0, .int .i64 m.w1, .int .i64 m.v0, .int .i64 m.v1, .slice m.ra m.rn m.rc] 29) = W0 := ⟨_, rfl⟩
  have hSX : SX w W0 m (.slice a1 n c1) r := by rw [← hW0]; exact SX.new w m _ r
  have hal : (#[.slice none 0 0, .int .i64 0, .int .i64 0, .int .i64 0, .int .i64 0, .int .i64 0, .int .i64 0, .int .i64 0, .int .i64 0, .slice none 0 0, .int .i64 0, .int .i64 0, .int .i64 0, .int .i64 0, .int .i64 0, .int .i64 0, .int .i64 0, .int .i64 0, .int .i64 0, .int .i64 0, .int .i64 0, .int .i64 0, .int .i64 0, .int .i64 0, .int .i64 0, .int .i64 0, .int .i64 0, .int .i64 0, .int .i64 0, .int .i64 0, .int .i64 0, .int .i64 0, .int .i64 0, .int .i64 0, .int .i64 0, .int .i64 0, .int .i64 0, .int .i64 0, .int .i64 0, .int .i64 0, .int .i64 0, .int .i64 0, .int .i64 0, .int .i64 0, .int .i64 0, .int .i64 0, .int .i64 0, .int .i64 0, .int .i64 0, .int .i64 0, .int .i64 0, .int .i64 0, .int .i64 0, .int .i64 0, .int .i64 0, .int .i64 0, .int .i64 0, .int .i64 0, .int .i64 0, .int .i64 0, .int .i64 0, .int .i64 0] : Array Value) = zst.toArray := rfl
  have hlz : zst.length = 62 := zM.st_length rfl rfl
  have hlL := hE.length
  have hoL := all_oneCell_toArray hE.one
  have hi0 : (Tryz.prog.info? 94).map (·.size) = some 62 := by kernel_rfl
  have hiL : (Tryz.prog.info? 94).map (·.size) = some L.length := by rw [hlL]; exact hi0
  have hiA : (Tryz.prog.info? 94).map (·.size) = some L.toArray.size := by rw [List.size_toArray, hlL]; exact hi0
  have hS0 := fun (W : World) => SAt.new W zst 94
  have hth := fun (W : World) (g : Nat) (H : SAt W g zst) => H.there 0 L.toArray.size (by rw [List.size_toArray, hlL, hlz]; omega)
  have hfi := fun (W : World) (g : Nat) (H : SAt W g zst) => SAt.fill (L' := L) H (by rw [hlL, hlz])
  clear hi0 hE
  generalize zst = Z at *
  go_enter Tryz.func13, Tryz.ntmps13
  go_wp2_with fail
  refine wp_region_late [] (fun w9 => SX w w9 m (.slice a1 n c1) r) (fun w9 => True) (by kernel_rfl) ?_ (fun hHeld => ?_)
  · (exact ⟨hSX.drew, trivial⟩)
  generalize W0.drew = V at hHeld ⊢
  refine wpAnyP_take0 (i := 0) (v := ?_) rfl (by kernel_rfl) (by kernel_rfl) (by kernel_rfl) (by kernel_rfl) (by rfl) (fun _ _ _ h => h) (Or.inl ⟨by rfl, ?_⟩) hHeld ?_
  rotate_left 1
  · ((intro w9 hSw; have q0 := hSw.mach.k0; have q1 := hSw.mach.k1; have q2 := hSw.mach.k2; have q3 := hSw.mach.k3; have q4 := hSw.mach.k4; have q5 := hSw.mach.k5; have q6 := hSw.mach.k6; have q7 := hSw.mach.k7; have q8 := hSw.mach.k8; have q9 := hSw.mach.k9; clear hSw; go_simp) <;> with_reducible rfl)
  (try simp only [Act.put, List.setIfInBounds_toArray, List.set_cons_zero, List.set_cons_succ])
  refine wpAnyP_take0 (i := 1) (v := ?_) rfl (by kernel_rfl) (by kernel_rfl) (by kernel_rfl) (by kernel_rfl) (by rfl) (fun _ _ _ h => h) (Or.inl ⟨by rfl, ?_⟩) hHeld ?_
  rotate_left 1
  · ((intro w9 hSw; have q0 := hSw.c0; have q1 := hSw.c1; clear hSw; go_simp) <;> with_reducible rfl)
  (try simp only [Act.put, List.setIfInBounds_toArray, List.set_cons_zero, List.set_cons_succ])
  refine wpAnyP_take0 (i := 2) (v := ?_) rfl (by kernel_rfl) (by kernel_rfl) (by kernel_rfl) (by kernel_rfl) (by rfl) (fun _ _ _ h => h) (Or.inl ⟨by rfl, ?_⟩) hHeld ?_
  rotate_left 1
  · ((intro w9 hSw; have q0 := hSw.mach.k0; have q1 := hSw.mach.k1; have q2 := hSw.mach.k2; have q3 := hSw.mach.k3; have q4 := hSw.mach.k4; have q5 := hSw.mach.k5; have q6 := hSw.mach.k6; have q7 := hSw.mach.k7; have q8 := hSw.mach.k8; have q9 := hSw.mach.k9; clear hSw; go_simp) <;> with_reducible rfl)
  (try simp only [Act.put, List.setIfInBounds_toArray, List.set_cons_zero, List.set_cons_succ])
  refine wpAnyP_ready (rs := [3, 8]) (by kernel_rfl) (by simp) ?_
  refine AllReadyP.cons (o := _) rfl (fun K hK => ?_) (AllReadyP.cons (o := _) rfl (fun K hK => ?_) AllReadyP.nil)
  · go_simp
    (go_at_call 48; with_reducible refine (hif _ hHeld.1.old).mono ?_; rintro e w1 ⟨rfl, hb1⟩)
    refine hK.out _ _ ?_ (fun hHeld => ?_)
    · (exact ⟨hHeld.1.below hb1, trivial⟩)
    clear hK K
    (try simp only [Act.put, List.setIfInBounds_toArray, List.set_cons_zero, List.set_cons_succ])
    refine wpAnyP_ready (rs := [4, 8]) (by kernel_rfl) (by simp) ?_
    refine AllReadyP.cons (o := _) rfl (fun K hK => ?_) (AllReadyP.cons (o := _) rfl (fun K hK => ?_) AllReadyP.nil)
    · go_simp
      (go_at_call 47; with_reducible refine (hC _ hHeld.1.old).mono ?_; rintro e w2 ⟨rfl, hb2⟩)
      refine hK.out _ _ ?_ (fun hHeld => ?_)
      · (exact ⟨hHeld.1.below hb2, trivial⟩)
      clear hK K
      (try simp only [Act.put, List.setIfInBounds_toArray, List.set_cons_zero, List.set_cons_succ])
      refine wpAnyP_take0 (i := 5) (v := ?_) rfl (by kernel_rfl) (by kernel_rfl) (by kernel_rfl) (by kernel_rfl) (by rfl) (fun _ _ _ h => h) (Or.inl ⟨by rfl, ?_⟩) hHeld ?_
      rotate_left 1
      · ((intro w9 hSw; clear hSw; go_simp) <;> with_reducible rfl)
      (try simp only [Act.put, List.setIfInBounds_toArray, List.set_cons_zero, List.set_cons_succ])
      refine wpAnyP_take0 (i := 6) (v := ?_) rfl (by kernel_rfl) (by kernel_rfl) (by kernel_rfl) (by kernel_rfl) (by rfl) (fun _ _ _ h => h) (Or.inl ⟨by rfl, ?_⟩) hHeld ?_
      rotate_left 1
      · ((intro w9 hSw; clear hSw; go_simp) <;> with_reducible rfl)
      (try simp only [Act.put, List.setIfInBounds_toArray, List.set_cons_zero, List.set_cons_succ])
      refine wpAnyP_take0 (i := 7) (v := ?_) rfl (by kernel_rfl) (by kernel_rfl) (by kernel_rfl) (by kernel_rfl) (by rfl) (fun _ _ _ h => h) (Or.inl ⟨by rfl, ?_⟩) hHeld ?_
      rotate_left 1
      · ((intro w9 hSw; clear hSw; go_simp) <;> with_reducible rfl)
      (try simp only [Act.put, List.setIfInBounds_toArray, List.set_cons_zero, List.set_cons_succ])
      refine wpAnyP_ready (rs := [8]) (by kernel_rfl) (by simp) ?_
      refine AllReadyP.cons (o := _) rfl (fun K hK => ?_) AllReadyP.nil
      · go_simp
        (try simp only [hal])
        have hZ := hS0 w2
        have hgz := hHeld.1.big
        refine hK.out _ _ ?_ (fun hHeld => ?_)
        · (exact ⟨hHeld.1.alloc _, trivial⟩)
        clear hK K
        (try simp only [Act.put, List.setIfInBounds_toArray, List.set_cons_zero, List.set_cons_succ])
        refine wpAnyP_ready (rs := [9]) (by kernel_rfl) (by simp) ?_
        refine AllReadyP.cons (o := _) rfl (fun K hK => ?_) AllReadyP.nil
        · refine step_store_mid rfl 94 _ _ rfl w2.heap.size 0 L.toArray rfl rfl (hth _ _ hZ) hiA hoL ?_
          have hL5 := hfi _ _ hZ
          have hK5 := hHeld.1.put hgz L
          refine hK.out _ _ ?_ (fun hHeld => ?_)
          · (exact ⟨hK5, trivial⟩)
          clear hK K
          (try simp only [Act.put, List.setIfInBounds_toArray, List.set_cons_zero, List.set_cons_succ])
          refine wpAnyP_take0 (i := 10) (v := ?_) rfl (by kernel_rfl) (by kernel_rfl) (by kernel_rfl) (by kernel_rfl) (by rfl) (fun _ _ _ h => h) (Or.inl ⟨by rfl, ?_⟩) hHeld ?_
          rotate_left 1
          · ((intro w9 hSw; clear hSw; go_simp) <;> with_reducible rfl)
          (try simp only [Act.put, List.setIfInBounds_toArray, List.set_cons_zero, List.set_cons_succ])
          refine wpAnyP_done (by kernel_rfl) ?_ _
          (try simp only [Act.put, List.getElem_toArray, List.getElem_cons_zero, List.getElem_cons_succ, List.setIfInBounds_toArray, List.set_cons_zero, List.set_cons_succ])
          have hO9 := hHeld.1.old
          clear hth hfi hS0 hHeld hL5 hK5 hC hif
          go_wp2
          refine bodyPost_ret (v := .tuple #[.int .i64 0, .int .i64 er']) (by simp [results, Tryz.results13, go_sem]) rfl ⟨rfl, hO9⟩
    · go_simp
      (try simp only [hal])
      have hZ := hS0 w1
      have hgz := hHeld.1.big
      refine hK.out _ _ ?_ (fun hHeld => ?_)
      · (exact ⟨hHeld.1.alloc _, trivial⟩)
      clear hK K
      (try simp only [Act.put, List.setIfInBounds_toArray, List.set_cons_zero, List.set_cons_succ])
      refine wpAnyP_ready (rs := [4]) (by kernel_rfl) (by simp) ?_
      refine AllReadyP.cons (o := _) rfl (fun K hK => ?_) AllReadyP.nil
      · go_simp
        (go_at_call 47; with_reducible refine (hC _ hHeld.1.old).mono ?_; rintro e w2 ⟨rfl, hb2⟩)
        replace hZ := hZ.below hb2 (by first | (rw [World.size_alloc]; exact Nat.lt_succ_self _) | (have hz := hb1.size; rw [World.size_alloc] at hz; omega))
        refine hK.out _ _ ?_ (fun hHeld => ?_)
        · (exact ⟨hHeld.1.below hb2, trivial⟩)
        clear hK K
        (try simp only [Act.put, List.setIfInBounds_toArray, List.set_cons_zero, List.set_cons_succ])
        refine wpAnyP_take0 (i := 5) (v := ?_) rfl (by kernel_rfl) (by kernel_rfl) (by kernel_rfl) (by kernel_rfl) (by rfl) (fun _ _ _ h => h) (Or.inl ⟨by rfl, ?_⟩) hHeld ?_
        rotate_left 1
        · ((intro w9 hSw; clear hSw; go_simp) <;> with_reducible rfl)
        (try simp only [Act.put, List.setIfInBounds_toArray, List.set_cons_zero, List.set_cons_succ])
        refine wpAnyP_take0 (i := 6) (v := ?_) rfl (by kernel_rfl) (by kernel_rfl) (by kernel_rfl) (by kernel_rfl) (by rfl) (fun _ _ _ h => h) (Or.inl ⟨by rfl, ?_⟩) hHeld ?_
        rotate_left 1
        · ((intro w9 hSw; clear hSw; go_simp) <;> with_reducible rfl)
        (try simp only [Act.put, List.setIfInBounds_toArray, List.set_cons_zero, List.set_cons_succ])
        refine wpAnyP_take0 (i := 7) (v := ?_) rfl (by kernel_rfl) (by kernel_rfl) (by kernel_rfl) (by kernel_rfl) (by rfl) (fun _ _ _ h => h) (Or.inl ⟨by rfl, ?_⟩) hHeld ?_
        rotate_left 1
        · ((intro w9 hSw; clear hSw; go_simp) <;> with_reducible rfl)
        (try simp only [Act.put, List.setIfInBounds_toArray, List.set_cons_zero, List.set_cons_succ])
        refine wpAnyP_ready (rs := [9]) (by kernel_rfl) (by simp) ?_
        refine AllReadyP.cons (o := _) rfl (fun K hK => ?_) AllReadyP.nil
        · refine step_store_mid rfl 94 _ _ rfl w1.heap.size 0 L.toArray rfl rfl (hth _ _ hZ) hiA hoL ?_
          have hL5 := hfi _ _ hZ
          have hK5 := hHeld.1.put hgz L
          refine hK.out _ _ ?_ (fun hHeld => ?_)
          · (exact ⟨hK5, trivial⟩)
          clear hK K
          (try simp only [Act.put, List.setIfInBounds_toArray, List.set_cons_zero, List.set_cons_succ])
          refine wpAnyP_take0 (i := 10) (v := ?_) rfl (by kernel_rfl) (by kernel_rfl) (by kernel_rfl) (by kernel_rfl) (by rfl) (fun _ _ _ h => h) (Or.inl ⟨by rfl, ?_⟩) hHeld ?_
          rotate_left 1
          · ((intro w9 hSw; clear hSw; go_simp) <;> with_reducible rfl)
          (try simp only [Act.put, List.setIfInBounds_toArray, List.set_cons_zero, List.set_cons_succ])
          refine wpAnyP_done (by kernel_rfl) ?_ _
          (try simp only [Act.put, List.getElem_toArray, List.getElem_cons_zero, List.getElem_cons_succ, List.setIfInBounds_toArray, List.set_cons_zero, List.set_cons_succ])
          have hO9 := hHeld.1.old
          clear hth hfi hS0 hHeld hL5 hK5 hC hif
          go_wp2
          refine bodyPost_ret (v := .tuple #[.int .i64 0, .int .i64 er']) (by simp [results, Tryz.results13, go_sem]) rfl ⟨rfl, hO9⟩
  · go_simp
    (try simp only [hal])
    have hZ := hS0 V
    have hgz := hHeld.1.big
    refine hK.out _ _ ?_ (fun hHeld => ?_)
    · (exact ⟨hHeld.1.alloc _, trivial⟩)
    clear hK K
    (try simp only [Act.put, List.setIfInBounds_toArray, List.set_cons_zero, List.set_cons_succ])
    refine wpAnyP_ready (rs := [3]) (by kernel_rfl) (by simp) ?_
    refine AllReadyP.cons (o := _) rfl (fun K hK => ?_) AllReadyP.nil
    · go_simp
      (go_at_call 48; with_reducible refine (hif _ hHeld.1.old).mono ?_; rintro e w1 ⟨rfl, hb1⟩)
      replace hZ := hZ.below hb1 (by first | (rw [World.size_alloc]; exact Nat.lt_succ_self _) | (have hz := hb1.size; rw [World.size_alloc] at hz; omega))
      refine hK.out _ _ ?_ (fun hHeld => ?_)
      · (exact ⟨hHeld.1.below hb1, trivial⟩)
      clear hK K
      (try simp only [Act.put, List.setIfInBounds_toArray, List.set_cons_zero, List.set_cons_succ])
      refine wpAnyP_ready (rs := [4]) (by kernel_rfl) (by simp) ?_
      refine AllReadyP.cons (o := _) rfl (fun K hK => ?_) AllReadyP.nil
      · go_simp
        (go_at_call 47; with_reducible refine (hC _ hHeld.1.old).mono ?_; rintro e w2 ⟨rfl, hb2⟩)
        replace hZ := hZ.below hb2 (by first | (rw [World.size_alloc]; exact Nat.lt_succ_self _) | (have hz := hb1.size; rw [World.size_alloc] at hz; omega))
        refine hK.out _ _ ?_ (fun hHeld => ?_)
        · (exact ⟨hHeld.1.below hb2, trivial⟩)
        clear hK K
        (try simp only [Act.put, List.setIfInBounds_toArray, List.set_cons_zero, List.set_cons_succ])
        refine wpAnyP_take0 (i := 5) (v := ?_) rfl (by kernel_rfl) (by kernel_rfl) (by kernel_rfl) (by kernel_rfl) (by rfl) (fun _ _ _ h => h) (Or.inl ⟨by rfl, ?_⟩) hHeld ?_
        rotate_left 1
        · ((intro w9 hSw; clear hSw; go_simp) <;> with_reducible rfl)
        (try simp only [Act.put, List.setIfInBounds_toArray, List.set_cons_zero, List.set_cons_succ])
        refine wpAnyP_take0 (i := 6) (v := ?_) rfl (by kernel_rfl) (by kernel_rfl) (by kernel_rfl) (by kernel_rfl) (by rfl) (fun _ _ _ h => h) (Or.inl ⟨by rfl, ?_⟩) hHeld ?_
        rotate_left 1
        · ((intro w9 hSw; clear hSw; go_simp) <;> with_reducible rfl)
        (try simp only [Act.put, List.setIfInBounds_toArray, List.set_cons_zero, List.set_cons_succ])
        refine wpAnyP_take0 (i := 7) (v := ?_) rfl (by kernel_rfl) (by kernel_rfl) (by kernel_rfl) (by kernel_rfl) (by rfl) (fun _ _ _ h => h) (Or.inl ⟨by rfl, ?_⟩) hHeld ?_
        rotate_left 1
        · ((intro w9 hSw; clear hSw; go_simp) <;> with_reducible rfl)
        (try simp only [Act.put, List.setIfInBounds_toArray, List.set_cons_zero, List.set_cons_succ])
        refine wpAnyP_ready (rs := [9]) (by kernel_rfl) (by simp) ?_
        refine AllReadyP.cons (o := _) rfl (fun K hK => ?_) AllReadyP.nil
        · refine step_store_mid rfl 94 _ _ rfl V.heap.size 0 L.toArray rfl rfl (hth _ _ hZ) hiA hoL ?_
          have hL5 := hfi _ _ hZ
          have hK5 := hHeld.1.put hgz L
          refine hK.out _ _ ?_ (fun hHeld => ?_)
          · (exact ⟨hK5, trivial⟩)
          clear hK K
          (try simp only [Act.put, List.setIfInBounds_toArray, List.set_cons_zero, List.set_cons_succ])
          refine wpAnyP_take0 (i := 10) (v := ?_) rfl (by kernel_rfl) (by kernel_rfl) (by kernel_rfl) (by kernel_rfl) (by rfl) (fun _ _ _ h => h) (Or.inl ⟨by rfl, ?_⟩) hHeld ?_
          rotate_left 1
          · ((intro w9 hSw; clear hSw; go_simp) <;> with_reducible rfl)
          (try simp only [Act.put, List.setIfInBounds_toArray, List.set_cons_zero, List.set_cons_succ])
          refine wpAnyP_done (by kernel_rfl) ?_ _
          (try simp only [Act.put, List.getElem_toArray, List.getElem_cons_zero, List.getElem_cons_succ, List.setIfInBounds_toArray, List.set_cons_zero, List.set_cons_succ])
          have hO9 := hHeld.1.old
          clear hth hfi hS0 hHeld hL5 hK5 hC hif
          go_wp2
          refine bodyPost_ret (v := .tuple #[.int .i64 0, .int .i64 er']) (by simp [results, Tryz.results13, go_sem]) rfl ⟨rfl, hO9⟩
end Go.Proofs.YtmjmmokbaocboaaGreatDoor
namespace Go.Proofs.YtmjmmokbaocboaaGreatDoor
open Go.RowKit
/-- what stays while Gauge goes through the blanks. -/
structure GX (w W : World) (n sb so cap cb b1 o1 k1 bm kk g t : Nat) (SX SY HX HY : Nat → Int) (r : Int) (L : List Value) (Q : Int → Int → Bool) : Prop where
  old : Below w.heap.size w W
  tg : TrialG W n sb so cap cb b1 o1 k1 SX SY HX HY r
  gm : GoodAt W bm kk Q
  st : SAt W g L
  t0 : W.cell? ⟨t, 0, none⟩ = some (.slice (some ⟨sb, so, none⟩) n cap)
  t1 : W.cell? ⟨t, 1, none⟩ = some (.func (.func 95) #[] #[.pointer (some ⟨cb, 0, none⟩)])
  t2 : W.cell? ⟨t, 2, none⟩ = some (.map (some bm))
  lg : g < bm
  lt : bm < t
  big : t < W.heap.size
  ls : sb < bm
  l1 : b1 < bm
  lc : cb < bm
  lw : w.heap.size ≤ bm
theorem GX.below {w W W' : World} {n sb so cap cb b1 o1 k1 bm kk g t : Nat} {SX SY HX HY : Nat → Int} {r : Int} {L : List Value} {Q : Int → Int → Bool} (h : GX w W n sb so cap cb b1 o1 k1 bm kk g t SX SY HX HY r L Q) (hb : Below W.heap.size W W') : GX w W' n sb so cap cb b1 o1 k1 bm kk g t SX SY HX HY r L Q := by
  have h1 := h.lg; have h2 := h.lt; have h3 := h.big
  exact ⟨h.old.trans (hb.mono h.old.size), h.tg.below hb, h.gm.below hb h.gm.lt, h.st.below hb (by omega), (hb.cell (p := ⟨t, 0, none⟩) h3).trans h.t0, (hb.cell (p := ⟨t, 1, none⟩) h3).trans h.t1, (hb.cell (p := ⟨t, 2, none⟩) h3).trans h.t2, h1, h2, Nat.lt_of_lt_of_le h3 hb.size, h.ls, h.l1, h.lc, h.lw⟩
theorem GX.grown {w W W' : World} {n sb so cap cb b1 o1 k1 bm kk kk' g t : Nat} {SX SY HX HY : Nat → Int} {r : Int} {L : List Value} {Q : Int → Int → Bool} (h : GX w W n sb so cap cb b1 o1 k1 bm kk g t SX SY HX HY r L Q) (hg : W.grownBy W' (some bm)) (hgm : GoodAt W' bm kk' Q) : GX w W' n sb so cap cb b1 o1 k1 bm kk' g t SX SY HX HY r L Q := by
  have h1 := h.lg; have h2 := h.lt; have h3 := h.big; have h4 := h.lw; have h5 := h.old.size
  have c : ∀ j, W'.cell? ⟨t, j, none⟩ = W.cell? ⟨t, j, none⟩ := fun j => World.cell?_of_block (hg.block t h3 (by intro e; injection e; omega))
  exact ⟨h.old.grown hg h5 (fun k e => by cases e; exact h4), h.tg.grown hg h.ls h.l1 h.lc, hgm, h.st.far (hg.block g (by omega) (by intro e; injection e; omega)), (c _).trans h.t0, (c _).trans h.t1, (c _).trans h.t2, h1, h2, Nat.lt_of_lt_of_le h3 hg.size, h.ls, h.l1, h.lc, h.lw⟩
theorem GX.mono {w W : World} {n sb so cap cb b1 o1 k1 bm kk kk' g t : Nat} {SX SY HX HY : Nat → Int} {r : Int} {L : List Value} {Q : Int → Int → Bool} (h : GX w W n sb so cap cb b1 o1 k1 bm kk g t SX SY HX HY r L Q) (hk : kk ≤ kk') : GX w W n sb so cap cb b1 o1 k1 bm kk' g t SX SY HX HY r L Q :=
  ⟨h.old, h.tg, h.gm.mono hk, h.st, h.t0, h.t1, h.t2, h.lg, h.lt, h.big, h.ls, h.l1, h.lc, h.lw⟩
end Go.Proofs.YtmjmmokbaocboaaGreatDoor
