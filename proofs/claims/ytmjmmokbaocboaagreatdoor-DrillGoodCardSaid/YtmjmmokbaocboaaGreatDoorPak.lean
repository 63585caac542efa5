/- A part of the proof: see the last file. -/
import Derived.Test.YtmjmmokbaocboaaGreatDoorPaj
import Derived.Test.YtmjmmokbaocboaaGreatDoorPag
import Derived.IntWalk
import Derived.Test.YtmjmmokbaocboaaGreatDoorPaa
set_option linter.unusedVariables false
set_option linter.unusedSimpArgs false
set_option linter.unusedSectionVars false
namespace Go.Proofs.YtmjmmokbaocboaaGreatDoor
open Go.RowKit
/-- a clue fails at numbers. -/
def cmiss (F : Nat → Int) (c : Int × Int × Int) : Bool := !inB (F c.1.toNat) c.2.1 c.2.2
set_option maxRecDepth 100000 in
set_option maxHeartbeats 1000000 in
theorem holds1_any (c : Int × Int × Int) (g b off cap : Nat) (F : Nat → Int) (w : World) (h0 : 0 ≤ c.1) (h1 : c.1 ≤ 12) (hg : g < w.heap.size) (hc : w.cell? ⟨g, 0, none⟩ = some (.slice (some ⟨b, off, none⟩) 13 cap)) (hb : b < w.heap.size) (hp : Ints w b off 13 F) :
    Calls Tryz.prog 147 #[.agg #[.int .i64 c.1, .int .i64 c.2.1, .int .i64 c.2.2], .pointer (some ⟨g, 0, none⟩)] w fun e w' => e = .returned (.bool (cmiss F c)) ∧ Below w.heap.size w w' := by
  obtain ⟨k, lo, hi⟩ := c
  dsimp only at h0 h1 ⊢
  obtain ⟨m, rfl⟩ := Int.eq_ofNat_of_zero_le h0
  unfold cmiss
  dsimp only
  rw [Int.toNat_natCast]
  have hm : m < 13 := by omega
  have hm1 : (m : Int) < 13 := by omega
  have e1 := hp m hm
  obtain ⟨W0, hW⟩ : ∃ W0, w.alloc (.cells #[.int .i64 (m : Int), .int .i64 lo, .int .i64 hi] 152) = W0 := ⟨_, rfl⟩
  have hb0 : Below w.heap.size w W0 := by rw [← hW]; exact (Below.refl _ _).alloc (Nat.le_refl _) _
  have f1 := (hb0.cell (p := ⟨b, off + m, none⟩) hb).trans e1
  have f0 := (hb0.cell (p := ⟨g, 0, none⟩) hg).trans hc
  have k0 : W0.cell? ⟨w.heap.size, 0, none⟩ = some (.int .i64 (m : Int)) := by rw [← hW]; exact cells_new w _ _ rfl
  have k1 : W0.cell? ⟨w.heap.size, 1, none⟩ = some (.int .i64 lo) := by rw [← hW]; exact cells_new w _ _ rfl
  have k2 : W0.cell? ⟨w.heap.size, 2, none⟩ = some (.int .i64 hi) := by rw [← hW]; exact cells_new w _ _ rfl
  have hsz : W0.heap.size = w.heap.size + 1 := by rw [← hW]; exact World.size_alloc _ _
  go_enter Tryz.func147, Tryz.ntmps147
  go_wp2_with fail
  go_region_held3 (fun w' => w'.cell? ⟨g, 0, none⟩ = some (.slice (some ⟨b, off, none⟩) 13 cap) ∧ w'.cell? ⟨b, off + m, none⟩ = some (.int .i64 (F m)) ∧ w'.cell? ⟨w.heap.size, 0, none⟩ = some (.int .i64 (m : Int)) ∧ w'.cell? ⟨w.heap.size, 1, none⟩ = some (.int .i64 lo) ∧ w'.cell? ⟨w.heap.size, 2, none⟩ = some (.int .i64 hi))
    (first | (go_keep; done) | (go_split_ands; refine ⟨?_, ?_, ?_, ?_, ?_⟩ <;> (rw [hbb.cell (by first | omega | (simp; omega) | simp)]; assumption)))
    ((go_at_call 145; refine (lies_any _ _ _ _).mono ?_; rintro e w6 ⟨rfl, hbb⟩; have hs := hbb.size))
  go_wp2
  go_ret
  exact ⟨rfl, hb0.trans (((Below.refl _ _).drew.trans (hbb.mono (by simp))).mono hb0.size)⟩
set_option maxRecDepth 100000 in
set_option maxHeartbeats 1000000 in
theorem idx_clue (b off n cap : Nat) (cl : Nat → Int × Int × Int) (g nb no nc : Nat) (F : Nat → Int) (w : World) (hn : n ≤ 1000) (hb : b < w.heap.size) (hp : CPts w b off n cl) (hcl : ∀ i, i < n → 0 ≤ (cl i).1 ∧ (cl i).1 ≤ 12) (hg : g < w.heap.size) (hc : w.cell? ⟨g, 0, none⟩ = some (.slice (some ⟨nb, no, none⟩) 13 nc)) (hnb : nb < w.heap.size) (hF : Ints w nb no 13 F) :
    Calls Tryz.prog 165 #[.slice (some ⟨b, off, none⟩) n cap, .func (.func 147) #[] #[.pointer (some ⟨g, 0, none⟩)]] w fun e w' => e = .returned (.int .i64 (idxQ (fun i => cmiss F (cl i)) 0 n)) ∧ Below w.heap.size w w' := by
  generalize hPP : (fun i => cmiss F (cl i)) = PP
  have hPQ : ∀ i, (fun i => cmiss F (cl i)) i = PP i := fun i => by rw [hPP]
  go_enter Tryz.func165, Tryz.ntmps165
  go_wp2
  go_loopw [8] (fun i wr => ∃ k : Nat, k ≤ n ∧ i = .int .i64 k ∧ idxQ PP 0 n = idxQ PP k (n - k) ∧ Below w.heap.size w wr) (fun i _ => n - (intOf i).toNat)
  case atStart => exact ⟨0, Nat.zero_le _, rfl, rfl, Below.refl _ _⟩
  case round =>
    obtain ⟨k, hk, rfl, hall, hbl⟩ := hrel
    by_cases hlt : k < n
    · have hk0 : (0 : Int) ≤ (k : Int) := Int.natCast_nonneg _
      have hk1 : (k : Int) < (n : Int) := by omega
      have hq := (hcl k hlt)
      have hco := fun W (hW : Below wr.heap.size wr W) => holds1_any (cl k) g nb no nc F W hq.1 hq.2 (Nat.lt_of_lt_of_le hg (Nat.le_trans hbl.size hW.size)) ((hW.cell (p := ⟨g, 0, none⟩) (Nat.lt_of_lt_of_le hg hbl.size)).trans ((hbl.cell (p := ⟨g, 0, none⟩) hg).trans hc)) (Nat.lt_of_lt_of_le hnb (Nat.le_trans hbl.size hW.size)) fun i hi => ((hW.cell (p := ⟨nb, no + i, none⟩) (Nat.lt_of_lt_of_le hnb hbl.size)).trans ((hbl.cell (p := ⟨nb, no + i, none⟩) hnb).trans (hF i hi)))
      obtain ⟨e1, e2, e3⟩ := hp.below hbl hb k hlt
      have hk := hPQ k
      rw [hk] at hco
      clear hq hk
      generalize cl k = c at e1 e2 e3 hco
      obtain ⟨c0, c1, c2⟩ := c
      dsimp only at e1 e2 e3 hco
      cases hpt : PP k with
      | false =>
        rw [idxQ_miss hlt hpt] at hall
        rw [hpt] at hco
        go_wp2_with (go_at_call 147; with_reducible refine (hco _ (by first | exact (Below.refl _ _).alloc (Nat.le_refl _) _ | exact Below.refl _ _)).mono ?_; rintro e w' ⟨rfl, hb2⟩)
        go_roundw
        case rel =>
          first
            | exact ⟨k + 1, by omega, by go_num, hall, hbl.trans (hb2.mono hbl.size)⟩
            | exact ⟨k + 1, by omega, by go_num, hall, (hbl.alloc hbl.size _).trans (hb2.mono (by rw [World.size_alloc]; have := hbl.size; omega))⟩
        case measure => simp [intOf]; omega
      | true =>
        rw [idxQ_hit hlt hpt] at hall
        rw [hpt] at hco
        go_wp2_with (go_at_call 147; with_reducible refine (hco _ (by first | exact (Below.refl _ _).alloc (Nat.le_refl _) _ | exact Below.refl _ _)).mono ?_; rintro e w' ⟨rfl, hb2⟩)
        go_ret
        first
          | exact ⟨by rw [hall]; rfl, hbl.trans (hb2.mono hbl.size)⟩
          | exact ⟨by rw [hall]; rfl, (hbl.alloc hbl.size _).trans (hb2.mono (by rw [World.size_alloc]; have := hbl.size; omega))⟩
    · obtain rfl : n = k := by omega
      go_wp2
      go_ret
      refine ⟨?_, hbl⟩
      rw [hall, Nat.sub_self]; rfl
set_option maxRecDepth 100000 in
set_option maxHeartbeats 1000000 in
theorem idx_clue_nil (a : Option Addr) (c : Nat) (v : Value) (w : World) :
    Calls Tryz.prog 165 #[.slice a 0 c, v] w fun e w' => e = .returned (.int .i64 (-1)) ∧ w' = w := by
  go_enter Tryz.func165, Tryz.ntmps165
  go_wp2
  refine wp_loop_rounds 1 ?_
  rw [rounds_succ]
  go_wp2
  go_ret
  exact ⟨rfl, rfl⟩
set_option maxRecDepth 100000 in
set_option maxHeartbeats 1000000 in
theorem has_clue (v : Value) (n : Nat) (cl : Nat → Int × Int × Int) (g nb no nc : Nat) (F : Nat → Int) (w : World) (hn : n ≤ 1000) (hp : CSp w v n cl) (hcl : ∀ i, i < n → 0 ≤ (cl i).1 ∧ (cl i).1 ≤ 12) (hg : g < w.heap.size) (hc : w.cell? ⟨g, 0, none⟩ = some (.slice (some ⟨nb, no, none⟩) 13 nc)) (hnb : nb < w.heap.size) (hF : Ints w nb no 13 F) :
    Calls Tryz.prog 146 #[v, .func (.func 147) #[] #[.pointer (some ⟨g, 0, none⟩)]] w fun e w' => e = .returned (.bool (anyB (fun i => cmiss F (cl i)) n)) ∧ Below w.heap.size w w' := by
  rcases hp with ⟨rfl, rfl⟩ | ⟨h0, b, off, cap, rfl, hb, hp⟩
  · have hno : anyB (fun i => cmiss F (cl i)) 0 = false := anyB_no.2 fun i hi => absurd hi (Nat.not_lt_zero i)
    rw [hno]
    go_enter Tryz.func146, Tryz.ntmps146
    go_wp2_with (go_at_call 165; refine (idx_clue_nil _ _ _ _).mono ?_; rintro e w' ⟨rfl, rfl⟩)
    go_ret
    exact ⟨rfl, Below.refl _ _⟩
  · have hi := idx_clue b off n cap cl g nb no nc F w hn hb hp hcl hg hc hnb hF
    unfold anyB
    generalize idxQ (fun i => cmiss F (cl i)) 0 n = x at hi ⊢
    go_enter Tryz.func146, Tryz.ntmps146
    go_wp2_with (go_at_call 165; refine hi.mono ?_; rintro e w' ⟨rfl, hb2⟩)
    go_ret
    exact ⟨rfl, hb2⟩
end Go.Proofs.YtmjmmokbaocboaaGreatDoor
namespace Go.Proofs.YtmjmmokbaocboaaGreatDoor
open Go.RowKit
theorem readB_iff {B X Y E : Int} : readB B X Y E = true ↔ inB B 0 12 = true ∧ inB X (-80) 80 = true ∧ inB Y (-80) 80 = true ∧ inB E 0 4 = true := by
  unfold readB ptB
  simp only [Bool.and_eq_true]
  constructor
  · rintro ⟨a, ⟨b, c⟩, d⟩; exact ⟨a, b, c, d⟩
  · rintro ⟨a, b, c, d⟩; exact ⟨a, ⟨b, c⟩, d⟩
theorem okReads_no {m : Mach} {i : Nat} (hi : i < m.rn) (h : readB (m.RB i) (m.RX i) (m.RY i) (m.RE i) = false) : m.ok = false := by
  have : m.okReads = false := by
    unfold Mach.okReads
    cases hx : anyB (fun i => !readB (m.RB i) (m.RX i) (m.RY i) (m.RE i)) m.rn with
    | true => rfl
    | false =>
      have := anyB_no.1 hx i hi
      rw [h] at this; cases this
  unfold Mach.ok
  rw [this]; simp
theorem okReads_yes {m : Mach} (h : ∀ i, i < m.rn → readB (m.RB i) (m.RX i) (m.RY i) (m.RE i) = true) : m.ok = (ponB m.sn 2 4 m.SX m.SY 20 && (decide ((m.rn : Int) ≤ 4) && m.okSpans)) := by
  have : m.okReads = true := by
    unfold Mach.okReads
    rw [anyB_no.2 fun i hi => by rw [h i hi]; rfl]; rfl
  unfold Mach.ok Mach.okStops
  rw [this, arB_pon2, Bool.and_true]
set_option maxRecDepth 100000 in
set_option maxHeartbeats 4000000 in
theorem rmachine_any (m : Mach) (w : World) (hs : m.sn ≤ 1000) (hr : m.rn ≤ 1000) (h : MIn w m) :
    Calls Tryz.prog 17 #[m.val] w fun e w' => e = .returned (.bool m.ok) ∧ Below w.heap.size w w' := by
  have hno := fun i hi h => okReads_no (m := m) (i := i) hi h
  have hyes := okReads_yes (m := m)
  unfold Mach.okSpans at hyes
  generalize m.ok = ok at *
  obtain ⟨sa, sn, sc, SX, SY, c0, c1, d0, d1, w0, w1, v0, v1, ra, rn, rc, RB, RX, RY, RE⟩ := m
  obtain ⟨h1, h2⟩ := h
  dsimp only [Mach.val] at *
  obtain ⟨W0, hW⟩ : ∃ W0, w.alloc (.cells #[.slice sa sn sc, .int .i64 c0, .int .i64 c1, .int .i64 d0, .int .i64 d1, .int .i64 w0, .int .i64 w1, .int .i64 v0, .int .i64 v1, .slice ra rn rc] 29) = W0 := ⟨_, rfl⟩
  have hw0 : Below w.heap.size w W0 := by rw [← hW]; exact (Below.refl _ _).alloc (Nat.le_refl _) _
  have hsz : W0.heap.size = w.heap.size + 1 := by rw [← hW]; exact World.size_alloc _ _
  have hMA : MAt W0 w.heap.size ⟨sa, sn, sc, SX, SY, c0, c1, d0, d1, w0, w1, v0, v1, ra, rn, rc, RB, RX, RY, RE⟩ := by rw [← hW]; exact MAt.new w ⟨sa, sn, sc, SX, SY, c0, c1, d0, d1, w0, w1, v0, v1, ra, rn, rc, RB, RX, RY, RE⟩
  have g1 := h1.below hw0
  have g2 := h2.below hw0
  go_enter Tryz.func17, Tryz.ntmps17
  go_wp2
  go_loopw [3] (fun i wr => ∃ k : Nat, k ≤ rn ∧ i = .int .i64 k ∧ Below W0.heap.size W0 wr ∧ ∀ j, j < k → readB (RB j) (RX j) (RY j) (RE j) = true) (fun i _ => rn - (intOf i).toNat)
  case atStart => exact ⟨0, Nat.zero_le _, rfl, Below.refl _ _, fun _ h => absurd h (Nat.not_lt_zero _)⟩
  case round =>
    obtain ⟨i, hi, rfl, hbl, hall⟩ := hrel
    have hMB := hMA.below hbl (by omega)
    have k9 := hMB.k9
    dsimp only at k9
    by_cases hlt : i < rn
    · rcases g2 with ⟨_, _, _, h0⟩ | ⟨b, off, cap, e, hb, hp⟩
      · omega
      · cases e
        obtain ⟨e1, e2, e3, e4⟩ := hp.below hbl hb i hlt
        have hi0 : (0 : Int) ≤ (i : Int) := Int.natCast_nonneg _
        have hi1 : (i : Int) < (rn : Int) := by omega
        have hrb := @readB_iff (RB i) (RX i) (RY i) (RE i)
        have hno' := hno i hlt
        cases q1 : inB (RB i) 0 12 with
        | false =>
          have hz0 := hno' (by cases hz : readB (RB i) (RX i) (RY i) (RE i) with | false => rfl | true => have := (hrb.1 hz).1; rw [q1] at this; cases this)
          go_wp2_with (first
            | (go_at_call 19; refine (rblank_any _ _ _).mono ?_; rw [q1]; rintro e w' ⟨rfl, rfl⟩))
          go_ret
          exact ⟨ret_bool hz0.symm, hw0.trans ((hbl.trans (((Below.refl _ _).alloc (Nat.le_refl _) _).mono hbl.size)).mono hw0.size)⟩
        | true =>
          cases q2 : inB (RX i) (-80) 80 with
          | false =>
            have hz0 := hno' (by cases hz : readB (RB i) (RX i) (RY i) (RE i) with | false => rfl | true => have := (hrb.1 hz).2.1; rw [q2] at this; cases this)
            go_wp2_with (first
              | (go_at_call 19; refine (rblank_any _ _ _).mono ?_; rw [q1]; rintro e w' ⟨rfl, rfl⟩)
              | (go_at_call 57; refine (in_any _ _ _ _).mono ?_; rw [q2]; rintro e w' ⟨rfl, rfl⟩))
            go_ret
            exact ⟨ret_bool hz0.symm, hw0.trans ((hbl.trans (((Below.refl _ _).alloc (Nat.le_refl _) _).mono hbl.size)).mono hw0.size)⟩
          | true =>
            cases q3 : inB (RY i) (-80) 80 with
            | false =>
              have hz0 := hno' (by cases hz : readB (RB i) (RX i) (RY i) (RE i) with | false => rfl | true => have := (hrb.1 hz).2.2.1; rw [q3] at this; cases this)
              go_wp2_with (first
                | (go_at_call 19; refine (rblank_any _ _ _).mono ?_; rw [q1]; rintro e w' ⟨rfl, rfl⟩)
                | (go_at_call 57; refine (in_any _ _ _ _).mono ?_; (first | rw [q2] | rw [q3]); rintro e w' ⟨rfl, rfl⟩))
              go_ret
              exact ⟨ret_bool hz0.symm, hw0.trans ((hbl.trans (((Below.refl _ _).alloc (Nat.le_refl _) _).mono hbl.size)).mono hw0.size)⟩
            | true =>
              cases q4 : inB (RE i) 0 4 with
              | false =>
                have hz0 := hno' (by cases hz : readB (RB i) (RX i) (RY i) (RE i) with | false => rfl | true => have := (hrb.1 hz).2.2.2; rw [q4] at this; cases this)
                go_wp2_with (first
                  | (go_at_call 19; refine (rblank_any _ _ _).mono ?_; rw [q1]; rintro e w' ⟨rfl, rfl⟩)
                  | (go_at_call 57; refine (in_any _ _ _ _).mono ?_; (first | rw [q2] | rw [q3] | rw [q4]); rintro e w' ⟨rfl, rfl⟩))
                go_ret
                exact ⟨ret_bool hz0.symm, hw0.trans ((hbl.trans (((Below.refl _ _).alloc (Nat.le_refl _) _).mono hbl.size)).mono hw0.size)⟩
              | true =>
                go_wp2_with (first
                  | (go_at_call 19; refine (rblank_any _ _ _).mono ?_; rw [q1]; rintro e w' ⟨rfl, rfl⟩)
                  | (go_at_call 57; refine (in_any _ _ _ _).mono ?_; (first | rw [q2] | rw [q3] | rw [q4]); rintro e w' ⟨rfl, rfl⟩))
                go_roundw
                case rel => exact ⟨i + 1, by omega, by go_num, hbl.trans (((Below.refl _ _).alloc (Nat.le_refl _) _).mono hbl.size), all_succ (p := fun j => readB (RB j) (RX j) (RY j) (RE j) = true) hall (hrb.2 ⟨q1, q2, q3, q4⟩)⟩
                case measure => simp [intOf]; omega
    · obtain rfl : rn = i := by omega
      have hok := hyes hall
      have hB := hbl
      have k0 := hMB.k0; have k1 := hMB.k1; have k2 := hMB.k2; have k3 := hMB.k3; have k4 := hMB.k4; have k5 := hMB.k5; have k6 := hMB.k6; have k7 := hMB.k7; have k8 := hMB.k8
      dsimp only at k0 k1 k2 k3 k4 k5 k6 k7 k8
      have hs1 := fun W => rspan_any c0 c1 (-12) 12 6 (by omega) (by omega) W
      have hs2 := fun W => rspan_any d0 d1 (-12) 12 6 (by omega) (by omega) W
      have hs3 := fun W => rspan_any w0 w1 (-3) 3 2 (by omega) (by omega) W
      have hs4 := fun W => rspan_any v0 v1 (-3) 3 2 (by omega) (by omega) W
      have hpo := fun (W : World) (hb : Below W0.heap.size W0 W) => points_any (.slice sa sn sc) sn 2 4 SX SY 20 (by omega) (by omega) W hs (g1.below hb)
      generalize spanR c0 c1 (-12) 12 6 = x1 at *
      generalize spanR d0 d1 (-12) 12 6 = x2 at *
      generalize spanR w0 w1 (-3) 3 2 = x3 at *
      generalize spanR v0 v1 (-3) 3 2 = x4 at *
      generalize ponB sn 2 4 SX SY 20 = x5 at *
      cases x1 <;> cases x2 <;> cases x3 <;> cases x4 <;> cases x5
      all_goals
        simp only [Bool.and_true, Bool.and_false, Bool.true_and, Bool.false_and] at hok
        go_wp2_with (first
          | (go_at_call 58; with_reducible refine (hs1 _).mono ?_; rintro e w' ⟨rfl, hb⟩; replace hB := hB.trans (hb.mono hB.size); have hMB := hMA.below hB (by omega); have k0 := hMB.k0; have k3 := hMB.k3; have k4 := hMB.k4; have k5 := hMB.k5; have k6 := hMB.k6; have k7 := hMB.k7; have k8 := hMB.k8; have k9 := hMB.k9; dsimp only at k0 k3 k4 k5 k6 k7 k8 k9)
          | (go_at_call 58; with_reducible refine (hs2 _).mono ?_; rintro e w' ⟨rfl, hb⟩; replace hB := hB.trans (hb.mono hB.size); have hMB := hMA.below hB (by omega); have k0 := hMB.k0; have k3 := hMB.k3; have k4 := hMB.k4; have k5 := hMB.k5; have k6 := hMB.k6; have k7 := hMB.k7; have k8 := hMB.k8; have k9 := hMB.k9; dsimp only at k0 k3 k4 k5 k6 k7 k8 k9)
          | (go_at_call 58; with_reducible refine (hs3 _).mono ?_; rintro e w' ⟨rfl, hb⟩; replace hB := hB.trans (hb.mono hB.size); have hMB := hMA.below hB (by omega); have k0 := hMB.k0; have k3 := hMB.k3; have k4 := hMB.k4; have k5 := hMB.k5; have k6 := hMB.k6; have k7 := hMB.k7; have k8 := hMB.k8; have k9 := hMB.k9; dsimp only at k0 k3 k4 k5 k6 k7 k8 k9)
          | (go_at_call 58; with_reducible refine (hs4 _).mono ?_; rintro e w' ⟨rfl, hb⟩; replace hB := hB.trans (hb.mono hB.size); have hMB := hMA.below hB (by omega); have k0 := hMB.k0; have k3 := hMB.k3; have k4 := hMB.k4; have k5 := hMB.k5; have k6 := hMB.k6; have k7 := hMB.k7; have k8 := hMB.k8; have k9 := hMB.k9; dsimp only at k0 k3 k4 k5 k6 k7 k8 k9)
          | (go_at_call 56; with_reducible refine (hpo _ hB).mono ?_; rintro e w' ⟨rfl, rfl⟩))
        go_ret
        exact ⟨ret_bool hok.symm, hw0.trans (hB.mono hw0.size)⟩
end Go.Proofs.YtmjmmokbaocboaaGreatDoor
namespace Go.Proofs.YtmjmmokbaocboaaGreatDoor
open Go.RowKit
/-- numbers that a truth can have. -/
def offB (n : Nat) (F : Nat → Int) : Bool := decide ((n : Int) = 13) && !anyB (fun i => !inB (F i) (-80) 80) n
theorem hasOff_any (v : Value) (n : Nat) (F : Nat → Int) (w : World) (hn : n ≤ 1000) (h : IntsSl w v n F) :
    Calls Tryz.prog 104 #[v, .func (.func 105) #[] #[]] w fun e w' => e = .returned (.bool (anyB (fun i => !inB (F i) (-80) 80) n)) ∧ Below w.heap.size w w' := by
  rcases h with ⟨a, c, rfl, rfl⟩ | ⟨b, off, cap, rfl, hb, hp⟩
  · refine (has_int_nil a c _ w).mono ?_
    rintro e w' ⟨rfl, rfl⟩
    refine ⟨ret_bool ?_, Below.refl _ _⟩
    exact (anyB_no.2 fun i hi => absurd hi (Nat.not_lt_zero i)).symm
  · exact has_int b off n cap F w hn hb hp
theorem IntsSl_slice {w : World} {v : Value} {n : Nat} {F : Nat → Int} (h : IntsSl w v n F) : ∃ a c, v = .slice a n c := by
  rcases h with ⟨a, c, h1, h2⟩ | ⟨b, off, c, h1, _⟩
  · exact ⟨a, c, by rw [h1, h2]⟩
  · exact ⟨_, c, h1⟩
set_option maxRecDepth 100000 in
set_option maxHeartbeats 400000 in
theorem areOffs_any (v : Value) (n : Nat) (F : Nat → Int) (w : World) (hn : n ≤ 1000) (h : IntsSl w v n F) :
    Calls Tryz.prog 60 #[v] w fun e w' => e = .returned (.bool (offB n F)) ∧ Below w.heap.size w w' := by
  obtain ⟨a, c, rfl⟩ := IntsSl_slice h
  have hh := hasOff_any _ n F w hn h
  unfold offB
  by_cases hl : (n : Int) = 13
  · rw [decide_eq_true hl]
    go_enter Tryz.func60, Tryz.ntmps60
    go_wp2_with (go_at_call 104; refine hh.mono ?_; rintro e w' ⟨rfl, hb⟩)
    go_ret
    exact ⟨rfl, hb⟩
  · rw [decide_eq_false hl]
    go_enter Tryz.func60, Tryz.ntmps60
    go_wp2
    go_ret
    exact ⟨rfl, Below.refl _ _⟩
end Go.Proofs.YtmjmmokbaocboaaGreatDoor
namespace Go.Proofs.YtmjmmokbaocboaaGreatDoor
open Go.RowKit
/-- numbers that an axis can have. -/
def Axis.holdB (a : Axis) (F : Nat → Int) : Bool := inB (F 0) a.c0 a.c1 && (!anyB (fun i => !inB (F (i+1) - F i) a.w0 a.w1) 12 && !anyB (fun i => cmiss F (a.cl i)) a.n)
theorem Axis.holdB_iff {a : Axis} {F : Nat → Int} : a.holdB F = true ↔ a.truth F := by
  unfold Axis.holdB
  simp only [Bool.and_eq_true, Bool.not_eq_true']
  rw [anyB_no, anyB_no, inB_iff]
  constructor
  · rintro ⟨h1, h2, h3⟩
    refine ⟨h1, fun k hk => ?_, fun i hi => ?_⟩
    · have := h2 k hk
      rw [Bool.not_eq_false'] at this
      exact inB_iff.1 this
    · have := h3 i hi
      unfold cmiss at this
      rw [Bool.not_eq_false'] at this
      exact inB_iff.1 this
  · rintro ⟨h1, h2, h3⟩
    refine ⟨h1, fun k hk => ?_, fun i hi => ?_⟩
    · rw [Bool.not_eq_false']; exact inB_iff.2 (h2 k hk)
    · unfold cmiss
      rw [Bool.not_eq_false']; exact inB_iff.2 (h3 i hi)
set_option maxRecDepth 100000 in
set_option maxHeartbeats 4000000 in
theorem holds_any (a : Axis) (v : Value) (nb no nc : Nat) (F : Nat → Int) (w : World) (hf : a.fine) (hv : CSp w v a.n a.cl) (hnb : nb < w.heap.size) (hF : Ints w nb no 13 F) (hr : ∀ i, i < 13 → -80 ≤ F i ∧ F i ≤ 80) (hcap : 13 ≤ nc) :
    Calls Tryz.prog 106 #[.agg #[.int .i64 a.c0, .int .i64 a.c1, .int .i64 a.w0, .int .i64 a.w1, v], .slice (some ⟨nb, no, none⟩) 13 nc] w fun e w' => e = .returned (.bool (a.holdB F)) ∧ Below w.heap.size w w' := by
  have hle : 1 ≤ nc := by omega
  have hle2 : (1 : Int) ≤ (nc : Int) := by omega
  have hle3 : (13 : Int) ≤ (nc : Int) := by omega
  obtain ⟨va, vc, rfl⟩ := hv.slice
  obtain ⟨W0, hW0⟩ : ∃ W0, (w.alloc (Obj.cells #[.int .i64 a.c0, .int .i64 a.c1, .int .i64 a.w0, .int .i64 a.w1, .slice va a.n vc] 149)).alloc (Obj.cells #[.slice (some ⟨nb, no, none⟩) 13 nc] 43) = W0 := ⟨_, rfl⟩
  have hsz : W0.heap.size = w.heap.size + 1 + 1 := by rw [← hW0, World.size_alloc, World.size_alloc]
  have hb0 : Below w.heap.size w W0 := by rw [← hW0]; exact ((Below.refl _ _).alloc (Nat.le_refl _) _).alloc (by rw [World.size_alloc]; omega) _
  have hA0 : AAt W0 w.heap.size a.c0 a.c1 a.w0 a.w1 (.slice va a.n vc) := by
    rw [← hW0]
    exact (AAt.new w 149 a.c0 a.c1 a.w0 a.w1 (.slice va a.n vc)).below (B := w.heap.size + 1) ((Below.refl (w.heap.size + 1) _).alloc (by rw [World.size_alloc]; omega) _) (by omega)
  have hG0 : W0.cell? ⟨w.heap.size + 1, 0, none⟩ = some (.slice (some ⟨nb, no, none⟩) 13 nc) := by
    have h := cells_new (w.alloc (Obj.cells #[.int .i64 a.c0, .int .i64 a.c1, .int .i64 a.w0, .int .i64 a.w1, .slice va a.n vc] 149)) #[.slice (some ⟨nb, no, none⟩) 13 nc] 43 (j := 0) rfl
    rw [World.size_alloc, hW0] at h
    exact h
  have e0 := (hb0.cell (p := ⟨nb, no, none⟩) hnb).trans (hF 0 (by omega))
  have hA' := hA0
  obtain ⟨q0, q1, q2, q3, q4, q5, q6, q7, q8, q9⟩ := hA'
  have hli := fun W => lies_any (F 0) a.c0 a.c1 W
  generalize hok : a.holdB F = ok
  unfold Axis.holdB at hok
  cases z1 : inB (F 0) a.c0 a.c1 with
  | false =>
    rw [z1] at hli
    rw [z1, Bool.false_and] at hok
    subst hok
    go_enter Tryz.func106, Tryz.ntmps106
    go_wp2_with fail
    go_region_held3 (fun w' => w'.cell? ⟨w.heap.size + 1, 0, none⟩ = some (.slice (some ⟨nb, no, none⟩) 13 nc) ∧ w'.cell? ⟨nb, no, none⟩ = some (.int .i64 (F 0)) ∧ w'.cell? ⟨w.heap.size, 0, none⟩ = some (.int .i64 a.c0) ∧ w'.cell? ⟨w.heap.size, 1, none⟩ = some (.int .i64 a.c1))
      (first | (go_keep; done) | (go_split_ands; refine ⟨?_, ?_, ?_, ?_⟩ <;> (rw [hbb.cell (by first | omega | (simp; omega) | simp)]; assumption)))
      ((go_at_call 145; with_reducible refine (hli _).mono ?_; rintro e w6 ⟨rfl, hbb⟩; have hs := hbb.size))
    go_wp2
    go_ret
    exact ⟨rfl, hb0.trans (((Below.refl _ _).drew.trans (hbb.mono (by simp))).mono hb0.size)⟩
  | true =>
    rw [z1] at hli
    rw [z1, Bool.true_and] at hok
    go_enter Tryz.func106, Tryz.ntmps106
    go_wp2_with fail
    go_region_held3 (fun w' => w'.cell? ⟨w.heap.size + 1, 0, none⟩ = some (.slice (some ⟨nb, no, none⟩) 13 nc) ∧ w'.cell? ⟨nb, no, none⟩ = some (.int .i64 (F 0)) ∧ w'.cell? ⟨w.heap.size, 0, none⟩ = some (.int .i64 a.c0) ∧ w'.cell? ⟨w.heap.size, 1, none⟩ = some (.int .i64 a.c1))
      (first | (go_keep; done) | (go_split_ands; refine ⟨?_, ?_, ?_, ?_⟩ <;> (rw [hbb.cell (by first | omega | (simp; omega) | simp)]; assumption)))
      ((go_at_call 145; with_reducible refine (hli _).mono ?_; rintro e w6 ⟨rfl, hbb⟩; have hs := hbb.size))
    go_wp2
    have hsz6 : W0.heap.size ≤ w6.heap.size := by simpa using hs
    have hb6 : Below w.heap.size w w6 := hb0.trans (((Below.refl _ _).drew.trans (hbb.mono (by simp))).mono hb0.size)
    have hb06 : Below W0.heap.size W0 w6 := (Below.refl _ _).drew.trans (hbb.mono (by simp))
    have hA6 := hA0.below hb06 (by omega)
    have hG6 := (hb06.cell (p := ⟨w.heap.size + 1, 0, none⟩) (by show w.heap.size + 1 < _; omega)).trans hG0
    have hv6 := hv.below hb6
    have hF6 : Ints w6 nb no 13 F := fun i hi => (hb6.cell (p := ⟨nb, no + i, none⟩) hnb).trans (hF i hi)
    have hnb6 : nb < w6.heap.size := Nat.lt_of_lt_of_le hnb hb6.size
    clear hbb hs hb06 hA0 hG0 hb0 e0 q0 q1 q2 q3 q4 q5 q6 q7 q8 q9 hli hW0 hv hF
    go_loopw [17] (fun i wr => ∃ k : Nat, k ≤ 12 ∧ i = .int .i64 k ∧ Below w6.heap.size w6 wr ∧ ∀ j, j < k → inB (F (j+1) - F j) a.w0 a.w1 = true) (fun i _ => 12 - (intOf i).toNat)
    case atStart => exact ⟨0, Nat.zero_le _, rfl, Below.refl _ _, fun _ h => absurd h (Nat.not_lt_zero _)⟩
    case round =>
      obtain ⟨k, hk, rfl, hbl, hall⟩ := hrel
      have hA7 := hA6.below hbl (by omega)
      obtain ⟨q0, q1, q2, q3, q4, q5, q6, q7, q8, q9⟩ := hA7
      have g7 := (hbl.cell (p := ⟨w.heap.size + 1, 0, none⟩) (by show w.heap.size + 1 < _; omega)).trans hG6
      have hzl := hbl.size
      by_cases hlt : k < 12
      · have e1 := (hbl.cell (p := ⟨nb, no + k, none⟩) hnb6).trans (hF6 k (by omega))
        have e2 := (hbl.cell (p := ⟨nb, no + (k + 1), none⟩) hnb6).trans (hF6 (k + 1) (by omega))
        rw [show no + (k + 1) = no + 1 + k by omega] at e2
        have hk0 : (0 : Int) ≤ (k : Int) := Int.natCast_nonneg _
        have hk1 : (k : Int) < 12 := by omega
        have hk2 : (k : Int) < 13 := by omega
        obtain ⟨r1, r2⟩ := hr k (by omega)
        obtain ⟨r3, r4⟩ := hr (k + 1) (by omega)
        have hli := fun W => lies_any (F (k + 1) - F k) a.w0 a.w1 W
        have hwr : IntKind.i64.wrap (F (k + 1) - F k) = F (k + 1) - F k := IntWalk.i64_in _ (by omega)
        cases z2 : inB (F (k + 1) - F k) a.w0 a.w1 with
        | false =>
          rw [z2] at hli
          have hx : anyB (fun i => !inB (F (i + 1) - F i) a.w0 a.w1) 12 = true := by
            cases hx : anyB (fun i => !inB (F (i + 1) - F i) a.w0 a.w1) 12 with
            | true => rfl
            | false => have := anyB_no.1 hx k hlt; (try dsimp only at this); rw [z2] at this; cases this
          rw [hx, Bool.not_true, Bool.false_and] at hok
          subst hok
          go_wp2_with fail
          go_region_held3 (fun w' => w'.cell? ⟨w.heap.size + 1, 0, none⟩ = some (.slice (some ⟨nb, no, none⟩) 13 nc) ∧ w'.cell? ⟨nb, no + k, none⟩ = some (.int .i64 (F k)) ∧ w'.cell? ⟨w.heap.size, 2, none⟩ = some (.int .i64 a.w0) ∧ w'.cell? ⟨w.heap.size, 3, none⟩ = some (.int .i64 a.w1))
            (first | (go_keep; done) | (go_split_ands; refine ⟨?_, ?_, ?_, ?_⟩ <;> (rw [hbb.cell (by first | omega | (simp; omega) | simp)]; assumption)))
            ((go_at_call 145; with_reducible refine (hli _).mono ?_; rintro e w8 ⟨rfl, hbb⟩; have hs := hbb.size))
          go_wp2
          go_ret
          exact ⟨rfl, hb6.trans ((hbl.trans (((Below.refl _ _).drew.trans (hbb.mono (by simp))).mono hbl.size)).mono hb6.size)⟩
        | true =>
          rw [z2] at hli
          go_wp2_with fail
          go_region_held3 (fun w' => w'.cell? ⟨w.heap.size + 1, 0, none⟩ = some (.slice (some ⟨nb, no, none⟩) 13 nc) ∧ w'.cell? ⟨nb, no + k, none⟩ = some (.int .i64 (F k)) ∧ w'.cell? ⟨w.heap.size, 2, none⟩ = some (.int .i64 a.w0) ∧ w'.cell? ⟨w.heap.size, 3, none⟩ = some (.int .i64 a.w1))
            (first | (go_keep; done) | (go_split_ands; refine ⟨?_, ?_, ?_, ?_⟩ <;> (rw [hbb.cell (by first | omega | (simp; omega) | simp)]; assumption)))
            ((go_at_call 145; with_reducible refine (hli _).mono ?_; rintro e w8 ⟨rfl, hbb⟩; have hs := hbb.size))
          go_wp2
          go_roundw
          case rel => exact ⟨k + 1, by omega, by go_num, hbl.trans (((Below.refl _ _).drew.trans (hbb.mono (by simp))).mono hbl.size), all_succ (p := fun j => inB (F (j + 1) - F j) a.w0 a.w1 = true) hall z2⟩
          case measure => simp [intOf]; omega
      · obtain rfl : k = 12 := by omega
        have hx : anyB (fun i => !inB (F (i + 1) - F i) a.w0 a.w1) 12 = false := anyB_no.2 fun i hi => by rw [hall i hi]; rfl
        rw [hx, Bool.not_false, Bool.true_and] at hok
        have hco := fun (W : World) (hW : Below wr.heap.size wr W) => has_clue (.slice va a.n vc) a.n a.cl (w.heap.size + 1) nb no nc F W (by have := hf.few; omega) ((hv6.below hbl).below hW) (fun i hi => ⟨(hf.cl i hi).1, (hf.cl i hi).2.1⟩) (by have := hW.size; omega) ((hW.cell (p := ⟨w.heap.size + 1, 0, none⟩) (by show w.heap.size + 1 < _; omega)).trans g7) (Nat.lt_of_lt_of_le hnb6 (Nat.le_trans hzl hW.size)) fun i hi => (hW.cell (p := ⟨nb, no + i, none⟩) (Nat.lt_of_lt_of_le hnb6 hzl)).trans ((hbl.cell (p := ⟨nb, no + i, none⟩) hnb6).trans (hF6 i hi))
        generalize hq : anyB (fun i => cmiss F (a.cl i)) a.n = q at hok hco
        clear hall hx
        go_wp2_with (go_at_call 146; with_reducible refine (hco _ (Below.refl _ _)).mono ?_; rintro e w9 ⟨rfl, hb9⟩)
        go_ret
        exact ⟨by first | rfl | exact ret_bool hok, hb6.trans ((hbl.trans (hb9.mono hbl.size)).mono hb6.size)⟩
end Go.Proofs.YtmjmmokbaocboaaGreatDoor
namespace Go.Proofs.YtmjmmokbaocboaaGreatDoor
open Go.RowKit
def Mach.axX (m : Mach) : Axis := ⟨m.c0, m.c1, m.w0, m.w1, m.rn, fun i => (m.RB i, m.RX i - m.RE i, m.RX i + m.RE i)⟩
def Mach.axY (m : Mach) : Axis := ⟨m.d0, m.d1, m.v0, m.v1, m.rn, fun i => (m.RB i, m.RY i - m.RE i, m.RY i + m.RE i)⟩
theorem Mach.ok_parts {m : Mach} (h : m.ok = true) : m.okStops = true ∧ m.rn ≤ 4 ∧ m.okSpans = true ∧ ∀ i, i < m.rn → readB (m.RB i) (m.RX i) (m.RY i) (m.RE i) = true := by
  unfold Mach.ok at h
  simp only [Bool.and_eq_true, decide_eq_true_eq] at h
  obtain ⟨h1, h2, h3, h4⟩ := h
  refine ⟨h1, by omega, h3, fun i hi => ?_⟩
  unfold Mach.okReads at h4
  rw [Bool.not_eq_true'] at h4
  have := anyB_no.1 h4 i hi
  rwa [Bool.not_eq_false'] at this
theorem Mach.reads {m : Mach} (h : m.ok = true) (i : Nat) (hi : i < m.rn) : (0 ≤ m.RB i ∧ m.RB i ≤ 12) ∧ (-80 ≤ m.RX i ∧ m.RX i ≤ 80) ∧ (-80 ≤ m.RY i ∧ m.RY i ≤ 80) ∧ (0 ≤ m.RE i ∧ m.RE i ≤ 4) := by
  obtain ⟨a, b, c, d⟩ := readB_iff.1 ((Mach.ok_parts h).2.2.2 i hi)
  exact ⟨inB_iff.1 a, inB_iff.1 b, inB_iff.1 c, inB_iff.1 d⟩
theorem Mach.fineX {m : Mach} (h : m.ok = true) : m.axX.fine := by
  obtain ⟨h1, h2, h3, h4⟩ := Mach.ok_parts h
  unfold Mach.okSpans at h3
  simp only [Bool.and_eq_true] at h3
  obtain ⟨s1, s2, s3, s4⟩ := h3
  have s1 := spanR_iff.1 s1
  have s3 := spanR_iff.1 s3
  refine ⟨by show _ ≤ m.c0 ∧ m.c0 ≤ m.c1 ∧ m.c1 ≤ _; omega, by show _ ≤ m.w0 ∧ m.w0 ≤ m.w1 ∧ m.w1 ≤ _; omega, h2, fun i hi => ?_⟩
  have := Mach.reads h i hi
  show 0 ≤ m.RB i ∧ m.RB i ≤ 12 ∧ -84 ≤ m.RX i - m.RE i ∧ m.RX i - m.RE i ≤ 84 ∧ -84 ≤ m.RX i + m.RE i ∧ m.RX i + m.RE i ≤ 84
  omega
theorem Mach.fineY {m : Mach} (h : m.ok = true) : m.axY.fine := by
  obtain ⟨h1, h2, h3, h4⟩ := Mach.ok_parts h
  unfold Mach.okSpans at h3
  simp only [Bool.and_eq_true] at h3
  obtain ⟨s1, s2, s3, s4⟩ := h3
  have s1 := spanR_iff.1 s2
  have s3 := spanR_iff.1 s4
  refine ⟨by show _ ≤ m.d0 ∧ m.d0 ≤ m.d1 ∧ m.d1 ≤ _; omega, by show _ ≤ m.v0 ∧ m.v0 ≤ m.v1 ∧ m.v1 ≤ _; omega, h2, fun i hi => ?_⟩
  have := Mach.reads h i hi
  show 0 ≤ m.RB i ∧ m.RB i ≤ 12 ∧ -84 ≤ m.RY i - m.RE i ∧ m.RY i - m.RE i ≤ 84 ∧ -84 ≤ m.RY i + m.RE i ∧ m.RY i + m.RE i ≤ 84
  omega
/-- a studied machine's cells: the machine's, and those of two courses. -/
def Mach.cells (m : Mach) : List Value := [.slice m.sa m.sn m.sc, .int .i64 m.c0, .int .i64 m.c1, .int .i64 m.d0, .int .i64 m.d1, .int .i64 m.w0, .int .i64 m.w1, .int .i64 m.v0, .int .i64 m.v1, .slice m.ra m.rn m.rc]
def Mach.st (m : Mach) (X Y : List Value) : List Value := m.cells ++ (X ++ Y)
theorem Mach.st_length (m : Mach) {X Y : List Value} (hx : X.length = 26) (hy : Y.length = 26) : (m.st X Y).length = 62 := by
  unfold Mach.st Mach.cells
  simp [hx, hy]
theorem Mach.st_cells (m : Mach) {X Y : List Value} (hx : X.length = 26) (hy : Y.length = 26) : SCells (m.st X Y).toArray m :=
  ⟨by rw [List.size_toArray]; exact m.st_length hx hy, rfl, rfl, rfl, rfl, rfl, rfl, rfl, rfl, rfl, rfl⟩
theorem Mach.st_one (m : Mach) {X Y : List Value} (hx : ∀ v ∈ X, v.oneCell' = true) (hy : ∀ v ∈ Y, v.oneCell' = true) : ∀ v ∈ m.st X Y, v.oneCell' = true := fun v hv => by
  unfold Mach.st Mach.cells at hv
  simp only [List.mem_append, List.mem_cons, List.not_mem_nil, or_false] at hv
  rcases hv with h | h | h
  · rcases h with rfl | rfl | rfl | rfl | rfl | rfl | rfl | rfl | rfl | rfl <;> rfl
  · exact hx v h
  · exact hy v h
theorem ints_at {w : World} {a : Option Addr} {n c : Nat} {F : Nat → Int} (h : IntsSl w (.slice a n c) n F) (hn : 0 < n) : ∃ b off, a = some ⟨b, off, none⟩ ∧ b < w.heap.size ∧ Ints w b off n F := by
  rcases h with ⟨a', c', h1, h2⟩ | ⟨b, off, c', h1, h2, h3⟩
  · omega
  · cases h1; exact ⟨b, off, rfl, h2, h3⟩
def zero26 : List Value := [.int .i64 0, .int .i64 0, .int .i64 0, .int .i64 0, .int .i64 0, .int .i64 0, .int .i64 0, .int .i64 0, .int .i64 0, .int .i64 0, .int .i64 0, .int .i64 0, .int .i64 0, .int .i64 0, .int .i64 0, .int .i64 0, .int .i64 0, .int .i64 0, .int .i64 0, .int .i64 0, .int .i64 0, .int .i64 0, .int .i64 0, .int .i64 0, .int .i64 0, .int .i64 0]
theorem zero26_one : ∀ v ∈ zero26, v.oneCell' = true := fun v hv => by
  unfold zero26 at hv
  simp only [List.mem_cons, List.not_mem_nil, or_false, or_self] at hv
  subst hv; rfl
set_option maxRecDepth 100000 in
set_option maxHeartbeats 4000000 in
theorem axes_any (L : List Value) (hL : L.length = 62) (w : World) :
    Calls Tryz.prog 85 #[.agg L.toArray] w fun e w' => e = .returned (.agg #[.func (.func 124) #[.agg L.toArray] #[], .func (.func 125) #[.agg L.toArray] #[]]) ∧ Below w.heap.size w w' := by
  have hmf : ∀ (fn : Fn) (first cap : Array Value) (w : World), (Instr.makeFunc fn first cap).run Tryz.prog w = .ok (.func fn first cap) w := fun _ _ _ _ => rfl
  have hi0 : (Tryz.prog.info? 94).map (·.size) = some 62 := by kernel_rfl
  have hi : (Tryz.prog.info? 94).map (·.size) = some L.length := by rw [hL]; exact hi0
  obtain ⟨W0, hW0⟩ : ∃ W0, (w.alloc (Obj.cells L.toArray 94)).alloc (Obj.cells #[.nilFunc, .nilFunc] 145) = W0 := ⟨_, rfl⟩
  have hrg : W0.rangeAt w.heap.size 0 L := by
    rw [← hW0]
    refine World.rangeAt_alloc (fun j v hj => ?_) _
    rw [Nat.zero_add]; exact cells_new w _ _ (by rw [List.getElem?_toArray]; exact hj)
  have hb0 : Below w.heap.size w W0 := by rw [← hW0]; exact ((Below.refl _ _).alloc (Nat.le_refl _) _).alloc (by rw [World.size_alloc]; omega) _
  have k0 : W0.cell? ⟨w.heap.size + 1, 0, none⟩ = some .nilFunc := by
    have h := cells_new (w.alloc (Obj.cells L.toArray 94)) #[.nilFunc, .nilFunc] 145 (j := 0) rfl
    rw [World.size_alloc, hW0] at h; exact h
  have k1 : W0.cell? ⟨w.heap.size + 1, 1, none⟩ = some .nilFunc := by
    have h := cells_new (w.alloc (Obj.cells L.toArray 94)) #[.nilFunc, .nilFunc] 145 (j := 1) rfl
    rw [World.size_alloc, hW0] at h; exact h
  have z0 : W0.frozen? ⟨w.heap.size + 1, 0, none⟩ = false := by
    rw [← hW0]; simp [go_sem]
  have z1 : W0.frozen? ⟨w.heap.size + 1, 1, none⟩ = false := by
    rw [← hW0]; simp [go_sem]
  clear hi0 hL
  go_enter Tryz.func85, Tryz.ntmps85
  go_wp2_with (first
    | (refine wpList_load_mid rfl 94 _ rfl w.heap.size 0 rfl L _ (by first | exact hrg | (rw [hW0]; exact hrg)) Tryz.underlying94 rfl hi ?_))
  refine bodyPost_ret (v := .agg #[.func (.func 124) #[.agg L.toArray] #[], .func (.func 125) #[.agg L.toArray] #[]]) (by simp [results, Tryz.results85, go_sem, k0, k1]) rfl ⟨rfl, (hb0.setCell (p := ⟨w.heap.size + 1, 0, none⟩) (Nat.le_succ _) _).setCell (p := ⟨w.heap.size + 1, 1, none⟩) (Nat.le_succ _) _⟩
end Go.Proofs.YtmjmmokbaocboaaGreatDoor
namespace Go.Proofs.YtmjmmokbaocboaaGreatDoor
open Go.RowKit
theorem axes_lit (m : Mach) (w : World) :
    Calls Tryz.prog 85 #[.agg #[.slice m.sa m.sn m.sc, .int .i64 m.c0, .int .i64 m.c1, .int .i64 m.d0, .int .i64 m.d1, .int .i64 m.w0, .int .i64 m.w1, .int .i64 m.v0, .int .i64 m.v1, .slice m.ra m.rn m.rc, .int .i64 0, .int .i64 0, .int .i64 0, .int .i64 0, .int .i64 0, .int .i64 0, .int .i64 0, .int .i64 0, .int .i64 0, .int .i64 0, .int .i64 0, .int .i64 0, .int .i64 0, .int .i64 0, .int .i64 0, .int .i64 0, .int .i64 0, .int .i64 0, .int .i64 0, .int .i64 0, .int .i64 0, .int .i64 0, .int .i64 0, .int .i64 0, .int .i64 0, .int .i64 0, .int .i64 0, .int .i64 0, .int .i64 0, .int .i64 0, .int .i64 0, .int .i64 0, .int .i64 0, .int .i64 0, .int .i64 0, .int .i64 0, .int .i64 0, .int .i64 0, .int .i64 0, .int .i64 0, .int .i64 0, .int .i64 0, .int .i64 0, .int .i64 0, .int .i64 0, .int .i64 0, .int .i64 0, .int .i64 0, .int .i64 0, .int .i64 0, .int .i64 0, .int .i64 0]] w fun e w' => e = .returned (.agg #[.func (.func 124) #[.agg (m.st zero26 zero26).toArray] #[], .func (.func 125) #[.agg (m.st zero26 zero26).toArray] #[]]) ∧ Below w.heap.size w w' :=
  axes_any (m.st zero26 zero26) (m.st_length rfl rfl) w
theorem idxF0 (f g : Fn) (a b c d : Array Value) (w : World) : (Instr.index 145 (.agg #[.func f a b, .func g c d]) (.int .i64 0)).run Tryz.prog w = .ok (.func f a b) w := by kernel_rfl
theorem idxF1 (f g : Fn) (a b c d : Array Value) (w : World) : (Instr.index 145 (.agg #[.func f a b, .func g c d]) (.int .i64 1)).run Tryz.prog w = .ok (.func g c d) w := by kernel_rfl
theorem idxS0 (a1 a2 : Option Addr) (n1 c1 n2 c2 : Nat) (w : World) : (Instr.index 178 (.agg #[.slice a1 n1 c1, .slice a2 n2 c2]) (.int .i64 0)).run Tryz.prog w = .ok (.slice a1 n1 c1) w := by kernel_rfl
theorem idxS1 (a1 a2 : Option Addr) (n1 c1 n2 c2 : Nat) (w : World) : (Instr.index 178 (.agg #[.slice a1 n1 c1, .slice a2 n2 c2]) (.int .i64 1)).run Tryz.prog w = .ok (.slice a2 n2 c2) w := by kernel_rfl
theorem alongX_m (m : Mach) (X Y : List Value) (hX : X.length = 26) (hY : Y.length = 26) (w : World) (hok : m.ok = true) (h : MIn w m) :
    Calls Tryz.prog 124 #[.agg (m.st X Y).toArray] w fun e w' => ∃ v, e = .returned (.agg #[.int .i64 m.axX.c0, .int .i64 m.axX.c1, .int .i64 m.axX.w0, .int .i64 m.axX.w1, v]) ∧ CSp w' v m.axX.n m.axX.cl ∧ Below w.heap.size w w' := by
  obtain ⟨hs, hr, _, hrd⟩ := Mach.ok_parts hok
  refine (alongX_any _ m w (m.st_cells hX hY) h.reads (by omega) hrd).mono ?_
  rintro e w' ⟨v, rfl, h1, h2, hb⟩
  exact ⟨v, rfl, csp_of_row h1 h2, hb⟩
theorem alongY_m (m : Mach) (X Y : List Value) (hX : X.length = 26) (hY : Y.length = 26) (w : World) (hok : m.ok = true) (h : MIn w m) :
    Calls Tryz.prog 125 #[.agg (m.st X Y).toArray] w fun e w' => ∃ v, e = .returned (.agg #[.int .i64 m.axY.c0, .int .i64 m.axY.c1, .int .i64 m.axY.w0, .int .i64 m.axY.w1, v]) ∧ CSp w' v m.axY.n m.axY.cl ∧ Below w.heap.size w w' := by
  obtain ⟨hs, hr, _, hrd⟩ := Mach.ok_parts hok
  refine (alongY_any _ m w (m.st_cells hX hY) h.reads (by omega) hrd).mono ?_
  rintro e w' ⟨v, rfl, h1, h2, hb⟩
  exact ⟨v, rfl, csp_of_row h1 h2, hb⟩
set_option maxRecDepth 100000 in
set_option maxHeartbeats 4000000 in
theorem isTruth_any (m : Mach) (a1 : Option Addr) (c1 : Nat) (a2 : Option Addr) (c2 : Nat) (F G : Nat → Int) (w : World) (hok : m.ok = true) (h : MIn w m) (hF : IntsSl w (.slice a1 13 c1) 13 F) (hG : IntsSl w (.slice a2 13 c2) 13 G) (hc1 : 13 ≤ c1) (hc2 : 13 ≤ c2) (rF : ∀ i, i < 13 → -80 ≤ F i ∧ F i ≤ 80) (rG : ∀ i, i < 13 → -80 ≤ G i ∧ G i ≤ 80) :
    Calls Tryz.prog 61 #[m.val, .agg #[.slice a1 13 c1, .slice a2 13 c2]] w fun e w' => e = .returned (.bool (m.axX.holdB F && m.axY.holdB G)) ∧ Below w.heap.size w w' := by
  obtain ⟨b1, o1, rfl, hb1, p1⟩ := ints_at hF (by omega)
  obtain ⟨b2, o2, rfl, hb2, p2⟩ := ints_at hG (by omega)
  obtain ⟨hs, hr, _, hrd⟩ := Mach.ok_parts hok
  obtain ⟨W0, hW⟩ : ∃ W0, (w.alloc (.cells #[.slice m.sa m.sn m.sc, .int .i64 m.c0, .int .i64 m.c1, .int .i64 m.d0, .int .i64 m.d1, .int .i64 m.w0, .int .i64 m.w1, .int .i64 m.v0, .int .i64 m.v1, .slice m.ra m.rn m.rc] 29)).alloc (.cells #[.slice (some ⟨b1, o1, none⟩) 13 c1, .slice (some ⟨b2, o2, none⟩) 13 c2] 45) = W0 := ⟨_, rfl⟩
  have hb0 : Below w.heap.size w W0 := by rw [← hW]; exact ((Below.refl _ _).alloc (Nat.le_refl _) _).alloc (by rw [World.size_alloc]; omega) _
  have hsz : W0.heap.size = w.heap.size + 1 + 1 := by rw [← hW, World.size_alloc, World.size_alloc]
  have k0 : W0.cell? ⟨w.heap.size + 1, 0, none⟩ = some (.slice (some ⟨b1, o1, none⟩) 13 c1) := by
    have h := cells_new (w.alloc (.cells #[.slice m.sa m.sn m.sc, .int .i64 m.c0, .int .i64 m.c1, .int .i64 m.d0, .int .i64 m.d1, .int .i64 m.w0, .int .i64 m.w1, .int .i64 m.v0, .int .i64 m.v1, .slice m.ra m.rn m.rc] 29)) #[.slice (some ⟨b1, o1, none⟩) 13 c1, .slice (some ⟨b2, o2, none⟩) 13 c2] 45 (j := 0) rfl
    rw [World.size_alloc, hW] at h; exact h
  have k1 : W0.cell? ⟨w.heap.size + 1, 1, none⟩ = some (.slice (some ⟨b2, o2, none⟩) 13 c2) := by
    have h := cells_new (w.alloc (.cells #[.slice m.sa m.sn m.sc, .int .i64 m.c0, .int .i64 m.c1, .int .i64 m.d0, .int .i64 m.d1, .int .i64 m.w0, .int .i64 m.w1, .int .i64 m.v0, .int .i64 m.v1, .slice m.ra m.rn m.rc] 29)) #[.slice (some ⟨b1, o1, none⟩) 13 c1, .slice (some ⟨b2, o2, none⟩) 13 c2] 45 (j := 1) rfl
    rw [World.size_alloc, hW] at h; exact h
  have hMB : MAt W0 w.heap.size m := by rw [← hW]; exact (MAt.new w m).below ((Below.refl _ _).alloc (Nat.le_refl _) _) (by rw [World.size_alloc]; omega)
  obtain ⟨q0, q1, q2, q3, q4, q5, q6, q7, q8, q9⟩ := hMB
  have hcX := fun (W : World) v (hW : Below w.heap.size w W) (hv : CSp W v m.axX.n m.axX.cl) => holds_any m.axX v b1 o1 c1 F W (Mach.fineX hok) hv (Nat.lt_of_lt_of_le hb1 hW.size) (fun i hi => (hW.cell (p := ⟨b1, o1 + i, none⟩) hb1).trans (p1 i hi)) rF hc1
  have hcY := fun (W : World) v (hW : Below w.heap.size w W) (hv : CSp W v m.axY.n m.axY.cl) => holds_any m.axY v b2 o2 c2 G W (Mach.fineY hok) hv (Nat.lt_of_lt_of_le hb2 hW.size) (fun i hi => (hW.cell (p := ⟨b2, o2 + i, none⟩) hb2).trans (p2 i hi)) rG hc2
  cases z1 : m.axX.holdB F with
  | false =>
    rw [z1] at hcX
    have hx0 := idxF0
    have hx1 := idxF1
    have hy0 := idxS0
    have hy1 := idxS1
    go_enter Tryz.func61, Tryz.ntmps61
    go_wp2_with (first
      | (go_at_call 85; with_reducible refine (axes_lit m _).mono ?_; rintro e w1 ⟨rfl, hb1'⟩; have hB := hb0.trans (hb1'.mono hb0.size); have l0 := (hb1'.cell (p := ⟨w.heap.size + 1, 0, none⟩) (by show w.heap.size + 1 < _; omega)).trans k0; have l1 := (hb1'.cell (p := ⟨w.heap.size + 1, 1, none⟩) (by show w.heap.size + 1 < _; omega)).trans k1))
    refine wp_loop_rounds 3 ?_
    rw [rounds_succ]
    go_wp2_with (first
      | (go_at_call 124; with_reducible refine (alongX_m m zero26 zero26 rfl rfl _ hok (h.below hB)).mono ?_; rintro e w2 ⟨v2, rfl, hv2, hb2'⟩; have hB2 := hB.trans (hb2'.mono hB.size); have hA2 := hb1'.trans (hb2'.mono hb1'.size))
      | (go_at_call 106; with_reducible refine (hcX _ _ hB2 hv2).mono ?_; rintro e w3 ⟨rfl, hb3'⟩; have hB3 := hB2.trans (hb3'.mono hB2.size)))
    go_ret
    exact ⟨rfl, hB3⟩
  | true =>
    rw [z1] at hcX
    rw [Bool.true_and]
    generalize m.axY.holdB G = z2 at hcY ⊢
    have hx0 := idxF0
    have hx1 := idxF1
    have hy0 := idxS0
    have hy1 := idxS1
    go_enter Tryz.func61, Tryz.ntmps61
    go_wp2_with (first
      | (go_at_call 85; with_reducible refine (axes_lit m _).mono ?_; rintro e w1 ⟨rfl, hb1'⟩; have hB := hb0.trans (hb1'.mono hb0.size); have l0 := (hb1'.cell (p := ⟨w.heap.size + 1, 0, none⟩) (by show w.heap.size + 1 < _; omega)).trans k0; have l1 := (hb1'.cell (p := ⟨w.heap.size + 1, 1, none⟩) (by show w.heap.size + 1 < _; omega)).trans k1))
    refine wp_loop_rounds 3 ?_
    rw [rounds_succ]
    go_wp2_with (first
      | (go_at_call 124; with_reducible refine (alongX_m m zero26 zero26 rfl rfl _ hok (h.below hB)).mono ?_; rintro e w2 ⟨v2, rfl, hv2, hb2'⟩; have hB2 := hB.trans (hb2'.mono hB.size); have hA2 := hb1'.trans (hb2'.mono hb1'.size))
      | (go_at_call 106; with_reducible refine (hcX _ _ hB2 hv2).mono ?_; rintro e w3 ⟨rfl, hb3'⟩; have hB3 := hB2.trans (hb3'.mono hB2.size); have hA3 := hA2.trans (hb3'.mono hA2.size); have j0 := (hA3.cell (p := ⟨w.heap.size + 1, 0, none⟩) (by show w.heap.size + 1 < _; omega)).trans k0; have j1 := (hA3.cell (p := ⟨w.heap.size + 1, 1, none⟩) (by show w.heap.size + 1 < _; omega)).trans k1))
    rw [rounds_succ]
    cases z2
    · go_wp2_with (first
        | (go_at_call 125; with_reducible refine (alongY_m m zero26 zero26 rfl rfl _ hok (h.below hB3)).mono ?_; rintro e w4 ⟨v4, rfl, hv4, hb4'⟩; have hB4 := hB3.trans (hb4'.mono hB3.size))
        | (go_at_call 106; with_reducible refine (hcY _ _ hB4 hv4).mono ?_; rintro e w5 ⟨rfl, hb5'⟩; have hB5 := hB4.trans (hb5'.mono hB4.size)))
      go_ret
      exact ⟨rfl, hB5⟩
    · go_wp2_with (first
        | (go_at_call 125; with_reducible refine (alongY_m m zero26 zero26 rfl rfl _ hok (h.below hB3)).mono ?_; rintro e w4 ⟨v4, rfl, hv4, hb4'⟩; have hB4 := hB3.trans (hb4'.mono hB3.size))
        | (go_at_call 106; with_reducible refine (hcY _ _ hB4 hv4).mono ?_; rintro e w5 ⟨rfl, hb5'⟩; have hB5 := hB4.trans (hb5'.mono hB4.size)))
      rw [rounds_succ]
      go_wp2
      go_ret
      exact ⟨rfl, hB5⟩
end Go.Proofs.YtmjmmokbaocboaaGreatDoor
namespace Go.Proofs.YtmjmmokbaocboaaGreatDoor
open Go.RowKit
theorem offB_no {n : Nat} {F : Nat → Int} {i : Nat} (hi : i < n) (h : inB (F i) (-80) 80 = false) : offB n F = false := by
  unfold offB
  cases hx : anyB (fun i => !inB (F i) (-80) 80) n with
  | true => simp
  | false => have := anyB_no.1 hx i hi; (try dsimp only at this); rw [h] at this; cases this
theorem offB_iff {n : Nat} {F : Nat → Int} : offB n F = true ↔ n = 13 ∧ ∀ i, i < n → -80 ≤ F i ∧ F i ≤ 80 := by
  unfold offB
  simp only [Bool.and_eq_true, Bool.not_eq_true', decide_eq_true_eq]
  rw [anyB_no]
  constructor
  · rintro ⟨h1, h2⟩
    refine ⟨by omega, fun i hi => ?_⟩
    have := h2 i hi
    rw [Bool.not_eq_false'] at this
    exact inB_iff.1 this
  · rintro ⟨h1, h2⟩
    exact ⟨by omega, fun i hi => by rw [Bool.not_eq_false']; exact inB_iff.2 (h2 i hi)⟩
set_option maxRecDepth 100000 in
set_option maxHeartbeats 4000000 in
theorem rtruth_any (a1 : Option Addr) (n1 c1 : Nat) (a2 : Option Addr) (n2 c2 : Nat) (F G : Nat → Int) (w : World) (h1 : n1 ≤ 1000) (h2 : n2 ≤ 1000) (hF : IntsSl w (.slice a1 n1 c1) n1 F) (hG : IntsSl w (.slice a2 n2 c2) n2 G) :
    Calls Tryz.prog 18 #[.agg #[.slice a1 n1 c1, .slice a2 n2 c2]] w fun e w' => e = .returned (.bool (offB n1 F && offB n2 G)) ∧ Below w.heap.size w w' := by
  obtain ⟨W0, hW⟩ : ∃ W0, w.alloc (.cells #[.slice a1 n1 c1, .slice a2 n2 c2] 45) = W0 := ⟨_, rfl⟩
  have hw0 : Below w.heap.size w W0 := by rw [← hW]; exact (Below.refl _ _).alloc (Nat.le_refl _) _
  have k0 : W0.cell? ⟨w.heap.size, 0, none⟩ = some (.slice a1 n1 c1) := by rw [← hW]; exact cells_new w _ _ rfl
  have k1 : W0.cell? ⟨w.heap.size, 1, none⟩ = some (.slice a2 n2 c2) := by rw [← hW]; exact cells_new w _ _ rfl
  generalize hok : (offB n1 F && offB n2 G) = ok
  go_enter Tryz.func18, Tryz.ntmps18
  go_wp2
  go_loopw [3] (fun i wr => ∃ k : Nat, k ≤ n1 ∧ k ≤ n2 ∧ i = .int .i64 k ∧ wr = W0 ∧ ∀ j, j < k → inB (F j) (-80) 80 = true ∧ inB (G j) (-80) 80 = true) (fun i _ => n1 - (intOf i).toNat)
  case atStart => exact ⟨0, Nat.zero_le _, Nat.zero_le _, rfl, rfl, fun _ h => absurd h (Nat.not_lt_zero _)⟩
  case round =>
    obtain ⟨i, hi1, hi2, rfl, rfl, hall⟩ := hrel
    have hi0 : (0 : Int) ≤ (i : Int) := Int.natCast_nonneg _
    by_cases hl1 : i < n1
    · by_cases hl2 : i < n2
      · obtain ⟨b1, o1, rfl, hb1, p1⟩ := ints_at hF (by omega)
        obtain ⟨b2, o2, rfl, hb2, p2⟩ := ints_at hG (by omega)
        have e1 := (hw0.cell (p := ⟨b1, o1 + i, none⟩) hb1).trans (p1 i hl1)
        have e2 := (hw0.cell (p := ⟨b2, o2 + i, none⟩) hb2).trans (p2 i hl2)
        have hk1 : (i : Int) < (n1 : Int) := by omega
        have hk2 : (i : Int) < (n2 : Int) := by omega
        have hno1 := offB_no (F := F) hl1
        have hno2 := offB_no (F := G) hl2
        cases q1 : inB (F i) (-80) 80 with
        | false =>
          rw [hno1 q1, Bool.false_and] at hok
          subst hok
          go_wp2_with (go_at_call 57; refine (in_any _ _ _ _).mono ?_; (first | rw [q1] | rw [q2]); rintro e w' ⟨rfl, rfl⟩)
          go_ret
          first | exact ⟨rfl, hw0⟩ | exact ⟨ret_bool (by simpa using h13'), hw0⟩
        | true =>
          cases q2 : inB (G i) (-80) 80 with
          | false =>
            rw [hno2 q2, Bool.and_false] at hok
            subst hok
            go_wp2_with (go_at_call 57; refine (in_any _ _ _ _).mono ?_; (first | rw [q1] | rw [q2]); rintro e w' ⟨rfl, rfl⟩)
            go_ret
            first | exact ⟨rfl, hw0⟩ | exact ⟨ret_bool (by simpa using h13'), hw0⟩
          | true =>
            go_wp2_with (go_at_call 57; refine (in_any _ _ _ _).mono ?_; (first | rw [q1] | rw [q2]); rintro e w' ⟨rfl, rfl⟩)
            go_roundw
            case rel => exact ⟨i + 1, by omega, by omega, by go_num, by first | rfl | trivial, all_succ (p := fun j => inB (F j) (-80) 80 = true ∧ inB (G j) (-80) 80 = true) hall ⟨q1, q2⟩⟩
            case measure => simp [intOf]; omega
      · obtain rfl : n2 = i := by omega
        have hk1 : (n2 : Int) < (n1 : Int) := by omega
        by_cases h13 : (n1 : Int) = 13
        · have h13' : ¬ (n2 : Int) = 13 := by omega
          have : offB n2 G = false := by
            cases hx : offB n2 G with
            | false => rfl
            | true => have := (offB_iff.1 hx).1; omega
          rw [this, Bool.and_false] at hok
          subst hok
          go_wp2
          go_ret
          first | exact ⟨rfl, hw0⟩ | exact ⟨ret_bool (by simpa using h13'), hw0⟩
        · have : offB n1 F = false := by
            cases hx : offB n1 F with
            | false => rfl
            | true => have := (offB_iff.1 hx).1; omega
          rw [this, Bool.false_and] at hok
          subst hok
          go_wp2
          go_ret
          first | exact ⟨rfl, hw0⟩ | exact ⟨ret_bool (by simpa using h13'), hw0⟩
    · obtain rfl : n1 = i := by omega
      by_cases h13 : (n1 : Int) = 13
      · by_cases h13' : (n2 : Int) = 13
        · have e1 : offB n1 F = true := offB_iff.2 ⟨by omega, fun j hj => inB_iff.1 (hall j hj).1⟩
          have e2 : offB n2 G = true := offB_iff.2 ⟨by omega, fun j hj => inB_iff.1 (hall j (by omega)).2⟩
          rw [e1, e2, Bool.and_true] at hok
          subst hok
          go_wp2
          go_ret
          first | exact ⟨rfl, hw0⟩ | exact ⟨ret_bool (by simpa using h13'), hw0⟩
        · have : offB n2 G = false := by
            cases hx : offB n2 G with
            | false => rfl
            | true => have := (offB_iff.1 hx).1; omega
          rw [this, Bool.and_false] at hok
          subst hok
          go_wp2
          go_ret
          first | exact ⟨rfl, hw0⟩ | exact ⟨ret_bool (by simpa using h13'), hw0⟩
      · have : offB n1 F = false := by
          cases hx : offB n1 F with
          | false => rfl
          | true => have := (offB_iff.1 hx).1; omega
        rw [this, Bool.false_and] at hok
        subst hok
        go_wp2
        go_ret
        first | exact ⟨rfl, hw0⟩ | exact ⟨ret_bool (by simpa using h13'), hw0⟩
end Go.Proofs.YtmjmmokbaocboaaGreatDoor
namespace Go.Proofs.YtmjmmokbaocboaaGreatDoor
open Go.RowKit
theorem isl_below {w w' : World} {v : Value} {n : Nat} {F : Nat → Int} (h : IntsSl w v n F) (hb : Below w.heap.size w w') : IntsSl w' v n F := by
  rcases h with h | ⟨b, off, c, h1, h2, h3⟩
  · exact .inl h
  · exact .inr ⟨b, off, c, h1, Nat.lt_of_lt_of_le h2 hb.size, fun i hi => (hb.cell (p := ⟨b, off + i, none⟩) h2).trans (h3 i hi)⟩
set_option maxRecDepth 100000 in
set_option maxHeartbeats 4000000 in
theorem Fits_yes (m : Mach) (a1 : Option Addr) (n1 c1 : Nat) (a2 : Option Addr) (n2 c2 : Nat) (F G : Nat → Int) (w : World) (hs : m.sn ≤ 1000) (hr : m.rn ≤ 9223372036854775807) (h : MIn w m) (h1 : n1 ≤ 1000) (h2 : n2 ≤ 1000) (hF : IntsSl w (.slice a1 n1 c1) n1 F) (hG : IntsSl w (.slice a2 n2 c2) n2 G) (hok : m.ok = true) (ho1' : offB n1 F = true) (ho2' : offB n2 G = true) (hc1 : n1 ≤ c1) (hc2 : n2 ≤ c2) :
    Calls Tryz.prog 20 #[m.val, .agg #[.slice a1 n1 c1, .slice a2 n2 c2]] w fun e w' => e = .returned (.tuple #[.bool (m.axX.holdB F && m.axY.holdB G), .int .i64 0]) ∧ Below w.heap.size w w' := by
  obtain ⟨W0, hW⟩ : ∃ W0, (w.alloc (.cells #[.slice m.sa m.sn m.sc, .int .i64 m.c0, .int .i64 m.c1, .int .i64 m.d0, .int .i64 m.d1, .int .i64 m.w0, .int .i64 m.w1, .int .i64 m.v0, .int .i64 m.v1, .slice m.ra m.rn m.rc] 29)).alloc (.cells #[.slice a1 n1 c1, .slice a2 n2 c2] 45) = W0 := ⟨_, rfl⟩
  have hb0 : Below w.heap.size w W0 := by rw [← hW]; exact ((Below.refl _ _).alloc (Nat.le_refl _) _).alloc (by rw [World.size_alloc]; omega) _
  have hsz : W0.heap.size = w.heap.size + 1 + 1 := by rw [← hW, World.size_alloc, World.size_alloc]
  have k0 : W0.cell? ⟨w.heap.size + 1, 0, none⟩ = some (.slice a1 n1 c1) := by
    have h := cells_new (w.alloc (.cells #[.slice m.sa m.sn m.sc, .int .i64 m.c0, .int .i64 m.c1, .int .i64 m.d0, .int .i64 m.d1, .int .i64 m.w0, .int .i64 m.w1, .int .i64 m.v0, .int .i64 m.v1, .slice m.ra m.rn m.rc] 29)) #[.slice a1 n1 c1, .slice a2 n2 c2] 45 (j := 0) rfl
    rw [World.size_alloc, hW] at h; exact h
  have k1 : W0.cell? ⟨w.heap.size + 1, 1, none⟩ = some (.slice a2 n2 c2) := by
    have h := cells_new (w.alloc (.cells #[.slice m.sa m.sn m.sc, .int .i64 m.c0, .int .i64 m.c1, .int .i64 m.d0, .int .i64 m.d1, .int .i64 m.w0, .int .i64 m.w1, .int .i64 m.v0, .int .i64 m.v1, .slice m.ra m.rn m.rc] 29)) #[.slice a1 n1 c1, .slice a2 n2 c2] 45 (j := 1) rfl
    rw [World.size_alloc, hW] at h; exact h
  have hMB : MAt W0 w.heap.size m := by rw [← hW]; exact (MAt.new w m).below ((Below.refl _ _).alloc (Nat.le_refl _) _) (by rw [World.size_alloc]; omega)
  obtain ⟨q0, q1, q2, q3, q4, q5, q6, q7, q8, q9⟩ := hMB
  have hism := fun (W : World) (hB : Below w.heap.size w W) => isMachine_any m W hs hr (h.below hB)
  have ho1 := fun (W : World) (hB : Below w.heap.size w W) => areOffs_any _ n1 F W h1 (show IntsSl W (.slice a1 n1 c1) n1 F from isl_below hF hB)
  have ho2 := fun (W : World) (hB : Below w.heap.size w W) => areOffs_any _ n2 G W h2 (show IntsSl W (.slice a2 n2 c2) n2 G from isl_below hG hB)
  obtain ⟨e1, r1⟩ := offB_iff.1 ho1'
  obtain ⟨e2, r2⟩ := offB_iff.1 ho2'
  rw [hok] at hism
  rw [ho1'] at ho1
  rw [ho2'] at ho2
  subst e1
  subst e2
  have htr := fun (W : World) (hB : Below w.heap.size w W) => isTruth_any m a1 c1 a2 c2 F G W hok (h.below hB) (isl_below hF hB) (isl_below hG hB) hc1 hc2 r1 r2
  generalize (m.axX.holdB F && m.axY.holdB G) = res at *
  go_enter Tryz.func20, Tryz.ntmps20
  go_wp2_with (first
    | (go_at_call 59; with_reducible refine (hism _ hb0).mono ?_; rintro e w1 ⟨rfl, hb1⟩; have hB1 := hb0.trans (hb1.mono hb0.size); have l0 := (hb1.cell (p := ⟨w.heap.size + 1, 0, none⟩) (by show w.heap.size + 1 < _; omega)).trans k0; have l1 := (hb1.cell (p := ⟨w.heap.size + 1, 1, none⟩) (by show w.heap.size + 1 < _; omega)).trans k1; have hz1 := hb1.size; have hM1 := (show MAt W0 w.heap.size m from ⟨q0, q1, q2, q3, q4, q5, q6, q7, q8, q9⟩).below hb1 (by omega))
    | (go_at_call 60; with_reducible refine (ho1 _ hB1).mono ?_; rintro e w2 ⟨rfl, hb2⟩; have hB2 := hB1.trans (hb2.mono hB1.size); have j1 := (hb2.cell (p := ⟨w.heap.size + 1, 1, none⟩) (by show w.heap.size + 1 < _; omega)).trans l1; have j0 := (hb2.cell (p := ⟨w.heap.size + 1, 0, none⟩) (by show w.heap.size + 1 < _; omega)).trans l0; have hz2 := hb2.size; have hM2 := hM1.below hb2 (by omega))
    | (go_at_call 60; with_reducible refine (ho2 _ hB2).mono ?_; rintro e w3 ⟨rfl, hb3⟩; have hB3 := hB2.trans (hb3.mono hB2.size); have i0 := (hb3.cell (p := ⟨w.heap.size + 1, 0, none⟩) (by show w.heap.size + 1 < _; omega)).trans j0; have i1 := (hb3.cell (p := ⟨w.heap.size + 1, 1, none⟩) (by show w.heap.size + 1 < _; omega)).trans j1; have hM3 := hM2.below hb3 (by omega); obtain ⟨p0, p1, p2, p3, p4, p5, p6, p7, p8, p9⟩ := hM3)
    | (go_at_call 61; with_reducible refine (htr _ hB3).mono ?_; rintro e w4 ⟨rfl, hb4⟩; have hB4 := hB3.trans (hb4.mono hB3.size)))
  go_ret2
  exact ⟨rfl, hB4⟩
end Go.Proofs.YtmjmmokbaocboaaGreatDoor
namespace Go.Proofs.YtmjmmokbaocboaaGreatDoor
open Go.RowKit
set_option maxRecDepth 100000 in
set_option maxHeartbeats 4000000 in
theorem moved_some (b off n cap : Nat) (X Y : Nat → Int) (x y : Int) (w : World) (hn : n ≤ 1000) (hp : Pts w b off n X Y) (hb : b < w.heap.size) (hx : -80 ≤ x ∧ x ≤ 80) (hy : -80 ≤ y ∧ y ≤ 80) (hall : ∀ i, i < n → small (X i, Y i)) :
    Calls Tryz.prog 62 #[.slice (some ⟨b, off, none⟩) n cap, .agg #[.int .i64 x, .int .i64 y]] w fun e w' => ∃ v', e = .returned v' ∧ w'.ownsRow w.heap.size 74 2 v' n (ptsCells (fun i => (X i + x, Y i + y)) n) ∧ Below w.heap.size w w' := by
  obtain ⟨i0, hi, hz0, hz1, hz2⟩ := info_parts Tryz.info74
  obtain ⟨W0, hW0⟩ : ∃ W0, w.alloc (Obj.cells #[.int .i64 x, .int .i64 y] 74) = W0 := ⟨_, rfl⟩
  have hb0 : Below w.heap.size w W0 := by rw [← hW0]; exact (Below.refl _ _).alloc (Nat.le_refl _) _
  have hsz : W0.heap.size = w.heap.size + 1 := by rw [← hW0, World.size_alloc]
  have c0 : W0.cell? ⟨w.heap.size, 0, none⟩ = some (.int .i64 x) := by rw [← hW0]; exact cells_new w _ _ rfl
  have c1 : W0.cell? ⟨w.heap.size, 1, none⟩ = some (.int .i64 y) := by rw [← hW0]; exact cells_new w _ _ rfl
  have hp0 := hp.below hb0 hb
  go_enter Tryz.func62, Tryz.ntmps62
  go_wp2
  go_loopw [5, 10] (fun v i wr => ∃ k : Nat, k ≤ n ∧ i = .int .i64 k ∧ wr.ownsRow (w.heap.size + 1) 74 2 v k (ptsCells (fun i => (X i + x, Y i + y)) k) ∧ Below (w.heap.size + 1) W0 wr ∧ w.heap.size + 1 ≤ wr.heap.size) (fun _ i _ => n - (intOf i).toNat)
  case atStart => exact ⟨0, Nat.zero_le _, rfl, ⟨rfl, .inl ⟨rfl, rfl⟩⟩, Below.refl _ _, by omega⟩
  case round =>
    obtain ⟨k, hk, rfl, hown, hbl, hsw⟩ := hrel
    by_cases hlt : k < n
    · obtain ⟨hx0, hy0⟩ := hp0 k hlt
      have e0 := (hbl.cell (p := ⟨b, off + k * 2, none⟩) (by show b < _; omega)).trans hx0
      have e1 := (hbl.cell (p := ⟨b, off + k * 2 + 1, none⟩) (by show b < _; omega)).trans hy0
      have d0 := (hbl.cell (p := ⟨w.heap.size, 0, none⟩) (by show w.heap.size < _; omega)).trans c0
      have d1 := (hbl.cell (p := ⟨w.heap.size, 1, none⟩) (by show w.heap.size < _; omega)).trans c1
      have hne : w.heap.size ≠ wr.heap.size := by omega
      have hk0 : (0 : Int) ≤ (k : Int) := Int.natCast_nonneg _
      have hk1 : (k : Int) < (n : Int) := by omega
      obtain ⟨⟨hx1, hx2⟩, hy1, hy2⟩ := hall k hlt
      dsimp only at hx1 hx2 hy1 hy2
      obtain ⟨hxa, hxb⟩ := hx
      obtain ⟨hya, hyb⟩ := hy
      have hbp : Below (w.heap.size + 1) W0 (wr.alloc (Obj.cells #[.int .i64 (X k), .int .i64 (Y k)] 74)) := hbl.alloc hsw _
      have f0 := (((Below.refl wr.heap.size wr).alloc (Nat.le_refl _) (Obj.cells #[.int .i64 (X k), .int .i64 (Y k)] 74)).cell (p := ⟨w.heap.size, 0, none⟩) (by show w.heap.size < _; omega)).trans d0
      have f1 := (((Below.refl wr.heap.size wr).alloc (Nat.le_refl _) (Obj.cells #[.int .i64 (X k), .int .i64 (Y k)] 74)).cell (p := ⟨w.heap.size, 1, none⟩) (by show w.heap.size < _; omega)).trans d1
      go_wp2_with (at_builtin; refine wpList_append_own _ rfl _ _ 22 rfl (w.heap.size + 1) 74 i0 (.agg #[.int .i64 0, .int .i64 0]) 2 16 Tryz.underlying22 hi hz0 hz1 hz2 rfl (by decide) _ _ _ rfl ((hown.alloc _).alloc _) ⟨wr.heap.size + 1, 0, none⟩ 1 1 [.int .i64 (X k + x), .int .i64 (Y k + y)] rfl rfl ?c1 ?c2 ?c3 ?c4 ?c5 ?_)
      case c1 =>
        have h := cells_two (wr.alloc (Obj.cells #[.int .i64 (X k), .int .i64 (Y k)] 74)) (.int .i64 (X k + x)) (.int .i64 (Y k + y)) 74
        rw [World.size_alloc] at h
        exact h
      case c2 => exact fun u hu => by rcases List.mem_cons.1 hu with rfl | hu; · rfl
                                      · rcases List.mem_cons.1 hu with rfl | hu; · rfl
                                        · cases hu
      case c3 => unfold maxLen; omega
      case c4 => omega
      case c5 => first | omega | (simp only [World.size_alloc]; omega)
      intro v3 w3 hown3 hgrow _
      have hb3 : Below (w.heap.size + 1) W0 w3 := (hbp.alloc (by rw [World.size_alloc]; omega) _).grown hgrow (by simp only [World.size_alloc]; omega) fun q hq => (hown.lt q hq).1
      have hz3 : w.heap.size + 1 ≤ w3.heap.size := by have := hgrow.size; simp only [World.size_alloc] at this; omega
      clear hgrow hown hbp
      go_wp2
      go_roundw
      case rel => exact ⟨k + 1, by omega, by go_num, hown3, hb3, hz3⟩
      case measure => simp [intOf]; omega
    · obtain rfl : n = k := by omega
      go_wp2
      go_ret
      exact ⟨_, rfl, ownsRow_base (by omega) hown, hb0.trans (hbl.mono (by omega))⟩
end Go.Proofs.YtmjmmokbaocboaaGreatDoor
