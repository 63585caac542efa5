/- A part of the proof: see the last file. -/
import Derived.Test.YtbgjocgjmjkneaaGreatDoorPah
import Derived.Test.YtbgjocgjmjkneaaGreatDoorPaf
import Derived.IntWalk
import Derived.Test.YtbgjocgjmjkneaaGreatDoorPab
set_option linter.unusedVariables false
set_option linter.unusedSimpArgs false
set_option linter.unusedSectionVars false
namespace Go.Proofs.YtbgjocgjmjkneaaGreatDoor
open Go.RowKit
end Go.Proofs.YtbgjocgjmjkneaaGreatDoor
namespace Go.Proofs.YtbgjocgjmjkneaaGreatDoor
open Go.RowKit
theorem readB_iff {B X Y E : Int} : readB B X Y E = true ↔ inB B 0 12 = true ∧ inB X (-80) 80 = true ∧ inB Y (-80) 80 = true ∧ inB E 0 4 = true := by
  unfold readB ptB
  simp only [Bool.and_eq_true]
  constructor
  · rintro ⟨a, ⟨b, c⟩, d⟩; exact ⟨a, b, c, d⟩
  · rintro ⟨a, b, c, d⟩; exact ⟨a, ⟨b, c⟩, d⟩
theorem okReads_no {m : Mach} {i : Nat} (hi : i < m.rn) (h : readB (m.RB i) (m.RX i) (m.RY i) (m.RE i) = false) : m.ok = false := by
  have : m.okReads = false := by
    unfold Mach.okReads
    cases hx : anyB (fun i => !readB (m.RB i) (m.RX i) (m.RY i) (m.RE i)) m.rn with
    | true => rfl
    | false =>
      have := anyB_no.1 hx i hi
      rw [h] at this; cases this
  unfold Mach.ok
  rw [this]; simp
theorem okReads_yes {m : Mach} (h : ∀ i, i < m.rn → readB (m.RB i) (m.RX i) (m.RY i) (m.RE i) = true) : m.ok = (ponB m.sn 2 4 m.SX m.SY 20 && (decide ((m.rn : Int) ≤ 4) && m.okSpans)) := by
  have : m.okReads = true := by
    unfold Mach.okReads
    rw [anyB_no.2 fun i hi => by rw [h i hi]; rfl]; rfl
  unfold Mach.ok Mach.okStops
  rw [this, arB_pon2, Bool.and_true]
set_option maxRecDepth 100000 in
set_option maxHeartbeats 4000000 in
theorem rmachine_any (m : Mach) (w : World) (hs : m.sn ≤ 1000) (hr : m.rn ≤ 1000) (h : MIn w m) :
    Calls Tryz.prog 18 #[m.val] w fun e w' => e = .returned (.bool m.ok) ∧ Below w.heap.size w w' := by
  have hno := fun i hi h => okReads_no (m := m) (i := i) hi h
  have hyes := okReads_yes (m := m)
  unfold Mach.okSpans at hyes
  generalize m.ok = ok at *
  obtain ⟨sa, sn, sc, SX, SY, c0, c1, d0, d1, w0, w1, v0, v1, ra, rn, rc, RB, RX, RY, RE⟩ := m
  obtain ⟨h1, h2⟩ := h
  dsimp only [Mach.val] at *
  obtain ⟨W0, hW⟩ : ∃ W0, w.alloc (.cells #[.slice sa sn sc, .int .i64 c0, .int .i64 c1, .int .i64 d0, .int .i64 d1, .int .i64 w0, .int .i64 w1, .int .i64 v0, .int .i64 v1, .slice ra rn rc] 33) = W0 := ⟨_, rfl⟩
  have hw0 : Below w.heap.size w W0 := by rw [← hW]; exact (Below.refl _ _).alloc (Nat.le_refl _) _
  have hsz : W0.heap.size = w.heap.size + 1 := by rw [← hW]; exact World.size_alloc _ _
  have hMA : MAt W0 w.heap.size ⟨sa, sn, sc, SX, SY, c0, c1, d0, d1, w0, w1, v0, v1, ra, rn, rc, RB, RX, RY, RE⟩ := by rw [← hW]; exact MAt.new w ⟨sa, sn, sc, SX, SY, c0, c1, d0, d1, w0, w1, v0, v1, ra, rn, rc, RB, RX, RY, RE⟩
  have g1 := h1.below hw0
  have g2 := h2.below hw0
  go_enter Tryz.func18, Tryz.ntmps18
  go_wp2
  go_loopw [3] (fun i wr => ∃ k : Nat, k ≤ rn ∧ i = .int .i64 k ∧ Below W0.heap.size W0 wr ∧ ∀ j, j < k → readB (RB j) (RX j) (RY j) (RE j) = true) (fun i _ => rn - (intOf i).toNat)
  case atStart => exact ⟨0, Nat.zero_le _, rfl, Below.refl _ _, fun _ h => absurd h (Nat.not_lt_zero _)⟩
  case round =>
    obtain ⟨i, hi, rfl, hbl, hall⟩ := hrel
    have hMB := hMA.below hbl (by omega)
    have k9 := hMB.k9
    dsimp only at k9
    by_cases hlt : i < rn
    · rcases g2 with ⟨_, _, _, h0⟩ | ⟨b, off, cap, e, hb, hp⟩
      · omega
      · cases e
        obtain ⟨e1, e2, e3, e4⟩ := hp.below hbl hb i hlt
        have hi0 : (0 : Int) ≤ (i : Int) := Int.natCast_nonneg _
        have hi1 : (i : Int) < (rn : Int) := by omega
        have hrb := @readB_iff (RB i) (RX i) (RY i) (RE i)
        have hno' := hno i hlt
        cases q1 : inB (RB i) 0 12 with
        | false =>
          have hz0 := hno' (by cases hz : readB (RB i) (RX i) (RY i) (RE i) with | false => rfl | true => have := (hrb.1 hz).1; rw [q1] at this; cases this)
          go_wp2_with (first
            | (go_at_call 20; refine (rblank_any _ _ _).mono ?_; rw [q1]; rintro e w' ⟨rfl, rfl⟩))
          go_ret
          exact ⟨ret_bool hz0.symm, hw0.trans ((hbl.trans (((Below.refl _ _).alloc (Nat.le_refl _) _).mono hbl.size)).mono hw0.size)⟩
        | true =>
          cases q2 : inB (RX i) (-80) 80 with
          | false =>
            have hz0 := hno' (by cases hz : readB (RB i) (RX i) (RY i) (RE i) with | false => rfl | true => have := (hrb.1 hz).2.1; rw [q2] at this; cases this)
            go_wp2_with (first
              | (go_at_call 20; refine (rblank_any _ _ _).mono ?_; rw [q1]; rintro e w' ⟨rfl, rfl⟩)
              | (go_at_call 54; refine (in_any _ _ _ _).mono ?_; rw [q2]; rintro e w' ⟨rfl, rfl⟩))
            go_ret
            exact ⟨ret_bool hz0.symm, hw0.trans ((hbl.trans (((Below.refl _ _).alloc (Nat.le_refl _) _).mono hbl.size)).mono hw0.size)⟩
          | true =>
            cases q3 : inB (RY i) (-80) 80 with
            | false =>
              have hz0 := hno' (by cases hz : readB (RB i) (RX i) (RY i) (RE i) with | false => rfl | true => have := (hrb.1 hz).2.2.1; rw [q3] at this; cases this)
              go_wp2_with (first
                | (go_at_call 20; refine (rblank_any _ _ _).mono ?_; rw [q1]; rintro e w' ⟨rfl, rfl⟩)
                | (go_at_call 54; refine (in_any _ _ _ _).mono ?_; (first | rw [q2] | rw [q3]); rintro e w' ⟨rfl, rfl⟩))
              go_ret
              exact ⟨ret_bool hz0.symm, hw0.trans ((hbl.trans (((Below.refl _ _).alloc (Nat.le_refl _) _).mono hbl.size)).mono hw0.size)⟩
            | true =>
              cases q4 : inB (RE i) 0 4 with
              | false =>
                have hz0 := hno' (by cases hz : readB (RB i) (RX i) (RY i) (RE i) with | false => rfl | true => have := (hrb.1 hz).2.2.2; rw [q4] at this; cases this)
                go_wp2_with (first
                  | (go_at_call 20; refine (rblank_any _ _ _).mono ?_; rw [q1]; rintro e w' ⟨rfl, rfl⟩)
                  | (go_at_call 54; refine (in_any _ _ _ _).mono ?_; (first | rw [q2] | rw [q3] | rw [q4]); rintro e w' ⟨rfl, rfl⟩))
                go_ret
                exact ⟨ret_bool hz0.symm, hw0.trans ((hbl.trans (((Below.refl _ _).alloc (Nat.le_refl _) _).mono hbl.size)).mono hw0.size)⟩
              | true =>
                go_wp2_with (first
                  | (go_at_call 20; refine (rblank_any _ _ _).mono ?_; rw [q1]; rintro e w' ⟨rfl, rfl⟩)
                  | (go_at_call 54; refine (in_any _ _ _ _).mono ?_; (first | rw [q2] | rw [q3] | rw [q4]); rintro e w' ⟨rfl, rfl⟩))
                go_roundw
                case rel => exact ⟨i + 1, by omega, by go_num, hbl.trans (((Below.refl _ _).alloc (Nat.le_refl _) _).mono hbl.size), all_succ (p := fun j => readB (RB j) (RX j) (RY j) (RE j) = true) hall (hrb.2 ⟨q1, q2, q3, q4⟩)⟩
                case measure => simp [intOf]; omega
    · obtain rfl : rn = i := by omega
      have hok := hyes hall
      have hB := hbl
      have k0 := hMB.k0; have k1 := hMB.k1; have k2 := hMB.k2; have k3 := hMB.k3; have k4 := hMB.k4; have k5 := hMB.k5; have k6 := hMB.k6; have k7 := hMB.k7; have k8 := hMB.k8
      dsimp only at k0 k1 k2 k3 k4 k5 k6 k7 k8
      have hs1 := fun W => rspan_any c0 c1 (-12) 12 6 (by omega) (by omega) W
      have hs2 := fun W => rspan_any d0 d1 (-12) 12 6 (by omega) (by omega) W
      have hs3 := fun W => rspan_any w0 w1 (-3) 3 2 (by omega) (by omega) W
      have hs4 := fun W => rspan_any v0 v1 (-3) 3 2 (by omega) (by omega) W
      have hpo := fun (W : World) (hb : Below W0.heap.size W0 W) => points_any (.slice sa sn sc) sn 2 4 SX SY 20 (by omega) (by omega) W hs (g1.below hb)
      generalize spanR c0 c1 (-12) 12 6 = x1 at *
      generalize spanR d0 d1 (-12) 12 6 = x2 at *
      generalize spanR w0 w1 (-3) 3 2 = x3 at *
      generalize spanR v0 v1 (-3) 3 2 = x4 at *
      generalize ponB sn 2 4 SX SY 20 = x5 at *
      cases x1 <;> cases x2 <;> cases x3 <;> cases x4 <;> cases x5
      all_goals
        simp only [Bool.and_true, Bool.and_false, Bool.true_and, Bool.false_and] at hok
        go_wp2_with (first
          | (go_at_call 59; with_reducible refine (hs1 _).mono ?_; rintro e w' ⟨rfl, hb⟩; replace hB := hB.trans (hb.mono hB.size); have hMB := hMA.below hB (by omega); have k0 := hMB.k0; have k3 := hMB.k3; have k4 := hMB.k4; have k5 := hMB.k5; have k6 := hMB.k6; have k7 := hMB.k7; have k8 := hMB.k8; have k9 := hMB.k9; dsimp only at k0 k3 k4 k5 k6 k7 k8 k9)
          | (go_at_call 59; with_reducible refine (hs2 _).mono ?_; rintro e w' ⟨rfl, hb⟩; replace hB := hB.trans (hb.mono hB.size); have hMB := hMA.below hB (by omega); have k0 := hMB.k0; have k3 := hMB.k3; have k4 := hMB.k4; have k5 := hMB.k5; have k6 := hMB.k6; have k7 := hMB.k7; have k8 := hMB.k8; have k9 := hMB.k9; dsimp only at k0 k3 k4 k5 k6 k7 k8 k9)
          | (go_at_call 59; with_reducible refine (hs3 _).mono ?_; rintro e w' ⟨rfl, hb⟩; replace hB := hB.trans (hb.mono hB.size); have hMB := hMA.below hB (by omega); have k0 := hMB.k0; have k3 := hMB.k3; have k4 := hMB.k4; have k5 := hMB.k5; have k6 := hMB.k6; have k7 := hMB.k7; have k8 := hMB.k8; have k9 := hMB.k9; dsimp only at k0 k3 k4 k5 k6 k7 k8 k9)
          | (go_at_call 59; with_reducible refine (hs4 _).mono ?_; rintro e w' ⟨rfl, hb⟩; replace hB := hB.trans (hb.mono hB.size); have hMB := hMA.below hB (by omega); have k0 := hMB.k0; have k3 := hMB.k3; have k4 := hMB.k4; have k5 := hMB.k5; have k6 := hMB.k6; have k7 := hMB.k7; have k8 := hMB.k8; have k9 := hMB.k9; dsimp only at k0 k3 k4 k5 k6 k7 k8 k9)
          | (go_at_call 53; with_reducible refine (hpo _ hB).mono ?_; rintro e w' ⟨rfl, rfl⟩))
        go_ret
        exact ⟨ret_bool hok.symm, hw0.trans (hB.mono hw0.size)⟩
end Go.Proofs.YtbgjocgjmjkneaaGreatDoor
namespace Go.Proofs.YtbgjocgjmjkneaaGreatDoor
open Go.RowKit
end Go.Proofs.YtbgjocgjmjkneaaGreatDoor
namespace Go.Proofs.YtbgjocgjmjkneaaGreatDoor
open Go.RowKit
end Go.Proofs.YtbgjocgjmjkneaaGreatDoor
namespace Go.Proofs.YtbgjocgjmjkneaaGreatDoor
open Go.RowKit
def Mach.axX (m : Mach) : Axis := ⟨m.c0, m.c1, m.w0, m.w1, m.rn, fun i => (m.RB i, m.RX i - m.RE i, m.RX i + m.RE i)⟩
def Mach.axY (m : Mach) : Axis := ⟨m.d0, m.d1, m.v0, m.v1, m.rn, fun i => (m.RB i, m.RY i - m.RE i, m.RY i + m.RE i)⟩
theorem Mach.ok_parts {m : Mach} (h : m.ok = true) : m.okStops = true ∧ m.rn ≤ 4 ∧ m.okSpans = true ∧ ∀ i, i < m.rn → readB (m.RB i) (m.RX i) (m.RY i) (m.RE i) = true := by
  unfold Mach.ok at h
  simp only [Bool.and_eq_true, decide_eq_true_eq] at h
  obtain ⟨h1, h2, h3, h4⟩ := h
  refine ⟨h1, by omega, h3, fun i hi => ?_⟩
  unfold Mach.okReads at h4
  rw [Bool.not_eq_true'] at h4
  have := anyB_no.1 h4 i hi
  rwa [Bool.not_eq_false'] at this
theorem Mach.reads {m : Mach} (h : m.ok = true) (i : Nat) (hi : i < m.rn) : (0 ≤ m.RB i ∧ m.RB i ≤ 12) ∧ (-80 ≤ m.RX i ∧ m.RX i ≤ 80) ∧ (-80 ≤ m.RY i ∧ m.RY i ≤ 80) ∧ (0 ≤ m.RE i ∧ m.RE i ≤ 4) := by
  obtain ⟨a, b, c, d⟩ := readB_iff.1 ((Mach.ok_parts h).2.2.2 i hi)
  exact ⟨inB_iff.1 a, inB_iff.1 b, inB_iff.1 c, inB_iff.1 d⟩
theorem Mach.fineX {m : Mach} (h : m.ok = true) : m.axX.fine := by
  obtain ⟨h1, h2, h3, h4⟩ := Mach.ok_parts h
  unfold Mach.okSpans at h3
  simp only [Bool.and_eq_true] at h3
  obtain ⟨s1, s2, s3, s4⟩ := h3
  have s1 := spanR_iff.1 s1
  have s3 := spanR_iff.1 s3
  refine ⟨by show _ ≤ m.c0 ∧ m.c0 ≤ m.c1 ∧ m.c1 ≤ _; omega, by show _ ≤ m.w0 ∧ m.w0 ≤ m.w1 ∧ m.w1 ≤ _; omega, by show m.rn ≤ 8; omega, fun i hi => ?_⟩
  have := Mach.reads h i hi
  show 0 ≤ m.RB i ∧ m.RB i ≤ 12 ∧ -110 ≤ m.RX i - m.RE i ∧ m.RX i - m.RE i ≤ 110 ∧ -110 ≤ m.RX i + m.RE i ∧ m.RX i + m.RE i ≤ 110
  omega
theorem Mach.fineY {m : Mach} (h : m.ok = true) : m.axY.fine := by
  obtain ⟨h1, h2, h3, h4⟩ := Mach.ok_parts h
  unfold Mach.okSpans at h3
  simp only [Bool.and_eq_true] at h3
  obtain ⟨s1, s2, s3, s4⟩ := h3
  have s1 := spanR_iff.1 s2
  have s3 := spanR_iff.1 s4
  refine ⟨by show _ ≤ m.d0 ∧ m.d0 ≤ m.d1 ∧ m.d1 ≤ _; omega, by show _ ≤ m.v0 ∧ m.v0 ≤ m.v1 ∧ m.v1 ≤ _; omega, by show m.rn ≤ 8; omega, fun i hi => ?_⟩
  have := Mach.reads h i hi
  show 0 ≤ m.RB i ∧ m.RB i ≤ 12 ∧ -110 ≤ m.RY i - m.RE i ∧ m.RY i - m.RE i ≤ 110 ∧ -110 ≤ m.RY i + m.RE i ∧ m.RY i + m.RE i ≤ 110
  omega
/-- a studied machine's cells: the machine's, and those of two courses. -/
def Mach.cells (m : Mach) : List Value := [.slice m.sa m.sn m.sc, .int .i64 m.c0, .int .i64 m.c1, .int .i64 m.d0, .int .i64 m.d1, .int .i64 m.w0, .int .i64 m.w1, .int .i64 m.v0, .int .i64 m.v1, .slice m.ra m.rn m.rc]
def Mach.st (m : Mach) (X Y : List Value) : List Value := m.cells ++ (X ++ Y)
theorem Mach.st_length (m : Mach) {X Y : List Value} (hx : X.length = 26) (hy : Y.length = 26) : (m.st X Y).length = 62 := by
  unfold Mach.st Mach.cells
  simp [hx, hy]
theorem Mach.st_cells (m : Mach) {X Y : List Value} (hx : X.length = 26) (hy : Y.length = 26) : SCells (m.st X Y).toArray m :=
  ⟨by rw [List.size_toArray]; exact m.st_length hx hy, rfl, rfl, rfl, rfl, rfl, rfl, rfl, rfl, rfl, rfl⟩
theorem Mach.st_one (m : Mach) {X Y : List Value} (hx : ∀ v ∈ X, v.oneCell' = true) (hy : ∀ v ∈ Y, v.oneCell' = true) : ∀ v ∈ m.st X Y, v.oneCell' = true := fun v hv => by
  unfold Mach.st Mach.cells at hv
  simp only [List.mem_append, List.mem_cons, List.not_mem_nil, or_false] at hv
  rcases hv with h | h | h
  · rcases h with rfl | rfl | rfl | rfl | rfl | rfl | rfl | rfl | rfl | rfl <;> rfl
  · exact hx v h
  · exact hy v h
def zero26 : List Value := [.int .i64 0, .int .i64 0, .int .i64 0, .int .i64 0, .int .i64 0, .int .i64 0, .int .i64 0, .int .i64 0, .int .i64 0, .int .i64 0, .int .i64 0, .int .i64 0, .int .i64 0, .int .i64 0, .int .i64 0, .int .i64 0, .int .i64 0, .int .i64 0, .int .i64 0, .int .i64 0, .int .i64 0, .int .i64 0, .int .i64 0, .int .i64 0, .int .i64 0, .int .i64 0]
theorem zero26_one : ∀ v ∈ zero26, v.oneCell' = true := fun v hv => by
  unfold zero26 at hv
  simp only [List.mem_cons, List.not_mem_nil, or_false, or_self] at hv
  subst hv; rfl
set_option maxRecDepth 100000 in
set_option maxHeartbeats 4000000 in
theorem axes_any (L : List Value) (hL : L.length = 62) (w : World) :
    Calls Tryz.prog 69 #[.agg L.toArray] w fun e w' => e = .returned (.agg #[.func (.func 106) #[.agg L.toArray] #[], .func (.func 107) #[.agg L.toArray] #[]]) ∧ Below w.heap.size w w' := by
  have hmf : ∀ (fn : Fn) (first cap : Array Value) (w : World), (Instr.makeFunc fn first cap).run Tryz.prog w = .ok (.func fn first cap) w := fun _ _ _ _ => rfl
  have hi0 : (Tryz.prog.info? 96).map (·.size) = some 62 := by kernel_rfl
  have hi : (Tryz.prog.info? 96).map (·.size) = some L.length := by rw [hL]; exact hi0
  obtain ⟨W0, hW0⟩ : ∃ W0, (w.alloc (Obj.cells L.toArray 96)).alloc (Obj.cells #[.nilFunc, .nilFunc] 127) = W0 := ⟨_, rfl⟩
  have hrg : W0.rangeAt w.heap.size 0 L := by
    rw [← hW0]
    refine World.rangeAt_alloc (fun j v hj => ?_) _
    rw [Nat.zero_add]; exact cells_new w _ _ (by rw [List.getElem?_toArray]; exact hj)
  have hb0 : Below w.heap.size w W0 := by rw [← hW0]; exact ((Below.refl _ _).alloc (Nat.le_refl _) _).alloc (by rw [World.size_alloc]; omega) _
  have k0 : W0.cell? ⟨w.heap.size + 1, 0, none⟩ = some .nilFunc := by
    have h := cells_new (w.alloc (Obj.cells L.toArray 96)) #[.nilFunc, .nilFunc] 127 (j := 0) rfl
    rw [World.size_alloc, hW0] at h; exact h
  have k1 : W0.cell? ⟨w.heap.size + 1, 1, none⟩ = some .nilFunc := by
    have h := cells_new (w.alloc (Obj.cells L.toArray 96)) #[.nilFunc, .nilFunc] 127 (j := 1) rfl
    rw [World.size_alloc, hW0] at h; exact h
  have z0 : W0.frozen? ⟨w.heap.size + 1, 0, none⟩ = false := by
    rw [← hW0]; simp [go_sem]
  have z1 : W0.frozen? ⟨w.heap.size + 1, 1, none⟩ = false := by
    rw [← hW0]; simp [go_sem]
  clear hi0 hL
  go_enter Tryz.func69, Tryz.ntmps69
  go_wp2_with (first
    | (refine wpList_load_mid rfl 96 _ rfl w.heap.size 0 rfl L _ (by first | exact hrg | (rw [hW0]; exact hrg)) Tryz.underlying96 rfl hi ?_))
  refine bodyPost_ret (v := .agg #[.func (.func 106) #[.agg L.toArray] #[], .func (.func 107) #[.agg L.toArray] #[]]) (by simp [results, Tryz.results69, go_sem, k0, k1]) rfl ⟨rfl, (hb0.setCell (p := ⟨w.heap.size + 1, 0, none⟩) (Nat.le_succ _) _).setCell (p := ⟨w.heap.size + 1, 1, none⟩) (Nat.le_succ _) _⟩
end Go.Proofs.YtbgjocgjmjkneaaGreatDoor
namespace Go.Proofs.YtbgjocgjmjkneaaGreatDoor
open Go.RowKit
theorem idxF0 (f g : Fn) (a b c d : Array Value) (w : World) : (Instr.index 127 (.agg #[.func f a b, .func g c d]) (.int .i64 0)).run Tryz.prog w = .ok (.func f a b) w := by kernel_rfl
theorem idxF1 (f g : Fn) (a b c d : Array Value) (w : World) : (Instr.index 127 (.agg #[.func f a b, .func g c d]) (.int .i64 1)).run Tryz.prog w = .ok (.func g c d) w := by kernel_rfl
theorem alongX_m (m : Mach) (X Y : List Value) (hX : X.length = 26) (hY : Y.length = 26) (w : World) (hok : m.ok = true) (h : MIn w m) :
    Calls Tryz.prog 106 #[.agg (m.st X Y).toArray] w fun e w' => ∃ v, e = .returned (.agg #[.int .i64 m.axX.c0, .int .i64 m.axX.c1, .int .i64 m.axX.w0, .int .i64 m.axX.w1, v]) ∧ CSp w' v m.axX.n m.axX.cl ∧ Below w.heap.size w w' := by
  obtain ⟨hs, hr, _, hrd⟩ := Mach.ok_parts hok
  refine (alongX_any _ m w (m.st_cells hX hY) h.reads (by omega) hrd).mono ?_
  rintro e w' ⟨v, rfl, h1, h2, hb⟩
  exact ⟨v, rfl, csp_of_row h1 h2, hb⟩
theorem alongY_m (m : Mach) (X Y : List Value) (hX : X.length = 26) (hY : Y.length = 26) (w : World) (hok : m.ok = true) (h : MIn w m) :
    Calls Tryz.prog 107 #[.agg (m.st X Y).toArray] w fun e w' => ∃ v, e = .returned (.agg #[.int .i64 m.axY.c0, .int .i64 m.axY.c1, .int .i64 m.axY.w0, .int .i64 m.axY.w1, v]) ∧ CSp w' v m.axY.n m.axY.cl ∧ Below w.heap.size w w' := by
  obtain ⟨hs, hr, _, hrd⟩ := Mach.ok_parts hok
  refine (alongY_any _ m w (m.st_cells hX hY) h.reads (by omega) hrd).mono ?_
  rintro e w' ⟨v, rfl, h1, h2, hb⟩
  exact ⟨v, rfl, csp_of_row h1 h2, hb⟩
end Go.Proofs.YtbgjocgjmjkneaaGreatDoor
namespace Go.Proofs.YtbgjocgjmjkneaaGreatDoor
open Go.RowKit
end Go.Proofs.YtbgjocgjmjkneaaGreatDoor
namespace Go.Proofs.YtbgjocgjmjkneaaGreatDoor
open Go.RowKit
end Go.Proofs.YtbgjocgjmjkneaaGreatDoor
namespace Go.Proofs.YtbgjocgjmjkneaaGreatDoor
open Go.RowKit
set_option maxRecDepth 100000 in
set_option maxHeartbeats 4000000 in
theorem moved_some (b off n cap : Nat) (X Y : Nat → Int) (x y : Int) (w : World) (hn : n ≤ 1000) (hp : Pts w b off n X Y) (hb : b < w.heap.size) (hx : -80 ≤ x ∧ x ≤ 80) (hy : -80 ≤ y ∧ y ≤ 80) (hall : ∀ i, i < n → small (X i, Y i)) :
    Calls Tryz.prog 142 #[.slice (some ⟨b, off, none⟩) n cap, .agg #[.int .i64 x, .int .i64 y]] w fun e w' => ∃ v', e = .returned v' ∧ w'.ownsRow w.heap.size 53 2 v' n (ptsCells (fun i => (X i + x, Y i + y)) n) ∧ Below w.heap.size w w' := by
  obtain ⟨i0, hi, hz0, hz1, hz2⟩ := info_parts Tryz.info53
  obtain ⟨W0, hW0⟩ : ∃ W0, w.alloc (Obj.cells #[.int .i64 x, .int .i64 y] 53) = W0 := ⟨_, rfl⟩
  have hb0 : Below w.heap.size w W0 := by rw [← hW0]; exact (Below.refl _ _).alloc (Nat.le_refl _) _
  have hsz : W0.heap.size = w.heap.size + 1 := by rw [← hW0, World.size_alloc]
  have c0 : W0.cell? ⟨w.heap.size, 0, none⟩ = some (.int .i64 x) := by rw [← hW0]; exact cells_new w _ _ rfl
  have c1 : W0.cell? ⟨w.heap.size, 1, none⟩ = some (.int .i64 y) := by rw [← hW0]; exact cells_new w _ _ rfl
  have hp0 := hp.below hb0 hb
  go_enter Tryz.func142, Tryz.ntmps142
  go_wp2
  go_loopw [5, 10] (fun v i wr => ∃ k : Nat, k ≤ n ∧ i = .int .i64 k ∧ wr.ownsRow (w.heap.size + 1) 53 2 v k (ptsCells (fun i => (X i + x, Y i + y)) k) ∧ Below (w.heap.size + 1) W0 wr ∧ w.heap.size + 1 ≤ wr.heap.size) (fun _ i _ => n - (intOf i).toNat)
  case atStart => exact ⟨0, Nat.zero_le _, rfl, ⟨rfl, .inl ⟨rfl, rfl⟩⟩, Below.refl _ _, by omega⟩
  case round =>
    obtain ⟨k, hk, rfl, hown, hbl, hsw⟩ := hrel
    by_cases hlt : k < n
    · obtain ⟨hx0, hy0⟩ := hp0 k hlt
      have e0 := (hbl.cell (p := ⟨b, off + k * 2, none⟩) (by show b < _; omega)).trans hx0
      have e1 := (hbl.cell (p := ⟨b, off + k * 2 + 1, none⟩) (by show b < _; omega)).trans hy0
      have d0 := (hbl.cell (p := ⟨w.heap.size, 0, none⟩) (by show w.heap.size < _; omega)).trans c0
      have d1 := (hbl.cell (p := ⟨w.heap.size, 1, none⟩) (by show w.heap.size < _; omega)).trans c1
      have hne : w.heap.size ≠ wr.heap.size := by omega
      have hk0 : (0 : Int) ≤ (k : Int) := Int.natCast_nonneg _
      have hk1 : (k : Int) < (n : Int) := by omega
      obtain ⟨⟨hx1, hx2⟩, hy1, hy2⟩ := hall k hlt
      dsimp only at hx1 hx2 hy1 hy2
      obtain ⟨hxa, hxb⟩ := hx
      obtain ⟨hya, hyb⟩ := hy
      have hbp : Below (w.heap.size + 1) W0 (wr.alloc (Obj.cells #[.int .i64 (X k), .int .i64 (Y k)] 53)) := hbl.alloc hsw _
      have f0 := (((Below.refl wr.heap.size wr).alloc (Nat.le_refl _) (Obj.cells #[.int .i64 (X k), .int .i64 (Y k)] 53)).cell (p := ⟨w.heap.size, 0, none⟩) (by show w.heap.size < _; omega)).trans d0
      have f1 := (((Below.refl wr.heap.size wr).alloc (Nat.le_refl _) (Obj.cells #[.int .i64 (X k), .int .i64 (Y k)] 53)).cell (p := ⟨w.heap.size, 1, none⟩) (by show w.heap.size < _; omega)).trans d1
      go_wp2_with (at_builtin; refine wpList_append_own _ rfl _ _ 23 rfl (w.heap.size + 1) 53 i0 (.agg #[.int .i64 0, .int .i64 0]) 2 16 Tryz.underlying23 hi hz0 hz1 hz2 rfl (by decide) _ _ _ rfl ((hown.alloc _).alloc _) ⟨wr.heap.size + 1, 0, none⟩ 1 1 [.int .i64 (X k + x), .int .i64 (Y k + y)] rfl rfl ?c1 ?c2 ?c3 ?c4 ?c5 ?_)
      case c1 =>
        have h := cells_two (wr.alloc (Obj.cells #[.int .i64 (X k), .int .i64 (Y k)] 53)) (.int .i64 (X k + x)) (.int .i64 (Y k + y)) 53
        rw [World.size_alloc] at h
        exact h
      case c2 => exact fun u hu => by rcases List.mem_cons.1 hu with rfl | hu; · rfl
                                      · rcases List.mem_cons.1 hu with rfl | hu; · rfl
                                        · cases hu
      case c3 => unfold maxLen; omega
      case c4 => omega
      case c5 => first | omega | (simp only [World.size_alloc]; omega)
      intro v3 w3 hown3 hgrow _
      have hb3 : Below (w.heap.size + 1) W0 w3 := (hbp.alloc (by rw [World.size_alloc]; omega) _).grown hgrow (by simp only [World.size_alloc]; omega) fun q hq => (hown.lt q hq).1
      have hz3 : w.heap.size + 1 ≤ w3.heap.size := by have := hgrow.size; simp only [World.size_alloc] at this; omega
      clear hgrow hown hbp
      go_wp2
      go_roundw
      case rel => exact ⟨k + 1, by omega, by go_num, hown3, hb3, hz3⟩
      case measure => simp [intOf]; omega
    · obtain rfl : n = k := by omega
      go_wp2
      go_ret
      exact ⟨_, rfl, ownsRow_base (by omega) hown, hb0.trans (hbl.mono (by omega))⟩
end Go.Proofs.YtbgjocgjmjkneaaGreatDoor
