/- A part of the proof: see the last file. -/
import Derived.Test.YtdilcbocnndkmaaGreatDoorX10
import Derived.Test.YtdilcbocnndkmaaGreatDoorWa
set_option linter.unusedVariables false
set_option linter.unusedSimpArgs false
set_option linter.unusedSectionVars false
namespace Go.Proofs.YtdilcbocnndkmaaGreatDoor
open Go.RowKit
def hasP (x y : Int) (X Y : Nat → Int) (n : Nat) : Bool := decide (0 ≤ idxQ (ptEq x y X Y) 0 n)
set_option maxRecDepth 100000 in
set_option maxHeartbeats 1000000 in
theorem ptHas_some (b off n cap : Nat) (X Y : Nat → Int) (x y : Int) (w : World) (hn : n ≤ 1000) (hp : Pts w b off n X Y) (hb : b < w.heap.size) :
    Calls Tryz.prog 57 #[.slice (some ⟨b, off, none⟩) n cap, .agg #[.int .i64 x, .int .i64 y]] w fun e w' => e = .returned (.bool (hasP x y X Y n)) ∧ Below w.heap.size w w' := by
  unfold hasP
  have h1 : Below w.heap.size w (w.alloc (.cells #[.int .i64 x, .int .i64 y] 33)) := (Below.refl _ _).alloc (Nat.le_refl _) _
  have hi := ptIndex_some b off n cap X Y x y (w.alloc (.cells #[.int .i64 x, .int .i64 y] 33)) hn (hp.below h1 hb) (by rw [World.size_alloc]; omega)
  have c0 : (w.alloc (.cells #[.int .i64 x, .int .i64 y] 33)).cell? ⟨w.heap.size, 0, none⟩ = some (.int .i64 x) := by have := cells_two w (.int .i64 x) (.int .i64 y) 33 0 _ rfl; simp [Addr.add]
  have c1 : (w.alloc (.cells #[.int .i64 x, .int .i64 y] 33)).cell? ⟨w.heap.size, 1, none⟩ = some (.int .i64 y) := by have := cells_two w (.int .i64 x) (.int .i64 y) 33 1 _ rfl; simp [Addr.add]
  generalize idxQ (ptEq x y X Y) 0 n = r at hi ⊢
  go_enter Tryz.func57, Tryz.ntmps57
  go_wp2_with (go_at_call 102; refine hi.mono ?_; rintro e w' ⟨rfl, hb⟩)
  go_ret
  exact ⟨rfl, h1.trans (hb.mono (by rw [World.size_alloc]; omega))⟩
def dupI (X Y : Nat → Int) (n : Nat) : Int := idxQ (fun i => hasP (X i) (Y i) X Y i) 0 n
def chkE (n : Nat) (X Y : Nat → Int) (off : Int) : Int := if arB n 2 X Y 20 = true then if inB off 0 6 = true then if dupI X Y n = -1 then 0 else 2 else 2 else 2
set_option maxRecDepth 100000 in
set_option maxHeartbeats 1000000 in
theorem check_some (b off n cap : Nat) (X Y : Nat → Int) (r : Int) (w : World) (hn : n ≤ 1000) (hcap : n ≤ cap) (hp : Pts w b off n X Y) (hb : b < w.heap.size) (h : arB n 2 X Y 20 = true) (hr : inB r 0 6 = true) :
    Calls Tryz.prog 18 #[.agg #[.slice (some ⟨b, off, none⟩) n cap, .int .i64 r]] w fun e w' => e = .returned (.int .i64 (if dupI X Y n = -1 then 0 else 2)) ∧ Below w.heap.size w w' := by
  unfold dupI
  generalize hd : (fun i => hasP (X i) (Y i) X Y i) = d
  generalize hres : (if idxQ d 0 n = -1 then (0 : Int) else 2) = res
  go_enter Tryz.func18, Tryz.ntmps18
  have h1 : Below w.heap.size w (w.alloc (.cells #[.slice (some ⟨b, off, none⟩) n cap, .int .i64 r] 24)) := (Below.refl _ _).alloc (Nat.le_refl _) _
  have c0 : (w.alloc (.cells #[.slice (some ⟨b, off, none⟩) n cap, .int .i64 r] 24)).cell? ⟨w.heap.size, 0, none⟩ = some (.slice (some ⟨b, off, none⟩) n cap) := by have := cells_two w (.slice (some ⟨b, off, none⟩) n cap) (.int .i64 r) 24 0 _ rfl; simp [Addr.add]
  have c1 : (w.alloc (.cells #[.slice (some ⟨b, off, none⟩) n cap, .int .i64 r] 24)).cell? ⟨w.heap.size, 1, none⟩ = some (.int .i64 r) := by have := cells_two w (.slice (some ⟨b, off, none⟩) n cap) (.int .i64 r) 24 1 _ rfl; simp [Addr.add]
  have hsz : (w.alloc (.cells #[.slice (some ⟨b, off, none⟩) n cap, .int .i64 r] 24)).heap.size = w.heap.size + 1 := World.size_alloc _ _
  have hca := are_some b off n cap 2 X Y 20 (by omega) (by omega) (w.alloc (.cells #[.slice (some ⟨b, off, none⟩) n cap, .int .i64 r] 24)) hn (hp.below h1 hb) (by omega)
  rw [h] at hca
  go_wp2_with (first
    | (go_at_call 54; refine hca.mono ?_; rintro e w1 ⟨rfl, hb1⟩; have d0 := (hb1.cell (p := ⟨w.heap.size, 0, none⟩) (by show w.heap.size < _; omega)).trans c0; have d1 := (hb1.cell (p := ⟨w.heap.size, 1, none⟩) (by show w.heap.size < _; omega)).trans c1)
    | (go_at_call 56; refine (within_any _ _ _ _).mono ?_; rw [hr]; rintro e w' ⟨rfl, rfl⟩))
  have hz1 := hb1.size
  have hw1 : Below w.heap.size w w1 := h1.trans (hb1.mono (by omega))
  go_loopw [18] (fun i wr => ∃ k : Nat, k ≤ n ∧ i = .int .i64 k ∧ Below w1.heap.size w1 wr ∧ idxQ d 0 n = idxQ d k (n - k)) (fun i _ => n - (intOf i).toNat)
  case atStart => exact ⟨0, Nat.zero_le _, rfl, Below.refl _ _, rfl⟩
  case round =>
    obtain ⟨k, hk, rfl, hbl, hix⟩ := hrel
    have hzl := hbl.size
    have hbw : Below w.heap.size w wr := hw1.trans (hbl.mono (by omega))
    by_cases hlt : k < n
    · obtain ⟨hx, hy⟩ := hp.below hbw hb k hlt
      have hk0 : (0 : Int) ≤ (k : Int) := Int.natCast_nonneg _
      have hk1 : (k : Int) < (n : Int) := by omega
      have hk2 : (k : Int) ≤ (cap : Int) := by omega
      have hk3 : k ≤ cap := by omega
      have hdk : d k = hasP (X k) (Y k) X Y k := by rw [← hd]
      obtain ⟨wp, hwp⟩ : ∃ wp, wr.alloc (.cells #[.int .i64 (X k), .int .i64 (Y k)] 33) = wp := ⟨_, rfl⟩
      have bp : Below wr.heap.size wr wp := by rw [← hwp]; exact (Below.refl _ _).alloc (Nat.le_refl _) _
      have hzq : wp.heap.size = wr.heap.size + 1 := by rw [← hwp, World.size_alloc]
      have hpk : Pts wp b off k X Y := fun i hi => (hp.below (hbw.trans (bp.mono (by omega))) hb) i (by omega)
      have q0 := (bp.cell (p := ⟨w.heap.size, 0, none⟩) (by show w.heap.size < _; omega)).trans ((hbl.cell (p := ⟨w.heap.size, 0, none⟩) (by show w.heap.size < _; omega)).trans d0)
      have r0 : wp.cell? ⟨wr.heap.size, 0, none⟩ = some (.int .i64 (X k)) := by rw [← hwp]; have := cells_two wr (.int .i64 (X k)) (.int .i64 (Y k)) 33 0 _ rfl; simp [Addr.add]
      have r1 : wp.cell? ⟨wr.heap.size, 1, none⟩ = some (.int .i64 (Y k)) := by rw [← hwp]; have := cells_two wr (.int .i64 (X k)) (.int .i64 (Y k)) 33 1 _ rfl; simp [Addr.add]
      have hzp := bp.size
      have hcon := ptHas_some b off k cap X Y (X k) (Y k) wp.drew (by omega) hpk (show b < wp.heap.size by omega)
      rw [← hdk] at hcon
      go_wp2_with fail
      cases hdd : d k with
      | true =>
        rw [hdd] at hcon
        go_region_held3 (fun w' => w'.cell? ⟨w.heap.size, 0, none⟩ = some (.slice (some ⟨b, off, none⟩) n cap) ∧ w'.cell? ⟨wr.heap.size, 0, none⟩ = some (.int .i64 (X k)) ∧ w'.cell? ⟨wr.heap.size, 1, none⟩ = some (.int .i64 (Y k)))
          (first | (go_keep; done) | (go_split_ands; refine ⟨?_, ?_, ?_⟩ <;> (rw [hbb.cell (by first | omega | (simp; omega) | simp)]; assumption)))
          ((go_at_call 57; refine hcon.mono ?_; rintro e w6 ⟨rfl, hbb⟩; have hs := hbb.size))
        have hb6 : Below wr.heap.size wr w6 := bp.trans ((Below.refl _ _).drew.trans (hbb.mono (by simpa using hzp)))
        go_wp2
        go_ret
        rw [idxQ_hit hlt hdd] at hix
        exact ⟨(by rw [← hres, if_neg (by omega)]; rfl), hbw.trans (hb6.mono hbw.size)⟩
      | false =>
        rw [hdd] at hcon
        go_region_held3 (fun w' => w'.cell? ⟨w.heap.size, 0, none⟩ = some (.slice (some ⟨b, off, none⟩) n cap) ∧ w'.cell? ⟨wr.heap.size, 0, none⟩ = some (.int .i64 (X k)) ∧ w'.cell? ⟨wr.heap.size, 1, none⟩ = some (.int .i64 (Y k)))
          (first | (go_keep; done) | (go_split_ands; refine ⟨?_, ?_, ?_⟩ <;> (rw [hbb.cell (by first | omega | (simp; omega) | simp)]; assumption)))
          ((go_at_call 57; refine hcon.mono ?_; rintro e w6 ⟨rfl, hbb⟩; have hs := hbb.size))
        have hb6 : Below wr.heap.size wr w6 := bp.trans ((Below.refl _ _).drew.trans (hbb.mono (by simpa using hzp)))
        go_wp2
        go_roundw
        case rel => exact ⟨k + 1, by omega, by go_num, hbl.trans (hb6.mono hbl.size), hix.trans (idxQ_miss hlt hdd)⟩
        case measure => simp [intOf]; omega
    · obtain rfl : n = k := by omega
      go_wp2
      go_ret
      rw [Nat.sub_self] at hix
      exact ⟨(by rw [← hres, if_pos (by rw [hix]; rfl)]; rfl), hbw⟩
set_option maxRecDepth 100000 in
set_option maxHeartbeats 1000000 in
theorem check_far (a : Option Addr) (c n : Nat) (X Y : Nat → Int) (r : Int) (w : World) (hn : n ≤ 1000) (hp : PSl w (.slice a n c) n X Y) (h : arB n 2 X Y 20 = false) :
    Calls Tryz.prog 18 #[.agg #[.slice a n c, .int .i64 r]] w fun e w' => e = .returned (.int .i64 2) ∧ Below w.heap.size w w' := by
  have h1 : Below w.heap.size w (w.alloc (.cells #[.slice a n c, .int .i64 r] 24)) := (Below.refl _ _).alloc (Nat.le_refl _) _
  have hca := are_any (.slice a n c) n 2 X Y 20 (by omega) (by omega) (w.alloc (.cells #[.slice a n c, .int .i64 r] 24)) hn (hp.below h1)
  rw [h] at hca
  go_enter Tryz.func18, Tryz.ntmps18
  go_wp2_with (first | (go_at_call 54; refine hca.mono ?_; rintro e w1 ⟨rfl, hb1⟩))
  go_ret
  exact ⟨rfl, h1.trans (hb1.mono (by rw [World.size_alloc]; omega))⟩
set_option maxRecDepth 100000 in
set_option maxHeartbeats 1000000 in
theorem check_off (a : Option Addr) (c n : Nat) (X Y : Nat → Int) (r : Int) (w : World) (hn : n ≤ 1000) (hp : PSl w (.slice a n c) n X Y) (h : arB n 2 X Y 20 = true) (hr : inB r 0 6 = false) :
    Calls Tryz.prog 18 #[.agg #[.slice a n c, .int .i64 r]] w fun e w' => e = .returned (.int .i64 2) ∧ Below w.heap.size w w' := by
  have h1 : Below w.heap.size w (w.alloc (.cells #[.slice a n c, .int .i64 r] 24)) := (Below.refl _ _).alloc (Nat.le_refl _) _
  have c1 : (w.alloc (.cells #[.slice a n c, .int .i64 r] 24)).cell? ⟨w.heap.size, 1, none⟩ = some (.int .i64 r) := by have := cells_two w (.slice a n c) (.int .i64 r) 24 1 _ rfl; simp [Addr.add]
  have hsz : (w.alloc (.cells #[.slice a n c, .int .i64 r] 24)).heap.size = w.heap.size + 1 := World.size_alloc _ _
  have hca := are_any (.slice a n c) n 2 X Y 20 (by omega) (by omega) (w.alloc (.cells #[.slice a n c, .int .i64 r] 24)) hn (hp.below h1)
  rw [h] at hca
  go_enter Tryz.func18, Tryz.ntmps18
  go_wp2_with (first
    | (go_at_call 54; refine hca.mono ?_; rintro e w1 ⟨rfl, hb1⟩; have d1 := (hb1.cell (p := ⟨w.heap.size, 1, none⟩) (by show w.heap.size < _; omega)).trans c1)
    | (go_at_call 56; refine (within_any _ _ _ _).mono ?_; rw [hr]; rintro e w' ⟨rfl, rfl⟩))
  go_ret
  exact ⟨rfl, h1.trans (hb1.mono (by rw [World.size_alloc]; omega))⟩
/-- a slice of points whose capacity is no less than its length. -/
def PSc (w : World) (v : Value) (n : Nat) (X Y : Nat → Int) : Prop := PSl w v n X Y ∧ ∃ a c, v = .slice a n c ∧ n ≤ c
theorem check_any (v : Value) (n : Nat) (X Y : Nat → Int) (r : Int) (w : World) (hn : n ≤ 1000) (hp : PSc w v n X Y) :
    Calls Tryz.prog 18 #[.agg #[v, .int .i64 r]] w fun e w' => e = .returned (.int .i64 (chkE n X Y r)) ∧ Below w.heap.size w w' := by
  obtain ⟨hp, a, c, rfl, hc⟩ := hp
  unfold chkE
  cases h : arB n 2 X Y 20 with
  | false => rw [if_neg (by simp)]; exact check_far a c n X Y r w hn hp h
  | true =>
    rw [if_pos rfl]
    cases hr : inB r 0 6 with
    | false => rw [if_neg (by simp)]; exact check_off a c n X Y r w hn hp h hr
    | true =>
      rw [if_pos rfl]
      rcases hp with ⟨a', c', h1, h2⟩ | ⟨b, off, cap, h1, h2, h3⟩
      · subst h2
        exact absurd h (by unfold arB; rw [inB_no1 (by omega)]; simp)
      · cases h1
        exact check_some b off n c X Y r w hn hc h3 h2 h hr
end Go.Proofs.YtdilcbocnndkmaaGreatDoor
