/- A part of the proof: see the last file. -/
import Derived.Test.YtmjmmokbaocboaaGreatDoorPab
import Derived.Deep.RegionHeld3
import Derived.Test.YtmjmmokbaocboaaGreatDoorPaa
import Derived.Test.YtmjmmokbaocboaaGreatDoorPad
import Derived.Deep.RegionHeld
set_option linter.unusedVariables false
set_option linter.unusedSimpArgs false
set_option linter.unusedSectionVars false
namespace Go.Proofs.YtmjmmokbaocboaaGreatDoor
open Go.RowKit
/-- the first place, from k on, among the first n at which f is so; -1 if there is none. -/
def idxQ (f : Nat → Bool) (k : Nat) : Nat → Int
  | 0 => -1
  | m+1 => if f k = true then (k : Int) else idxQ f (k+1) m
theorem idxQ_hit {f : Nat → Bool} {n k : Nat} (hk : k < n) (h : f k = true) : idxQ f k (n - k) = k := by
  obtain ⟨m, hm⟩ : ∃ m, n - k = m + 1 := ⟨n - k - 1, by omega⟩
  rw [hm]; unfold idxQ; rw [if_pos h]
theorem idxQ_miss {f : Nat → Bool} {n k : Nat} (hk : k < n) (h : f k = false) : idxQ f k (n - k) = idxQ f (k+1) (n - (k+1)) := by
  obtain ⟨m, hm⟩ : ∃ m, n - k = m + 1 := ⟨n - k - 1, by omega⟩
  rw [hm, show n - (k+1) = m by omega]; conv => lhs; unfold idxQ
  rw [if_neg (by rw [h]; simp)]
def ptEq (x y : Int) (X Y : Nat → Int) (i : Nat) : Bool := decide (x = X i) && decide (y = Y i)
set_option maxRecDepth 100000 in
set_option maxHeartbeats 1000000 in
theorem ptIndex_some (b off n cap : Nat) (X Y : Nat → Int) (x y : Int) (w : World) (hn : n ≤ 1000) (hp : Pts w b off n X Y) (hb : b < w.heap.size) :
    Calls Tryz.prog 148 #[.slice (some ⟨b, off, none⟩) n cap, .agg #[.int .i64 x, .int .i64 y]] w fun e w' => e = .returned (.int .i64 (idxQ (ptEq x y X Y) 0 n)) ∧ Below w.heap.size w w' := by
  go_enter Tryz.func148, Tryz.ntmps148
  go_wp2
  have h1 : Below w.heap.size w (w.alloc (.cells #[.int .i64 x, .int .i64 y] 74)) := (Below.refl _ _).alloc (Nat.le_refl _) _
  have c0 : (w.alloc (.cells #[.int .i64 x, .int .i64 y] 74)).cell? ⟨w.heap.size, 0, none⟩ = some (.int .i64 x) := by have := cells_two w (.int .i64 x) (.int .i64 y) 74 0 _ rfl; simp [Addr.add]
  have c1 : (w.alloc (.cells #[.int .i64 x, .int .i64 y] 74)).cell? ⟨w.heap.size, 1, none⟩ = some (.int .i64 y) := by have := cells_two w (.int .i64 x) (.int .i64 y) 74 1 _ rfl; simp [Addr.add]
  have hsz : (w.alloc (.cells #[.int .i64 x, .int .i64 y] 74)).heap.size = w.heap.size + 1 := World.size_alloc _ _
  go_loopw [8] (fun i wr => ∃ k : Nat, k ≤ n ∧ i = .int .i64 k ∧ Below (w.heap.size + 1) (w.alloc (.cells #[.int .i64 x, .int .i64 y] 74)) wr ∧ idxQ (ptEq x y X Y) 0 n = idxQ (ptEq x y X Y) k (n - k)) (fun i _ => n - (intOf i).toNat)
  case atStart => exact ⟨0, Nat.zero_le _, rfl, Below.refl _ _, rfl⟩
  case round =>
    obtain ⟨k, hk, rfl, hbl, hix⟩ := hrel
    have hbw : Below w.heap.size w wr := h1.trans (hbl.mono (by omega))
    have d0 := (hbl.cell (p := ⟨w.heap.size, 0, none⟩) (by show w.heap.size < _; omega)).trans c0
    have d1 := (hbl.cell (p := ⟨w.heap.size, 1, none⟩) (by show w.heap.size < _; omega)).trans c1
    by_cases hlt : k < n
    · obtain ⟨hx, hy⟩ := hp.below hbw hb k hlt
      have hk0 : (0 : Int) ≤ (k : Int) := Int.natCast_nonneg _
      have hk1 : (k : Int) < (n : Int) := by omega
      by_cases hxe : x = X k
      · by_cases hye : y = Y k
        · have hq : ptEq x y X Y k = true := by simp [ptEq, hxe, hye]
          go_wp2_with fail
          go_region_held3 (fun w' => w'.cell? ⟨w.heap.size, 0, none⟩ = some (.int .i64 x) ∧ w'.cell? ⟨w.heap.size, 1, none⟩ = some (.int .i64 y) ∧ w'.cell? ⟨b, off + k * 2, none⟩ = some (.int .i64 (X k)) ∧ w'.cell? ⟨b, off + k * 2 + 1, none⟩ = some (.int .i64 (Y k)))
            (go_keep) (fail)
          go_wp2
          go_ret
          rw [idxQ_hit hlt hq] at hix
          exact ⟨(by rw [hix]; rfl), hbw.drew⟩
        · have hq : ptEq x y X Y k = false := by simp [ptEq, hye]
          go_wp2_with fail
          go_region_held3 (fun w' => w'.cell? ⟨w.heap.size, 0, none⟩ = some (.int .i64 x) ∧ w'.cell? ⟨w.heap.size, 1, none⟩ = some (.int .i64 y) ∧ w'.cell? ⟨b, off + k * 2, none⟩ = some (.int .i64 (X k)) ∧ w'.cell? ⟨b, off + k * 2 + 1, none⟩ = some (.int .i64 (Y k)))
            (go_keep) (fail)
          go_wp2
          go_roundw
          case rel => exact ⟨k + 1, by omega, by go_num, hbl.drew, hix.trans (idxQ_miss hlt hq)⟩
          case measure => simp [intOf]; omega
      · have hq : ptEq x y X Y k = false := by simp [ptEq, hxe]
        go_wp2_with fail
        go_region_held3 (fun w' => w'.cell? ⟨w.heap.size, 0, none⟩ = some (.int .i64 x) ∧ w'.cell? ⟨w.heap.size, 1, none⟩ = some (.int .i64 y) ∧ w'.cell? ⟨b, off + k * 2, none⟩ = some (.int .i64 (X k)) ∧ w'.cell? ⟨b, off + k * 2 + 1, none⟩ = some (.int .i64 (Y k)))
          (go_keep) (fail)
        go_wp2
        go_roundw
        case rel => exact ⟨k + 1, by omega, by go_num, hbl.drew, hix.trans (idxQ_miss hlt hq)⟩
        case measure => simp [intOf]; omega
    · obtain rfl : n = k := by omega
      go_wp2
      go_ret
      rw [Nat.sub_self] at hix
      exact ⟨by rw [hix]; rfl, hbw⟩
end Go.Proofs.YtmjmmokbaocboaaGreatDoor
namespace Go.Proofs.YtmjmmokbaocboaaGreatDoor
open Go.RowKit
def hasP (x y : Int) (X Y : Nat → Int) (n : Nat) : Bool := decide (0 ≤ idxQ (ptEq x y X Y) 0 n)
set_option maxRecDepth 100000 in
set_option maxHeartbeats 1000000 in
theorem ptHas_some (b off n cap : Nat) (X Y : Nat → Int) (x y : Int) (w : World) (hn : n ≤ 1000) (hp : Pts w b off n X Y) (hb : b < w.heap.size) :
    Calls Tryz.prog 107 #[.slice (some ⟨b, off, none⟩) n cap, .agg #[.int .i64 x, .int .i64 y]] w fun e w' => e = .returned (.bool (hasP x y X Y n)) ∧ Below w.heap.size w w' := by
  unfold hasP
  have h1 : Below w.heap.size w (w.alloc (.cells #[.int .i64 x, .int .i64 y] 74)) := (Below.refl _ _).alloc (Nat.le_refl _) _
  have hi := ptIndex_some b off n cap X Y x y (w.alloc (.cells #[.int .i64 x, .int .i64 y] 74)) hn (hp.below h1 hb) (by rw [World.size_alloc]; omega)
  have c0 : (w.alloc (.cells #[.int .i64 x, .int .i64 y] 74)).cell? ⟨w.heap.size, 0, none⟩ = some (.int .i64 x) := by have := cells_two w (.int .i64 x) (.int .i64 y) 74 0 _ rfl; simp [Addr.add]
  have c1 : (w.alloc (.cells #[.int .i64 x, .int .i64 y] 74)).cell? ⟨w.heap.size, 1, none⟩ = some (.int .i64 y) := by have := cells_two w (.int .i64 x) (.int .i64 y) 74 1 _ rfl; simp [Addr.add]
  generalize idxQ (ptEq x y X Y) 0 n = r at hi ⊢
  go_enter Tryz.func107, Tryz.ntmps107
  go_wp2_with (go_at_call 148; refine hi.mono ?_; rintro e w' ⟨rfl, hb⟩)
  go_ret
  exact ⟨rfl, h1.trans (hb.mono (by rw [World.size_alloc]; omega))⟩
def dupI (X Y : Nat → Int) (n : Nat) : Int := idxQ (fun i => hasP (X i) (Y i) X Y i) 0 n
def chkE (n : Nat) (X Y : Nat → Int) (off : Int) : Int := if arB n 2 X Y 20 = true then if inB off 0 6 = true then if dupI X Y n = -1 then 0 else 2 else 2 else 2
set_option maxRecDepth 100000 in
set_option maxHeartbeats 1000000 in
theorem check_some (b off n cap : Nat) (X Y : Nat → Int) (r : Int) (w : World) (hn : n ≤ 1000) (hcap : n ≤ cap) (hp : Pts w b off n X Y) (hb : b < w.heap.size) (h : arB n 2 X Y 20 = true) (hr : inB r 0 6 = true) :
    Calls Tryz.prog 63 #[.agg #[.slice (some ⟨b, off, none⟩) n cap, .int .i64 r]] w fun e w' => e = .returned (.int .i64 (if dupI X Y n = -1 then 0 else 2)) ∧ Below w.heap.size w w' := by
  unfold dupI
  generalize hd : (fun i => hasP (X i) (Y i) X Y i) = d
  generalize hres : (if idxQ d 0 n = -1 then (0 : Int) else 2) = res
  go_enter Tryz.func63, Tryz.ntmps63
  have h1 : Below w.heap.size w (w.alloc (.cells #[.slice (some ⟨b, off, none⟩) n cap, .int .i64 r] 24)) := (Below.refl _ _).alloc (Nat.le_refl _) _
  have c0 : (w.alloc (.cells #[.slice (some ⟨b, off, none⟩) n cap, .int .i64 r] 24)).cell? ⟨w.heap.size, 0, none⟩ = some (.slice (some ⟨b, off, none⟩) n cap) := by have := cells_two w (.slice (some ⟨b, off, none⟩) n cap) (.int .i64 r) 24 0 _ rfl; simp [Addr.add]
  have c1 : (w.alloc (.cells #[.slice (some ⟨b, off, none⟩) n cap, .int .i64 r] 24)).cell? ⟨w.heap.size, 1, none⟩ = some (.int .i64 r) := by have := cells_two w (.slice (some ⟨b, off, none⟩) n cap) (.int .i64 r) 24 1 _ rfl; simp [Addr.add]
  have hsz : (w.alloc (.cells #[.slice (some ⟨b, off, none⟩) n cap, .int .i64 r] 24)).heap.size = w.heap.size + 1 := World.size_alloc _ _
  have hca := are_some b off n cap 2 X Y 20 (by omega) (by omega) (w.alloc (.cells #[.slice (some ⟨b, off, none⟩) n cap, .int .i64 r] 24)) hn (hp.below h1 hb) (by omega)
  rw [h] at hca
  go_wp2_with (first
    | (go_at_call 64; refine hca.mono ?_; rintro e w1 ⟨rfl, hb1⟩; have d0 := (hb1.cell (p := ⟨w.heap.size, 0, none⟩) (by show w.heap.size < _; omega)).trans c0; have d1 := (hb1.cell (p := ⟨w.heap.size, 1, none⟩) (by show w.heap.size < _; omega)).trans c1)
    | (go_at_call 49; refine (within_any _ _ _ _).mono ?_; rw [hr]; rintro e w' ⟨rfl, rfl⟩))
  have hz1 := hb1.size
  have hw1 : Below w.heap.size w w1 := h1.trans (hb1.mono (by omega))
  go_loopw [18] (fun i wr => ∃ k : Nat, k ≤ n ∧ i = .int .i64 k ∧ Below w1.heap.size w1 wr ∧ idxQ d 0 n = idxQ d k (n - k)) (fun i _ => n - (intOf i).toNat)
  case atStart => exact ⟨0, Nat.zero_le _, rfl, Below.refl _ _, rfl⟩
  case round =>
    obtain ⟨k, hk, rfl, hbl, hix⟩ := hrel
    have hzl := hbl.size
    have hbw : Below w.heap.size w wr := hw1.trans (hbl.mono (by omega))
    by_cases hlt : k < n
    · obtain ⟨hx, hy⟩ := hp.below hbw hb k hlt
      have hk0 : (0 : Int) ≤ (k : Int) := Int.natCast_nonneg _
      have hk1 : (k : Int) < (n : Int) := by omega
      have hk2 : (k : Int) ≤ (cap : Int) := by omega
      have hk3 : k ≤ cap := by omega
      have hdk : d k = hasP (X k) (Y k) X Y k := by rw [← hd]
      obtain ⟨wp, hwp⟩ : ∃ wp, wr.alloc (.cells #[.int .i64 (X k), .int .i64 (Y k)] 74) = wp := ⟨_, rfl⟩
      have bp : Below wr.heap.size wr wp := by rw [← hwp]; exact (Below.refl _ _).alloc (Nat.le_refl _) _
      have hzq : wp.heap.size = wr.heap.size + 1 := by rw [← hwp, World.size_alloc]
      have hpk : Pts wp b off k X Y := fun i hi => (hp.below (hbw.trans (bp.mono (by omega))) hb) i (by omega)
      have q0 := (bp.cell (p := ⟨w.heap.size, 0, none⟩) (by show w.heap.size < _; omega)).trans ((hbl.cell (p := ⟨w.heap.size, 0, none⟩) (by show w.heap.size < _; omega)).trans d0)
      have r0 : wp.cell? ⟨wr.heap.size, 0, none⟩ = some (.int .i64 (X k)) := by rw [← hwp]; have := cells_two wr (.int .i64 (X k)) (.int .i64 (Y k)) 74 0 _ rfl; simp [Addr.add]
      have r1 : wp.cell? ⟨wr.heap.size, 1, none⟩ = some (.int .i64 (Y k)) := by rw [← hwp]; have := cells_two wr (.int .i64 (X k)) (.int .i64 (Y k)) 74 1 _ rfl; simp [Addr.add]
      have hzp := bp.size
      have hcon := ptHas_some b off k cap X Y (X k) (Y k) wp.drew (by omega) hpk (show b < wp.heap.size by omega)
      rw [← hdk] at hcon
      go_wp2_with fail
      cases hdd : d k with
      | true =>
        rw [hdd] at hcon
        go_region_held3 (fun w' => w'.cell? ⟨w.heap.size, 0, none⟩ = some (.slice (some ⟨b, off, none⟩) n cap) ∧ w'.cell? ⟨wr.heap.size, 0, none⟩ = some (.int .i64 (X k)) ∧ w'.cell? ⟨wr.heap.size, 1, none⟩ = some (.int .i64 (Y k)))
          (first | (go_keep; done) | (go_split_ands; refine ⟨?_, ?_, ?_⟩ <;> (rw [hbb.cell (by first | omega | (simp; omega) | simp)]; assumption)))
          ((go_at_call 107; refine hcon.mono ?_; rintro e w6 ⟨rfl, hbb⟩; have hs := hbb.size))
        have hb6 : Below wr.heap.size wr w6 := bp.trans ((Below.refl _ _).drew.trans (hbb.mono (by simpa using hzp)))
        go_wp2
        go_ret
        rw [idxQ_hit hlt hdd] at hix
        exact ⟨(by rw [← hres, if_neg (by omega)]; rfl), hbw.trans (hb6.mono hbw.size)⟩
      | false =>
        rw [hdd] at hcon
        go_region_held3 (fun w' => w'.cell? ⟨w.heap.size, 0, none⟩ = some (.slice (some ⟨b, off, none⟩) n cap) ∧ w'.cell? ⟨wr.heap.size, 0, none⟩ = some (.int .i64 (X k)) ∧ w'.cell? ⟨wr.heap.size, 1, none⟩ = some (.int .i64 (Y k)))
          (first | (go_keep; done) | (go_split_ands; refine ⟨?_, ?_, ?_⟩ <;> (rw [hbb.cell (by first | omega | (simp; omega) | simp)]; assumption)))
          ((go_at_call 107; refine hcon.mono ?_; rintro e w6 ⟨rfl, hbb⟩; have hs := hbb.size))
        have hb6 : Below wr.heap.size wr w6 := bp.trans ((Below.refl _ _).drew.trans (hbb.mono (by simpa using hzp)))
        go_wp2
        go_roundw
        case rel => exact ⟨k + 1, by omega, by go_num, hbl.trans (hb6.mono hbl.size), hix.trans (idxQ_miss hlt hdd)⟩
        case measure => simp [intOf]; omega
    · obtain rfl : n = k := by omega
      go_wp2
      go_ret
      rw [Nat.sub_self] at hix
      exact ⟨(by rw [← hres, if_pos (by rw [hix]; rfl)]; rfl), hbw⟩
set_option maxRecDepth 100000 in
set_option maxHeartbeats 1000000 in
theorem check_far (a : Option Addr) (c n : Nat) (X Y : Nat → Int) (r : Int) (w : World) (hn : n ≤ 1000) (hp : PSl w (.slice a n c) n X Y) (h : arB n 2 X Y 20 = false) :
    Calls Tryz.prog 63 #[.agg #[.slice a n c, .int .i64 r]] w fun e w' => e = .returned (.int .i64 2) ∧ Below w.heap.size w w' := by
  have h1 : Below w.heap.size w (w.alloc (.cells #[.slice a n c, .int .i64 r] 24)) := (Below.refl _ _).alloc (Nat.le_refl _) _
  have hca := are_any (.slice a n c) n 2 X Y 20 (by omega) (by omega) (w.alloc (.cells #[.slice a n c, .int .i64 r] 24)) hn (hp.below h1)
  rw [h] at hca
  go_enter Tryz.func63, Tryz.ntmps63
  go_wp2_with (first | (go_at_call 64; refine hca.mono ?_; rintro e w1 ⟨rfl, hb1⟩))
  go_ret
  exact ⟨rfl, h1.trans (hb1.mono (by rw [World.size_alloc]; omega))⟩
set_option maxRecDepth 100000 in
set_option maxHeartbeats 1000000 in
theorem check_off (a : Option Addr) (c n : Nat) (X Y : Nat → Int) (r : Int) (w : World) (hn : n ≤ 1000) (hp : PSl w (.slice a n c) n X Y) (h : arB n 2 X Y 20 = true) (hr : inB r 0 6 = false) :
    Calls Tryz.prog 63 #[.agg #[.slice a n c, .int .i64 r]] w fun e w' => e = .returned (.int .i64 2) ∧ Below w.heap.size w w' := by
  have h1 : Below w.heap.size w (w.alloc (.cells #[.slice a n c, .int .i64 r] 24)) := (Below.refl _ _).alloc (Nat.le_refl _) _
  have c1 : (w.alloc (.cells #[.slice a n c, .int .i64 r] 24)).cell? ⟨w.heap.size, 1, none⟩ = some (.int .i64 r) := by have := cells_two w (.slice a n c) (.int .i64 r) 24 1 _ rfl; simp [Addr.add]
  have hsz : (w.alloc (.cells #[.slice a n c, .int .i64 r] 24)).heap.size = w.heap.size + 1 := World.size_alloc _ _
  have hca := are_any (.slice a n c) n 2 X Y 20 (by omega) (by omega) (w.alloc (.cells #[.slice a n c, .int .i64 r] 24)) hn (hp.below h1)
  rw [h] at hca
  go_enter Tryz.func63, Tryz.ntmps63
  go_wp2_with (first
    | (go_at_call 64; refine hca.mono ?_; rintro e w1 ⟨rfl, hb1⟩; have d1 := (hb1.cell (p := ⟨w.heap.size, 1, none⟩) (by show w.heap.size < _; omega)).trans c1)
    | (go_at_call 49; refine (within_any _ _ _ _).mono ?_; rw [hr]; rintro e w' ⟨rfl, rfl⟩))
  go_ret
  exact ⟨rfl, h1.trans (hb1.mono (by rw [World.size_alloc]; omega))⟩
/-- a slice of points whose capacity is no less than its length. -/
def PSc (w : World) (v : Value) (n : Nat) (X Y : Nat → Int) : Prop := PSl w v n X Y ∧ ∃ a c, v = .slice a n c ∧ n ≤ c
theorem check_any (v : Value) (n : Nat) (X Y : Nat → Int) (r : Int) (w : World) (hn : n ≤ 1000) (hp : PSc w v n X Y) :
    Calls Tryz.prog 63 #[.agg #[v, .int .i64 r]] w fun e w' => e = .returned (.int .i64 (chkE n X Y r)) ∧ Below w.heap.size w w' := by
  obtain ⟨hp, a, c, rfl, hc⟩ := hp
  unfold chkE
  cases h : arB n 2 X Y 20 with
  | false => rw [if_neg (by simp)]; exact check_far a c n X Y r w hn hp h
  | true =>
    rw [if_pos rfl]
    cases hr : inB r 0 6 with
    | false => rw [if_neg (by simp)]; exact check_off a c n X Y r w hn hp h hr
    | true =>
      rw [if_pos rfl]
      rcases hp with ⟨a', c', h1, h2⟩ | ⟨b, off, cap, h1, h2, h3⟩
      · subst h2
        exact absurd h (by unfold arB; rw [inB_no1 (by omega)]; simp)
      · cases h1
        exact check_some b off n c X Y r w hn hc h3 h2 h hr
end Go.Proofs.YtmjmmokbaocboaaGreatDoor
namespace Go.Proofs.YtmjmmokbaocboaaGreatDoor
open Go.RowKit
end Go.Proofs.YtmjmmokbaocboaaGreatDoor
namespace Go.Proofs.YtmjmmokbaocboaaGreatDoor
open Go.RowKit
def measB (n : Nat) (X Y : Nat → Int) (r : Int) : Bool := decide (∀ i, i < n → ∀ k, k < i → ptEq (X i) (Y i) X Y k = false) && (ponB n 2 4 X Y 20 && inB r 0 6)
theorem measB_dup {n : Nat} {X Y : Nat → Int} {r : Int} {i k : Nat} (hi : i < n) (hk : k < i) (h : ptEq (X i) (Y i) X Y k = true) : measB n X Y r = false := by
  unfold measB
  rw [decide_eq_false (fun hh => by have := hh i hi k hk; rw [h] at this; cases this)]; rfl
theorem measB_all {n : Nat} {X Y : Nat → Int} {r : Int} (h : ∀ i, i < n → ∀ k, k < i → ptEq (X i) (Y i) X Y k = false) : measB n X Y r = (ponB n 2 4 X Y 20 && inB r 0 6) := by
  unfold measB
  rw [decide_eq_true h]; rfl
theorem all_lt {p : Nat → Bool} {k : Nat} (h : ∀ j, j < k → p j = false) (hk : p k = false) : ∀ j, j < k + 1 → p j = false := fun j hj => by
  rcases Nat.lt_succ_iff_lt_or_eq.1 hj with h1 | h1
  · exact h j h1
  · subst h1; exact hk
set_option maxRecDepth 100000 in
set_option maxHeartbeats 2000000 in
theorem measure_some (b off n cap : Nat) (X Y : Nat → Int) (r : Int) (w : World) (hn : n ≤ 1000) (hp : Pts w b off n X Y) (hb : b < w.heap.size) :
    Calls Tryz.prog 16 #[.agg #[.slice (some ⟨b, off, none⟩) n cap, .int .i64 r]] w fun e w' => e = .returned (.bool (measB n X Y r)) ∧ Below w.heap.size w w' := by
  obtain ⟨w0, hw⟩ : ∃ w0, w.alloc (.cells #[.slice (some ⟨b, off, none⟩) n cap, .int .i64 r] 24) = w0 := ⟨_, rfl⟩
  have hw0 : Below w.heap.size w w0 := by rw [← hw]; exact (Below.refl _ _).alloc (Nat.le_refl _) _
  have c0 : w0.cell? ⟨w.heap.size, 0, none⟩ = some (.slice (some ⟨b, off, none⟩) n cap) := by rw [← hw]; have := cells_two w (.slice (some ⟨b, off, none⟩) n cap) (.int .i64 r) 24 0 _ rfl; simp [Addr.add]
  have c1 : w0.cell? ⟨w.heap.size, 1, none⟩ = some (.int .i64 r) := by rw [← hw]; have := cells_two w (.slice (some ⟨b, off, none⟩) n cap) (.int .i64 r) 24 1 _ rfl; simp [Addr.add]
  have hsz : w0.heap.size = w.heap.size + 1 := by rw [← hw]; exact World.size_alloc _ _
  generalize hres : measB n X Y r = res
  go_enter Tryz.func16, Tryz.ntmps16
  go_wp2
  go_loopw [3] (fun i wr => ∃ j : Nat, j ≤ n ∧ i = .int .i64 j ∧ Below w0.heap.size w0 wr ∧ ∀ i', i' < j → ∀ k, k < i' → ptEq (X i') (Y i') X Y k = false) (fun i _ => n - (intOf i).toNat)
  case atStart => exact ⟨0, Nat.zero_le _, rfl, Below.refl _ _, fun i' h => absurd h (Nat.not_lt_zero _)⟩
  case round =>
    obtain ⟨i, hi, rfl, hbl, hall⟩ := hrel
    have hzl := hbl.size
    have d0 := (hbl.cell (p := ⟨w.heap.size, 0, none⟩) (by show w.heap.size < _; omega)).trans c0
    have d1 := (hbl.cell (p := ⟨w.heap.size, 1, none⟩) (by show w.heap.size < _; omega)).trans c1
    by_cases hlt : i < n
    · go_wp2
      go_loopw [4] (fun i' wr => ∃ k : Nat, k ≤ i ∧ i' = .int .i64 k ∧ Below w0.heap.size w0 wr ∧ ∀ k', k' < k → ptEq (X i) (Y i) X Y k' = false) (fun i' _ => i - (intOf i').toNat)
      case atStart => exact ⟨0, Nat.zero_le _, rfl, hbl, fun k' h => absurd h (Nat.not_lt_zero _)⟩
      case round =>
        obtain ⟨k, hk, rfl, hblk, hin⟩ := hrel
        have hzk := hblk.size
        have hbw := hw0.trans (hblk.mono (by omega))
        have x0 := (hblk.cell (p := ⟨w.heap.size, 0, none⟩) (by show w.heap.size < _; omega)).trans c0
        by_cases hlk : k < i
        · obtain ⟨hx, hy⟩ := hp.below hbw hb k (by omega)
          obtain ⟨hx2, hy2⟩ := hp.below hbw hb i hlt
          have hk0 : (0 : Int) ≤ (k : Int) := Int.natCast_nonneg _
          have hk1 : (k : Int) < (n : Int) := by omega
          have hi0 : (0 : Int) ≤ (i : Int) := Int.natCast_nonneg _
          have hi1 : (i : Int) < (n : Int) := by omega
          by_cases hxe : X i = X k
          · by_cases hye : Y i = Y k
            · have hq : ptEq (X i) (Y i) X Y k = true := by simp [ptEq, hxe, hye]
              go_wp2_with fail
              go_region_held3 (fun w' => w'.cell? ⟨w.heap.size, 0, none⟩ = some (.slice (some ⟨b, off, none⟩) n cap) ∧ w'.cell? ⟨b, off + i * 2, none⟩ = some (.int .i64 (X i)) ∧ w'.cell? ⟨b, off + i * 2 + 1, none⟩ = some (.int .i64 (Y i)) ∧ w'.cell? ⟨b, off + k * 2, none⟩ = some (.int .i64 (X k)) ∧ w'.cell? ⟨b, off + k * 2 + 1, none⟩ = some (.int .i64 (Y k)))
                (go_keep) (fail)
              go_wp2
              go_ret
              exact ⟨(by rw [← hres, measB_dup hlt hlk hq]; rfl), (hw0.trans (hblk.mono (by omega))).drew⟩
            · have hq : ptEq (X i) (Y i) X Y k = false := by simp [ptEq, hye]
              go_wp2_with fail
              go_region_held3 (fun w' => w'.cell? ⟨w.heap.size, 0, none⟩ = some (.slice (some ⟨b, off, none⟩) n cap) ∧ w'.cell? ⟨b, off + i * 2, none⟩ = some (.int .i64 (X i)) ∧ w'.cell? ⟨b, off + i * 2 + 1, none⟩ = some (.int .i64 (Y i)) ∧ w'.cell? ⟨b, off + k * 2, none⟩ = some (.int .i64 (X k)) ∧ w'.cell? ⟨b, off + k * 2 + 1, none⟩ = some (.int .i64 (Y k)))
                (go_keep) (fail)
              go_wp2
              go_roundw
              case rel => exact ⟨k + 1, by omega, by go_num, hblk.drew, all_lt hin hq⟩
              case measure => simp [intOf]; omega
          · have hq : ptEq (X i) (Y i) X Y k = false := by simp [ptEq, hxe]
            go_wp2_with fail
            go_region_held3 (fun w' => w'.cell? ⟨w.heap.size, 0, none⟩ = some (.slice (some ⟨b, off, none⟩) n cap) ∧ w'.cell? ⟨b, off + i * 2, none⟩ = some (.int .i64 (X i)) ∧ w'.cell? ⟨b, off + i * 2 + 1, none⟩ = some (.int .i64 (Y i)) ∧ w'.cell? ⟨b, off + k * 2, none⟩ = some (.int .i64 (X k)) ∧ w'.cell? ⟨b, off + k * 2 + 1, none⟩ = some (.int .i64 (Y k)))
              (go_keep) (fail)
            go_wp2
            go_roundw
            case rel => exact ⟨k + 1, by omega, by go_num, hblk.drew, all_lt hin hq⟩
            case measure => simp [intOf]; omega
        · obtain rfl : i = k := by omega
          go_wp2
          go_roundw
          case rel => exact ⟨i + 1, by omega, by go_num, hblk, fun i' h1 => by
            rcases Nat.lt_succ_iff_lt_or_eq.1 h1 with h2 | h2
            · exact hall i' h2
            · subst h2; exact hin⟩
          case measure => simp [intOf]; omega
    · obtain rfl : n = i := by omega
      have hbw := hw0.trans (hbl.mono (by omega))
      rw [measB_all hall] at hres
      cases hpn : ponB n 2 4 X Y 20 with
      | false =>
        rw [hpn] at hres
        go_wp2_with (go_at_call 56; refine (points_some b off n cap 2 4 X Y 20 (by omega) (by omega) _ hn (hp.below hbw hb)).mono ?_; rw [hpn]; rintro e w' ⟨rfl, rfl⟩)
        go_ret
        exact ⟨by rw [← hres]; rfl, hbw⟩
      | true =>
        rw [hpn, Bool.true_and] at hres
        go_wp2_with (first
          | (go_at_call 56; refine (points_some b off n cap 2 4 X Y 20 (by omega) (by omega) _ hn (hp.below hbw hb)).mono ?_; rw [hpn]; rintro e w' ⟨rfl, rfl⟩)
          | (go_at_call 57; refine (in_any _ _ _ _).mono ?_; rw [hres]; rintro e w' ⟨rfl, rfl⟩))
        go_ret
        exact ⟨rfl, hbw⟩
end Go.Proofs.YtmjmmokbaocboaaGreatDoor
namespace Go.Proofs.YtmjmmokbaocboaaGreatDoor
open Go.RowKit
theorem ptsCells_len (f : Nat → Int × Int) : ∀ n, (ptsCells f n).length = 2 * n
  | 0 => rfl
  | n+1 => by simp [ptsCells, ptsCells_len f n]; omega
/-- a list of points that the call made reads as points -/
theorem PSl_of_own {w : World} {B : Nat} {v : Value} : ∀ {n : Nat} {f : Nat → Int × Int}, w.ownsRow B 74 2 v n (ptsCells f n) → PSl w v n (fun i => (f i).1) (fun i => (f i).2) := by
  intro n f h
  rcases ownsRow_lt h with h1 | ⟨g, c, h1, h2, h3⟩
  · exact .inl ⟨none, 0, h1.1, h1.2⟩
  · refine .inr ⟨g, 0, c, h1, h2, fun i hi => ?_⟩
    have key : ∀ n, i < n → (ptsCells f n)[i * 2]? = some (.int .i64 (f i).1) ∧ (ptsCells f n)[i * 2 + 1]? = some (.int .i64 (f i).2) := by
      intro n
      induction n with
      | zero => intro h; omega
      | succ n ih =>
        intro h
        have hl := ptsCells_len f n
        by_cases e : i = n
        · subst e
          simp only [ptsCells]
          constructor
          · rw [List.getElem?_append_right (by omega), hl, show i * 2 - 2 * i = 0 from by omega]; rfl
          · rw [List.getElem?_append_right (by omega), hl, show i * 2 + 1 - 2 * i = 1 from by omega]; rfl
        · simp only [ptsCells]
          obtain ⟨q1, q2⟩ := ih (by omega)
          exact ⟨by rw [List.getElem?_append_left (by omega)]; exact q1, by rw [List.getElem?_append_left (by omega)]; exact q2⟩
    obtain ⟨q1, q2⟩ := key n hi
    simp only [Nat.zero_add]
    exact ⟨h3 _ _ q1, h3 _ _ q2⟩
end Go.Proofs.YtmjmmokbaocboaaGreatDoor
namespace Go.Proofs.YtmjmmokbaocboaaGreatDoor
open Go.RowKit
end Go.Proofs.YtmjmmokbaocboaaGreatDoor
/-! A region in which late operations (L: the stores of an assignment) break the condition S by which loads are taken first: S is asked only while none of them has come up; S0 is asked throughout. No seat. -/
namespace Go
section
variable {P : Program} {ops : Array Oper} {Q : Exit → Act → World → Prop} {md : Region.Mode} {S0 S : World → Prop} {L : List Nat}

/-- none of the late ones has come up. -/
def aliveB (L : List Nat) (l : Array Bool) : Bool := L.all fun j => !(l.getD j false)
def InvP (L : List Nat) (S0 S : World → Prop) (l : Array Bool) (w : World) : Prop := S0 w ∧ (aliveB L l = true → S w)
theorem aliveB_set {l : Array Bool} {i : Nat} (hi : L.contains i = false) : aliveB L (l.setIfInBounds i true) = aliveB L l := by
  unfold aliveB
  rw [Bool.eq_iff_iff, List.all_eq_true, List.all_eq_true]
  have key : ∀ j ∈ L, (l.setIfInBounds i true).getD j false = l.getD j false := fun j hj =>
    getD_set_ne false (fun h => by subst h; rw [List.contains_iff_mem.2 hj] at hi; cases hi)
  exact ⟨fun h j hj => by rw [← key j hj]; exact h j hj, fun h j hj => by rw [key j hj]; exact h j hj⟩
/-- Whatever order is picked from here on, and the condition holds behind each operation. -/
def wpAnyP (P : Program) (md : Region.Mode) (ops : Array Oper) (Q : Exit → Act → World → Prop) (L : List Nat) (S0 S : World → Prop) : Nat → Array Bool → Act → World → Prop
  | 0, l, a, w => Region.ready md ops l = [] ∧ Q .normal a w
  | n + 1, l, a, w => (Region.ready md ops l = [] → Q .normal a w) ∧ ∀ i ∈ Region.ready md ops l, wpOp P ops Q i (fun a' w' => InvP L S0 S (l.setIfInBounds i true) w' ∧ wpAnyP P md ops Q L S0 S n (l.setIfInBounds i true) a' w') a w
theorem wpAny_of_late : ∀ (n : Nat) (l : Array Bool) (a : Act) (w : World), wpAnyP P md ops Q L S0 S n l a w → wpAny P md ops Q n l a w
  | 0, _, _, _, h => h
  | n + 1, _, _, _, h => ⟨h.1, fun i hi => wpOp_mono (fun a' w' h' => wpAny_of_late n _ a' w' h'.2) (h.2 i hi)⟩
/-- what has come up is closed: each has those that it waits for. -/
def ClosedP (md : Region.Mode) (ops : Array Oper) (l : Array Bool) : Prop :=
  ∀ k o, ops[k]? = some o → l.getD k false = true → ∀ e ∈ o.after, Region.binds md e = true → l.getD e.on false = true
def closedPB (md : Region.Mode) (ops : Array Oper) (l : Array Bool) : Bool :=
  (List.range ops.size).all fun k => !(l.getD k false) || ((ops[k]?).map fun o => o.after.toList.all fun e => !(Region.binds md e) || l.getD e.on false).getD true
theorem closedPB_ok {l : Array Bool} (h : closedPB md ops l = true) : ClosedP md ops l := fun k o ho hk e he hb => by
  have hlt : k < ops.size := (Array.getElem?_eq_some_iff.1 ho).1
  have h1 := List.all_eq_true.1 h k (List.mem_range.2 hlt)
  rw [hk, ho] at h1
  simp only [Bool.not_true, Bool.false_or, Option.map_some, Option.getD_some, List.all_eq_true] at h1
  have h2 := h1 e (by simpa using he)
  rw [hb] at h2
  simpa using h2
theorem ClosedP.set {l : Array Bool} {j : Nat} (h : ClosedP md ops l) (hj : j ∈ Region.ready md ops l) : ClosedP md ops (l.setIfInBounds j true) := fun k o ho hk e he hb => by
  obtain ⟨_, oj, hoj, hall⟩ := mem_ready.1 hj
  refine getD_set_true ?_
  by_cases hjk : j = k
  · subst hjk
    rw [hoj] at ho
    cases ho
    exact hall e he hb
  · rw [getD_set_ne false hjk] at hk
    exact h k o ho hk e he hb
/-- j waits for i, at most so many steps back. -/
def waitsB (md : Region.Mode) (ops : Array Oper) (i : Nat) : Nat → Nat → Bool
  | 0, _ => false
  | n + 1, j => ((ops[j]?).map fun o => o.after.toList.any fun e => Region.binds md e && (e.on == i || waitsB md ops i n e.on)).getD false
theorem waitsB_listed {i : Nat} {l : Array Bool} (h : ClosedP md ops l) : ∀ (n j : Nat), waitsB md ops i n j = true → l.getD j false = true → l.getD i false = true
  | 0, _, hw, _ => by cases hw
  | n + 1, j, hw, hj => by
    unfold waitsB at hw
    cases ho : ops[j]? with
    | none => rw [ho] at hw; cases hw
    | some o =>
      rw [ho] at hw
      simp only [Option.map_some, Option.getD_some, List.any_eq_true, Bool.and_eq_true, Bool.or_eq_true, beq_iff_eq] at hw
      obtain ⟨e, he, hb, hi⟩ := hw
      have he' : e ∈ o.after := by simpa using he
      have hl := h j o ho hj e he' hb
      rcases hi with rfl | hi
      · exact hl
      · exact waitsB_listed h n e.on hi hl
theorem aliveB_of {i d : Nat} {l : Array Bool} (h : ClosedP md ops l) (hw : (L.all fun j => waitsB md ops i d j) = true) (hi : l.getD i false = false) : aliveB L l = true := by
  unfold aliveB
  rw [List.all_eq_true] at hw ⊢
  intro j hj
  cases hl : l.getD j false with
  | false => rfl
  | true => rw [waitsB_listed h d j (hw j hj) hl] at hi; cases hi
theorem wpAnyP_first {SS : World → Prop} {i : Nat} {oi : Oper} {v : Value} (hi : ops[i]? = some oi) (hsel : ∀ (j : Nat) (o : Oper) cs b, ops[j]? = some o → o.op ≠ .select cs b)
    (hQ : ∀ c a w, Q (.panic c) (a.put oi.dst v) w → Q (.panic c) a w) (hiL : L.contains i = false)
    (hSS : ∀ (l : Array Bool) (w : World), ClosedP md ops l → l.getD i false = false → InvP L S0 S l w → SS w) :
    ∀ (fuel : Nat) (listed : Array Bool) (a : Act) (w : World), ClosedP md ops listed →
      (∀ j oj, ops[j]? = some oj → j ≠ i → listed.getD j true = false → (∀ e ∈ oj.after, Region.binds md e = true → e.on ≠ i) → oi.apart ops oj = true) →
      i ∈ Region.ready md ops listed → YieldsIf P ops SS oi v a → InvP L S0 S listed w →
      wpAnyP P md ops Q L S0 S fuel (listed.setIfInBounds i true) (a.put oi.dst v) w → wpAnyP P md ops Q L S0 S (fuel + 1) listed a w := by
  have hun : ∀ {l : Array Bool}, i ∈ Region.ready md ops l → l.getD i false = false := fun {l} hr => by
    have h0 := (mem_ready.1 hr).1
    rcases Nat.lt_or_ge i l.size with h' | h'
    · simp [h'] at h0 ⊢; exact h0
    · simp [Array.getElem?_eq_none h'] at h0
  have hself : ∀ {l : Array Bool} {w : World}, InvP L S0 S l w → InvP L S0 S (l.setIfInBounds i true) w := fun {l w} hI => ⟨hI.1, fun h => hI.2 (by rw [aliveB_set hiL] at h; exact h)⟩
  intro fuel
  induction fuel with
  | zero =>
    intro listed a w hcl _ hr hy hI H
    refine ⟨fun h => (by rw [h] at hr; cases hr), fun j hj => ?_⟩
    by_cases hji : j = i
    · subst hji; exact hy.wpOp hi (hSS listed w hcl (hun hr) hI) ⟨hself hI, H⟩
    · have := ready_mono hj hji
      rw [H.1] at this
      cases this
  | succ fuel ih =>
    intro listed a w hcl hfree hr hy hI H
    refine ⟨fun h => (by rw [h] at hr; cases hr), fun j hj => ?_⟩
    by_cases hji : j = i
    · subst hji; exact hy.wpOp hi (hSS listed w hcl (hun hr) hI) ⟨hself hI, H⟩
    · have h1 := H.2 j (ready_mono hj hji)
      obtain ⟨hjun, oj, hoj, hall⟩ := mem_ready.1 hj
      have hiun := hun hr
      have hnot : ∀ e ∈ oj.after, Region.binds md e = true → e.on ≠ i := fun e he hb heq => by
        have h1 := hall e he hb
        rw [heq, hiun] at h1
        cases h1
      have h2 := wpOp_putIf hoj (hfree j oj hoj hji hjun hnot) (fun cs b => hsel i oi cs b hi) (fun cs b => hsel j oj cs b hoj) hQ hy h1
      have hfree' : ∀ k ok, ops[k]? = some ok → k ≠ i → (listed.setIfInBounds j true).getD k true = false →
          (∀ e ∈ ok.after, Region.binds md e = true → e.on ≠ i) → oi.apart ops ok = true := fun k ok hk hki hun hno => by
        refine hfree k ok hk hki ?_ hno
        by_cases hjk : j = k
        · subst hjk; exact hjun
        · rw [getD_set_ne true hjk] at hun; exact hun
      refine wpOp_mono (fun a' w' h3 => ?_) h2
      have h4 := h3.2.1
      have h5 := h3.2.2
      rw [Array.setIfInBounds_comm _ _ (Ne.symm hji)] at h4 h5
      have hI' : InvP L S0 S (listed.setIfInBounds j true) w' := ⟨h4.1, fun h => h4.2 (by rw [aliveB_set hiL]; exact h)⟩
      exact ⟨hI', ih (listed.setIfInBounds j true) a' w' (hcl.set hj) hfree' (ready_mono hr (Ne.symm hji)) h3.1 hI' h5⟩
/-- take number i first, by what holds throughout. -/
theorem wpAnyP_take0 {i : Nat} {oi : Oper} {v : Value} {fuel : Nat} {listed : Array Bool} {a : Act} {w : World} (hi : ops[i]? = some oi)
    (hs : Region.noSelect ops = true) (hf : Region.free md ops listed i = true) (hr : (Region.ready md ops listed).contains i = true)
    (hc : closedPB md ops listed = true) (hiL : L.contains i = false)
    (hQ : ∀ c a w, Q (.panic c) (a.put oi.dst v) w → Q (.panic c) a w) (hy : YieldsIf P ops S0 oi v a) (hI : S0 w ∧ S w)
    (h : wpAnyP P md ops Q L S0 S fuel (listed.setIfInBounds i true) (a.put oi.dst v) w) : wpAnyP P md ops Q L S0 S (fuel + 1) listed a w :=
  wpAnyP_first hi (Region.noSelect_spec hs) hQ hiL (fun _ _ _ _ h => h.1) fuel listed a w (closedPB_ok hc) (Region.free_spec hi hf) (by simpa using hr) hy ⟨hI.1, fun _ => hI.2⟩ h
/-- the same, behind a late one. -/
theorem wpAnyP_takeB {i : Nat} {oi : Oper} {v : Value} {fuel : Nat} {listed : Array Bool} {a : Act} {w : World} (hi : ops[i]? = some oi)
    (hs : Region.noSelect ops = true) (hf : Region.free md ops listed i = true) (hr : (Region.ready md ops listed).contains i = true)
    (hc : closedPB md ops listed = true) (hiL : L.contains i = false) (hd : aliveB L listed = false)
    (hQ : ∀ c a w, Q (.panic c) (a.put oi.dst v) w → Q (.panic c) a w) (hy : YieldsIf P ops S0 oi v a) (hI : S0 w)
    (h : wpAnyP P md ops Q L S0 S fuel (listed.setIfInBounds i true) (a.put oi.dst v) w) : wpAnyP P md ops Q L S0 S (fuel + 1) listed a w :=
  wpAnyP_first hi (Region.noSelect_spec hs) hQ hiL (fun _ _ _ _ h => h.1) fuel listed a w (closedPB_ok hc) (Region.free_spec hi hf) (by simpa using hr) hy ⟨hI, fun h => by rw [hd] at h; cases h⟩ h
/-- take number i first, by what holds till a late one comes up; each of these waits for it. -/
theorem wpAnyP_take {i : Nat} {oi : Oper} {v : Value} {fuel : Nat} {listed : Array Bool} {a : Act} {w : World} (d : Nat) (hi : ops[i]? = some oi)
    (hs : Region.noSelect ops = true) (hf : Region.free md ops listed i = true) (hr : (Region.ready md ops listed).contains i = true)
    (hc : closedPB md ops listed = true) (hiL : L.contains i = false) (hw : (L.all fun j => waitsB md ops i d j) = true)
    (hQ : ∀ c a w, Q (.panic c) (a.put oi.dst v) w → Q (.panic c) a w) (hy : YieldsIf P ops (fun w => S0 w ∧ S w) oi v a) (hI : S0 w ∧ S w)
    (h : wpAnyP P md ops Q L S0 S fuel (listed.setIfInBounds i true) (a.put oi.dst v) w) : wpAnyP P md ops Q L S0 S (fuel + 1) listed a w :=
  wpAnyP_first hi (Region.noSelect_spec hs) hQ hiL (fun _ _ hcl hun h => ⟨h.1, h.2 (aliveB_of hcl hw hun)⟩) fuel listed a w (closedPB_ok hc) (Region.free_spec hi hf) (by simpa using hr) hy ⟨hI.1, fun _ => hI.2⟩ h
theorem wpAnyP_done {listed : Array Bool} {a : Act} {w : World} (hr : Region.ready md ops listed = []) (h : Q .normal a w) : ∀ fuel, wpAnyP P md ops Q L S0 S fuel listed a w
  | 0 => ⟨hr, h⟩
  | _ + 1 => ⟨fun _ => h, by rw [hr]; simp⟩
def AllReadyP (P : Program) (md : Region.Mode) (ops : Array Oper) (Q : Exit → Act → World → Prop) (L : List Nat) (S0 S : World → Prop) (fuel : Nat) (listed : Array Bool) (a : Act) (w : World) (rs : List Nat) : Prop :=
  ∀ i ∈ rs, wpOp P ops Q i (fun a' w' => InvP L S0 S (listed.setIfInBounds i true) w' ∧ wpAnyP P md ops Q L S0 S fuel (listed.setIfInBounds i true) a' w') a w
theorem AllReadyP.nil {fuel : Nat} {listed : Array Bool} {a : Act} {w : World} : AllReadyP P md ops Q L S0 S fuel listed a w [] := fun _ h => by cases h
/-- an operation before which none of the late ones has come up: both conditions are shown. -/
theorem AllReadyP.cons {fuel : Nat} {listed : Array Bool} {a : Act} {w : World} {i : Nat} {o : Oper} {rs : List Nat} (ho : ops[i]? = some o)
    (h : ∀ K' : Act → World → Prop, Shut (∀ a w, S0 w ∧ S w → (S0 w ∧ S w → wpAnyP P md ops Q L S0 S fuel (listed.setIfInBounds i true) a w) → K' a w) → if Region.wanted o (yielded ops a.tmps) = true then Oper.wp P o a w K' Q else K' (a.put o.dst undef) w)
    (hs : AllReadyP P md ops Q L S0 S fuel listed a w rs) : AllReadyP P md ops Q L S0 S fuel listed a w (i :: rs) := fun j hj => by
  rcases List.mem_cons.1 hj with rfl | hj
  · exact wpOp_step ho (fun K' hK => h K' (fun a w hS hW => hK a w ⟨⟨hS.1, fun _ => hS.2⟩, hW hS⟩))
  · exact hs j hj
/-- a late one, or one behind a late one. -/
theorem AllReadyP.behind {fuel : Nat} {listed : Array Bool} {a : Act} {w : World} {i : Nat} {o : Oper} {rs : List Nat} (ho : ops[i]? = some o) (hl : aliveB L (listed.setIfInBounds i true) = false)
    (h : ∀ K' : Act → World → Prop, Shut (∀ a w, S0 w → (S0 w → wpAnyP P md ops Q L S0 S fuel (listed.setIfInBounds i true) a w) → K' a w) → if Region.wanted o (yielded ops a.tmps) = true then Oper.wp P o a w K' Q else K' (a.put o.dst undef) w)
    (hs : AllReadyP P md ops Q L S0 S fuel listed a w rs) : AllReadyP P md ops Q L S0 S fuel listed a w (i :: rs) := fun j hj => by
  rcases List.mem_cons.1 hj with rfl | hj
  · have hI : ∀ {w : World}, S0 w → InvP L S0 S (listed.setIfInBounds j true) w := fun hS => ⟨hS, fun h => by rw [hl] at h; cases h⟩
    exact wpOp_step ho (fun K' hK => h K' (fun a w hS hW => hK a w ⟨hI hS, hW hS⟩))
  · exact hs j hj
theorem wpAnyP_ready {rs : List Nat} {fuel : Nat} {listed : Array Bool} {a : Act} {w : World} (hr : Region.ready md ops listed = rs) (hne : rs ≠ [])
    (h : AllReadyP P md ops Q L S0 S fuel listed a w rs) : wpAnyP P md ops Q L S0 S (fuel + 1) listed a w := ⟨fun h0 => absurd (hr ▸ h0) hne, hr ▸ h⟩
theorem wp_region_late (L : List Nat) (S0 S : World → Prop) {id : Nat} {a : Act} {w : World} (hm : P.follows .mixedOrders = true) (hS : S0 w.drew ∧ S w.drew)
    (h : S0 w.drew ∧ S w.drew → wpAnyP P .any ops Q L S0 S ops.size (Array.replicate ops.size false) a w.drew) : (Code.region id ops true).wp P Q a w :=
  wp_region_any hm (wpAny_of_late _ _ _ _ (h hS))
end
end Go
namespace Go.Proofs.YtmjmmokbaocboaaGreatDoor
open Go.RowKit
/-- a span between two numbers, not too wide. -/
def spanR (L H lo hi wide : Int) : Bool := decide (lo ≤ L ∧ L ≤ H ∧ H ≤ hi ∧ H - L ≤ wide)
theorem spanR_no {L H lo hi wide : Int} (h : ¬ (lo ≤ L ∧ L ≤ H ∧ H ≤ hi ∧ H - L ≤ wide)) : spanR L H lo hi wide = false := decide_eq_false h
theorem spanR_yes {L H lo hi wide : Int} (h : lo ≤ L ∧ L ≤ H ∧ H ≤ hi ∧ H - L ≤ wide) : spanR L H lo hi wide = true := decide_eq_true h
theorem spanR_iff {L H lo hi wide : Int} : spanR L H lo hi wide = true ↔ (lo ≤ L ∧ L ≤ H ∧ H ≤ hi ∧ H - L ≤ wide) := decide_eq_true_iff
set_option maxRecDepth 100000 in
set_option maxHeartbeats 400000 in
theorem rspan_any (L H lo hi wide : Int) (h1 : -1000 ≤ lo) (h2 : hi ≤ 1000) (w : World) :
    Calls Tryz.prog 58 #[.agg #[.int .i64 L, .int .i64 H], .int .i64 lo, .int .i64 hi, .int .i64 wide] w fun e w' => e = .returned (.bool (spanR L H lo hi wide)) ∧ Below w.heap.size w w' := by
  by_cases c1 : lo ≤ L
  · by_cases c2 : L ≤ H
    · by_cases c3 : H ≤ hi
      · by_cases c4 : H - L ≤ wide
        · rw [spanR_yes ⟨c1, c2, c3, c4⟩]
          go_enter Tryz.func58, Tryz.ntmps58
          go_wp2
          go_ret
          exact ⟨rfl, (Below.refl _ _).alloc (Nat.le_refl _) _⟩
        · rw [spanR_no fun h => c4 h.2.2.2]
          go_enter Tryz.func58, Tryz.ntmps58
          go_wp2
          go_ret
          exact ⟨rfl, (Below.refl _ _).alloc (Nat.le_refl _) _⟩
      · rw [spanR_no fun h => c3 h.2.2.1]
        go_enter Tryz.func58, Tryz.ntmps58
        go_wp2
        go_ret
        exact ⟨rfl, (Below.refl _ _).alloc (Nat.le_refl _) _⟩
    · rw [spanR_no fun h => c2 h.2.1]
      go_enter Tryz.func58, Tryz.ntmps58
      go_wp2
      go_ret
      exact ⟨rfl, (Below.refl _ _).alloc (Nat.le_refl _) _⟩
  · rw [spanR_no fun h => c1 h.1]
    go_enter Tryz.func58, Tryz.ntmps58
    go_wp2
    go_ret
    exact ⟨rfl, (Below.refl _ _).alloc (Nat.le_refl _) _⟩
set_option maxRecDepth 100000 in
set_option maxHeartbeats 400000 in
theorem isSpan_any (L H reach wide : Int) (h1 : 0 ≤ reach) (h2 : reach ≤ 1000) (w : World) :
    Calls Tryz.prog 100 #[.agg #[.int .i64 L, .int .i64 H], .int .i64 reach, .int .i64 wide] w fun e w' => e = .returned (.bool (spanR L H (-reach) reach wide)) ∧ Below w.heap.size w w' := by
  cases c1 : inB L (-reach) reach with
  | true =>
    obtain ⟨d1, d2⟩ := inB_iff.1 c1
    cases c2 : inB H L reach with
    | true =>
      obtain ⟨d3, d4⟩ := inB_iff.1 c2
      by_cases c4 : H - L ≤ wide
      · rw [spanR_yes ⟨d1, d3, d4, c4⟩]
        go_enter Tryz.func100, Tryz.ntmps100
        go_wp2_with (go_at_call 49; refine (within_any _ _ _ _).mono ?_; rintro e w' ⟨rfl, rfl⟩)
        go_ret
        exact ⟨rfl, (Below.refl _ _).alloc (Nat.le_refl _) _⟩
      · rw [spanR_no fun h => c4 h.2.2.2]
        go_enter Tryz.func100, Tryz.ntmps100
        go_wp2_with (go_at_call 49; refine (within_any _ _ _ _).mono ?_; rintro e w' ⟨rfl, rfl⟩)
        go_ret
        exact ⟨ret_bool (decide_eq_false (by omega)), (Below.refl _ _).alloc (Nat.le_refl _) _⟩
    | false =>
      rw [spanR_no fun h => by rw [inB_yes h.2.1 h.2.2.1] at c2; cases c2]
      go_enter Tryz.func100, Tryz.ntmps100
      go_wp2_with (go_at_call 49; refine (within_any _ _ _ _).mono ?_; rintro e w' ⟨rfl, rfl⟩)
      go_ret
      exact ⟨rfl, (Below.refl _ _).alloc (Nat.le_refl _) _⟩
  | false =>
    rw [spanR_no fun h => by rw [inB_yes h.1 (by omega)] at c1; cases c1]
    go_enter Tryz.func100, Tryz.ntmps100
    go_wp2_with (go_at_call 49; refine (within_any _ _ _ _).mono ?_; rintro e w' ⟨rfl, rfl⟩)
    go_ret
    exact ⟨rfl, (Below.refl _ _).alloc (Nat.le_refl _) _⟩
set_option maxRecDepth 100000 in
set_option maxHeartbeats 400000 in
theorem rblank_any (n from_ : Int) (w : World) :
    Calls Tryz.prog 19 #[.int .i64 n, .int .i64 from_] w fun e w' => e = .returned (.bool (inB n from_ 12)) ∧ w = w' := by
  go_enter Tryz.func19, Tryz.ntmps19
  go_wp2_with (go_at_call 57; refine (in_any _ _ _ _).mono ?_; rintro e w' ⟨rfl, rfl⟩)
  go_ret
  exact ⟨rfl, rfl⟩
/-- the cells of a new block. -/
theorem cells_new (w : World) (l : Array Value) (e : TypeId) {j : Nat} {u : Value} (h : l[j]? = some u) : (w.alloc (Obj.cells l e)).cell? ⟨w.heap.size, j, none⟩ = some u := by
  have h1 : (w.alloc (Obj.cells l e)).heap[w.heap.size]? = some (Obj.cells l e (0, 0)) := World.alloc_heap_new w _
  unfold World.cell?
  rw [h1]
  exact h
/-- a reading as defined. -/
def readB (B X Y E : Int) : Bool := inB B 0 12 && (ptB X Y 80 && inB E 0 4)
set_option maxRecDepth 100000 in
set_option maxHeartbeats 1000000 in
theorem isReading_any (B X Y E : Int) (w : World) :
    Calls Tryz.prog 103 #[.agg #[.int .i64 B, .int .i64 X, .int .i64 Y, .int .i64 E]] w fun e w' => e = .returned (.bool (readB B X Y E)) ∧ Below w.heap.size w w' := by
  unfold readB
  obtain ⟨w0, hw⟩ : ∃ w0, w.alloc (.cells #[.int .i64 B, .int .i64 X, .int .i64 Y, .int .i64 E] 69) = w0 := ⟨_, rfl⟩
  have hw0 : Below w.heap.size w w0 := by rw [← hw]; exact (Below.refl _ _).alloc (Nat.le_refl _) _
  have hsz : w0.heap.size = w.heap.size + 1 := by rw [← hw]; exact World.size_alloc _ _
  have k0 : w0.cell? ⟨w.heap.size, 0, none⟩ = some (.int .i64 B) := by rw [← hw]; exact cells_new w _ _ rfl
  have k1 : w0.cell? ⟨w.heap.size, 1, none⟩ = some (.int .i64 X) := by rw [← hw]; exact cells_new w _ _ rfl
  have k2 : w0.cell? ⟨w.heap.size, 2, none⟩ = some (.int .i64 Y) := by rw [← hw]; exact cells_new w _ _ rfl
  have k3 : w0.cell? ⟨w.heap.size, 3, none⟩ = some (.int .i64 E) := by rw [← hw]; exact cells_new w _ _ rfl
  cases c1 : inB B 0 12 <;> cases c2 : ptB X Y 80 <;> cases c3 : inB E 0 4
  all_goals
    go_enter Tryz.func103, Tryz.ntmps103
    go_wp2_with (first
      | (go_at_call 49; refine (within_any _ _ _ _).mono ?_; (first | rw [c1] | rw [c3]); rintro e w' ⟨rfl, rfl⟩)
      | (go_at_call 110; refine (isPoint_any _ _ _ (by omega) (by omega) _).mono ?_; rw [c2]; rintro e w' ⟨rfl, hb⟩; have hB := ((Below.refl w0.heap.size w0).alloc (Nat.le_refl _) (Obj.cells #[.int .i64 X, .int .i64 Y] 74)).trans (hb.mono (by simp)); have k3' := (hB.cell (p := ⟨w.heap.size, 3, none⟩) (by show w.heap.size < _; omega)).trans k3))
    go_ret
    first
      | exact ⟨rfl, hw0.trans (hB.mono hw0.size)⟩
      | exact ⟨rfl, hw0.trans (((Below.refl w0.heap.size w0).alloc (Nat.le_refl _) _).mono hw0.size)⟩
end Go.Proofs.YtmjmmokbaocboaaGreatDoor
namespace Go.Proofs.YtmjmmokbaocboaaGreatDoor
open Go.RowKit
/-! ### What is found, by a list of all orders -/
/-- all ways to go on from p by d more, none twice, in order. -/
def ext (many : Nat) : Nat → List Nat → List (List Nat)
  | 0, p => [p]
  | d+1, p => (List.range many).flatMap fun j => if p.contains j then [] else ext many d (p ++ [j])
/-- from the place a on, d places fit. -/
def fitsA (fit : Nat → Nat → Bool) (q : List Nat) (a : Nat) : Nat → Bool
  | 0 => true
  | d+1 => fit a (q.getD a 0) && fitsA fit q (a+1) d
theorem ext_pre {many : Nat} : ∀ {d : Nat} {p q : List Nat}, q ∈ ext many d p → ∃ s, q = p ++ s ∧ s.length = d
  | 0, p, q, h => by simp [ext] at h; exact ⟨[], by simp [h], rfl⟩
  | d+1, p, q, h => by
    simp only [ext, List.mem_flatMap] at h
    obtain ⟨j, _, hj⟩ := h
    split at hj
    · cases hj
    · obtain ⟨s, h1, h2⟩ := ext_pre hj
      exact ⟨j :: s, by simp [h1], by simp [h2]⟩
theorem ext_at {many d : Nat} {p q : List Nat} {j : Nat} (h : q ∈ ext many d (p ++ [j])) : q.getD p.length 0 = j := by
  obtain ⟨s, rfl, _⟩ := ext_pre h
  simp [List.getD]
theorem find_flat {α β : Type} {P : β → Bool} {f : α → List β} : ∀ {l : List α}, (l.flatMap f).find? P = l.findSome? fun a => (f a).find? P
  | [] => rfl
  | a :: l => by
    rw [List.flatMap_cons, List.find?_append, List.findSome?_cons, find_flat (l := l)]
    cases (f a).find? P <;> rfl
theorem scan_some {f : Nat → Option (List Nat)} : ∀ {m j : Nat}, scan f j m = (List.range' j m).findSome? f
  | 0, j => rfl
  | m+1, j => by
    rw [List.range'_succ, List.findSome?_cons]
    unfold scan
    rw [scan_some (m := m)]
    cases f j <;> rfl
theorem findSome_congr {α β : Type} {f g : α → Option β} : ∀ {l : List α}, (∀ a ∈ l, f a = g a) → l.findSome? f = l.findSome? g
  | [], _ => rfl
  | a :: l, h => by
    rw [List.findSome?_cons, List.findSome?_cons, h a (by simp), findSome_congr fun b hb => h b (by simp [hb])]
theorem find_congr {α : Type} {f g : α → Bool} : ∀ {l : List α}, (∀ a ∈ l, f a = g a) → l.find? f = l.find? g
  | [], _ => rfl
  | a :: l, h => by
    rw [List.find?_cons, List.find?_cons, h a (by simp), find_congr fun b hb => h b (by simp [hb])]
theorem firstC_find {fit : Nat → Nat → Bool} {many : Nat} : ∀ {d : Nat} {p : List Nat}, firstC fit many d p = (ext many d p).find? fun q => fitsA fit q p.length d
  | 0, p => by simp [firstC, ext, fitsA]
  | d+1, p => by
    rw [firstC, scan_some, ext, find_flat, List.range_eq_range']
    refine findSome_congr fun j _ => ?_
    by_cases h1 : p.contains j = true
    · rw [h1, if_pos rfl]; rfl
    · have h1 : p.contains j = false := by simpa using h1
      rw [h1]
      simp only [Bool.false_or, if_false, Bool.false_eq_true]
      cases h2 : fit p.length j with
      | false =>
        simp only [Bool.not_false, if_true]
        symm
        rw [List.find?_eq_none]
        intro q hq
        simp only [fitsA]
        rw [ext_at hq, h2]; simp
      | true =>
        simp only [Bool.not_true, Bool.false_eq_true, if_false]
        rw [firstC_find (d := d)]
        refine find_congr fun q hq => ?_
        have : (p ++ [j]).length = p.length + 1 := by simp
        rw [this]
        simp only [fitsA]
        rw [ext_at hq, h2, Bool.true_and]
theorem fitsA_iff {fit : Nat → Nat → Bool} {q : List Nat} : ∀ {d a : Nat}, fitsA fit q a d = true ↔ ∀ i, a ≤ i → i < a + d → fit i (q.getD i 0) = true
  | 0, a => by simp [fitsA]; intro i h1 h2; omega
  | d+1, a => by
    simp only [fitsA, Bool.and_eq_true]
    rw [fitsA_iff]
    constructor
    · rintro ⟨h1, h2⟩ i h3 h4
      rcases Nat.eq_or_lt_of_le h3 with rfl | h5
      · exact h1
      · exact h2 i h5 (by omega)
    · intro h
      exact ⟨h a (Nat.le_refl _) (by omega), fun i h3 h4 => h i (by omega) (by omega)⟩
/-- the orders, one by one. -/
def ords (many : Nat) : List (List Nat) := ext many many []
def agQ (fit : Nat → Nat → Bool) (many : Nat) (q : List Nat) : Bool := decide (∀ i, i < many → fit i (q.getD i 0) = true)
theorem agQ_fits {fit : Nat → Nat → Bool} {many : Nat} {q : List Nat} : fitsA fit q 0 many = agQ fit many q := by
  rw [Bool.eq_iff_iff, fitsA_iff]
  unfold agQ
  rw [decide_eq_true_iff]
  exact ⟨fun h i hi => h i (Nat.zero_le _) (by omega), fun h i _ hi => h i (by omega)⟩
theorem firstC_ords {fit : Nat → Nat → Bool} {many : Nat} : firstC fit many many [] = (ords many).find? (agQ fit many) := by
  rw [firstC_find]
  exact find_congr fun q _ => agQ_fits
/-! ### Which measures -/
theorem idxQ_none {f : Nat → Bool} : ∀ {m k : Nat}, idxQ f k m = -1 ↔ ∀ j, k ≤ j → j < k + m → f j = false
  | 0, k => by simp [idxQ]; intro j h1 h2; omega
  | m+1, k => by
    unfold idxQ
    constructor
    · intro h j h1 h2
      split at h
      · omega
      · next hk =>
        rcases Nat.eq_or_lt_of_le h1 with rfl | h3
        · simpa using hk
        · exact idxQ_none.1 h j h3 (by omega)
    · intro h
      rw [if_neg (by rw [h k (Nat.le_refl _) (by omega)]; simp), idxQ_none]
      intro j h1 h2
      exact h j (by omega) (by omega)
theorem idxQ_neg {f : Nat → Bool} : ∀ {m k : Nat}, idxQ f k m < 0 → idxQ f k m = -1
  | 0, k, _ => rfl
  | m+1, k, h => by
    unfold idxQ at h ⊢
    split at h
    · omega
    · next hk => rw [if_neg hk]; exact idxQ_neg h
theorem hasP_no {x y : Int} {X Y : Nat → Int} {n : Nat} : hasP x y X Y n = false ↔ ∀ k, k < n → ptEq x y X Y k = false := by
  unfold hasP
  rw [decide_eq_false_iff_not]
  constructor
  · intro h k hk
    exact idxQ_none.1 (idxQ_neg (m := n) (k := 0) (by omega)) k (Nat.zero_le _) (by omega)
  · intro h
    rw [idxQ_none.2 fun j _ hj => h j (by omega)]; omega
theorem dupI_none {n : Nat} {X Y : Nat → Int} : dupI X Y n = -1 ↔ ∀ i, i < n → ∀ k, k < i → ptEq (X i) (Y i) X Y k = false := by
  unfold dupI
  rw [idxQ_none]
  exact ⟨fun h i hi => hasP_no.1 (h i (Nat.zero_le _) (by omega)), fun h i _ hi => hasP_no.2 (h i (by omega))⟩
theorem arB_pon2 {n : Nat} {least : Int} {X Y : Nat → Int} {r : Int} : arB n least X Y r = ponB n least 4 X Y r := by unfold arB ponB; exact Bool.and_comm _ _
theorem chk_meas (n : Nat) (X Y : Nat → Int) (r : Int) : chkE n X Y r = if measB n X Y r = true then 0 else 2 := by
  unfold chkE measB
  rw [arB_pon2]
  by_cases h1 : ponB n 2 4 X Y 20 = true
  · by_cases h2 : inB r 0 6 = true
    · simp only [h1, h2, if_true, Bool.and_true, decide_eq_true_iff]
      by_cases h3 : dupI X Y n = -1
      · rw [if_pos h3, if_pos (dupI_none.1 h3)]
      · rw [if_neg h3, if_neg (fun h => h3 (dupI_none.2 h))]
    · simp [h1, h2]
  · simp [h1]
theorem meas_parts {n : Nat} {X Y : Nat → Int} {r : Int} (h : measB n X Y r = true) : (2 ≤ n ∧ n ≤ 4) ∧ (0 ≤ r ∧ r ≤ 6) ∧ (∀ i, i < n → small (X i, Y i)) := by
  unfold measB ponB at h
  simp only [Bool.and_eq_true] at h
  obtain ⟨_, ⟨h1, h2⟩, h3⟩ := h
  have h2 := inB_iff.1 h2
  refine ⟨⟨by omega, by omega⟩, inB_iff.1 h3, fun i hi => ?_⟩
  have := allB_iff.1 h1 i hi
  unfold ptB at this
  rw [Bool.and_eq_true, inB_iff, inB_iff] at this
  exact ⟨⟨by dsimp only; omega, by dsimp only; omega⟩, by dsimp only; omega, by dsimp only; omega⟩
/-! ### The turns are a group -/
/-- points that are turned are of a measure just if they were. -/
theorem matchS_none {many : Nat} {HX HY PX PY : Nat → Int} {r : Int} : matchS many HX HY PX PY r = none ↔ ∀ t, t < 8 → ∀ q ∈ ords many, agQ (fitB HX HY PX PY r t) many q = false := by
  have key : ∀ (f : Nat → Option (List Nat)) (m j : Nat), scanP f j m = none ↔ ∀ t, j ≤ t → t < j + m → f t = none := by
    intro f m
    induction m with
    | zero => intro j; simp [scanP]; intro t h1 h2; omega
    | succ m ih =>
      intro j
      unfold scanP
      cases h : f j with
      | some q =>
        simp only [reduceCtorEq, false_iff]
        intro hh
        have := hh j (Nat.le_refl _) (by omega)
        rw [h] at this; cases this
      | none =>
        simp only []
        rw [ih]
        constructor
        · intro hh t h1 h2
          rcases Nat.eq_or_lt_of_le h1 with rfl | h3
          · exact h
          · exact hh t h3 (by omega)
        · intro hh t h1 h2
          exact hh t (by omega) (by omega)
  unfold matchS
  rw [key]
  constructor
  · intro h t ht q hq
    have := h t (Nat.zero_le _) (by omega)
    rw [firstC_ords, List.find?_eq_none] at this
    simpa using this q hq
  · intro h t _ ht
    rw [firstC_ords, List.find?_eq_none]
    intro q hq
    simpa using h t (by omega) q hq
end Go.Proofs.YtmjmmokbaocboaaGreatDoor
