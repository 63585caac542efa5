/- A part of the proof: see the last file. -/
import Derived.Test.YtdilcbocnndkmaaGreatDoorX3
import Derived.Deep.RegionHeld3
set_option linter.unusedVariables false
set_option linter.unusedSimpArgs false
set_option linter.unusedSectionVars false
namespace Go.Proofs.YtdilcbocnndkmaaGreatDoor
open Go.RowKit
/-- the first place, from k on, among the first n at which f is so; -1 if there is none. -/
def idxQ (f : Nat → Bool) (k : Nat) : Nat → Int
  | 0 => -1
  | m+1 => if f k = true then (k : Int) else idxQ f (k+1) m
theorem idxQ_hit {f : Nat → Bool} {n k : Nat} (hk : k < n) (h : f k = true) : idxQ f k (n - k) = k := by
  obtain ⟨m, hm⟩ : ∃ m, n - k = m + 1 := ⟨n - k - 1, by omega⟩
  rw [hm]; unfold idxQ; rw [if_pos h]
theorem idxQ_miss {f : Nat → Bool} {n k : Nat} (hk : k < n) (h : f k = false) : idxQ f k (n - k) = idxQ f (k+1) (n - (k+1)) := by
  obtain ⟨m, hm⟩ : ∃ m, n - k = m + 1 := ⟨n - k - 1, by omega⟩
  rw [hm, show n - (k+1) = m by omega]; conv => lhs; unfold idxQ
  rw [if_neg (by rw [h]; simp)]
def ptEq (x y : Int) (X Y : Nat → Int) (i : Nat) : Bool := decide (x = X i) && decide (y = Y i)
set_option maxRecDepth 100000 in
set_option maxHeartbeats 1000000 in
theorem ptIndex_some (b off n cap : Nat) (X Y : Nat → Int) (x y : Int) (w : World) (hn : n ≤ 1000) (hp : Pts w b off n X Y) (hb : b < w.heap.size) :
    Calls Tryz.prog 102 #[.slice (some ⟨b, off, none⟩) n cap, .agg #[.int .i64 x, .int .i64 y]] w fun e w' => e = .returned (.int .i64 (idxQ (ptEq x y X Y) 0 n)) ∧ Below w.heap.size w w' := by
  go_enter Tryz.func102, Tryz.ntmps102
  go_wp2
  have h1 : Below w.heap.size w (w.alloc (.cells #[.int .i64 x, .int .i64 y] 33)) := (Below.refl _ _).alloc (Nat.le_refl _) _
  have c0 : (w.alloc (.cells #[.int .i64 x, .int .i64 y] 33)).cell? ⟨w.heap.size, 0, none⟩ = some (.int .i64 x) := by have := cells_two w (.int .i64 x) (.int .i64 y) 33 0 _ rfl; simp [Addr.add]
  have c1 : (w.alloc (.cells #[.int .i64 x, .int .i64 y] 33)).cell? ⟨w.heap.size, 1, none⟩ = some (.int .i64 y) := by have := cells_two w (.int .i64 x) (.int .i64 y) 33 1 _ rfl; simp [Addr.add]
  have hsz : (w.alloc (.cells #[.int .i64 x, .int .i64 y] 33)).heap.size = w.heap.size + 1 := World.size_alloc _ _
  go_loopw [8] (fun i wr => ∃ k : Nat, k ≤ n ∧ i = .int .i64 k ∧ Below (w.heap.size + 1) (w.alloc (.cells #[.int .i64 x, .int .i64 y] 33)) wr ∧ idxQ (ptEq x y X Y) 0 n = idxQ (ptEq x y X Y) k (n - k)) (fun i _ => n - (intOf i).toNat)
  case atStart => exact ⟨0, Nat.zero_le _, rfl, Below.refl _ _, rfl⟩
  case round =>
    obtain ⟨k, hk, rfl, hbl, hix⟩ := hrel
    have hbw : Below w.heap.size w wr := h1.trans (hbl.mono (by omega))
    have d0 := (hbl.cell (p := ⟨w.heap.size, 0, none⟩) (by show w.heap.size < _; omega)).trans c0
    have d1 := (hbl.cell (p := ⟨w.heap.size, 1, none⟩) (by show w.heap.size < _; omega)).trans c1
    by_cases hlt : k < n
    · obtain ⟨hx, hy⟩ := hp.below hbw hb k hlt
      have hk0 : (0 : Int) ≤ (k : Int) := Int.natCast_nonneg _
      have hk1 : (k : Int) < (n : Int) := by omega
      by_cases hxe : x = X k
      · by_cases hye : y = Y k
        · have hq : ptEq x y X Y k = true := by simp [ptEq, hxe, hye]
          go_wp2_with fail
          go_region_held3 (fun w' => w'.cell? ⟨w.heap.size, 0, none⟩ = some (.int .i64 x) ∧ w'.cell? ⟨w.heap.size, 1, none⟩ = some (.int .i64 y) ∧ w'.cell? ⟨b, off + k * 2, none⟩ = some (.int .i64 (X k)) ∧ w'.cell? ⟨b, off + k * 2 + 1, none⟩ = some (.int .i64 (Y k)))
            (go_keep) (fail)
          go_wp2
          go_ret
          rw [idxQ_hit hlt hq] at hix
          exact ⟨(by rw [hix]; rfl), hbw.drew⟩
        · have hq : ptEq x y X Y k = false := by simp [ptEq, hye]
          go_wp2_with fail
          go_region_held3 (fun w' => w'.cell? ⟨w.heap.size, 0, none⟩ = some (.int .i64 x) ∧ w'.cell? ⟨w.heap.size, 1, none⟩ = some (.int .i64 y) ∧ w'.cell? ⟨b, off + k * 2, none⟩ = some (.int .i64 (X k)) ∧ w'.cell? ⟨b, off + k * 2 + 1, none⟩ = some (.int .i64 (Y k)))
            (go_keep) (fail)
          go_wp2
          go_roundw
          case rel => exact ⟨k + 1, by omega, by go_num, hbl.drew, hix.trans (idxQ_miss hlt hq)⟩
          case measure => simp [intOf]; omega
      · have hq : ptEq x y X Y k = false := by simp [ptEq, hxe]
        go_wp2_with fail
        go_region_held3 (fun w' => w'.cell? ⟨w.heap.size, 0, none⟩ = some (.int .i64 x) ∧ w'.cell? ⟨w.heap.size, 1, none⟩ = some (.int .i64 y) ∧ w'.cell? ⟨b, off + k * 2, none⟩ = some (.int .i64 (X k)) ∧ w'.cell? ⟨b, off + k * 2 + 1, none⟩ = some (.int .i64 (Y k)))
          (go_keep) (fail)
        go_wp2
        go_roundw
        case rel => exact ⟨k + 1, by omega, by go_num, hbl.drew, hix.trans (idxQ_miss hlt hq)⟩
        case measure => simp [intOf]; omega
    · obtain rfl : n = k := by omega
      go_wp2
      go_ret
      rw [Nat.sub_self] at hix
      exact ⟨by rw [hix]; rfl, hbw⟩
end Go.Proofs.YtdilcbocnndkmaaGreatDoor
