/- A part of the proof: see the last file. -/
import Derived.Test.YtdilcbocnndkmaaGreatDoorX12
set_option linter.unusedVariables false
set_option linter.unusedSimpArgs false
set_option linter.unusedSectionVars false
namespace Go.Proofs.YtdilcbocnndkmaaGreatDoor
open Go.RowKit
def measB (n : Nat) (X Y : Nat → Int) (r : Int) : Bool := decide (∀ i, i < n → ∀ k, k < i → ptEq (X i) (Y i) X Y k = false) && (ponB n 2 4 X Y 20 && inB r 0 6)
theorem measB_dup {n : Nat} {X Y : Nat → Int} {r : Int} {i k : Nat} (hi : i < n) (hk : k < i) (h : ptEq (X i) (Y i) X Y k = true) : measB n X Y r = false := by
  unfold measB
  rw [decide_eq_false (fun hh => by have := hh i hi k hk; rw [h] at this; cases this)]; rfl
theorem measB_all {n : Nat} {X Y : Nat → Int} {r : Int} (h : ∀ i, i < n → ∀ k, k < i → ptEq (X i) (Y i) X Y k = false) : measB n X Y r = (ponB n 2 4 X Y 20 && inB r 0 6) := by
  unfold measB
  rw [decide_eq_true h]; rfl
theorem all_lt {p : Nat → Bool} {k : Nat} (h : ∀ j, j < k → p j = false) (hk : p k = false) : ∀ j, j < k + 1 → p j = false := fun j hj => by
  rcases Nat.lt_succ_iff_lt_or_eq.1 hj with h1 | h1
  · exact h j h1
  · subst h1; exact hk
set_option maxRecDepth 100000 in
set_option maxHeartbeats 2000000 in
theorem measure_some (b off n cap : Nat) (X Y : Nat → Int) (r : Int) (w : World) (hn : n ≤ 1000) (hp : Pts w b off n X Y) (hb : b < w.heap.size) :
    Calls Tryz.prog 10 #[.agg #[.slice (some ⟨b, off, none⟩) n cap, .int .i64 r]] w fun e w' => e = .returned (.bool (measB n X Y r)) ∧ Below w.heap.size w w' := by
  obtain ⟨w0, hw⟩ : ∃ w0, w.alloc (.cells #[.slice (some ⟨b, off, none⟩) n cap, .int .i64 r] 24) = w0 := ⟨_, rfl⟩
  have hw0 : Below w.heap.size w w0 := by rw [← hw]; exact (Below.refl _ _).alloc (Nat.le_refl _) _
  have c0 : w0.cell? ⟨w.heap.size, 0, none⟩ = some (.slice (some ⟨b, off, none⟩) n cap) := by rw [← hw]; have := cells_two w (.slice (some ⟨b, off, none⟩) n cap) (.int .i64 r) 24 0 _ rfl; simp [Addr.add]
  have c1 : w0.cell? ⟨w.heap.size, 1, none⟩ = some (.int .i64 r) := by rw [← hw]; have := cells_two w (.slice (some ⟨b, off, none⟩) n cap) (.int .i64 r) 24 1 _ rfl; simp [Addr.add]
  have hsz : w0.heap.size = w.heap.size + 1 := by rw [← hw]; exact World.size_alloc _ _
  generalize hres : measB n X Y r = res
  go_enter Tryz.func10, Tryz.ntmps10
  go_wp2
  go_loopw [3] (fun i wr => ∃ j : Nat, j ≤ n ∧ i = .int .i64 j ∧ Below w0.heap.size w0 wr ∧ ∀ i', i' < j → ∀ k, k < i' → ptEq (X i') (Y i') X Y k = false) (fun i _ => n - (intOf i).toNat)
  case atStart => exact ⟨0, Nat.zero_le _, rfl, Below.refl _ _, fun i' h => absurd h (Nat.not_lt_zero _)⟩
  case round =>
    obtain ⟨i, hi, rfl, hbl, hall⟩ := hrel
    have hzl := hbl.size
    have d0 := (hbl.cell (p := ⟨w.heap.size, 0, none⟩) (by show w.heap.size < _; omega)).trans c0
    have d1 := (hbl.cell (p := ⟨w.heap.size, 1, none⟩) (by show w.heap.size < _; omega)).trans c1
    by_cases hlt : i < n
    · go_wp2
      go_loopw [4] (fun i' wr => ∃ k : Nat, k ≤ i ∧ i' = .int .i64 k ∧ Below w0.heap.size w0 wr ∧ ∀ k', k' < k → ptEq (X i) (Y i) X Y k' = false) (fun i' _ => i - (intOf i').toNat)
      case atStart => exact ⟨0, Nat.zero_le _, rfl, hbl, fun k' h => absurd h (Nat.not_lt_zero _)⟩
      case round =>
        obtain ⟨k, hk, rfl, hblk, hin⟩ := hrel
        have hzk := hblk.size
        have hbw := hw0.trans (hblk.mono (by omega))
        have x0 := (hblk.cell (p := ⟨w.heap.size, 0, none⟩) (by show w.heap.size < _; omega)).trans c0
        by_cases hlk : k < i
        · obtain ⟨hx, hy⟩ := hp.below hbw hb k (by omega)
          obtain ⟨hx2, hy2⟩ := hp.below hbw hb i hlt
          have hk0 : (0 : Int) ≤ (k : Int) := Int.natCast_nonneg _
          have hk1 : (k : Int) < (n : Int) := by omega
          have hi0 : (0 : Int) ≤ (i : Int) := Int.natCast_nonneg _
          have hi1 : (i : Int) < (n : Int) := by omega
          by_cases hxe : X i = X k
          · by_cases hye : Y i = Y k
            · have hq : ptEq (X i) (Y i) X Y k = true := by simp [ptEq, hxe, hye]
              go_wp2_with fail
              go_region_held3 (fun w' => w'.cell? ⟨w.heap.size, 0, none⟩ = some (.slice (some ⟨b, off, none⟩) n cap) ∧ w'.cell? ⟨b, off + i * 2, none⟩ = some (.int .i64 (X i)) ∧ w'.cell? ⟨b, off + i * 2 + 1, none⟩ = some (.int .i64 (Y i)) ∧ w'.cell? ⟨b, off + k * 2, none⟩ = some (.int .i64 (X k)) ∧ w'.cell? ⟨b, off + k * 2 + 1, none⟩ = some (.int .i64 (Y k)))
                (go_keep) (fail)
              go_wp2
              go_ret
              exact ⟨(by rw [← hres, measB_dup hlt hlk hq]; rfl), (hw0.trans (hblk.mono (by omega))).drew⟩
            · have hq : ptEq (X i) (Y i) X Y k = false := by simp [ptEq, hye]
              go_wp2_with fail
              go_region_held3 (fun w' => w'.cell? ⟨w.heap.size, 0, none⟩ = some (.slice (some ⟨b, off, none⟩) n cap) ∧ w'.cell? ⟨b, off + i * 2, none⟩ = some (.int .i64 (X i)) ∧ w'.cell? ⟨b, off + i * 2 + 1, none⟩ = some (.int .i64 (Y i)) ∧ w'.cell? ⟨b, off + k * 2, none⟩ = some (.int .i64 (X k)) ∧ w'.cell? ⟨b, off + k * 2 + 1, none⟩ = some (.int .i64 (Y k)))
                (go_keep) (fail)
              go_wp2
              go_roundw
              case rel => exact ⟨k + 1, by omega, by go_num, hblk.drew, all_lt hin hq⟩
              case measure => simp [intOf]; omega
          · have hq : ptEq (X i) (Y i) X Y k = false := by simp [ptEq, hxe]
            go_wp2_with fail
            go_region_held3 (fun w' => w'.cell? ⟨w.heap.size, 0, none⟩ = some (.slice (some ⟨b, off, none⟩) n cap) ∧ w'.cell? ⟨b, off + i * 2, none⟩ = some (.int .i64 (X i)) ∧ w'.cell? ⟨b, off + i * 2 + 1, none⟩ = some (.int .i64 (Y i)) ∧ w'.cell? ⟨b, off + k * 2, none⟩ = some (.int .i64 (X k)) ∧ w'.cell? ⟨b, off + k * 2 + 1, none⟩ = some (.int .i64 (Y k)))
              (go_keep) (fail)
            go_wp2
            go_roundw
            case rel => exact ⟨k + 1, by omega, by go_num, hblk.drew, all_lt hin hq⟩
            case measure => simp [intOf]; omega
        · obtain rfl : i = k := by omega
          go_wp2
          go_roundw
          case rel => exact ⟨i + 1, by omega, by go_num, hblk, fun i' h1 => by
            rcases Nat.lt_succ_iff_lt_or_eq.1 h1 with h2 | h2
            · exact hall i' h2
            · subst h2; exact hin⟩
          case measure => simp [intOf]; omega
    · obtain rfl : n = i := by omega
      have hbw := hw0.trans (hbl.mono (by omega))
      rw [measB_all hall] at hres
      cases hpn : ponB n 2 4 X Y 20 with
      | false =>
        rw [hpn] at hres
        go_wp2_with (go_at_call 12; refine (points_some b off n cap 2 4 X Y 20 (by omega) (by omega) _ hn (hp.below hbw hb)).mono ?_; rw [hpn]; rintro e w' ⟨rfl, rfl⟩)
        go_ret
        exact ⟨by rw [← hres]; rfl, hbw⟩
      | true =>
        rw [hpn, Bool.true_and] at hres
        go_wp2_with (first
          | (go_at_call 12; refine (points_some b off n cap 2 4 X Y 20 (by omega) (by omega) _ hn (hp.below hbw hb)).mono ?_; rw [hpn]; rintro e w' ⟨rfl, rfl⟩)
          | (go_at_call 38; refine (in_any _ _ _ _).mono ?_; rw [hres]; rintro e w' ⟨rfl, rfl⟩))
        go_ret
        exact ⟨rfl, hbw⟩
end Go.Proofs.YtdilcbocnndkmaaGreatDoor
