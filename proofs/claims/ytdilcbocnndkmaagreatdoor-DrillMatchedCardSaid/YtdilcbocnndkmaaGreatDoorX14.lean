/- A part of the proof: see the last file. -/
import Derived.Test.YtdilcbocnndkmaaGreatDoorX13
import Derived.Test.YtdilcbocnndkmaaGreatDoorWd
set_option linter.unusedVariables false
set_option linter.unusedSimpArgs false
set_option linter.unusedSectionVars false
namespace Go.Proofs.YtdilcbocnndkmaaGreatDoor
open Go.RowKit
/-- turned m times. -/
def itr (t : Nat) (p : Int × Int) : Nat → Int × Int
  | 0 => p
  | m+1 => trn t (itr t p m)
theorem itr_small {t : Nat} {p : Int × Int} (h : small p) : ∀ m, small (itr t p m)
  | 0 => h
  | m+1 => trn_small (itr_small h m)
theorem ptB_small {p : Int × Int} (h : small p) : ptB p.1 p.2 80 = true := by
  obtain ⟨⟨h1, h2⟩, h3, h4⟩ := h
  exact ptB_t (inB_yes h1 h2) (inB_yes h3 h4)
theorem arB_itr {n : Nat} {X Y : Nat → Int} (t m : Nat) (h : arB n 0 X Y 80 = true) : arB n 0 (fun i => (itr t (X i, Y i) m).1) (fun i => (itr t (X i, Y i) m).2) 80 = true := by
  have hs := fun i hi => arB_small h i hi
  unfold arB at h ⊢
  rw [Bool.and_eq_true] at h ⊢
  exact ⟨h.1, allB_yes fun i hi => ptB_small (itr_small (hs i hi) m)⟩
theorem ponB_itr {n : Nat} {X Y : Nat → Int} (t m : Nat) (h : arB n 0 X Y 80 = true) : ponB n n n (fun i => (itr t (X i, Y i) m).1) (fun i => (itr t (X i, Y i) m).2) 80 = true := by
  rw [ponB_yes fun i hi => ptB_small (itr_small (arB_small h i hi) m)]
  exact inB_yes (Int.le_refl _) (Int.le_refl _)
theorem PSl_slice {w : World} {v : Value} {n : Nat} {X Y : Nat → Int} (h : PSl w v n X Y) : ∃ a c, v = .slice a n c := by
  rcases h with ⟨a, c, h1, h2⟩ | ⟨b, off, c, h1, _⟩
  · exact ⟨a, c, by rw [h1, h2]⟩
  · exact ⟨_, c, h1⟩
set_option maxRecDepth 100000 in
set_option maxHeartbeats 1000000 in
theorem again_any (v : Value) (n t m : Nat) (X Y : Nat → Int) (w : World) (ht : t < 8) (hn : n ≤ 1000) (hm : m ≤ 4) (hp : PSl w v n X Y) (ha : arB n 0 X Y 80 = true) :
    Calls Tryz.prog 14 #[v, .int .i64 t, .int .i64 m] w fun e w' => ∃ v', e = .returned v' ∧ PSl w' v' n (fun i => (itr t (X i, Y i) m).1) (fun i => (itr t (X i, Y i) m).2) ∧ Below w.heap.size w w' := by
  go_enter Tryz.func14, Tryz.ntmps14
  go_wp2
  go_loopw [0, 7] (fun u i wr => ∃ j : Nat, j ≤ m ∧ i = .int .i64 j ∧ PSl wr u n (fun i => (itr t (X i, Y i) j).1) (fun i => (itr t (X i, Y i) j).2) ∧ Below w.heap.size w wr) (fun _ i _ => m - (intOf i).toNat)
  case atStart => exact ⟨0, Nat.zero_le _, rfl, hp, Below.refl _ _⟩
  case round =>
    obtain ⟨j, hj, rfl, hpj, hbl⟩ := hrel
    have hzl := hbl.size
    obtain ⟨a, c, rfl⟩ := PSl_slice hpj
    by_cases hlt : j < m
    · go_wp2_with (first
        | (go_at_call 39; refine (turn_ok _ n _ _ t ht _ hn hpj (arB_itr t j ha)).mono ?_; rintro e w2 ⟨v2, rfl, hown, hb2⟩; have hp2 : PSl w2 v2 n (fun i => (itr t (X i, Y i) (j+1)).1) (fun i => (itr t (X i, Y i) (j+1)).2) := PSl_of_own hown; obtain ⟨a2, c2, rfl⟩ := PSl_slice hp2)
        | (go_at_call 12; refine (points_any _ n n n _ _ 80 (by omega) (by omega) _ hn hp2).mono ?_; rw [ponB_itr t (j+1) ha]; rintro e w3 ⟨rfl, rfl⟩))
      go_roundw
      case rel => exact ⟨j + 1, by omega, by go_num, hp2, hbl.trans (hb2.mono hzl)⟩
      case measure => simp [intOf]; omega
    · obtain rfl : m = j := by omega
      go_wp2
      go_ret
      exact ⟨_, rfl, hpj, hbl⟩
end Go.Proofs.YtdilcbocnndkmaaGreatDoor
