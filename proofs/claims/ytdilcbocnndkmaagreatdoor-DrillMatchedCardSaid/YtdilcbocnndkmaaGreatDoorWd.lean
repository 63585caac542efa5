/- A part of the proof: see the last file. -/
import Derived.Test.YtdilcbocnndkmaaGreatDoorWc
import Derived.StillTactics
import Derived.OwnWalk
import Derived.Laws.Pointers
import Derived.Deep.RegionHeld3
import Derived.Deep.AppendLies
import Derived.Deep.QuietTactic
import Derived.BigQuiet
set_option linter.unusedVariables false
set_option linter.unusedSimpArgs false
set_option linter.unusedSectionVars false
namespace Go.Proofs.YtdilcbocnndkmaaGreatDoor
open Go.RowKit
theorem Tryz.info3 : (Tryz.prog.info? 3).map (fun i => (i.zero, i.size, i.bytes)) = some (some (.int .i64 0), 1, 8) := by kernel_rfl
set_option maxRecDepth 100000 in
set_option maxHeartbeats 400000 in
theorem flat_some (b off n cap : Nat) (X Y : Nat → Int) (w : World) (hn : n ≤ 1000) (hp : Pts w b off n X Y) (hb : b < w.heap.size) :
    Calls Tryz.prog 53 #[.slice (some ⟨b, off, none⟩) n cap] w fun e w' => ∃ v', e = .returned v' ∧ w'.ownsRow w.heap.size 3 1 v' (2 * n) (ptsCells (fun i => (X i, Y i)) n) ∧ Below w.heap.size w w' := by
  obtain ⟨i0, hi, hz0, hz1, hz2⟩ := info_parts Tryz.info3
  go_enter Tryz.func53, Tryz.ntmps53
  go_wp2
  go_loopw [3, 4] (fun v i wr => ∃ k : Nat, k ≤ n ∧ i = .int .i64 k ∧ wr.ownsRow w.heap.size 3 1 v (2 * k) (ptsCells (fun i => (X i, Y i)) k) ∧ Below w.heap.size w wr) (fun _ i _ => n - (intOf i).toNat)
  case atStart => exact ⟨0, Nat.zero_le _, rfl, ⟨rfl, .inl ⟨rfl, rfl⟩⟩, Below.refl _ _⟩
  case round =>
    obtain ⟨k, hk, rfl, hown, hbl⟩ := hrel
    by_cases hlt : k < n
    · obtain ⟨hx, hy⟩ := hp.below hbl hb k hlt
      have ak : u3.ownBlock ≠ some b := fun e => by have := (hown.lt b e).1; omega
      have hbw : b < wr.heap.size := Nat.lt_of_lt_of_le hb hbl.size
      have hk0 : (0 : Int) ≤ (k : Int) := Int.natCast_nonneg _
      have hk1 : (k : Int) < (n : Int) := by omega
      have hbs := hbl.size
      go_wp2_with fail
      go_region_held3 (fun w' => w'.cell? ⟨b, off + k * 2, none⟩ = some (.int .i64 (X k)) ∧ w'.cell? ⟨b, off + k * 2 + 1, none⟩ = some (.int .i64 (Y k)))
        (first
          | go_keep
          | (go_split_ands
             refine ⟨?_, ?_⟩
             · (rw [hgrow.cell_far _ (by simp; omega) (Ne.symm ak)]; assumption)
             · (rw [hgrow.cell_far _ (by simp; omega) (Ne.symm ak)]; assumption)))
        ((refine step_append_lies _ (by rfl) _ _ _ (by rfl) w.heap.size 3 i0 _ 1 8 Tryz.underlying34 hi hz0 hz1 hz2 rfl (by omega) u3 (2 * k) (ptsCells (fun i => (X i, Y i)) k) (by rfl) ((hown.alloc _).drew)
            ⟨wr.heap.size, 0, none⟩ 2 2 [.int .i64 (X k), .int .i64 (Y k)] (by rfl) (by rfl) (World.news_of_block (cs := #[.int .i64 (X k), .int .i64 (Y k)]) (t := 3) (fr := (0, 0)) (heap_alloc_new wr _)) (by simp [Value.oneCell'])
            (by omega) (by unfold maxLen; omega) (by omega) (by simp; omega) (wr.heap.size + 1) (by simp) ?_; intro gg cap w1 hown1 hgrow hat hlt))
      have hb3 : Below w.heap.size w w1 := ((hbl.alloc hbl.size _).drew).grown hgrow ((hbl.alloc hbl.size _).drew).size fun k hk => (hown.lt k hk).1
      clear hgrow hat hlt
      go_wp2
      go_roundw
      case rel => exact ⟨k + 1, by omega, by go_num, hown1, hb3⟩
      case measure => simp [intOf]; omega
    · obtain rfl : n = k := by omega
      go_wp2
      go_ret
      exact ⟨_, rfl, hown, hbl⟩
set_option maxRecDepth 100000 in
set_option maxHeartbeats 400000 in
theorem flat_nil (a : Option Addr) (c : Nat) (X Y : Nat → Int) (w : World) :
    Calls Tryz.prog 53 #[.slice a 0 c] w fun e w' => ∃ v', e = .returned v' ∧ w'.ownsRow w.heap.size 3 1 v' (2 * 0) (ptsCells (fun i => (X i, Y i)) 0) ∧ Below w.heap.size w w' := by
  go_enter Tryz.func53, Tryz.ntmps53
  go_wp2
  refine wp_loop_rounds 1 ?_
  rw [rounds_succ]
  go_wp2
  go_ret
  exact ⟨_, rfl, ⟨rfl, .inl ⟨rfl, rfl⟩⟩, Below.refl _ _⟩
theorem flat_any (v : Value) (n : Nat) (X Y : Nat → Int) (w : World) (hn : n ≤ 1000) (hp : PSl w v n X Y) :
    Calls Tryz.prog 53 #[v] w fun e w' => ∃ v', e = .returned v' ∧ w'.ownsRow w.heap.size 3 1 v' (2 * n) (ptsCells (fun i => (X i, Y i)) n) ∧ Below w.heap.size w w' := by
  rcases hp with ⟨a, c, rfl, rfl⟩ | ⟨b, off, cap, rfl, hb, hp⟩
  · exact flat_nil a c X Y w
  · exact flat_some b off n cap X Y w hn hp hb
/-- what a list of cells holds at a place -/
def Ints (w : World) (b off n : Nat) (F : Nat → Int) : Prop := ∀ i, i < n → w.cell? ⟨b, off + i, none⟩ = some (.int .i64 (F i))
def ISl (w : World) (v : Value) (n : Nat) (F : Nat → Int) : Prop := (v = .slice none 0 0 ∧ n = 0) ∨ ∃ b off cap, v = .slice (some ⟨b, off, none⟩) n cap ∧ b < w.heap.size ∧ Ints w b off n F
set_option maxRecDepth 100000 in
set_option maxHeartbeats 400000 in
theorem same_some (b off n cap b2 off2 cap2 : Nat) (F : Nat → Int) (w : World) (hn : n ≤ 10000) (hp : Ints w b off n F) (hp2 : Ints w b2 off2 n F) :
    Calls Tryz.prog 20 #[.slice (some ⟨b, off, none⟩) n cap, .slice (some ⟨b2, off2, none⟩) n cap2] w fun e w' => e = .returned (.bool true) ∧ Below w.heap.size w w' := by
  go_enter Tryz.func20, Tryz.ntmps20
  go_wp2
  go_loopw [5] (fun i wr => ∃ k : Nat, k ≤ n ∧ i = .int .i64 k ∧ Below w.heap.size w wr ∧ Ints wr b off n F ∧ Ints wr b2 off2 n F) (fun i _ => n - (intOf i).toNat)
  case atStart => exact ⟨0, Nat.zero_le _, rfl, Below.refl _ _, hp, hp2⟩
  case round =>
    obtain ⟨k, hk, rfl, hbl, h1, h2⟩ := hrel
    by_cases hlt : k < n
    · have hx := h1 k hlt
      have hy := h2 k hlt
      have hk0 : (0 : Int) ≤ (k : Int) := Int.natCast_nonneg _
      have hk1 : (k : Int) < (n : Int) := by omega
      go_wp2
      go_quiet (fail)
      have hb3 : Below w.heap.size w (wr.drewN nq) := ⟨hbl.os, hbl.tape, hbl.output, hbl.size, hbl.block⟩
      have h3 : Ints (wr.drewN nq) b off n F := fun i hi => h1 i hi
      have h4 : Ints (wr.drewN nq) b2 off2 n F := fun i hi => h2 i hi
      clear hx hy h1 h2 hbl
      go_wp2
      go_roundw
      case rel => exact ⟨k + 1, by omega, by go_num, hb3, h3, h4⟩
      case measure => simp [intOf]; omega
    · obtain rfl : n = k := by omega
      go_wp2
      go_ret
      exact ⟨rfl, hbl⟩
set_option maxRecDepth 100000 in
set_option maxHeartbeats 400000 in
theorem same_none (w : World) :
    Calls Tryz.prog 20 #[.slice none 0 0, .slice none 0 0] w fun e w' => e = .returned (.bool true) ∧ w = w' := by
  go_enter Tryz.func20, Tryz.ntmps20
  go_wp2
  refine wp_loop_rounds 1 ?_
  rw [rounds_succ]
  go_wp2
  go_ret
  exact ⟨rfl, rfl⟩
theorem ownsRow_lt {w : World} {B : Nat} {e : TypeId} {size : Nat} {v : Value} {n : Nat} {xs : List Value} (h : w.ownsRow B e size v n xs) :
    (v = .slice none 0 0 ∧ n = 0) ∨ ∃ g cap, v = .slice (some ⟨g, 0, none⟩) n cap ∧ g < w.heap.size ∧ ∀ j x, xs[j]? = some x → w.cell? ⟨g, j, none⟩ = some x := by
  obtain ⟨h1, h2 | ⟨g, cap, cur, a1, a2, a3, a4, a5, a6, a7⟩⟩ := h
  · exact .inl h2
  · refine .inr ⟨g, cap, a1, (Array.getElem?_eq_some_iff.1 a3).1, fun j x hx => ?_⟩
    have : w.cell? ⟨g, j, none⟩ = cur[j]? := by simp [World.cell?, a3]
    rw [this, ← Array.getElem?_toList]
    rw [← a7, List.getElem?_take] at hx
    split at hx
    · exact hx
    · cases hx
end Go.Proofs.YtdilcbocnndkmaaGreatDoor
namespace Go.Proofs.YtdilcbocnndkmaaGreatDoor
open Go.RowKit
set_option maxRecDepth 100000 in
set_option maxHeartbeats 400000 in
theorem same_l (a : Addr) (cap : Nat) (w : World) :
    Calls Tryz.prog 20 #[.slice none 0 0, .slice (some a) 0 cap] w fun e w' => e = .returned (.bool true) ∧ w = w' := by
  go_enter Tryz.func20, Tryz.ntmps20
  go_wp2
  refine wp_loop_rounds 1 ?_
  rw [rounds_succ]
  go_wp2
  go_ret
  exact ⟨rfl, rfl⟩
set_option maxRecDepth 100000 in
set_option maxHeartbeats 400000 in
theorem same_r (a : Addr) (cap : Nat) (w : World) :
    Calls Tryz.prog 20 #[.slice (some a) 0 cap, .slice none 0 0] w fun e w' => e = .returned (.bool true) ∧ w = w' := by
  go_enter Tryz.func20, Tryz.ntmps20
  go_wp2
  refine wp_loop_rounds 1 ?_
  rw [rounds_succ]
  go_wp2
  go_ret
  exact ⟨rfl, rfl⟩
theorem ptsCells_len (f : Nat → Int × Int) : ∀ n, (ptsCells f n).length = 2 * n
  | 0 => rfl
  | n+1 => by simp [ptsCells, ptsCells_len f n]; omega
theorem ptsCells_int (f : Nat → Int × Int) : ∀ n, ∀ x ∈ ptsCells f n, x = .int .i64 (intOf x)
  | 0, x, h => by cases h
  | n+1, x, h => by
    simp only [ptsCells, List.mem_append] at h
    rcases h with h | h
    · exact ptsCells_int f n x h
    · rcases List.mem_cons.1 h with rfl | h
      · rfl
      · rcases List.mem_cons.1 h with rfl | h
        · rfl
        · cases h
theorem ints_of {w : World} {g n : Nat} {f : Nat → Int × Int} (h : ∀ j x, (ptsCells f n)[j]? = some x → w.cell? ⟨g, j, none⟩ = some x) : Ints w g 0 (2 * n) (fun j => intOf ((ptsCells f n).getD j undef)) := fun i hi => by
  have hl : i < (ptsCells f n).length := by rw [ptsCells_len]; exact hi
  have h1 : (ptsCells f n)[i]? = some (ptsCells f n)[i] := List.getElem?_eq_getElem hl
  have h2 := ptsCells_int f n _ (List.getElem_mem hl)
  have h3 : (ptsCells f n).getD i undef = (ptsCells f n)[i] := by rw [List.getD_eq_getElem?_getD, h1]; rfl
  rw [Nat.zero_add, h i _ h1]
  show _ = some (Value.int .i64 (intOf ((ptsCells f n).getD i undef)))
  rw [h3]
  exact congrArg some h2
theorem same_own {w : World} {B1 B2 : Nat} {v1 v2 : Value} {n : Nat} {f : Nat → Int × Int} (hn : n ≤ 1000) (h1 : w.ownsRow B1 3 1 v1 (2 * n) (ptsCells f n)) (h2 : w.ownsRow B2 3 1 v2 (2 * n) (ptsCells f n)) :
    Calls Tryz.prog 20 #[v1, v2] w fun e w' => e = .returned (.bool true) ∧ Below w.heap.size w w' := by
  rcases ownsRow_lt h1 with ⟨rfl, e1⟩ | ⟨g1, c1, rfl, l1, k1⟩ <;> rcases ownsRow_lt h2 with ⟨rfl, e2⟩ | ⟨g2, c2, rfl, l2, k2⟩
  · exact (same_none w).mono fun e w' ⟨he, hw⟩ => ⟨he, hw ▸ Below.refl _ _⟩
  · rw [e1]; exact (same_l _ _ w).mono fun e w' ⟨he, hw⟩ => ⟨he, hw ▸ Below.refl _ _⟩
  · rw [e2]; exact (same_r _ _ w).mono fun e w' ⟨he, hw⟩ => ⟨he, hw ▸ Below.refl _ _⟩
  · exact same_some g1 0 (2 * n) c1 g2 0 c2 _ w (by omega) (ints_of k1) (ints_of k2)
set_option maxRecDepth 100000 in
set_option maxHeartbeats 400000 in
theorem samePts_any (v1 v2 : Value) (n : Nat) (X Y : Nat → Int) (w : World) (hn : n ≤ 1000) (h1 : PSl w v1 n X Y) (h2 : PSl w v2 n X Y) :
    Calls Tryz.prog 15 #[v1, v2] w fun e w' => e = .returned (.bool true) ∧ Below w.heap.size w w' := by
  go_enter Tryz.func15, Tryz.ntmps15
  go_wp2_with fail
  refine (flat_any v1 n X Y _ hn h1).mono ?_
  rintro e w1 ⟨u1, rfl, ho1, hb1⟩
  have h2' := h2.below hb1
  go_wp2_with fail
  refine (flat_any v2 n X Y _ hn h2').mono ?_
  rintro e w2 ⟨u2, rfl, ho2, hb2⟩
  have ho1' := ownsRow_below ho1 hb2
  go_wp2_with fail
  refine (same_own hn ho1' ho2).mono ?_
  rintro e w3 ⟨rfl, hb3⟩
  have hbb := (hb1.trans (hb2.mono hb1.size)).trans (hb3.mono (Nat.le_trans hb1.size hb2.size))
  clear hb1 hb2 hb3 ho1 ho2 ho1' h1 h2 h2'
  go_wp2
  go_ret
  exact ⟨rfl, hbb⟩
/-- a list of points that the call made reads as points -/
theorem PSl_of_own {w : World} {B : Nat} {v : Value} : ∀ {n : Nat} {f : Nat → Int × Int}, w.ownsRow B 33 2 v n (ptsCells f n) → PSl w v n (fun i => (f i).1) (fun i => (f i).2) := by
  intro n f h
  rcases ownsRow_lt h with h1 | ⟨g, c, h1, h2, h3⟩
  · exact .inl ⟨none, 0, h1.1, h1.2⟩
  · refine .inr ⟨g, 0, c, h1, h2, fun i hi => ?_⟩
    have key : ∀ n, i < n → (ptsCells f n)[i * 2]? = some (.int .i64 (f i).1) ∧ (ptsCells f n)[i * 2 + 1]? = some (.int .i64 (f i).2) := by
      intro n
      induction n with
      | zero => intro h; omega
      | succ n ih =>
        intro h
        have hl := ptsCells_len f n
        by_cases e : i = n
        · subst e
          simp only [ptsCells]
          constructor
          · rw [List.getElem?_append_right (by omega), hl, show i * 2 - 2 * i = 0 from by omega]; rfl
          · rw [List.getElem?_append_right (by omega), hl, show i * 2 + 1 - 2 * i = 1 from by omega]; rfl
        · simp only [ptsCells]
          obtain ⟨q1, q2⟩ := ih (by omega)
          exact ⟨by rw [List.getElem?_append_left (by omega)]; exact q1, by rw [List.getElem?_append_left (by omega)]; exact q2⟩
    obtain ⟨q1, q2⟩ := key n hi
    simp only [Nat.zero_add]
    exact ⟨h3 _ _ q1, h3 _ _ q2⟩
end Go.Proofs.YtdilcbocnndkmaaGreatDoor
