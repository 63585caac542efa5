/- A part of the proof: see the last file. -/
import Derived.Test.YtdilcbocnndkmaaGreatDoorWb
set_option linter.unusedVariables false
set_option linter.unusedSimpArgs false
set_option linter.unusedSectionVars false
namespace Go.Proofs.YtdilcbocnndkmaaGreatDoor
open Go.RowKit
def ptsCells (f : Nat → Int × Int) : Nat → List Value
  | 0 => []
  | k+1 => ptsCells f k ++ [.int .i64 (f k).1, .int .i64 (f k).2]
theorem ownsRow_below {w w' : World} {B : Nat} {e : TypeId} {size : Nat} {v : Value} {n : Nat} {xs : List Value} (h : w.ownsRow B e size v n xs) (hb : Below w.heap.size w w') : w'.ownsRow B e size v n xs := by
  obtain ⟨h1, h2⟩ := h
  refine ⟨h1, ?_⟩
  rcases h2 with h2 | ⟨g, cap, cur, a1, a2, a3, a4⟩
  · exact .inl h2
  · have hg : g < w.heap.size := (Array.getElem?_eq_some_iff.1 a3).1
    exact .inr ⟨g, cap, cur, a1, a2, by rw [hb.block g hg]; exact a3, a4⟩
theorem arB_small {n : Nat} {X Y : Nat → Int} (h : arB n 0 X Y 80 = true) (k : Nat) (hk : k < n) : small (X k, Y k) := by
  unfold arB at h
  rw [Bool.and_eq_true, allB_iff] at h
  have := h.2 k hk
  unfold ptB at this
  rw [Bool.and_eq_true, inB_iff, inB_iff] at this
  exact this
theorem step_below {w wr w2 w3 : World} {o1 o2 : Obj} {e : TypeId} {size k : Nat} {v : Value} {xs : List Value} (hbl : Below w.heap.size w wr) (hb2 : Below (wr.alloc o1).heap.size (wr.alloc o1) w2) (hgrow : (w2.alloc o2).grownBy w3 v.ownBlock) (hown : wr.ownsRow w.heap.size e size v k xs) : Below w.heap.size w w3 := by
  have h1 : Below w.heap.size w (wr.alloc o1) := hbl.alloc hbl.size _
  have h2 : Below w.heap.size w w2 := h1.trans (hb2.mono h1.size)
  have h3 : Below w.heap.size w (w2.alloc o2) := h2.alloc h2.size _
  exact h3.grown hgrow h3.size fun k hk => (hown.lt k hk).1
theorem cells_two (w : World) (a b : Value) (e : TypeId) : ∀ (j : Nat) (u : Value), [a, b][j]? = some u → (w.alloc (Obj.cells #[a, b] e)).cell? ((⟨w.heap.size, 0, none⟩ : Addr).add j) = some u := by
  intro j u h
  match j, h with
  | 0, h => simp at h; subst h; simp [go_sem, Addr.add]
  | 1, h => simp at h; subst h; simp [go_sem, Addr.add]
  | n+2, h => simp at h
theorem Tryz.info33 : (Tryz.prog.info? 33).map (fun i => (i.zero, i.size, i.bytes)) = some (some (.agg #[.int .i64 0, .int .i64 0]), 2, 16) := by kernel_rfl
set_option maxRecDepth 100000 in
set_option maxHeartbeats 400000 in
theorem turn_some (b off n cap : Nat) (X Y : Nat → Int) (t : Nat) (ht : t < 8) (w : World) (hn : n ≤ 1000) (hp : Pts w b off n X Y) (hb : b < w.heap.size) (hall : arB n 0 X Y 80 = true) :
    Calls Tryz.prog 39 #[.slice (some ⟨b, off, none⟩) n cap, .int .i64 t] w fun e w' => ∃ v', e = .returned (.tuple #[v', .int .i64 0]) ∧ w'.ownsRow w.heap.size 33 2 v' n (ptsCells (fun i => trn t (X i, Y i)) n) ∧ Below w.heap.size w w' := by
  obtain ⟨i0, hi, hz0, hz1, hz2⟩ := info_parts Tryz.info33
  have hin : inB (t : Int) 0 7 = true := inB_yes (by omega) (by omega)
  go_enter Tryz.func39, Tryz.ntmps39
  go_wp2_with (first | (go_at_call 54; refine (are_some _ _ _ _ _ X Y _ (by omega) (by omega) _ hn hp hb).mono ?_; rintro e w' ⟨rfl, hb1⟩) | (go_at_call 56; refine (within_any _ _ _ _).mono ?_; rintro e w' ⟨rfl, rfl⟩) | (go_at_call 71; refine (turnOf_any _ ht _).mono ?_; rintro e w' ⟨rfl, rfl⟩))
  have hp1 := hp.below hb1 hb
  go_loopw [7, 22] (fun v i wr => ∃ k : Nat, k ≤ n ∧ i = .int .i64 k ∧ wr.ownsRow w.heap.size 33 2 v k (ptsCells (fun i => trn t (X i, Y i)) k) ∧ Below w.heap.size w wr) (fun _ i _ => n - (intOf i).toNat)
  case atStart => exact ⟨0, Nat.zero_le _, rfl, ⟨rfl, .inl ⟨rfl, rfl⟩⟩, hb1⟩
  case round =>
    obtain ⟨k, hk, rfl, hown, hbl⟩ := hrel
    clear hp1 hb1
    by_cases hlt : k < n
    · obtain ⟨hx, hy⟩ := hp.below hbl hb k hlt
      obtain ⟨⟨hx1, hx2⟩, hy1, hy2⟩ := arB_small hall k hlt
      go_wp2_with (first | (go_at_call 72; refine (turned_any t ht (X k) (Y k) hx1 hx2 hy1 hy2 _).mono ?_; rintro e w2 ⟨rfl, hb2⟩) | (at_builtin; refine wpList_append_own _ rfl _ _ 22 rfl w.heap.size 33 i0 (.agg #[.int .i64 0, .int .i64 0]) 2 16 Tryz.underlying22 hi hz0 hz1 hz2 rfl (by decide) _ _ _ rfl ((ownsRow_below (hown.alloc _) hb2).alloc _) ⟨w2.heap.size, 0, none⟩ 1 1 [.int .i64 (trn t (X k, Y k)).1, .int .i64 (trn t (X k, Y k)).2] rfl rfl ?c1 ?c2 ?c3 ?c4 ?c5 ?_))
      case c1 => exact cells_two _ _ _ _
      case c2 => exact fun u hu => by rcases List.mem_cons.1 hu with rfl | hu; · rfl
                                      · rcases List.mem_cons.1 hu with rfl | hu; · rfl
                                        · cases hu
      case c3 => unfold maxLen; omega
      case c4 => omega
      case c5 => have h1 := hbl.size; have h2 := hb2.size; simp at h2 ⊢; omega
      intro v3 w3 hown3 hgrow _
      have hb3 := step_below hbl hb2 hgrow hown
      clear hgrow hb2 hx hy hbl hown
      go_wp2
      go_roundw
      case rel => exact ⟨k + 1, by omega, by go_num, hown3, hb3⟩
      case measure => simp [intOf]; omega
    · obtain rfl : n = k := by omega
      go_wp2
      go_ret2
      exact ⟨u7, rfl, hown, hbl⟩
end Go.Proofs.YtdilcbocnndkmaaGreatDoor
namespace Go.Proofs.YtdilcbocnndkmaaGreatDoor
open Go.RowKit
set_option maxRecDepth 100000 in
set_option maxHeartbeats 400000 in
theorem turn_nil (a : Option Addr) (c : Nat) (X Y : Nat → Int) (t : Nat) (ht : t < 8) (w : World) :
    Calls Tryz.prog 39 #[.slice a 0 c, .int .i64 t] w fun e w' => ∃ v', e = .returned (.tuple #[v', .int .i64 0]) ∧ w'.ownsRow w.heap.size 33 2 v' 0 (ptsCells (fun i => trn t (X i, Y i)) 0) ∧ Below w.heap.size w w' := by
  have hin : inB (t : Int) 0 7 = true := inB_yes (by omega) (by omega)
  have ha : arB 0 0 X Y 80 = true := by
    rw [arB_yes (by rfl)]; exact allB_yes fun i hi => absurd hi (Nat.not_lt_zero i)
  go_enter Tryz.func39, Tryz.ntmps39
  go_wp2_with (first | (go_at_call 54; refine (are_nil _ _ 0 X Y 80 _).mono ?_; rintro e w' ⟨rfl, hb1⟩) | (go_at_call 56; refine (within_any _ _ _ _).mono ?_; rintro e w' ⟨rfl, rfl⟩) | (go_at_call 71; refine (turnOf_any _ ht _).mono ?_; rintro e w' ⟨rfl, rfl⟩))
  refine wp_loop_rounds 1 ?_
  rw [rounds_succ]
  go_wp2
  go_ret2
  exact ⟨_, rfl, ⟨rfl, .inl ⟨rfl, rfl⟩⟩, hb1⟩
theorem turn_ok (v : Value) (n : Nat) (X Y : Nat → Int) (t : Nat) (ht : t < 8) (w : World) (hn : n ≤ 1000) (hp : PSl w v n X Y) (hall : arB n 0 X Y 80 = true) :
    Calls Tryz.prog 39 #[v, .int .i64 t] w fun e w' => ∃ v', e = .returned (.tuple #[v', .int .i64 0]) ∧ w'.ownsRow w.heap.size 33 2 v' n (ptsCells (fun i => trn t (X i, Y i)) n) ∧ Below w.heap.size w w' := by
  rcases hp with ⟨a, c, rfl, rfl⟩ | ⟨b, off, cap, rfl, hb, hp⟩
  · exact turn_nil a c X Y t ht w
  · exact turn_some b off n cap X Y t ht w hn hp hb hall
set_option maxRecDepth 100000 in
set_option maxHeartbeats 400000 in
theorem turn_far (v : Value) (n : Nat) (X Y : Nat → Int) (t : Int) (w : World) (hn : n ≤ 1000) (hp : PSl w v n X Y) (hall : arB n 0 X Y 80 = false) :
    Calls Tryz.prog 39 #[v, .int .i64 t] w fun e w' => e = .returned (.tuple #[.slice none 0 0, .int .i64 2]) ∧ Below w.heap.size w w' := by
  go_enter Tryz.func39, Tryz.ntmps39
  go_wp2_with (first | (go_at_call 54; refine (are_any _ _ _ X Y _ (by omega) (by omega) _ hn hp).mono ?_; rintro e w' ⟨rfl, hb1⟩))
  go_ret2
  exact ⟨rfl, hb1⟩
set_option maxRecDepth 100000 in
set_option maxHeartbeats 400000 in
theorem turn_odd (v : Value) (n : Nat) (X Y : Nat → Int) (t : Int) (ht : inB t 0 7 = false) (w : World) (hn : n ≤ 1000) (hp : PSl w v n X Y) (hall : arB n 0 X Y 80 = true) :
    Calls Tryz.prog 39 #[v, .int .i64 t] w fun e w' => e = .returned (.tuple #[.slice none 0 0, .int .i64 2]) ∧ Below w.heap.size w w' := by
  go_enter Tryz.func39, Tryz.ntmps39
  go_wp2_with (first | (go_at_call 54; refine (are_any _ _ _ X Y _ (by omega) (by omega) _ hn hp).mono ?_; rintro e w' ⟨rfl, hb1⟩) | (go_at_call 56; refine (within_any _ _ _ _).mono ?_; rintro e w' ⟨rfl, rfl⟩))
  go_ret2
  exact ⟨rfl, hb1⟩
theorem turn_bad (v : Value) (n : Nat) (X Y : Nat → Int) (t : Int) (w : World) (hn : n ≤ 1000) (hp : PSl w v n X Y) (h : (inB t 0 7 && arB n 0 X Y 80) = false) :
    Calls Tryz.prog 39 #[v, .int .i64 t] w fun e w' => e = .returned (.tuple #[.slice none 0 0, .int .i64 2]) ∧ Below w.heap.size w w' := by
  cases ha : arB n 0 X Y 80 with
  | false => exact turn_far v n X Y t w hn hp ha
  | true => exact turn_odd v n X Y t (by rw [ha] at h; simpa using h) w hn hp ha
end Go.Proofs.YtdilcbocnndkmaaGreatDoor
namespace Go.Proofs.YtdilcbocnndkmaaGreatDoor
open Go.RowKit
def ponB (n : Nat) (least most : Int) (X Y : Nat → Int) (r : Int) : Bool := allB n X Y r && inB n least most
theorem ponB_yes {n : Nat} {least most : Int} {X Y : Nat → Int} {r : Int} (h : ∀ i, i < n → ptB (X i) (Y i) r = true) : ponB n least most X Y r = inB n least most := by unfold ponB; rw [allB_yes h]; rfl
theorem ponB_no {n i : Nat} {least most : Int} {X Y : Nat → Int} {r : Int} (hi : i < n) (h : ptB (X i) (Y i) r = false) : ponB n least most X Y r = false := by unfold ponB; rw [allB_no hi h]; rfl
theorem ptB_f1 {x y r : Int} (h1 : inB x (-r) r = false) : ptB x y r = false := by unfold ptB; rw [h1]; rfl
theorem ptB_f2 {x y r : Int} (h1 : inB x (-r) r = true) (h2 : inB y (-r) r = false) : ptB x y r = false := by unfold ptB; rw [h1, h2]; rfl
theorem ptB_t {x y r : Int} (h1 : inB x (-r) r = true) (h2 : inB y (-r) r = true) : ptB x y r = true := by unfold ptB; rw [h1, h2]; rfl
set_option maxRecDepth 100000 in
set_option maxHeartbeats 400000 in
theorem points_some (b off n cap : Nat) (least most : Int) (X Y : Nat → Int) (r : Int) (h0 : 0 ≤ r) (h1 : r ≤ 1000) (w : World) (hn : n ≤ 1000) (hp : Pts w b off n X Y) :
    Calls Tryz.prog 12 #[.slice (some ⟨b, off, none⟩) n cap, .int .i64 least, .int .i64 most, .int .i64 r] w fun e w' => e = .returned (.bool (ponB n least most X Y r)) ∧ w = w' := by
  go_enter Tryz.func12, Tryz.ntmps12
  go_wp2
  go_loop [9] (fun i => ∃ k : Nat, k ≤ n ∧ i = .int .i64 k ∧ ∀ m, m < k → ptB (X m) (Y m) r = true) (fun i => n - (intOf i).toNat)
  case atStart => exact ⟨0, Nat.zero_le _, rfl, fun _ h => absurd h (Nat.not_lt_zero _)⟩
  case round =>
    obtain ⟨k, hk, rfl, hall⟩ := hrel
    by_cases hlt : k < n
    · obtain ⟨hx, hy⟩ := hp k hlt
      cases hbx : inB (X k) (-r) r with
      | false =>
        have hpt := ptB_f1 (y := Y k) hbx
        go_wp2_with (go_at_call 38; refine (in_any _ _ _ _).mono ?_; rintro e w' ⟨rfl, rfl⟩)
        go_ret
        exact ⟨ret_bool (ponB_no hlt hpt).symm, rfl⟩
      | true =>
        cases hby : inB (Y k) (-r) r with
        | false =>
          have hpt := ptB_f2 hbx hby
          go_wp2_with (go_at_call 38; refine (in_any _ _ _ _).mono ?_; rintro e w' ⟨rfl, rfl⟩)
          go_ret
          exact ⟨ret_bool (ponB_no hlt hpt).symm, rfl⟩
        | true =>
          have hpt := ptB_t hbx hby
          go_wp2_with (go_at_call 38; refine (in_any _ _ _ _).mono ?_; rintro e w' ⟨rfl, rfl⟩)
          go_round
          case rel => exact ⟨k + 1, by omega, by go_num, all_succ hall hpt⟩
          case measure => simp [intOf]; omega
    · obtain rfl : n = k := by omega
      go_wp2_with (go_at_call 38; refine (in_any _ _ _ _).mono ?_; rintro e w' ⟨rfl, rfl⟩)
      go_ret
      exact ⟨ret_bool (ponB_yes fun i hi => hall i (by omega)).symm, rfl⟩
set_option maxRecDepth 100000 in
set_option maxHeartbeats 400000 in
theorem points_nil (a : Option Addr) (c : Nat) (least most : Int) (X Y : Nat → Int) (r : Int) (w : World) :
    Calls Tryz.prog 12 #[.slice a 0 c, .int .i64 least, .int .i64 most, .int .i64 r] w fun e w' => e = .returned (.bool (ponB 0 least most X Y r)) ∧ w = w' := by
  go_enter Tryz.func12, Tryz.ntmps12
  go_wp2
  refine wp_loop_rounds 1 ?_
  rw [rounds_succ]
  go_wp2_with (go_at_call 38; refine (in_any _ _ _ _).mono ?_; rintro e w' ⟨rfl, rfl⟩)
  go_ret
  exact ⟨ret_bool (ponB_yes fun i hi => absurd hi (Nat.not_lt_zero i)).symm, rfl⟩
theorem points_any (v : Value) (n : Nat) (least most : Int) (X Y : Nat → Int) (r : Int) (h0 : 0 ≤ r) (h1 : r ≤ 1000) (w : World) (hn : n ≤ 1000) (hp : PSl w v n X Y) :
    Calls Tryz.prog 12 #[v, .int .i64 least, .int .i64 most, .int .i64 r] w fun e w' => e = .returned (.bool (ponB n least most X Y r)) ∧ w = w' := by
  rcases hp with ⟨a, c, rfl, rfl⟩ | ⟨b, off, cap, rfl, hb, hp⟩
  · exact points_nil a c least most X Y r w
  · exact points_some b off n cap least most X Y r h0 h1 w hn hp
end Go.Proofs.YtdilcbocnndkmaaGreatDoor
