/- A part of the proof: see the last file. -/
import Derived.Test.YtdilcbocnndkmaaGreatDoorWa
set_option linter.unusedVariables false
set_option linter.unusedSimpArgs false
set_option linter.unusedSectionVars false
namespace Go.Proofs.YtdilcbocnndkmaaGreatDoor
open Go.RowKit
/-- a point turned k quarters -/
def rot : Nat → Int × Int → Int × Int
  | 0, p => p
  | k+1, p => (-(rot k p).2, (rot k p).1)
def small (p : Int × Int) : Prop := (-80 ≤ p.1 ∧ p.1 ≤ 80) ∧ -80 ≤ p.2 ∧ p.2 ≤ 80
theorem rot_small : ∀ (k : Nat) {p : Int × Int}, small p → small (rot k p)
  | 0, _, h => h
  | k+1, p, h => by
    obtain ⟨⟨h1, h2⟩, h3, h4⟩ := rot_small k h
    simp only [rot, small]
    omega
theorem assert_plain (n : Int) (w : World) : (Instr.typeAssert (.iface 182 (.int .i64 n)) 121 183 true).run Tryz.prog w = .ok (.tuple #[.int .i64 0, .bool false]) w := by kernel_rfl
theorem assert_mirrored (n : Int) (w : World) : (Instr.typeAssert (.iface 183 (.int .i64 n)) 121 183 true).run Tryz.prog w = .ok (.tuple #[.int .i64 n, .bool true]) w := by kernel_rfl
theorem method_plain (n : Int) (w : World) : (method 400 182 (.int .i64 n) "nacre/drill.quarters").run Tryz.prog w = .ok (217, .int .i64 n) w := by kernel_rfl
theorem method_mirrored (n : Int) (w : World) : (method 400 183 (.int .i64 n) "nacre/drill.quarters").run Tryz.prog w = .ok (218, .int .i64 n) w := by kernel_rfl
theorem ret_agg {a b c d : Int} (h1 : a = c) (h2 : b = d) : Ending.returned (.agg #[.int .i64 a, .int .i64 b]) = .returned (.agg #[.int .i64 c, .int .i64 d]) := by rw [h1, h2]
set_option maxRecDepth 100000 in
set_option maxHeartbeats 400000 in
theorem turned_plain0 (x y : Int) (hx1 : -80 ≤ x) (hx2 : x ≤ 80) (hy1 : -80 ≤ y) (hy2 : y ≤ 80) (w : World) :
    Calls Tryz.prog 72 #[.agg #[.int .i64 x, .int .i64 y], .iface 182 (.int .i64 0)] w fun e w' => e = .returned (.agg #[.int .i64 (rot 0 (x, y)).1, .int .i64 (rot 0 (x, y)).2]) ∧ Below w.heap.size w w' := by
  have ha := assert_plain
  have hm := method_plain
  go_enter Tryz.func72, Tryz.ntmps72
  go_wp2_with (go_at_call 217; refine (plain_any _ _).mono ?_; rintro e w' ⟨rfl, rfl⟩)
  refine wp_loop_rounds 1 ?_
  rw [rounds_succ]
  go_wp2
  refine bodyPost_ret (v := .agg #[.int .i64 (x), .int .i64 (y)]) (by simp [results, Tryz.results72, go_sem]) rfl ⟨ret_agg (by simp [rot]) (by simp [rot]), ?_⟩
  exact ((Below.refl _ _).alloc (Nat.le_refl _) _).alloc (by simp) _
set_option maxRecDepth 100000 in
set_option maxHeartbeats 400000 in
theorem turned_plain1 (x y : Int) (hx1 : -80 ≤ x) (hx2 : x ≤ 80) (hy1 : -80 ≤ y) (hy2 : y ≤ 80) (w : World) :
    Calls Tryz.prog 72 #[.agg #[.int .i64 x, .int .i64 y], .iface 182 (.int .i64 1)] w fun e w' => e = .returned (.agg #[.int .i64 (rot 1 (x, y)).1, .int .i64 (rot 1 (x, y)).2]) ∧ Below w.heap.size w w' := by
  have ha := assert_plain
  have hm := method_plain
  go_enter Tryz.func72, Tryz.ntmps72
  go_wp2_with (go_at_call 217; refine (plain_any _ _).mono ?_; rintro e w' ⟨rfl, rfl⟩)
  refine wp_loop_rounds 2 ?_
  rw [rounds_succ]
  go_wp2
  rw [rounds_succ]
  go_wp2
  refine bodyPost_ret (v := .agg #[.int .i64 (-y), .int .i64 (x)]) (by simp [results, Tryz.results72, go_sem]) rfl ⟨ret_agg (by simp [rot]) (by simp [rot]), ?_⟩
  exact ((Below.refl _ _).alloc (Nat.le_refl _) _).alloc (by simp) _
set_option maxRecDepth 100000 in
set_option maxHeartbeats 400000 in
theorem turned_plain2 (x y : Int) (hx1 : -80 ≤ x) (hx2 : x ≤ 80) (hy1 : -80 ≤ y) (hy2 : y ≤ 80) (w : World) :
    Calls Tryz.prog 72 #[.agg #[.int .i64 x, .int .i64 y], .iface 182 (.int .i64 2)] w fun e w' => e = .returned (.agg #[.int .i64 (rot 2 (x, y)).1, .int .i64 (rot 2 (x, y)).2]) ∧ Below w.heap.size w w' := by
  have ha := assert_plain
  have hm := method_plain
  go_enter Tryz.func72, Tryz.ntmps72
  go_wp2_with (go_at_call 217; refine (plain_any _ _).mono ?_; rintro e w' ⟨rfl, rfl⟩)
  refine wp_loop_rounds 3 ?_
  rw [rounds_succ]
  go_wp2
  rw [rounds_succ]
  go_wp2
  rw [rounds_succ]
  go_wp2
  refine bodyPost_ret (v := .agg #[.int .i64 (-x), .int .i64 (-y)]) (by simp [results, Tryz.results72, go_sem]) rfl ⟨ret_agg (by simp [rot]) (by simp [rot]), ?_⟩
  exact ((Below.refl _ _).alloc (Nat.le_refl _) _).alloc (by simp) _
set_option maxRecDepth 100000 in
set_option maxHeartbeats 400000 in
theorem turned_plain3 (x y : Int) (hx1 : -80 ≤ x) (hx2 : x ≤ 80) (hy1 : -80 ≤ y) (hy2 : y ≤ 80) (w : World) :
    Calls Tryz.prog 72 #[.agg #[.int .i64 x, .int .i64 y], .iface 182 (.int .i64 3)] w fun e w' => e = .returned (.agg #[.int .i64 (rot 3 (x, y)).1, .int .i64 (rot 3 (x, y)).2]) ∧ Below w.heap.size w w' := by
  have ha := assert_plain
  have hm := method_plain
  go_enter Tryz.func72, Tryz.ntmps72
  go_wp2_with (go_at_call 217; refine (plain_any _ _).mono ?_; rintro e w' ⟨rfl, rfl⟩)
  refine wp_loop_rounds 4 ?_
  rw [rounds_succ]
  go_wp2
  rw [rounds_succ]
  go_wp2
  rw [rounds_succ]
  go_wp2
  rw [rounds_succ]
  go_wp2
  refine bodyPost_ret (v := .agg #[.int .i64 (y), .int .i64 (-x)]) (by simp [results, Tryz.results72, go_sem]) rfl ⟨ret_agg (by simp [rot]) (by simp [rot]), ?_⟩
  exact ((Below.refl _ _).alloc (Nat.le_refl _) _).alloc (by simp) _
set_option maxRecDepth 100000 in
set_option maxHeartbeats 400000 in
theorem turned_mirrored0 (x y : Int) (hx1 : -80 ≤ x) (hx2 : x ≤ 80) (hy1 : -80 ≤ y) (hy2 : y ≤ 80) (w : World) :
    Calls Tryz.prog 72 #[.agg #[.int .i64 x, .int .i64 y], .iface 183 (.int .i64 0)] w fun e w' => e = .returned (.agg #[.int .i64 (rot 0 (-x, y)).1, .int .i64 (rot 0 (-x, y)).2]) ∧ Below w.heap.size w w' := by
  have ha := assert_mirrored
  have hm := method_mirrored
  go_enter Tryz.func72, Tryz.ntmps72
  go_wp2_with (go_at_call 218; refine (mirrored_any _ _).mono ?_; rintro e w' ⟨rfl, rfl⟩)
  refine wp_loop_rounds 1 ?_
  rw [rounds_succ]
  go_wp2
  refine bodyPost_ret (v := .agg #[.int .i64 (-x), .int .i64 (y)]) (by simp [results, Tryz.results72, go_sem]) rfl ⟨ret_agg (by simp [rot]) (by simp [rot]), ?_⟩
  exact ((Below.refl _ _).alloc (Nat.le_refl _) _).alloc (by simp) _
set_option maxRecDepth 100000 in
set_option maxHeartbeats 400000 in
theorem turned_mirrored1 (x y : Int) (hx1 : -80 ≤ x) (hx2 : x ≤ 80) (hy1 : -80 ≤ y) (hy2 : y ≤ 80) (w : World) :
    Calls Tryz.prog 72 #[.agg #[.int .i64 x, .int .i64 y], .iface 183 (.int .i64 1)] w fun e w' => e = .returned (.agg #[.int .i64 (rot 1 (-x, y)).1, .int .i64 (rot 1 (-x, y)).2]) ∧ Below w.heap.size w w' := by
  have ha := assert_mirrored
  have hm := method_mirrored
  go_enter Tryz.func72, Tryz.ntmps72
  go_wp2_with (go_at_call 218; refine (mirrored_any _ _).mono ?_; rintro e w' ⟨rfl, rfl⟩)
  refine wp_loop_rounds 2 ?_
  rw [rounds_succ]
  go_wp2
  rw [rounds_succ]
  go_wp2
  refine bodyPost_ret (v := .agg #[.int .i64 (-y), .int .i64 (-x)]) (by simp [results, Tryz.results72, go_sem]) rfl ⟨ret_agg (by simp [rot]) (by simp [rot]), ?_⟩
  exact ((Below.refl _ _).alloc (Nat.le_refl _) _).alloc (by simp) _
set_option maxRecDepth 100000 in
set_option maxHeartbeats 400000 in
theorem turned_mirrored2 (x y : Int) (hx1 : -80 ≤ x) (hx2 : x ≤ 80) (hy1 : -80 ≤ y) (hy2 : y ≤ 80) (w : World) :
    Calls Tryz.prog 72 #[.agg #[.int .i64 x, .int .i64 y], .iface 183 (.int .i64 2)] w fun e w' => e = .returned (.agg #[.int .i64 (rot 2 (-x, y)).1, .int .i64 (rot 2 (-x, y)).2]) ∧ Below w.heap.size w w' := by
  have ha := assert_mirrored
  have hm := method_mirrored
  go_enter Tryz.func72, Tryz.ntmps72
  go_wp2_with (go_at_call 218; refine (mirrored_any _ _).mono ?_; rintro e w' ⟨rfl, rfl⟩)
  refine wp_loop_rounds 3 ?_
  rw [rounds_succ]
  go_wp2
  rw [rounds_succ]
  go_wp2
  rw [rounds_succ]
  go_wp2
  refine bodyPost_ret (v := .agg #[.int .i64 (x), .int .i64 (-y)]) (by simp [results, Tryz.results72, go_sem]) rfl ⟨ret_agg (by simp [rot]) (by simp [rot]), ?_⟩
  exact ((Below.refl _ _).alloc (Nat.le_refl _) _).alloc (by simp) _
set_option maxRecDepth 100000 in
set_option maxHeartbeats 400000 in
theorem turned_mirrored3 (x y : Int) (hx1 : -80 ≤ x) (hx2 : x ≤ 80) (hy1 : -80 ≤ y) (hy2 : y ≤ 80) (w : World) :
    Calls Tryz.prog 72 #[.agg #[.int .i64 x, .int .i64 y], .iface 183 (.int .i64 3)] w fun e w' => e = .returned (.agg #[.int .i64 (rot 3 (-x, y)).1, .int .i64 (rot 3 (-x, y)).2]) ∧ Below w.heap.size w w' := by
  have ha := assert_mirrored
  have hm := method_mirrored
  go_enter Tryz.func72, Tryz.ntmps72
  go_wp2_with (go_at_call 218; refine (mirrored_any _ _).mono ?_; rintro e w' ⟨rfl, rfl⟩)
  refine wp_loop_rounds 4 ?_
  rw [rounds_succ]
  go_wp2
  rw [rounds_succ]
  go_wp2
  rw [rounds_succ]
  go_wp2
  rw [rounds_succ]
  go_wp2
  refine bodyPost_ret (v := .agg #[.int .i64 (y), .int .i64 (x)]) (by simp [results, Tryz.results72, go_sem]) rfl ⟨ret_agg (by simp [rot]) (by simp [rot]), ?_⟩
  exact ((Below.refl _ _).alloc (Nat.le_refl _) _).alloc (by simp) _
end Go.Proofs.YtdilcbocnndkmaaGreatDoor
namespace Go.Proofs.YtdilcbocnndkmaaGreatDoor
open Go.RowKit
/-- a point turned by the turn of that number -/
def trn (t : Nat) (p : Int × Int) : Int × Int := if t < 4 then rot t p else rot (t - 4) (-p.1, p.2)
set_option maxRecDepth 100000 in
set_option maxHeartbeats 400000 in
theorem rturn0 (x y : Int) (hx1 : -80 ≤ x) (hx2 : x ≤ 80) (hy1 : -80 ≤ y) (hy2 : y ≤ 80) (w : World) :
    Calls Tryz.prog 104 #[.agg #[.int .i64 x, .int .i64 y], .int .i64 0] w fun e w' => e = .returned (.agg #[.int .i64 (trn 0 (x, y)).1, .int .i64 (trn 0 (x, y)).2]) ∧ Below w.heap.size w w' := by
  go_enter Tryz.func104, Tryz.ntmps104
  go_wp2
  refine wp_loop_rounds 1 ?_
  rw [rounds_succ]
  go_wp2
  refine bodyPost_ret (v := .agg #[.int .i64 (x), .int .i64 (y)]) (by simp [results, Tryz.results104, go_sem]) rfl ⟨ret_agg (by simp [trn, rot]) (by simp [trn, rot]), ?_⟩
  exact ((Below.refl _ _).alloc (Nat.le_refl _) _).alloc (by simp) _
set_option maxRecDepth 100000 in
set_option maxHeartbeats 400000 in
theorem rturn1 (x y : Int) (hx1 : -80 ≤ x) (hx2 : x ≤ 80) (hy1 : -80 ≤ y) (hy2 : y ≤ 80) (w : World) :
    Calls Tryz.prog 104 #[.agg #[.int .i64 x, .int .i64 y], .int .i64 1] w fun e w' => e = .returned (.agg #[.int .i64 (trn 1 (x, y)).1, .int .i64 (trn 1 (x, y)).2]) ∧ Below w.heap.size w w' := by
  go_enter Tryz.func104, Tryz.ntmps104
  go_wp2
  refine wp_loop_rounds 2 ?_
  rw [rounds_succ]
  go_wp2
  rw [rounds_succ]
  go_wp2
  refine bodyPost_ret (v := .agg #[.int .i64 (-y), .int .i64 (x)]) (by simp [results, Tryz.results104, go_sem]) rfl ⟨ret_agg (by simp [trn, rot]) (by simp [trn, rot]), ?_⟩
  exact ((Below.refl _ _).alloc (Nat.le_refl _) _).alloc (by simp) _
set_option maxRecDepth 100000 in
set_option maxHeartbeats 400000 in
theorem rturn2 (x y : Int) (hx1 : -80 ≤ x) (hx2 : x ≤ 80) (hy1 : -80 ≤ y) (hy2 : y ≤ 80) (w : World) :
    Calls Tryz.prog 104 #[.agg #[.int .i64 x, .int .i64 y], .int .i64 2] w fun e w' => e = .returned (.agg #[.int .i64 (trn 2 (x, y)).1, .int .i64 (trn 2 (x, y)).2]) ∧ Below w.heap.size w w' := by
  go_enter Tryz.func104, Tryz.ntmps104
  go_wp2
  refine wp_loop_rounds 3 ?_
  rw [rounds_succ]
  go_wp2
  rw [rounds_succ]
  go_wp2
  rw [rounds_succ]
  go_wp2
  refine bodyPost_ret (v := .agg #[.int .i64 (-x), .int .i64 (-y)]) (by simp [results, Tryz.results104, go_sem]) rfl ⟨ret_agg (by simp [trn, rot]) (by simp [trn, rot]), ?_⟩
  exact ((Below.refl _ _).alloc (Nat.le_refl _) _).alloc (by simp) _
set_option maxRecDepth 100000 in
set_option maxHeartbeats 400000 in
theorem rturn3 (x y : Int) (hx1 : -80 ≤ x) (hx2 : x ≤ 80) (hy1 : -80 ≤ y) (hy2 : y ≤ 80) (w : World) :
    Calls Tryz.prog 104 #[.agg #[.int .i64 x, .int .i64 y], .int .i64 3] w fun e w' => e = .returned (.agg #[.int .i64 (trn 3 (x, y)).1, .int .i64 (trn 3 (x, y)).2]) ∧ Below w.heap.size w w' := by
  go_enter Tryz.func104, Tryz.ntmps104
  go_wp2
  refine wp_loop_rounds 4 ?_
  rw [rounds_succ]
  go_wp2
  rw [rounds_succ]
  go_wp2
  rw [rounds_succ]
  go_wp2
  rw [rounds_succ]
  go_wp2
  refine bodyPost_ret (v := .agg #[.int .i64 (y), .int .i64 (-x)]) (by simp [results, Tryz.results104, go_sem]) rfl ⟨ret_agg (by simp [trn, rot]) (by simp [trn, rot]), ?_⟩
  exact ((Below.refl _ _).alloc (Nat.le_refl _) _).alloc (by simp) _
set_option maxRecDepth 100000 in
set_option maxHeartbeats 400000 in
theorem rturn4 (x y : Int) (hx1 : -80 ≤ x) (hx2 : x ≤ 80) (hy1 : -80 ≤ y) (hy2 : y ≤ 80) (w : World) :
    Calls Tryz.prog 104 #[.agg #[.int .i64 x, .int .i64 y], .int .i64 4] w fun e w' => e = .returned (.agg #[.int .i64 (trn 4 (x, y)).1, .int .i64 (trn 4 (x, y)).2]) ∧ Below w.heap.size w w' := by
  go_enter Tryz.func104, Tryz.ntmps104
  go_wp2
  refine wp_loop_rounds 1 ?_
  rw [rounds_succ]
  go_wp2
  refine bodyPost_ret (v := .agg #[.int .i64 (-x), .int .i64 (y)]) (by simp [results, Tryz.results104, go_sem]) rfl ⟨ret_agg (by simp [trn, rot]) (by simp [trn, rot]), ?_⟩
  exact ((Below.refl _ _).alloc (Nat.le_refl _) _).alloc (by simp) _
set_option maxRecDepth 100000 in
set_option maxHeartbeats 400000 in
theorem rturn5 (x y : Int) (hx1 : -80 ≤ x) (hx2 : x ≤ 80) (hy1 : -80 ≤ y) (hy2 : y ≤ 80) (w : World) :
    Calls Tryz.prog 104 #[.agg #[.int .i64 x, .int .i64 y], .int .i64 5] w fun e w' => e = .returned (.agg #[.int .i64 (trn 5 (x, y)).1, .int .i64 (trn 5 (x, y)).2]) ∧ Below w.heap.size w w' := by
  go_enter Tryz.func104, Tryz.ntmps104
  go_wp2
  refine wp_loop_rounds 2 ?_
  rw [rounds_succ]
  go_wp2
  rw [rounds_succ]
  go_wp2
  refine bodyPost_ret (v := .agg #[.int .i64 (-y), .int .i64 (-x)]) (by simp [results, Tryz.results104, go_sem]) rfl ⟨ret_agg (by simp [trn, rot]) (by simp [trn, rot]), ?_⟩
  exact ((Below.refl _ _).alloc (Nat.le_refl _) _).alloc (by simp) _
set_option maxRecDepth 100000 in
set_option maxHeartbeats 400000 in
theorem rturn6 (x y : Int) (hx1 : -80 ≤ x) (hx2 : x ≤ 80) (hy1 : -80 ≤ y) (hy2 : y ≤ 80) (w : World) :
    Calls Tryz.prog 104 #[.agg #[.int .i64 x, .int .i64 y], .int .i64 6] w fun e w' => e = .returned (.agg #[.int .i64 (trn 6 (x, y)).1, .int .i64 (trn 6 (x, y)).2]) ∧ Below w.heap.size w w' := by
  go_enter Tryz.func104, Tryz.ntmps104
  go_wp2
  refine wp_loop_rounds 3 ?_
  rw [rounds_succ]
  go_wp2
  rw [rounds_succ]
  go_wp2
  rw [rounds_succ]
  go_wp2
  refine bodyPost_ret (v := .agg #[.int .i64 (x), .int .i64 (-y)]) (by simp [results, Tryz.results104, go_sem]) rfl ⟨ret_agg (by simp [trn, rot]) (by simp [trn, rot]), ?_⟩
  exact ((Below.refl _ _).alloc (Nat.le_refl _) _).alloc (by simp) _
set_option maxRecDepth 100000 in
set_option maxHeartbeats 400000 in
theorem rturn7 (x y : Int) (hx1 : -80 ≤ x) (hx2 : x ≤ 80) (hy1 : -80 ≤ y) (hy2 : y ≤ 80) (w : World) :
    Calls Tryz.prog 104 #[.agg #[.int .i64 x, .int .i64 y], .int .i64 7] w fun e w' => e = .returned (.agg #[.int .i64 (trn 7 (x, y)).1, .int .i64 (trn 7 (x, y)).2]) ∧ Below w.heap.size w w' := by
  go_enter Tryz.func104, Tryz.ntmps104
  go_wp2
  refine wp_loop_rounds 4 ?_
  rw [rounds_succ]
  go_wp2
  rw [rounds_succ]
  go_wp2
  rw [rounds_succ]
  go_wp2
  rw [rounds_succ]
  go_wp2
  refine bodyPost_ret (v := .agg #[.int .i64 (y), .int .i64 (x)]) (by simp [results, Tryz.results104, go_sem]) rfl ⟨ret_agg (by simp [trn, rot]) (by simp [trn, rot]), ?_⟩
  exact ((Below.refl _ _).alloc (Nat.le_refl _) _).alloc (by simp) _
theorem rturn_any (t : Nat) (ht : t < 8) (x y : Int) (hx1 : -80 ≤ x) (hx2 : x ≤ 80) (hy1 : -80 ≤ y) (hy2 : y ≤ 80) (w : World) :
    Calls Tryz.prog 104 #[.agg #[.int .i64 x, .int .i64 y], .int .i64 t] w fun e w' => e = .returned (.agg #[.int .i64 (trn t (x, y)).1, .int .i64 (trn t (x, y)).2]) ∧ Below w.heap.size w w' := by
  match t, ht with
  | 0, _ => exact rturn0 x y hx1 hx2 hy1 hy2 w
  | 1, _ => exact rturn1 x y hx1 hx2 hy1 hy2 w
  | 2, _ => exact rturn2 x y hx1 hx2 hy1 hy2 w
  | 3, _ => exact rturn3 x y hx1 hx2 hy1 hy2 w
  | 4, _ => exact rturn4 x y hx1 hx2 hy1 hy2 w
  | 5, _ => exact rturn5 x y hx1 hx2 hy1 hy2 w
  | 6, _ => exact rturn6 x y hx1 hx2 hy1 hy2 w
  | 7, _ => exact rturn7 x y hx1 hx2 hy1 hy2 w
  | n+8, h => omega
/-- the value of the turn of that number -/
def tval (t : Nat) : Value := if t < 4 then .iface 182 (.int .i64 t) else .iface 183 (.int .i64 (t - 4))
theorem turned_any (t : Nat) (ht : t < 8) (x y : Int) (hx1 : -80 ≤ x) (hx2 : x ≤ 80) (hy1 : -80 ≤ y) (hy2 : y ≤ 80) (w : World) :
    Calls Tryz.prog 72 #[.agg #[.int .i64 x, .int .i64 y], tval t] w fun e w' => e = .returned (.agg #[.int .i64 (trn t (x, y)).1, .int .i64 (trn t (x, y)).2]) ∧ Below w.heap.size w w' := by
  match t, ht with
  | 0, _ => exact turned_plain0 x y hx1 hx2 hy1 hy2 w
  | 1, _ => exact turned_plain1 x y hx1 hx2 hy1 hy2 w
  | 2, _ => exact turned_plain2 x y hx1 hx2 hy1 hy2 w
  | 3, _ => exact turned_plain3 x y hx1 hx2 hy1 hy2 w
  | 4, _ => exact turned_mirrored0 x y hx1 hx2 hy1 hy2 w
  | 5, _ => exact turned_mirrored1 x y hx1 hx2 hy1 hy2 w
  | 6, _ => exact turned_mirrored2 x y hx1 hx2 hy1 hy2 w
  | 7, _ => exact turned_mirrored3 x y hx1 hx2 hy1 hy2 w
  | n+8, h => omega
theorem turnOf_any (t : Nat) (ht : t < 8) (w : World) :
    Calls Tryz.prog 71 #[.int .i64 t] w fun e w' => e = .returned (tval t) ∧ w = w' := by
  by_cases h : t < 4
  · unfold tval; rw [if_pos h]; exact turnOf_lo _ (by omega) (by omega) w
  · unfold tval; rw [if_neg h]; exact turnOf_hi _ (by omega) (by omega) w
theorem rot_small' {k : Nat} {p : Int × Int} (h : small p) : small (rot k p) := rot_small k h
theorem trn_small {t : Nat} {p : Int × Int} (h : small p) : small (trn t p) := by
  unfold trn
  split
  · exact rot_small _ h
  · refine rot_small _ ?_
    obtain ⟨⟨h1, h2⟩, h3, h4⟩ := h
    simp only [small]; omega
end Go.Proofs.YtdilcbocnndkmaaGreatDoor
