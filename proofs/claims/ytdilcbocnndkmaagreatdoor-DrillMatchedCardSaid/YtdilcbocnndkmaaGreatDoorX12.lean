/- A part of the proof: see the last file. -/
import Derived.Test.YtdilcbocnndkmaaGreatDoorX9
import Derived.Test.YtdilcbocnndkmaaGreatDoorX11
set_option linter.unusedVariables false
set_option linter.unusedSimpArgs false
set_option linter.unusedSectionVars false
namespace Go.Proofs.YtdilcbocnndkmaaGreatDoor
open Go.RowKit
/-- may the points be asked about: the measure is as defined, and the points are as many, and not too far. -/
def askB (n1 n2 : Nat) (HX HY PX PY : Nat → Int) (r : Int) : Bool := decide (chkE n1 HX HY r = 0) && (decide (n2 = n1) && arB n2 0 PX PY 80)
set_option maxRecDepth 100000 in
set_option maxHeartbeats 2000000 in
theorem Match_bad1 (a1 : Option Addr) (c1 n1 : Nat) (v2 : Value) (HX HY : Nat → Int) (r : Int) (w : World) (hn1 : n1 ≤ 1000) (hp1 : PSc w (.slice a1 n1 c1) n1 HX HY) (h : chkE n1 HX HY r ≠ 0) :
    Calls Tryz.prog 17 #[.agg #[.slice a1 n1 c1, .int .i64 r], v2] w fun e w' => e = .returned (.tuple #[.int .i64 0, .slice none 0 0, .int .i64 2]) ∧ Below w.heap.size w w' := by
  have h1 : Below w.heap.size w (w.alloc (.cells #[.slice a1 n1 c1, .int .i64 r] 24)) := (Below.refl _ _).alloc (Nat.le_refl _) _
  have hca := check_any (.slice a1 n1 c1) n1 HX HY r (w.alloc (.cells #[.slice a1 n1 c1, .int .i64 r] 24)) hn1 ⟨hp1.1.below h1, hp1.2⟩
  generalize chkE n1 HX HY r = e1 at hca h
  have he : (e1 == 0) = false := by simpa using h
  go_enter Tryz.func17, Tryz.ntmps17
  go_wp2_with (first | (go_at_call 18; refine hca.mono ?_; rintro e w1 ⟨rfl, hb1⟩))
  refine bodyPost_ret (v := .tuple #[.int .i64 0, .slice none 0 0, .int .i64 2]) (by simp [results, Tryz.results17, go_sem]) rfl ⟨rfl, h1.trans (hb1.mono (by rw [World.size_alloc]; omega))⟩
set_option maxRecDepth 100000 in
set_option maxHeartbeats 2000000 in
theorem Match_ok (b1 o1 k1 b2 o2 k2 many : Nat) (HX HY PX PY : Nat → Int) (r : Int) (w : World) (hm0 : 1 ≤ many) (hm1 : many ≤ 4) (hr0 : 0 ≤ r) (hr1 : r ≤ 500) (hk : many ≤ k1)
    (hp1 : Pts w b1 o1 many HX HY) (hp2 : Pts w b2 o2 many PX PY) (m1 : b1 < w.heap.size) (m2 : b2 < w.heap.size) (hsm1 : ∀ i, i < many → small (HX i, HY i)) (hsm2 : ∀ i, i < many → small (PX i, PY i)) (h : chkE many HX HY r = 0) (ha : arB many 0 PX PY 80 = true) :
    Calls Tryz.prog 17 #[.agg #[.slice (some ⟨b1, o1, none⟩) many k1, .int .i64 r], .slice (some ⟨b2, o2, none⟩) many k2] w fun e w' => Below w.heap.size w w' ∧
      ((matchS many HX HY PX PY r = none ∧ e = .returned (.tuple #[.int .i64 0, .slice none 0 0, .int .i64 5])) ∨
       (∃ t q v, matchS many HX HY PX PY r = some (t, q) ∧ t < 8 ∧ e = .returned (.tuple #[.int .i64 t, v, .int .i64 0]) ∧ w'.ownsRow w.heap.size 3 1 v many (cellsN q))) := by
  have h1 : Below w.heap.size w (w.alloc (.cells #[.slice (some ⟨b1, o1, none⟩) many k1, .int .i64 r] 24)) := (Below.refl _ _).alloc (Nat.le_refl _) _
  have hsz : (w.alloc (.cells #[.slice (some ⟨b1, o1, none⟩) many k1, .int .i64 r] 24)).heap.size = w.heap.size + 1 := World.size_alloc _ _
  have c0 : (w.alloc (.cells #[.slice (some ⟨b1, o1, none⟩) many k1, .int .i64 r] 24)).cell? ⟨w.heap.size, 0, none⟩ = some (.slice (some ⟨b1, o1, none⟩) many k1) := by have := cells_two w (.slice (some ⟨b1, o1, none⟩) many k1) (.int .i64 r) 24 0 _ rfl; simp [Addr.add]
  have c1 : (w.alloc (.cells #[.slice (some ⟨b1, o1, none⟩) many k1, .int .i64 r] 24)).cell? ⟨w.heap.size, 1, none⟩ = some (.int .i64 r) := by have := cells_two w (.slice (some ⟨b1, o1, none⟩) many k1) (.int .i64 r) 24 1 _ rfl; simp [Addr.add]
  have hca := check_any (.slice (some ⟨b1, o1, none⟩) many k1) many HX HY r (w.alloc (.cells #[.slice (some ⟨b1, o1, none⟩) many k1, .int .i64 r] 24)) (by omega) ⟨.inr ⟨b1, o1, k1, rfl, by omega, hp1.below h1 m1⟩, _, _, rfl, hk⟩
  rw [h] at hca
  go_enter Tryz.func17, Tryz.ntmps17
  go_wp2_with (first
    | (go_at_call 18; refine hca.mono ?_; rintro e w1 ⟨rfl, hb1⟩; have hz1 := hb1.size; have d0 := (hb1.cell (p := ⟨w.heap.size, 0, none⟩) (by show w.heap.size < _; omega)).trans c0; have d1 := (hb1.cell (p := ⟨w.heap.size, 1, none⟩) (by show w.heap.size < _; omega)).trans c1; have hw1 : Below w.heap.size w w1 := h1.trans (hb1.mono (by omega)))
    | (go_at_call 54; refine (are_some b2 o2 many k2 0 PX PY 80 (by omega) (by omega) w1 (by omega) (hp2.below hw1 m2) (by omega)).mono ?_; rw [ha]; rintro e w2 ⟨rfl, hb2⟩; have hz2 := hb2.size; have x0 := (hb2.cell (p := ⟨w.heap.size, 0, none⟩) (by show w.heap.size < _; omega)).trans d0; have x1 := (hb2.cell (p := ⟨w.heap.size, 1, none⟩) (by show w.heap.size < _; omega)).trans d1; have hw2 : Below w.heap.size w w2 := hw1.trans (hb2.mono (by omega)))
    | (go_at_call 55; refine (callsIn_wide.1 (match_in many b1 o1 k1 b2 o2 k2 3 HX HY PX PY r w2 hr0 hr1 hm0 hm1 (hp1.below hw2 m1) (hp2.below hw2 m2) (by omega) (by omega) hsm1 hsm2)).mono ?_; rintro e w3 ⟨hb3, (⟨hno, rfl⟩ | ⟨t, q, v, hyes, ht, rfl, hrow⟩)⟩))
  · refine bodyPost_ret (v := .tuple #[.int .i64 0, .slice none 0 0, .int .i64 5]) (by simp [results, Tryz.results17, go_sem]) rfl ⟨hw2.trans (hb3.mono (by omega)), .inl ⟨hno, rfl⟩⟩
  · refine bodyPost_ret (v := .tuple #[.int .i64 t, v, .int .i64 0]) (by simp [results, Tryz.results17, go_sem]) rfl ⟨hw2.trans (hb3.mono (by omega)), .inr ⟨t, q, v, hyes, ht, rfl, ownsRow_base (by omega) hrow⟩⟩
set_option maxRecDepth 100000 in
set_option maxHeartbeats 2000000 in
theorem Match_bad2 (a1 : Option Addr) (c1 n1 : Nat) (a2 : Option Addr) (c2 n2 : Nat) (HX HY : Nat → Int) (r : Int) (w : World) (hn1 : n1 ≤ 1000) (hp1 : PSc w (.slice a1 n1 c1) n1 HX HY) (h : chkE n1 HX HY r = 0) (hne : n2 ≠ n1) :
    Calls Tryz.prog 17 #[.agg #[.slice a1 n1 c1, .int .i64 r], .slice a2 n2 c2] w fun e w' => e = .returned (.tuple #[.int .i64 0, .slice none 0 0, .int .i64 2]) ∧ Below w.heap.size w w' := by
  have h1 : Below w.heap.size w (w.alloc (.cells #[.slice a1 n1 c1, .int .i64 r] 24)) := (Below.refl _ _).alloc (Nat.le_refl _) _
  have hsz : (w.alloc (.cells #[.slice a1 n1 c1, .int .i64 r] 24)).heap.size = w.heap.size + 1 := World.size_alloc _ _
  have hca := check_any (.slice a1 n1 c1) n1 HX HY r (w.alloc (.cells #[.slice a1 n1 c1, .int .i64 r] 24)) hn1 ⟨hp1.1.below h1, hp1.2⟩
  have cc0 : (w.alloc (.cells #[.slice a1 n1 c1, .int .i64 r] 24)).cell? ⟨w.heap.size, 0, none⟩ = some (.slice a1 n1 c1) := by have := cells_two w (.slice a1 n1 c1) (.int .i64 r) 24 0 _ rfl; simp [Addr.add]
  rw [h] at hca
  have hi : ((n2 : Int) == (n1 : Int)) = false := by simp; omega
  go_enter Tryz.func17, Tryz.ntmps17
  go_wp2_with (first | (go_at_call 18; refine hca.mono ?_; rintro e w1 ⟨rfl, hb1⟩; have d0 := (hb1.cell (p := ⟨w.heap.size, 0, none⟩) (by show w.heap.size < _; omega)).trans cc0))
  refine bodyPost_ret (v := .tuple #[.int .i64 0, .slice none 0 0, .int .i64 2]) (by simp [results, Tryz.results17, go_sem]) rfl ⟨rfl, h1.trans (hb1.mono (by omega))⟩
set_option maxRecDepth 100000 in
set_option maxHeartbeats 2000000 in
theorem Match_bad3 (a1 : Option Addr) (c1 n1 : Nat) (a2 : Option Addr) (c2 : Nat) (HX HY PX PY : Nat → Int) (r : Int) (w : World) (hn1 : n1 ≤ 1000) (hp1 : PSc w (.slice a1 n1 c1) n1 HX HY) (hp2 : PSl w (.slice a2 n1 c2) n1 PX PY) (h : chkE n1 HX HY r = 0) (ha : arB n1 0 PX PY 80 = false) :
    Calls Tryz.prog 17 #[.agg #[.slice a1 n1 c1, .int .i64 r], .slice a2 n1 c2] w fun e w' => e = .returned (.tuple #[.int .i64 0, .slice none 0 0, .int .i64 2]) ∧ Below w.heap.size w w' := by
  have h1 : Below w.heap.size w (w.alloc (.cells #[.slice a1 n1 c1, .int .i64 r] 24)) := (Below.refl _ _).alloc (Nat.le_refl _) _
  have hsz : (w.alloc (.cells #[.slice a1 n1 c1, .int .i64 r] 24)).heap.size = w.heap.size + 1 := World.size_alloc _ _
  have hca := check_any (.slice a1 n1 c1) n1 HX HY r (w.alloc (.cells #[.slice a1 n1 c1, .int .i64 r] 24)) hn1 ⟨hp1.1.below h1, hp1.2⟩
  have cc0 : (w.alloc (.cells #[.slice a1 n1 c1, .int .i64 r] 24)).cell? ⟨w.heap.size, 0, none⟩ = some (.slice a1 n1 c1) := by have := cells_two w (.slice a1 n1 c1) (.int .i64 r) 24 0 _ rfl; simp [Addr.add]
  rw [h] at hca
  go_enter Tryz.func17, Tryz.ntmps17
  go_wp2_with (first
    | (go_at_call 18; refine hca.mono ?_; rintro e w1 ⟨rfl, hb1⟩; have d0 := (hb1.cell (p := ⟨w.heap.size, 0, none⟩) (by show w.heap.size < _; omega)).trans cc0; have hw1 : Below w.heap.size w w1 := h1.trans (hb1.mono (by omega)))
    | (go_at_call 54; refine (are_any (.slice a2 n1 c2) n1 0 PX PY 80 (by omega) (by omega) w1 hn1 (hp2.below hw1)).mono ?_; rw [ha]; rintro e w2 ⟨rfl, hb2⟩))
  refine bodyPost_ret (v := .tuple #[.int .i64 0, .slice none 0 0, .int .i64 2]) (by simp [results, Tryz.results17, go_sem]) rfl ⟨rfl, hw1.trans (hb2.mono hw1.size)⟩
end Go.Proofs.YtdilcbocnndkmaaGreatDoor
