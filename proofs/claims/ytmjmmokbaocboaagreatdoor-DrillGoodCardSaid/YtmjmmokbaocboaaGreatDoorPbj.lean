/- A part of the proof: see the last file. -/
import Derived.Test.YtmjmmokbaocboaaGreatDoorPbi
import Derived.Test.YtmjmmokbaocboaaGreatDoorPao
import Derived.Test.YtmjmmokbaocboaaGreatDoorPae
import Derived.Test.YtmjmmokbaocboaaGreatDoorPaa
import Derived.Test.YtmjmmokbaocboaaGreatDoorPap
set_option linter.unusedVariables false
set_option linter.unusedSimpArgs false
set_option linter.unusedSectionVars false
namespace Go.Proofs.YtmjmmokbaocboaaGreatDoor
open Go.RowKit Go.Can
end Go.Proofs.YtmjmmokbaocboaaGreatDoor
namespace Go.Proofs.YtmjmmokbaocboaaGreatDoor
open Go.RowKit Go.Can
set_option maxRecDepth 100000 in
set_option maxHeartbeats 400000 in
theorem measure_nil (a : Option Addr) (c : Nat) (X Y : Nat → Int) (r : Int) (w : World) :
    Calls Tryz.prog 16 #[.agg #[.slice a 0 c, .int .i64 r]] w fun e w' => e = .returned (.bool (measB 0 X Y r)) ∧ Below w.heap.size w w' := by
  obtain ⟨w0, hw⟩ : ∃ w0, w.alloc (.cells #[.slice a 0 c, .int .i64 r] 24) = w0 := ⟨_, rfl⟩
  have hw0 : Below w.heap.size w w0 := by rw [← hw]; exact (Below.refl _ _).alloc (Nat.le_refl _) _
  have c0 : w0.cell? ⟨w.heap.size, 0, none⟩ = some (.slice a 0 c) := by rw [← hw]; have := cells_two w (.slice a 0 c) (.int .i64 r) 24 0 _ rfl; simp [Addr.add]
  have hpn : ponB 0 2 4 X Y 20 = false := by unfold ponB; rw [show inB ((0 : Nat) : Int) 2 4 = false from inB_no1 (by decide)]; simp
  have hm : measB 0 X Y r = false := by unfold measB; rw [hpn]; simp
  rw [hm]
  go_enter Tryz.func16, Tryz.ntmps16
  go_wp2
  refine wp_loop_rounds 1 ?_
  rw [rounds_succ]
  go_wp2_with (go_at_call 56; refine (points_nil a c 2 4 X Y 20 _).mono ?_; rw [hpn]; rintro e w' ⟨rfl, rfl⟩)
  go_ret
  exact ⟨rfl, hw0⟩
theorem measure_any (v : Value) (n : Nat) (X Y : Nat → Int) (r : Int) (w : World) (hn : n ≤ 1000) (hp : PSl w v n X Y) :
    Calls Tryz.prog 16 #[.agg #[v, .int .i64 r]] w fun e w' => e = .returned (.bool (measB n X Y r)) ∧ Below w.heap.size w w' := by
  rcases hp with ⟨a, c, rfl, rfl⟩ | ⟨b, off, cap, rfl, hb, hp⟩
  · exact measure_nil a c X Y r w
  · exact measure_some b off n cap X Y r w hn hp hb
/-! ### Match, case by case -/
theorem PSl_pos {w : World} {v : Value} {n : Nat} {X Y : Nat → Int} (h : PSl w v n X Y) (hn : 1 ≤ n) : ∃ b off cap, v = .slice (some ⟨b, off, none⟩) n cap ∧ b < w.heap.size ∧ Pts w b off n X Y := by
  rcases h with ⟨a, c, _, h2⟩ | h
  · omega
  · exact h
theorem arB_smalls {n : Nat} {X Y : Nat → Int} (h : arB n 0 X Y 80 = true) : ∀ i, i < n → small (X i, Y i) := fun i hi => arB_small h i hi
theorem Match_none (a1 : Option Addr) (c1 n : Nat) (a2 : Option Addr) (c2 : Nat) (HX HY PX PY : Nat → Int) (r : Int) (w : World) (hp1 : PSc w (.slice a1 n c1) n HX HY) (hp2 : PSl w (.slice a2 n c2) n PX PY) (h : measB n HX HY r = true) (ha : arB n 0 PX PY 80 = true) (hno : matchS n HX HY PX PY r = none) :
    Calls Tryz.prog 22 #[.agg #[.slice a1 n c1, .int .i64 r], .slice a2 n c2] w fun e w' => e = .returned (.tuple #[.int .i64 0, .slice none 0 0, .int .i64 5]) ∧ Below w.heap.size w w' := by
  obtain ⟨⟨q1, q2⟩, ⟨q3, q4⟩, q5⟩ := meas_parts h
  obtain ⟨hp1, _, cc, hcc, hle⟩ := hp1
  cases hcc
  obtain ⟨b1, o1, k1, e1, l1, p1⟩ := PSl_pos hp1 (by omega)
  obtain ⟨b2, o2, k2, e2, l2, p2⟩ := PSl_pos hp2 (by omega)
  cases e1; cases e2
  refine (Match_ok b1 o1 c1 b2 o2 c2 n HX HY PX PY r w (by omega) (by omega) (by omega) (by omega) hle p1 p2 l1 l2 q5 (arB_smalls ha) (by rw [chk_meas, h]; rfl) ha).mono ?_
  rintro e w' ⟨hb, ⟨_, he⟩ | ⟨t, q, v, hs, _⟩⟩
  · exact ⟨he, hb⟩
  · rw [hno] at hs; cases hs
theorem Match_some (a1 : Option Addr) (c1 n : Nat) (a2 : Option Addr) (c2 : Nat) (HX HY PX PY : Nat → Int) (r : Int) (w : World) (t : Nat) (q : List Nat) (hp1 : PSc w (.slice a1 n c1) n HX HY) (hp2 : PSl w (.slice a2 n c2) n PX PY) (h : measB n HX HY r = true) (ha : arB n 0 PX PY 80 = true) (hyes : matchS n HX HY PX PY r = some (t, q)) :
    Calls Tryz.prog 22 #[.agg #[.slice a1 n c1, .int .i64 r], .slice a2 n c2] w fun e w' => ∃ b cap, e = .returned (.tuple #[.int .i64 t, .slice (some ⟨b, 0, none⟩) n cap, .int .i64 0]) ∧ OrdAt w' b 0 n q ∧ b < w'.heap.size ∧ Below w.heap.size w w' := by
  obtain ⟨⟨q1, q2⟩, ⟨q3, q4⟩, q5⟩ := meas_parts h
  obtain ⟨hp1, _, cc, hcc, hle⟩ := hp1
  cases hcc
  obtain ⟨b1, o1, k1, e1, l1, p1⟩ := PSl_pos hp1 (by omega)
  obtain ⟨b2, o2, k2, e2, l2, p2⟩ := PSl_pos hp2 (by omega)
  cases e1; cases e2
  refine (Match_ok b1 o1 c1 b2 o2 c2 n HX HY PX PY r w (by omega) (by omega) (by omega) (by omega) hle p1 p2 l1 l2 q5 (arB_smalls ha) (by rw [chk_meas, h]; rfl) ha).mono ?_
  rintro e w' ⟨hb, ⟨hs, _⟩ | ⟨t', q', v, hs, _, he, hrow⟩⟩
  · rw [hyes] at hs; cases hs
  · rw [hyes] at hs
    cases hs
    rcases ownsRow_lt hrow with ⟨_, h0⟩ | ⟨g, cap, hv, hg, hcell⟩
    · omega
    · have hlen := hrow.1
      refine ⟨g, cap, by rw [he, hv], fun i hi => ?_, hg, hb⟩
      have hql : q.length = n := by
        obtain ⟨hx, _⟩ := hrow
        simpa [cellsN] using hx
      rw [Nat.zero_add]
      exact hcell i _ (by simp [cellsN, List.getD, hql, hi])
end Go.Proofs.YtmjmmokbaocboaaGreatDoor
namespace Go.Proofs.YtmjmmokbaocboaaGreatDoor
open Go.RowKit
end Go.Proofs.YtmjmmokbaocboaaGreatDoor
namespace Go.Proofs.YtmjmmokbaocboaaGreatDoor
open Go.RowKit
end Go.Proofs.YtmjmmokbaocboaaGreatDoor
namespace Go.Proofs.YtmjmmokbaocboaaGreatDoor
open Go.RowKit Go.Can
end Go.Proofs.YtmjmmokbaocboaaGreatDoor
namespace Go.Proofs.YtmjmmokbaocboaaGreatDoor
open Go.RowKit
/-- a measure, a machine and two spans. -/
structure RSX (w W : World) (m : Mach) (v1 : Value) (r : Int) (xb yb : Nat) (x0 x1 y0 y1 : Int) : Prop where
  sx : SX w W m v1 r
  tx : Two W xb x0 x1
  ty : Two W yb y0 y1
  lx : xb < W.heap.size
  ly : yb < W.heap.size
theorem RSX.below {w W W' : World} {m : Mach} {v1 : Value} {r : Int} {xb yb : Nat} {x0 x1 y0 y1 : Int} (h : RSX w W m v1 r xb yb x0 x1 y0 y1) (hb : Below W.heap.size W W') : RSX w W' m v1 r xb yb x0 x1 y0 y1 :=
  ⟨h.sx.below hb, h.tx.below hb h.lx, h.ty.below hb h.ly, Nat.lt_of_lt_of_le h.lx hb.size, Nat.lt_of_lt_of_le h.ly hb.size⟩
end Go.Proofs.YtmjmmokbaocboaaGreatDoor
