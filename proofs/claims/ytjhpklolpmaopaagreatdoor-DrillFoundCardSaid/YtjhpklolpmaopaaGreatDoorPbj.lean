/- A part of the proof: see the last file. -/
import Derived.Test.YtjhpklolpmaopaaGreatDoorPbe
import Derived.Test.YtjhpklolpmaopaaGreatDoorPak
import Derived.Test.YtjhpklolpmaopaaGreatDoorPbf
import Derived.Test.YtjhpklolpmaopaaGreatDoorPbd
import Derived.Test.YtjhpklolpmaopaaGreatDoorPbi
import Derived.Test.YtjhpklolpmaopaaGreatDoorPbh
set_option linter.unusedVariables false
set_option linter.unusedSimpArgs false
set_option linter.unusedSectionVars false
namespace Go.Proofs.YtjhpklolpmaopaaGreatDoor
open Go.RowKit
theorem Able.which {m : Mach} {fine : Bool} {er : Int} (h : Able m fine er) : (er = 2 ∧ (m.ok && fine) = false) ∨ (er = 7 ∧ (m.ok && fine) = true ∧ ¬ m.can) ∨ (er = 0 ∧ (m.ok && fine) = true ∧ m.can) := by
 cases hf : (m.ok && fine) with
 | false => exact .inl ⟨h.arg hf, rfl⟩
 | true =>
  by_cases hc : m.can
  ·exact .inr (.inr ⟨h.ok hf hc, rfl, hc⟩)
  ·exact .inr (.inl ⟨h.rule hf hc, rfl, hc⟩)
theorem stops_in {m : Mach} (hok : m.ok = true) : 2 ≤ m.sn ∧ m.sn ≤ 4 ∧ ∀ i, i < m.sn → (-20 ≤ m.SX i ∧ m.SX i ≤ 20) ∧ (-20 ≤ m.SY i ∧ m.SY i ≤ 20) := by
 have hst := (Mach.ok_parts hok).1
 unfold Mach.okStops arB at hst
 rw [Bool.and_eq_true, allB_iff, inB_iff] at hst
 refine ⟨by omega, by omega, fun i hi => ?_⟩
 have := hst.2 i hi
 unfold ptB at this
 rw [Bool.and_eq_true, inB_iff, inB_iff] at this
 omega
end Go.Proofs.YtjhpklolpmaopaaGreatDoor
namespace Go.Proofs.YtjhpklolpmaopaaGreatDoor
open Go.RowKit
end Go.Proofs.YtjhpklolpmaopaaGreatDoor
namespace Go.Proofs.YtjhpklolpmaopaaGreatDoor
open Go.RowKit
end Go.Proofs.YtjhpklolpmaopaaGreatDoor
namespace Go.Proofs.YtjhpklolpmaopaaGreatDoor
open Go.RowKit
set_option maxRecDepth 100000 in
set_option maxHeartbeats 1000000 in
theorem slim_any (m : Mach) (w : World) (hs : m.sn ≤ 9223372036854775807) (hr : m.rn ≤ 9223372036854775807) :
  Calls Tryz.prog 5 #[m.val] w fun e w' => e = .returned (.bool (decide (m.sn ≤ 6) && decide (m.rn ≤ 6))) ∧ Below w.heap.size w w' := by
 obtain ⟨W0, hW⟩ : ∃ W0, w.alloc (.cells #[.slice m.sa m.sn m.sc, .int .i64 m.c0, .int .i64 m.c1, .int .i64 m.d0, .int .i64 m.d1, .int .i64 m.w0, .int .i64 m.w1, .int .i64 m.v0, .int .i64 m.v1, .slice m.ra m.rn m.rc] 27) = W0 := ⟨_, rfl⟩
 have hb0 : Below w.heap.size w W0 := by rw [← hW]; exact (Below.refl _ _).alloc (Nat.le_refl _) _
 have hMB : MAt W0 w.heap.size m := by rw [← hW]; exact MAt.new w m
 obtain ⟨q0, q1, q2, q3, q4, q5, q6, q7, q8, q9⟩ := hMB
 by_cases h1 : m.sn ≤ 6
 ·have h1' : (m.sn : Int) ≤ 6 := by omega
  by_cases h2 : m.rn ≤ 6
  ·have h2' : (m.rn : Int) ≤ 6 := by omega
   go_enter Tryz.func5, Tryz.ntmps5
   go_wp2
   go_ret
   exact ⟨ret_bool (by simp [h1, h2, h1', h2']), hb0⟩
  ·have h2' : ¬ (m.rn : Int) ≤ 6 := by omega
   go_enter Tryz.func5, Tryz.ntmps5
   go_wp2
   go_ret
   exact ⟨ret_bool (by simp [h1, h2, h1', h2']), hb0⟩
 ·have h1' : ¬ (m.sn : Int) ≤ 6 := by omega
  go_enter Tryz.func5, Tryz.ntmps5
  go_wp2
  go_ret
  exact ⟨ret_bool (by simp [h1, h1']), hb0⟩
set_option maxRecDepth 100000 in
set_option maxHeartbeats 1000000 in
theorem brief_any (a1 : Option Addr) (n1 c1 : Nat) (a2 : Option Addr) (n2 c2 : Nat) (w : World) (h1 : n1 ≤ 9223372036854775807) (h2 : n2 ≤ 9223372036854775807) :
  Calls Tryz.prog 6 #[.agg #[.slice a1 n1 c1, .slice a2 n2 c2]] w fun e w' => e = .returned (.bool (decide (n1 ≤ 15) && decide (n2 ≤ 15))) ∧ Below w.heap.size w w' := by
 obtain ⟨W0, hW⟩ : ∃ W0, w.alloc (.cells #[.slice a1 n1 c1, .slice a2 n2 c2] 30) = W0 := ⟨_, rfl⟩
 have hw0 : Below w.heap.size w W0 := by rw [← hW]; exact (Below.refl _ _).alloc (Nat.le_refl _) _
 have k0 : W0.cell? ⟨w.heap.size, 0, none⟩ = some (.slice a1 n1 c1) := by rw [← hW]; exact cells_new w _ _ rfl
 have k1 : W0.cell? ⟨w.heap.size, 1, none⟩ = some (.slice a2 n2 c2) := by rw [← hW]; exact cells_new w _ _ rfl
 by_cases h1 : n1 ≤ 15
 ·have h1' : (n1 : Int) ≤ 15 := by omega
  by_cases h2 : n2 ≤ 15
  ·have h2' : (n2 : Int) ≤ 15 := by omega
   go_enter Tryz.func6, Tryz.ntmps6
   go_wp2
   go_ret
   exact ⟨ret_bool (by simp [h1, h2, h1', h2']), hw0⟩
  ·have h2' : ¬ (n2 : Int) ≤ 15 := by omega
   go_enter Tryz.func6, Tryz.ntmps6
   go_wp2
   go_ret
   exact ⟨ret_bool (by simp [h1, h2, h1', h2']), hw0⟩
 ·have h1' : ¬ (n1 : Int) ≤ 15 := by omega
  go_enter Tryz.func6, Tryz.ntmps6
  go_wp2
  go_ret
  exact ⟨ret_bool (by simp [h1, h1']), hw0⟩
/-- a point of the law. -/
theorem lat_any (x y : Int) (w : World) : Calls Tryz.prog 15 #[.int .i64 x, .int .i64 y] w fun e w' => e = .returned (.agg #[.int .i64 x, .int .i64 y]) ∧ Below w.heap.size w w' := by
 go_enter Tryz.func15, Tryz.ntmps15
 go_wp2
 refine bodyPost_ret (v := .agg #[.int .i64 x, .int .i64 y]) (by simp [results, Tryz.results15, go_sem]) rfl ⟨rfl, ?_⟩
 exact (Below.refl _ _).alloc (Nat.le_refl _) _
/-! ### what Known and Machine answer, in one form -/
end Go.Proofs.YtjhpklolpmaopaaGreatDoor
namespace Go.Proofs.YtjhpklolpmaopaaGreatDoor
open Go.RowKit Go.Can
/-- the blocks of a machine and a truth. -/
structure MX (w W : World) (m : Mach) (a1 : Option Addr) (n1 c1 : Nat) (a2 : Option Addr) (n2 c2 : Nat) : Prop where
 mach : MAt W w.heap.size m
 x0 : W.cell? ⟨w.heap.size + 1, 0, none⟩ = some (.slice a1 n1 c1)
 x1 : W.cell? ⟨w.heap.size + 1, 1, none⟩ = some (.slice a2 n2 c2)
 old : Below w.heap.size w W
 big : w.heap.size + 2 ≤ W.heap.size
theorem MX.new (w : World) (m : Mach) (a1 : Option Addr) (n1 c1 : Nat) (a2 : Option Addr) (n2 c2 : Nat) : MX w ((w.alloc (.cells #[.slice m.sa m.sn m.sc, .int .i64 m.c0, .int .i64 m.c1, .int .i64 m.d0, .int .i64 m.d1, .int .i64 m.w0, .int .i64 m.w1, .int .i64 m.v0, .int .i64 m.v1, .slice m.ra m.rn m.rc] 27)).alloc (.cells #[.slice a1 n1 c1, .slice a2 n2 c2] 30)) m a1 n1 c1 a2 n2 c2 := by
 refine ⟨(MAt.new w m).below ((Below.refl _ _).alloc (Nat.le_refl _) _) (by rw [World.size_alloc]; omega), ?_, ?_, ((Below.refl _ _).alloc (Nat.le_refl _) _).alloc (by rw [World.size_alloc]; omega) _, by rw [World.size_alloc, World.size_alloc]; omega⟩
 ·have h := cells_new (w.alloc (.cells #[.slice m.sa m.sn m.sc, .int .i64 m.c0, .int .i64 m.c1, .int .i64 m.d0, .int .i64 m.d1, .int .i64 m.w0, .int .i64 m.w1, .int .i64 m.v0, .int .i64 m.v1, .slice m.ra m.rn m.rc] 27)) #[.slice a1 n1 c1, .slice a2 n2 c2] 30 (j := 0) rfl
  rw [World.size_alloc] at h; exact h
 ·have h := cells_new (w.alloc (.cells #[.slice m.sa m.sn m.sc, .int .i64 m.c0, .int .i64 m.c1, .int .i64 m.d0, .int .i64 m.d1, .int .i64 m.w0, .int .i64 m.w1, .int .i64 m.v0, .int .i64 m.v1, .slice m.ra m.rn m.rc] 27)) #[.slice a1 n1 c1, .slice a2 n2 c2] 30 (j := 1) rfl
  rw [World.size_alloc] at h; exact h
theorem MX.below {w W W' : World} {m : Mach} {a1 : Option Addr} {n1 c1 : Nat} {a2 : Option Addr} {n2 c2 : Nat} (h : MX w W m a1 n1 c1 a2 n2 c2) (hb : Below W.heap.size W W') : MX w W' m a1 n1 c1 a2 n2 c2 :=
 have hg := h.big
 ⟨h.mach.below hb (by omega), (hb.cell (p := ⟨w.heap.size + 1, 0, none⟩) (by show w.heap.size + 1 < _; omega)).trans h.x0, (hb.cell (p := ⟨w.heap.size + 1, 1, none⟩) (by show w.heap.size + 1 < _; omega)).trans h.x1, h.old.trans (hb.mono h.old.size), Nat.le_trans h.big hb.size⟩
end Go.Proofs.YtjhpklolpmaopaaGreatDoor
namespace Go.Proofs.YtjhpklolpmaopaaGreatDoor
open Go.RowKit Go.Can
theorem MX.two {w W : World} {m : Mach} {a1 : Option Addr} {n1 c1 : Nat} {a2 : Option Addr} {n2 c2 : Nat} (h : MX w W m a1 n1 c1 a2 n2 c2) (o1 o2 : Obj) : MX w ((W.alloc o1).alloc o2) m a1 n1 c1 a2 n2 c2 :=
 (h.below ((Below.refl _ W).alloc (Nat.le_refl _) o1)).below ((Below.refl _ _).alloc (Nat.le_refl _) o2)
end Go.Proofs.YtjhpklolpmaopaaGreatDoor
namespace Go.Proofs.YtjhpklolpmaopaaGreatDoor
open Go.RowKit Go.Can
/-- two spans in blocks of their own. -/
structure AB (W : World) (s : Nat) (x0 x1 z0 z1 : Int) : Prop where
 a0 : W.cell? ⟨s, 0, none⟩ = some (.int .i64 x0)
 a1 : W.cell? ⟨s, 1, none⟩ = some (.int .i64 x1)
 b0 : W.cell? ⟨s + 1, 0, none⟩ = some (.int .i64 z0)
 b1 : W.cell? ⟨s + 1, 1, none⟩ = some (.int .i64 z1)
 big : s + 2 ≤ W.heap.size
theorem AB.new (w : World) (x0 x1 z0 z1 : Int) (t : TypeId) : AB ((w.alloc (Obj.cells #[.int .i64 x0, .int .i64 x1] t)).alloc (Obj.cells #[.int .i64 z0, .int .i64 z1] t)) w.heap.size x0 x1 z0 z1 := by
 have hb : Below (w.alloc (Obj.cells #[.int .i64 x0, .int .i64 x1] t)).heap.size (w.alloc (Obj.cells #[.int .i64 x0, .int .i64 x1] t)) ((w.alloc (Obj.cells #[.int .i64 x0, .int .i64 x1] t)).alloc (Obj.cells #[.int .i64 z0, .int .i64 z1] t)) := (Below.refl _ _).alloc (Nat.le_refl _) _
 have hs := World.size_alloc w (Obj.cells #[.int .i64 x0, .int .i64 x1] t)
 refine ⟨?_, ?_, ?_, ?_, by rw [World.size_alloc, World.size_alloc]; omega⟩
 ·exact (hb.cell (p := ⟨w.heap.size, 0, none⟩) (by show w.heap.size < _; omega)).trans (cells_new w _ _ rfl)
 ·exact (hb.cell (p := ⟨w.heap.size, 1, none⟩) (by show w.heap.size < _; omega)).trans (cells_new w _ _ rfl)
 ·have := cells_new (w.alloc (Obj.cells #[.int .i64 x0, .int .i64 x1] t)) #[.int .i64 z0, .int .i64 z1] t (j := 0) rfl
  rw [hs] at this; exact this
 ·have := cells_new (w.alloc (Obj.cells #[.int .i64 x0, .int .i64 x1] t)) #[.int .i64 z0, .int .i64 z1] t (j := 1) rfl
  rw [hs] at this; exact this
theorem AB.below {W W' : World} {s : Nat} {x0 x1 z0 z1 : Int} (h : AB W s x0 x1 z0 z1) (hb : Below W.heap.size W W') : AB W' s x0 x1 z0 z1 :=
 have hg := h.big
 ⟨(hb.cell (p := ⟨s, 0, none⟩) (by show s < _; omega)).trans h.a0, (hb.cell (p := ⟨s, 1, none⟩) (by show s < _; omega)).trans h.a1, (hb.cell (p := ⟨s + 1, 0, none⟩) (by show s + 1 < _; omega)).trans h.b0, (hb.cell (p := ⟨s + 1, 1, none⟩) (by show s + 1 < _; omega)).trans h.b1, Nat.le_trans h.big hb.size⟩
end Go.Proofs.YtjhpklolpmaopaaGreatDoor
namespace Go.Proofs.YtjhpklolpmaopaaGreatDoor
open Go.RowKit Go.Can
set_option maxRecDepth 100000 in
set_option maxHeartbeats 400000 in
theorem order_nil (a : Option Addr) (c : Nat) (F : Nat → Int) (m : Int) (w : World) :
  Calls Tryz.prog 11 #[.slice a 0 c, .int .i64 m] w fun e w' => e = .returned (.bool (ordB 0 F m)) ∧ Below w.heap.size w w' := by
 have he : ordB 0 F m = decide (((0 : Nat) : Int) = m) := ordB_end fun i hi => absurd hi (Nat.not_lt_zero i)
 rw [he]
 go_enter Tryz.func11, Tryz.ntmps11
 go_wp2
 refine wp_loop_rounds 1 ?_
 rw [rounds_succ]
 go_wp2
 go_ret
 exact ⟨rfl, Below.refl _ _⟩
theorem order_any (v : Value) (n : Nat) (F : Nat → Int) (m : Int) (w : World) (hn : n ≤ 1000) (hm0 : 0 ≤ m) (hm1 : m ≤ 1000) (h : IntsSl w v n F) :
  Calls Tryz.prog 11 #[v, .int .i64 m] w fun e w' => e = .returned (.bool (ordB n F m)) ∧ Below w.heap.size w w' := by
 rcases h with ⟨a, c, rfl, rfl⟩ | ⟨b, off, cap, rfl, hb, hp⟩
 ·exact order_nil a c F m w
 ·exact order_some b off n cap F m w hn hm0 hm1 hp hb
theorem IntsSl.below {w w' : World} {v : Value} {n : Nat} {F : Nat → Int} (h : IntsSl w v n F) (hb : Below w.heap.size w w') : IntsSl w' v n F := by
 rcases h with h | ⟨b, off, cap, h1, h2, h3⟩
 ·exact .inl h
 ·exact .inr ⟨b, off, cap, h1, Nat.lt_of_lt_of_le h2 hb.size, fun i hi => (hb.cell (p := ⟨b, off + i, none⟩) h2).trans (h3 i hi)⟩
end Go.Proofs.YtjhpklolpmaopaaGreatDoor
namespace Go.Proofs.YtjhpklolpmaopaaGreatDoor
open Go.RowKit Go.Can
theorem turns_in (n : Int) (w : World) :
  Calls Tryz.prog 10 #[.int .i64 n] w fun e w' => e = .returned (.bool (inB n 0 7)) ∧ w = w' := by
 go_enter Tryz.func10, Tryz.ntmps10
 go_wp2_with (go_at_call 25; refine (in_any _ _ _ _).mono ?_; rintro e w' ⟨rfl, rfl⟩)
 go_ret
 exact ⟨rfl, rfl⟩
/-- all that the law of what is found asks of its arguments. -/
structure FoundOk (m : Mach) (n1 n2 : Nat) (F G : Nat → Int) (bk tn : Int) (n3 : Nat) (Q : Nat → Int) (n4 : Nat) (mo ot : Int) : Prop where
 g1 : (decide (m.sn ≤ 6) && decide (m.rn ≤ 6)) = true
 g2 : (decide (n1 ≤ 15) && decide (n2 ≤ 15)) = true
 g3 : n3 ≤ 6
 g4 : n4 ≤ 12
 g5 : m.ok = true
 g6 : (offB n1 F && offB n2 G) = true
 g7 : inB bk 1 12 = true
 g8 : inB ot 0 12 = true
 g9 : inB tn 0 7 = true
 g10 : ordB n3 Q m.sn = true
 g11 : n4 = 2 * m.sn
 g12 : 0 ≤ mo
 g13 : mo ≤ 4
set_option maxRecDepth 100000 in
set_option maxHeartbeats 8000000 in
theorem found_odd (m : Mach) (a1 : Option Addr) (n1 c1 : Nat) (a2 : Option Addr) (n2 c2 : Nat) (F G : Nat → Int) (bk tn : Int) (a3 : Option Addr) (n3 c3 : Nat) (Q : Nat → Int) (a4 : Option Addr) (n4 c4 : Nat) (R : Nat → Int) (mo ot : Int) (w : World) (hk : KG w) (hs : m.sn ≤ 9223372036854775807) (hr : m.rn ≤ 9223372036854775807) (h1 : n1 ≤ 9223372036854775807) (h2 : n2 ≤ 9223372036854775807) (h3 : n3 ≤ 9223372036854775807) (h4 : n4 ≤ 9223372036854775807) (h : MIn w m) (hF : IntsSl w (.slice a1 n1 c1) n1 F) (hG : IntsSl w (.slice a2 n2 c2) n2 G) (hQ : IntsSl w (.slice a3 n3 c3) n3 Q) (hR : IntsSl w (.slice a4 n4 c4) n4 R) (hno : ¬ FoundOk m n1 n2 F G bk tn n3 Q n4 mo ot) :
  Calls Tryz.prog 3 #[m.val, .agg #[.slice a1 n1 c1, .slice a2 n2 c2], .int .i64 bk, .int .i64 tn, .slice a3 n3 c3, .slice a4 n4 c4, .int .i64 mo, .int .i64 ot] w fun e w' => e = .returned (.bool true) ∧ Below w.heap.size w w' := by
 obtain ⟨W0, hW⟩ : ∃ W0, (w.alloc (.cells #[.slice m.sa m.sn m.sc, .int .i64 m.c0, .int .i64 m.c1, .int .i64 m.d0, .int .i64 m.d1, .int .i64 m.w0, .int .i64 m.w1, .int .i64 m.v0, .int .i64 m.v1, .slice m.ra m.rn m.rc] 27)).alloc (.cells #[.slice a1 n1 c1, .slice a2 n2 c2] 30) = W0 := ⟨_, rfl⟩
 have hX : MX w W0 m a1 n1 c1 a2 n2 c2 := by rw [← hW]; exact MX.new w m a1 n1 c1 a2 n2 c2
 have hsl := fun (W : World) => slim_any m W hs hr
 have hbr := fun (W : World) => brief_any a1 n1 c1 a2 n2 c2 W h1 h2
 have hba := fun (W : World) => rblank_any bk 1 W
 have hbo := fun (W : World) => rblank_any ot 0 W
 have htu := fun (W : World) => turns_in tn W
 obtain ⟨⟨q0, q1, q2, q3, q4, q5, q6, q7, q8, q9⟩, y0, y1, _, _⟩ := id hX
 cases k1 : (decide (m.sn ≤ 6) && decide (m.rn ≤ 6)) with
 | false =>
  rw [k1] at hsl
  clear hno hbr hba hbo htu k1
  go_enter Tryz.func3, Tryz.ntmps3
  go_wp2_with (first
   | (go_at_call 5; with_reducible refine (hsl _).mono ?_; rintro e w1 ⟨rfl, hb⟩; replace hX := hX.below hb; obtain ⟨⟨q0, q1, q2, q3, q4, q5, q6, q7, q8, q9⟩, y0, y1, _, _⟩ := id hX)
   | (go_at_call 12; refine (known_ok _ (hk.below hX.old)).mono ?_; rintro e w1 ⟨rfl, hb⟩; replace hX := hX.below hb))
  go_ret
  exact ⟨rfl, hX.old⟩
 | true =>
 rw [k1] at hsl
 obtain ⟨l1, l2⟩ : m.sn ≤ 6 ∧ m.rn ≤ 6 := by simpa using k1
 cases k2 : (decide (n1 ≤ 15) && decide (n2 ≤ 15)) with
 | false =>
  rw [k2] at hbr
  clear hno hba hbo htu k1 k2
  go_enter Tryz.func3, Tryz.ntmps3
  go_wp2_with (first
   | (go_at_call 5; with_reducible refine (hsl _).mono ?_; rintro e w1 ⟨rfl, hb⟩; replace hX := hX.below hb; obtain ⟨⟨q0, q1, q2, q3, q4, q5, q6, q7, q8, q9⟩, y0, y1, _, _⟩ := id hX)
   | (go_at_call 6; with_reducible refine (hbr _).mono ?_; rintro e w1 ⟨rfl, hb⟩; replace hX := hX.below hb; obtain ⟨⟨q0, q1, q2, q3, q4, q5, q6, q7, q8, q9⟩, y0, y1, _, _⟩ := id hX)
   | (go_at_call 12; refine (known_ok _ (hk.below hX.old)).mono ?_; rintro e w1 ⟨rfl, hb⟩; replace hX := hX.below hb))
  go_ret
  exact ⟨rfl, hX.old⟩
 | true =>
 rw [k2] at hbr
 obtain ⟨l3, l4⟩ : n1 ≤ 15 ∧ n2 ≤ 15 := by simpa using k2
 by_cases k3 : n3 ≤ 6
 case neg =>
  have c3' : (6 : Int) < (n3 : Int) := by omega
  clear hno hba hbo htu k1 k2
  go_enter Tryz.func3, Tryz.ntmps3
  go_wp2_with (first
   | (go_at_call 5; with_reducible refine (hsl _).mono ?_; rintro e w1 ⟨rfl, hb⟩; replace hX := hX.below hb; obtain ⟨⟨q0, q1, q2, q3, q4, q5, q6, q7, q8, q9⟩, y0, y1, _, _⟩ := id hX)
   | (go_at_call 6; with_reducible refine (hbr _).mono ?_; rintro e w1 ⟨rfl, hb⟩; replace hX := hX.below hb; obtain ⟨⟨q0, q1, q2, q3, q4, q5, q6, q7, q8, q9⟩, y0, y1, _, _⟩ := id hX)
   | (go_at_call 12; refine (known_ok _ (hk.below hX.old)).mono ?_; rintro e w1 ⟨rfl, hb⟩; replace hX := hX.below hb))
  go_ret
  exact ⟨rfl, hX.old⟩
 have c3' : ¬ (6 : Int) < (n3 : Int) := by omega
 by_cases k4 : n4 ≤ 12
 case neg =>
  have c4' : (12 : Int) < (n4 : Int) := by omega
  clear hno hba hbo htu k1 k2
  go_enter Tryz.func3, Tryz.ntmps3
  go_wp2_with (first
   | (go_at_call 5; with_reducible refine (hsl _).mono ?_; rintro e w1 ⟨rfl, hb⟩; replace hX := hX.below hb; obtain ⟨⟨q0, q1, q2, q3, q4, q5, q6, q7, q8, q9⟩, y0, y1, _, _⟩ := id hX)
   | (go_at_call 6; with_reducible refine (hbr _).mono ?_; rintro e w1 ⟨rfl, hb⟩; replace hX := hX.below hb; obtain ⟨⟨q0, q1, q2, q3, q4, q5, q6, q7, q8, q9⟩, y0, y1, _, _⟩ := id hX)
   | (go_at_call 12; refine (known_ok _ (hk.below hX.old)).mono ?_; rintro e w1 ⟨rfl, hb⟩; replace hX := hX.below hb))
  go_ret
  exact ⟨rfl, hX.old⟩
 have c4' : ¬ (12 : Int) < (n4 : Int) := by omega
 have hma := fun (W : World) (hB : Below w.heap.size w W) => rmachine_any m W (by omega) (by omega) (h.below hB)
 have htr := fun (W : World) (hB : Below w.heap.size w W) => rtruth_any a1 n1 c1 a2 n2 c2 F G W (by omega) (by omega) (isl_below hF hB) (isl_below hG hB)
 have hor := fun (W : World) (hB : Below w.heap.size w W) => order_any (.slice a3 n3 c3) n3 Q m.sn W (by omega) (by omega) (by omega) (isl_below hQ hB)
 cases k5 : m.ok with
 | false =>
  rw [k5] at hma
  clear hno k1 k2 k5
  go_enter Tryz.func3, Tryz.ntmps3
  go_wp2_with (first
   | (go_at_call 5; with_reducible refine (hsl _).mono ?_; rintro e w1 ⟨rfl, hb⟩; replace hX := hX.below hb; obtain ⟨⟨q0, q1, q2, q3, q4, q5, q6, q7, q8, q9⟩, y0, y1, _, _⟩ := id hX)
   | (go_at_call 6; with_reducible refine (hbr _).mono ?_; rintro e w1 ⟨rfl, hb⟩; replace hX := hX.below hb; obtain ⟨⟨q0, q1, q2, q3, q4, q5, q6, q7, q8, q9⟩, y0, y1, _, _⟩ := id hX)
   | (go_at_call 7; with_reducible refine (hma _ hX.old).mono ?_; rintro e w1 ⟨rfl, hb⟩; replace hX := hX.below hb; obtain ⟨⟨q0, q1, q2, q3, q4, q5, q6, q7, q8, q9⟩, y0, y1, _, _⟩ := id hX)
   | (go_at_call 12; refine (known_ok _ (hk.below hX.old)).mono ?_; rintro e w1 ⟨rfl, hb⟩; replace hX := hX.below hb))
  go_ret
  exact ⟨rfl, hX.old⟩
 | true =>
 rw [k5] at hma
 cases k6 : (offB n1 F && offB n2 G) with
 | false =>
  rw [k6] at htr
  clear hno k1 k2 k5 k6
  go_enter Tryz.func3, Tryz.ntmps3
  go_wp2_with (first
   | (go_at_call 5; with_reducible refine (hsl _).mono ?_; rintro e w1 ⟨rfl, hb⟩; replace hX := hX.below hb; obtain ⟨⟨q0, q1, q2, q3, q4, q5, q6, q7, q8, q9⟩, y0, y1, _, _⟩ := id hX)
   | (go_at_call 6; with_reducible refine (hbr _).mono ?_; rintro e w1 ⟨rfl, hb⟩; replace hX := hX.below hb; obtain ⟨⟨q0, q1, q2, q3, q4, q5, q6, q7, q8, q9⟩, y0, y1, _, _⟩ := id hX)
   | (go_at_call 7; with_reducible refine (hma _ hX.old).mono ?_; rintro e w1 ⟨rfl, hb⟩; replace hX := hX.below hb; obtain ⟨⟨q0, q1, q2, q3, q4, q5, q6, q7, q8, q9⟩, y0, y1, _, _⟩ := id hX)
   | (go_at_call 8; with_reducible refine (htr _ hX.old).mono ?_; rintro e w1 ⟨rfl, hb⟩; replace hX := hX.below hb; obtain ⟨⟨q0, q1, q2, q3, q4, q5, q6, q7, q8, q9⟩, y0, y1, _, _⟩ := id hX)
   | (go_at_call 12; refine (known_ok _ (hk.below hX.old)).mono ?_; rintro e w1 ⟨rfl, hb⟩; replace hX := hX.below hb))
  go_ret
  exact ⟨rfl, hX.old⟩
 | true =>
 rw [k6] at htr
 cases k7 : inB bk 1 12 with
 | false =>
  rw [k7] at hba
  clear hno k1 k2 k5 k6 k7
  go_enter Tryz.func3, Tryz.ntmps3
  go_wp2_with (first
   | (go_at_call 5; with_reducible refine (hsl _).mono ?_; rintro e w1 ⟨rfl, hb⟩; replace hX := hX.below hb; obtain ⟨⟨q0, q1, q2, q3, q4, q5, q6, q7, q8, q9⟩, y0, y1, _, _⟩ := id hX)
   | (go_at_call 6; with_reducible refine (hbr _).mono ?_; rintro e w1 ⟨rfl, hb⟩; replace hX := hX.below hb; obtain ⟨⟨q0, q1, q2, q3, q4, q5, q6, q7, q8, q9⟩, y0, y1, _, _⟩ := id hX)
   | (go_at_call 7; with_reducible refine (hma _ hX.old).mono ?_; rintro e w1 ⟨rfl, hb⟩; replace hX := hX.below hb; obtain ⟨⟨q0, q1, q2, q3, q4, q5, q6, q7, q8, q9⟩, y0, y1, _, _⟩ := id hX)
   | (go_at_call 8; with_reducible refine (htr _ hX.old).mono ?_; rintro e w1 ⟨rfl, hb⟩; replace hX := hX.below hb; obtain ⟨⟨q0, q1, q2, q3, q4, q5, q6, q7, q8, q9⟩, y0, y1, _, _⟩ := id hX)
   | (go_at_call 9; with_reducible refine (hba _).mono ?_; rintro e w1 ⟨rfl, rfl⟩)
   | (go_at_call 12; refine (known_ok _ (hk.below hX.old)).mono ?_; rintro e w1 ⟨rfl, hb⟩; replace hX := hX.below hb))
  go_ret
  exact ⟨rfl, hX.old⟩
 | true =>
 rw [k7] at hba
 cases k8 : inB ot 0 12 with
 | false =>
  rw [k8] at hbo
  clear hno k1 k2 k5 k6 k7 k8
  go_enter Tryz.func3, Tryz.ntmps3
  go_wp2_with (first
   | (go_at_call 5; with_reducible refine (hsl _).mono ?_; rintro e w1 ⟨rfl, hb⟩; replace hX := hX.below hb; obtain ⟨⟨q0, q1, q2, q3, q4, q5, q6, q7, q8, q9⟩, y0, y1, _, _⟩ := id hX)
   | (go_at_call 6; with_reducible refine (hbr _).mono ?_; rintro e w1 ⟨rfl, hb⟩; replace hX := hX.below hb; obtain ⟨⟨q0, q1, q2, q3, q4, q5, q6, q7, q8, q9⟩, y0, y1, _, _⟩ := id hX)
   | (go_at_call 7; with_reducible refine (hma _ hX.old).mono ?_; rintro e w1 ⟨rfl, hb⟩; replace hX := hX.below hb; obtain ⟨⟨q0, q1, q2, q3, q4, q5, q6, q7, q8, q9⟩, y0, y1, _, _⟩ := id hX)
   | (go_at_call 8; with_reducible refine (htr _ hX.old).mono ?_; rintro e w1 ⟨rfl, hb⟩; replace hX := hX.below hb; obtain ⟨⟨q0, q1, q2, q3, q4, q5, q6, q7, q8, q9⟩, y0, y1, _, _⟩ := id hX)
   | (go_at_call 9; with_reducible refine (hba _).mono ?_; rintro e w1 ⟨rfl, rfl⟩)
   | (go_at_call 9; with_reducible refine (hbo _).mono ?_; rintro e w1 ⟨rfl, rfl⟩)
   | (go_at_call 12; refine (known_ok _ (hk.below hX.old)).mono ?_; rintro e w1 ⟨rfl, hb⟩; replace hX := hX.below hb))
  go_ret
  exact ⟨rfl, hX.old⟩
 | true =>
 rw [k8] at hbo
 cases k9 : inB tn 0 7 with
 | false =>
  rw [k9] at htu
  clear hno k1 k2 k5 k6 k7 k8 k9
  go_enter Tryz.func3, Tryz.ntmps3
  go_wp2_with (first
   | (go_at_call 5; with_reducible refine (hsl _).mono ?_; rintro e w1 ⟨rfl, hb⟩; replace hX := hX.below hb; obtain ⟨⟨q0, q1, q2, q3, q4, q5, q6, q7, q8, q9⟩, y0, y1, _, _⟩ := id hX)
   | (go_at_call 6; with_reducible refine (hbr _).mono ?_; rintro e w1 ⟨rfl, hb⟩; replace hX := hX.below hb; obtain ⟨⟨q0, q1, q2, q3, q4, q5, q6, q7, q8, q9⟩, y0, y1, _, _⟩ := id hX)
   | (go_at_call 7; with_reducible refine (hma _ hX.old).mono ?_; rintro e w1 ⟨rfl, hb⟩; replace hX := hX.below hb; obtain ⟨⟨q0, q1, q2, q3, q4, q5, q6, q7, q8, q9⟩, y0, y1, _, _⟩ := id hX)
   | (go_at_call 8; with_reducible refine (htr _ hX.old).mono ?_; rintro e w1 ⟨rfl, hb⟩; replace hX := hX.below hb; obtain ⟨⟨q0, q1, q2, q3, q4, q5, q6, q7, q8, q9⟩, y0, y1, _, _⟩ := id hX)
   | (go_at_call 9; with_reducible refine (hba _).mono ?_; rintro e w1 ⟨rfl, rfl⟩)
   | (go_at_call 9; with_reducible refine (hbo _).mono ?_; rintro e w1 ⟨rfl, rfl⟩)
   | (go_at_call 10; with_reducible refine (htu _).mono ?_; rintro e w1 ⟨rfl, rfl⟩)
   | (go_at_call 12; refine (known_ok _ (hk.below hX.old)).mono ?_; rintro e w1 ⟨rfl, hb⟩; replace hX := hX.below hb))
  go_ret
  exact ⟨rfl, hX.old⟩
 | true =>
 rw [k9] at htu
 cases k10 : ordB n3 Q m.sn with
 | false =>
  rw [k10] at hor
  clear hno k1 k2 k5 k6 k7 k8 k9 k10
  go_enter Tryz.func3, Tryz.ntmps3
  go_wp2_with (first
   | (go_at_call 5; with_reducible refine (hsl _).mono ?_; rintro e w1 ⟨rfl, hb⟩; replace hX := hX.below hb; obtain ⟨⟨q0, q1, q2, q3, q4, q5, q6, q7, q8, q9⟩, y0, y1, _, _⟩ := id hX)
   | (go_at_call 6; with_reducible refine (hbr _).mono ?_; rintro e w1 ⟨rfl, hb⟩; replace hX := hX.below hb; obtain ⟨⟨q0, q1, q2, q3, q4, q5, q6, q7, q8, q9⟩, y0, y1, _, _⟩ := id hX)
   | (go_at_call 7; with_reducible refine (hma _ hX.old).mono ?_; rintro e w1 ⟨rfl, hb⟩; replace hX := hX.below hb; obtain ⟨⟨q0, q1, q2, q3, q4, q5, q6, q7, q8, q9⟩, y0, y1, _, _⟩ := id hX)
   | (go_at_call 8; with_reducible refine (htr _ hX.old).mono ?_; rintro e w1 ⟨rfl, hb⟩; replace hX := hX.below hb; obtain ⟨⟨q0, q1, q2, q3, q4, q5, q6, q7, q8, q9⟩, y0, y1, _, _⟩ := id hX)
   | (go_at_call 9; with_reducible refine (hba _).mono ?_; rintro e w1 ⟨rfl, rfl⟩)
   | (go_at_call 9; with_reducible refine (hbo _).mono ?_; rintro e w1 ⟨rfl, rfl⟩)
   | (go_at_call 10; with_reducible refine (htu _).mono ?_; rintro e w1 ⟨rfl, rfl⟩)
   | (go_at_call 11; with_reducible refine (hor _ hX.old).mono ?_; rintro e w1 ⟨rfl, hb⟩; replace hX := hX.below hb; obtain ⟨⟨q0, q1, q2, q3, q4, q5, q6, q7, q8, q9⟩, y0, y1, _, _⟩ := id hX)
   | (go_at_call 12; refine (known_ok _ (hk.below hX.old)).mono ?_; rintro e w1 ⟨rfl, hb⟩; replace hX := hX.below hb))
  go_ret
  exact ⟨rfl, hX.old⟩
 | true =>
 rw [k10] at hor
 have hw2 : IntKind.i64.wrap (2 * (m.sn : Int)) = 2 * (m.sn : Int) := IntWalk.i64_in _ (by omega)
 by_cases k11 : n4 = 2 * m.sn
 case neg =>
  have c11 : ¬ (n4 : Int) = 2 * (m.sn : Int) := by omega
  clear hno k1 k2 k5 k6 k7 k8 k9 k10
  go_enter Tryz.func3, Tryz.ntmps3
  go_wp2_with (first
   | (go_at_call 5; with_reducible refine (hsl _).mono ?_; rintro e w1 ⟨rfl, hb⟩; replace hX := hX.below hb; obtain ⟨⟨q0, q1, q2, q3, q4, q5, q6, q7, q8, q9⟩, y0, y1, _, _⟩ := id hX)
   | (go_at_call 6; with_reducible refine (hbr _).mono ?_; rintro e w1 ⟨rfl, hb⟩; replace hX := hX.below hb; obtain ⟨⟨q0, q1, q2, q3, q4, q5, q6, q7, q8, q9⟩, y0, y1, _, _⟩ := id hX)
   | (go_at_call 7; with_reducible refine (hma _ hX.old).mono ?_; rintro e w1 ⟨rfl, hb⟩; replace hX := hX.below hb; obtain ⟨⟨q0, q1, q2, q3, q4, q5, q6, q7, q8, q9⟩, y0, y1, _, _⟩ := id hX)
   | (go_at_call 8; with_reducible refine (htr _ hX.old).mono ?_; rintro e w1 ⟨rfl, hb⟩; replace hX := hX.below hb; obtain ⟨⟨q0, q1, q2, q3, q4, q5, q6, q7, q8, q9⟩, y0, y1, _, _⟩ := id hX)
   | (go_at_call 9; with_reducible refine (hba _).mono ?_; rintro e w1 ⟨rfl, rfl⟩)
   | (go_at_call 9; with_reducible refine (hbo _).mono ?_; rintro e w1 ⟨rfl, rfl⟩)
   | (go_at_call 10; with_reducible refine (htu _).mono ?_; rintro e w1 ⟨rfl, rfl⟩)
   | (go_at_call 11; with_reducible refine (hor _ hX.old).mono ?_; rintro e w1 ⟨rfl, hb⟩; replace hX := hX.below hb; obtain ⟨⟨q0, q1, q2, q3, q4, q5, q6, q7, q8, q9⟩, y0, y1, _, _⟩ := id hX)
   | (go_at_call 12; refine (known_ok _ (hk.below hX.old)).mono ?_; rintro e w1 ⟨rfl, hb⟩; replace hX := hX.below hb))
  go_ret
  exact ⟨rfl, hX.old⟩
 have c11 : (n4 : Int) = 2 * (m.sn : Int) := by omega
 by_cases k12 : mo < 0
 ·clear hno k1 k2 k5 k6 k7 k8 k9 k10
  replace c11 := Hid.mk c11
  subst k11
  go_enter Tryz.func3, Tryz.ntmps3
  go_wp2_with (first
   | (go_at_call 5; with_reducible refine (hsl _).mono ?_; rintro e w1 ⟨rfl, hb⟩; replace hX := hX.below hb; obtain ⟨⟨q0, q1, q2, q3, q4, q5, q6, q7, q8, q9⟩, y0, y1, _, _⟩ := id hX)
   | (go_at_call 6; with_reducible refine (hbr _).mono ?_; rintro e w1 ⟨rfl, hb⟩; replace hX := hX.below hb; obtain ⟨⟨q0, q1, q2, q3, q4, q5, q6, q7, q8, q9⟩, y0, y1, _, _⟩ := id hX)
   | (go_at_call 7; with_reducible refine (hma _ hX.old).mono ?_; rintro e w1 ⟨rfl, hb⟩; replace hX := hX.below hb; obtain ⟨⟨q0, q1, q2, q3, q4, q5, q6, q7, q8, q9⟩, y0, y1, _, _⟩ := id hX)
   | (go_at_call 8; with_reducible refine (htr _ hX.old).mono ?_; rintro e w1 ⟨rfl, hb⟩; replace hX := hX.below hb; obtain ⟨⟨q0, q1, q2, q3, q4, q5, q6, q7, q8, q9⟩, y0, y1, _, _⟩ := id hX)
   | (go_at_call 9; with_reducible refine (hba _).mono ?_; rintro e w1 ⟨rfl, rfl⟩)
   | (go_at_call 9; with_reducible refine (hbo _).mono ?_; rintro e w1 ⟨rfl, rfl⟩)
   | (go_at_call 10; with_reducible refine (htu _).mono ?_; rintro e w1 ⟨rfl, rfl⟩)
   | (go_at_call 11; with_reducible refine (hor _ hX.old).mono ?_; rintro e w1 ⟨rfl, hb⟩; replace hX := hX.below hb; obtain ⟨⟨q0, q1, q2, q3, q4, q5, q6, q7, q8, q9⟩, y0, y1, _, _⟩ := id hX)
   | (go_at_call 12; refine (known_ok _ (hk.below hX.old)).mono ?_; rintro e w1 ⟨rfl, hb⟩; replace hX := hX.below hb))
  go_ret
  exact ⟨rfl, hX.old⟩
 by_cases k13 : 4 < mo
 ·clear hno k1 k2 k5 k6 k7 k8 k9 k10
  replace c11 := Hid.mk c11
  subst k11
  go_enter Tryz.func3, Tryz.ntmps3
  go_wp2_with (first
   | (go_at_call 5; with_reducible refine (hsl _).mono ?_; rintro e w1 ⟨rfl, hb⟩; replace hX := hX.below hb; obtain ⟨⟨q0, q1, q2, q3, q4, q5, q6, q7, q8, q9⟩, y0, y1, _, _⟩ := id hX)
   | (go_at_call 6; with_reducible refine (hbr _).mono ?_; rintro e w1 ⟨rfl, hb⟩; replace hX := hX.below hb; obtain ⟨⟨q0, q1, q2, q3, q4, q5, q6, q7, q8, q9⟩, y0, y1, _, _⟩ := id hX)
   | (go_at_call 7; with_reducible refine (hma _ hX.old).mono ?_; rintro e w1 ⟨rfl, hb⟩; replace hX := hX.below hb; obtain ⟨⟨q0, q1, q2, q3, q4, q5, q6, q7, q8, q9⟩, y0, y1, _, _⟩ := id hX)
   | (go_at_call 8; with_reducible refine (htr _ hX.old).mono ?_; rintro e w1 ⟨rfl, hb⟩; replace hX := hX.below hb; obtain ⟨⟨q0, q1, q2, q3, q4, q5, q6, q7, q8, q9⟩, y0, y1, _, _⟩ := id hX)
   | (go_at_call 9; with_reducible refine (hba _).mono ?_; rintro e w1 ⟨rfl, rfl⟩)
   | (go_at_call 9; with_reducible refine (hbo _).mono ?_; rintro e w1 ⟨rfl, rfl⟩)
   | (go_at_call 10; with_reducible refine (htu _).mono ?_; rintro e w1 ⟨rfl, rfl⟩)
   | (go_at_call 11; with_reducible refine (hor _ hX.old).mono ?_; rintro e w1 ⟨rfl, hb⟩; replace hX := hX.below hb; obtain ⟨⟨q0, q1, q2, q3, q4, q5, q6, q7, q8, q9⟩, y0, y1, _, _⟩ := id hX)
   | (go_at_call 12; refine (known_ok _ (hk.below hX.old)).mono ?_; rintro e w1 ⟨rfl, hb⟩; replace hX := hX.below hb))
  go_ret
  exact ⟨rfl, hX.old⟩
 exact absurd ⟨k1, k2, k3, k4, k5, k6, k7, k8, k9, k10, k11, by omega, by omega⟩ hno
end Go.Proofs.YtjhpklolpmaopaaGreatDoor
