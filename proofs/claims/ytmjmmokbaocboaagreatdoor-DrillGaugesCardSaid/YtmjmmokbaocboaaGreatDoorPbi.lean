/- A part of the proof: see the last file. -/
import Derived.Test.YtmjmmokbaocboaaGreatDoorPaw
import Derived.Test.YtmjmmokbaocboaaGreatDoorPax
import Derived.Test.YtmjmmokbaocboaaGreatDoorPay
import Derived.Test.YtmjmmokbaocboaaGreatDoorPaz
import Derived.Test.YtmjmmokbaocboaaGreatDoorPba
import Derived.Test.YtmjmmokbaocboaaGreatDoorPbb
import Derived.Test.YtmjmmokbaocboaaGreatDoorPbc
import Derived.Test.YtmjmmokbaocboaaGreatDoorPbd
import Derived.Test.YtmjmmokbaocboaaGreatDoorPbe
import Derived.Test.YtmjmmokbaocboaaGreatDoorPbf
import Derived.Test.YtmjmmokbaocboaaGreatDoorPbg
import Derived.Test.YtmjmmokbaocboaaGreatDoorPbh
import Derived.Test.YtmjmmokbaocboaaGreatDoorPaq
import Derived.Test.YtmjmmokbaocboaaGreatDoorPae
set_option linter.unusedVariables false
set_option linter.unusedSimpArgs false
set_option linter.unusedSectionVars false
namespace Go.Proofs.YtmjmmokbaocboaaGreatDoor
open Go Go.Proofs Go.Can Go.RowKit
/-- the package-level variables hold what the text lays -/
structure KG (w : World) : Prop where
  g0 : ∃ e f, w.heap[3]? = some (.cells cells0.toArray e f)
  g1 : ∃ e f, w.heap[4]? = some (.cells cells1.toArray e f)
  g2 : ∃ e f, w.heap[2]? = some (.cells cells2.toArray e f)
  g3 : ∃ e f, w.heap[0]? = some (.cells cells3.toArray e f)
theorem KG.below {w w' : World} (h : KG w) (hb : Below w.heap.size w w') : KG w' := by
  have lt : ∀ {i : Nat} {o : Obj}, w.heap[i]? = some o → i < w.heap.size := fun h => (Array.getElem?_eq_some_iff.1 h).1
  obtain ⟨⟨e0, f0, h0⟩, ⟨e1, f1, h1⟩, ⟨e2, f2, h2⟩, ⟨e3, f3, h3⟩⟩ := h
  exact ⟨⟨e0, f0, by rw [hb.block _ (lt h0)]; exact h0⟩, ⟨e1, f1, by rw [hb.block _ (lt h1)]; exact h1⟩, ⟨e2, f2, by rw [hb.block _ (lt h2)]; exact h2⟩, ⟨e3, f3, by rw [hb.block _ (lt h3)]; exact h3⟩⟩
theorem KG.num {w : World} (h : KG w) : Glob.num ≤ w.heap.size := by
  obtain ⟨⟨e0, f0, h0⟩, ⟨e1, f1, h1⟩, ⟨e2, f2, h2⟩, ⟨e3, f3, h3⟩⟩ := h
  exact (Array.getElem?_eq_some_iff.1 h1).1
theorem known_ok (w : World) (h : KG w) : Calls Tryz.prog 9 #[] w fun e w' => e = .returned (.bool true) ∧ Below w.heap.size w w' := by
  have hn := h.num
  obtain ⟨⟨e0, f0, h0⟩, ⟨e1, f1, h1⟩, ⟨e2, f2, h2⟩, ⟨e3, f3, h3⟩⟩ := h
  refine runsM_true fair (ms := [memoF0, memoF1, memoF2, memoF3, memoF4, memoF5, memoF6, memoF7, memoF8, memoJ0]) (fun m hm => ?_) (known_run e0 e1 e2 e3 f0 f1 f2 f3) w ⟨hn, fun g o hg => ?_⟩
  · simp only [List.mem_cons, List.not_mem_nil, or_false] at hm
    rcases hm with rfl | rfl | rfl | rfl | rfl | rfl | rfl | rfl | rfl | rfl
    · exact memoF0_ok
    · exact memoF1_ok
    · exact memoF2_ok
    · exact memoF3_ok
    · exact memoF4_ok
    · exact memoF5_ok
    · exact memoF6_ok
    · exact memoF7_ok
    · exact memoF8_ok
    · exact memoJ0_ok
  · simp only [List.mem_cons, List.not_mem_nil, or_false, Prod.mk.injEq] at hg
    rcases hg with ⟨rfl, rfl⟩ | ⟨rfl, rfl⟩ | ⟨rfl, rfl⟩ | ⟨rfl, rfl⟩
    · exact ⟨_, h0, .plain (by kernel_rfl)⟩
    · exact ⟨_, h1, .plain (by kernel_rfl)⟩
    · exact ⟨_, h2, .plain (by kernel_rfl)⟩
    · exact ⟨_, h3, .plain (by kernel_rfl)⟩
end Go.Proofs.YtmjmmokbaocboaaGreatDoor
namespace Go.Proofs.YtmjmmokbaocboaaGreatDoor
open Go.RowKit
set_option maxRecDepth 100000 in
set_option maxHeartbeats 1000000 in
theorem slim_any (m : Mach) (w : World) (hs : m.sn ≤ 9223372036854775807) (hr : m.rn ≤ 9223372036854775807) :
    Calls Tryz.prog 8 #[m.val] w fun e w' => e = .returned (.bool (decide (m.sn ≤ 6) && decide (m.rn ≤ 6))) ∧ Below w.heap.size w w' := by
  obtain ⟨W0, hW⟩ : ∃ W0, w.alloc (.cells #[.slice m.sa m.sn m.sc, .int .i64 m.c0, .int .i64 m.c1, .int .i64 m.d0, .int .i64 m.d1, .int .i64 m.w0, .int .i64 m.w1, .int .i64 m.v0, .int .i64 m.v1, .slice m.ra m.rn m.rc] 29) = W0 := ⟨_, rfl⟩
  have hb0 : Below w.heap.size w W0 := by rw [← hW]; exact (Below.refl _ _).alloc (Nat.le_refl _) _
  have hMB : MAt W0 w.heap.size m := by rw [← hW]; exact MAt.new w m
  obtain ⟨q0, q1, q2, q3, q4, q5, q6, q7, q8, q9⟩ := hMB
  by_cases h1 : m.sn ≤ 6
  · have h1' : (m.sn : Int) ≤ 6 := by omega
    by_cases h2 : m.rn ≤ 6
    · have h2' : (m.rn : Int) ≤ 6 := by omega
      go_enter Tryz.func8, Tryz.ntmps8
      go_wp2
      go_ret
      exact ⟨ret_bool (by simp [h1, h2, h1', h2']), hb0⟩
    · have h2' : ¬ (m.rn : Int) ≤ 6 := by omega
      go_enter Tryz.func8, Tryz.ntmps8
      go_wp2
      go_ret
      exact ⟨ret_bool (by simp [h1, h2, h1', h2']), hb0⟩
  · have h1' : ¬ (m.sn : Int) ≤ 6 := by omega
    go_enter Tryz.func8, Tryz.ntmps8
    go_wp2
    go_ret
    exact ⟨ret_bool (by simp [h1, h1']), hb0⟩
/-! ### what Known and Machine answer, in one form -/
theorem Able.er_ok {m : Mach} {fine : Bool} {er : Int} (h : Able m fine er) : er = 0 ∨ er = 2 ∨ er = 7 := by
  cases hf : (m.ok && fine) with
  | false => exact .inr (.inl (h.arg hf))
  | true => exact (Classical.em m.can).elim (fun hc => .inl (h.ok hf hc)) fun hc => .inr (.inr (h.rule hf hc))
end Go.Proofs.YtmjmmokbaocboaaGreatDoor
namespace Go.Proofs.YtmjmmokbaocboaaGreatDoor
open Go.RowKit Go.Can
/-- the blocks of a machine and a truth. -/
structure MX (w W : World) (m : Mach) (a1 : Option Addr) (n1 c1 : Nat) (a2 : Option Addr) (n2 c2 : Nat) : Prop where
  mach : MAt W w.heap.size m
  x0 : W.cell? ⟨w.heap.size + 1, 0, none⟩ = some (.slice a1 n1 c1)
  x1 : W.cell? ⟨w.heap.size + 1, 1, none⟩ = some (.slice a2 n2 c2)
  old : Below w.heap.size w W
  big : w.heap.size + 2 ≤ W.heap.size
theorem MX.new (w : World) (m : Mach) (a1 : Option Addr) (n1 c1 : Nat) (a2 : Option Addr) (n2 c2 : Nat) : MX w ((w.alloc (.cells #[.slice m.sa m.sn m.sc, .int .i64 m.c0, .int .i64 m.c1, .int .i64 m.d0, .int .i64 m.d1, .int .i64 m.w0, .int .i64 m.w1, .int .i64 m.v0, .int .i64 m.v1, .slice m.ra m.rn m.rc] 29)).alloc (.cells #[.slice a1 n1 c1, .slice a2 n2 c2] 45)) m a1 n1 c1 a2 n2 c2 := by
  refine ⟨(MAt.new w m).below ((Below.refl _ _).alloc (Nat.le_refl _) _) (by rw [World.size_alloc]; omega), ?_, ?_, ((Below.refl _ _).alloc (Nat.le_refl _) _).alloc (by rw [World.size_alloc]; omega) _, by rw [World.size_alloc, World.size_alloc]; omega⟩
  · have h := cells_new (w.alloc (.cells #[.slice m.sa m.sn m.sc, .int .i64 m.c0, .int .i64 m.c1, .int .i64 m.d0, .int .i64 m.d1, .int .i64 m.w0, .int .i64 m.w1, .int .i64 m.v0, .int .i64 m.v1, .slice m.ra m.rn m.rc] 29)) #[.slice a1 n1 c1, .slice a2 n2 c2] 45 (j := 0) rfl
    rw [World.size_alloc] at h; exact h
  · have h := cells_new (w.alloc (.cells #[.slice m.sa m.sn m.sc, .int .i64 m.c0, .int .i64 m.c1, .int .i64 m.d0, .int .i64 m.d1, .int .i64 m.w0, .int .i64 m.w1, .int .i64 m.v0, .int .i64 m.v1, .slice m.ra m.rn m.rc] 29)) #[.slice a1 n1 c1, .slice a2 n2 c2] 45 (j := 1) rfl
    rw [World.size_alloc] at h; exact h
theorem MX.below {w W W' : World} {m : Mach} {a1 : Option Addr} {n1 c1 : Nat} {a2 : Option Addr} {n2 c2 : Nat} (h : MX w W m a1 n1 c1 a2 n2 c2) (hb : Below W.heap.size W W') : MX w W' m a1 n1 c1 a2 n2 c2 :=
  have hg := h.big
  ⟨h.mach.below hb (by omega), (hb.cell (p := ⟨w.heap.size + 1, 0, none⟩) (by show w.heap.size + 1 < _; omega)).trans h.x0, (hb.cell (p := ⟨w.heap.size + 1, 1, none⟩) (by show w.heap.size + 1 < _; omega)).trans h.x1, h.old.trans (hb.mono h.old.size), Nat.le_trans h.big hb.size⟩
end Go.Proofs.YtmjmmokbaocboaaGreatDoor
namespace Go.Proofs.YtmjmmokbaocboaaGreatDoor
open Go.RowKit Go.Can
theorem MX.two {w W : World} {m : Mach} {a1 : Option Addr} {n1 c1 : Nat} {a2 : Option Addr} {n2 c2 : Nat} (h : MX w W m a1 n1 c1 a2 n2 c2) (o1 o2 : Obj) : MX w ((W.alloc o1).alloc o2) m a1 n1 c1 a2 n2 c2 :=
  (h.below ((Below.refl _ W).alloc (Nat.le_refl _) o1)).below ((Below.refl _ _).alloc (Nat.le_refl _) o2)
end Go.Proofs.YtmjmmokbaocboaaGreatDoor
namespace Go.Proofs.YtmjmmokbaocboaaGreatDoor
open Go.RowKit Go.Can
/-- two spans in blocks of their own. -/
structure AB (W : World) (s : Nat) (x0 x1 z0 z1 : Int) : Prop where
  a0 : W.cell? ⟨s, 0, none⟩ = some (.int .i64 x0)
  a1 : W.cell? ⟨s, 1, none⟩ = some (.int .i64 x1)
  b0 : W.cell? ⟨s + 1, 0, none⟩ = some (.int .i64 z0)
  b1 : W.cell? ⟨s + 1, 1, none⟩ = some (.int .i64 z1)
  big : s + 2 ≤ W.heap.size
theorem AB.new (w : World) (x0 x1 z0 z1 : Int) (t : TypeId) : AB ((w.alloc (Obj.cells #[.int .i64 x0, .int .i64 x1] t)).alloc (Obj.cells #[.int .i64 z0, .int .i64 z1] t)) w.heap.size x0 x1 z0 z1 := by
  have hb : Below (w.alloc (Obj.cells #[.int .i64 x0, .int .i64 x1] t)).heap.size (w.alloc (Obj.cells #[.int .i64 x0, .int .i64 x1] t)) ((w.alloc (Obj.cells #[.int .i64 x0, .int .i64 x1] t)).alloc (Obj.cells #[.int .i64 z0, .int .i64 z1] t)) := (Below.refl _ _).alloc (Nat.le_refl _) _
  have hs := World.size_alloc w (Obj.cells #[.int .i64 x0, .int .i64 x1] t)
  refine ⟨?_, ?_, ?_, ?_, by rw [World.size_alloc, World.size_alloc]; omega⟩
  · exact (hb.cell (p := ⟨w.heap.size, 0, none⟩) (by show w.heap.size < _; omega)).trans (cells_new w _ _ rfl)
  · exact (hb.cell (p := ⟨w.heap.size, 1, none⟩) (by show w.heap.size < _; omega)).trans (cells_new w _ _ rfl)
  · have := cells_new (w.alloc (Obj.cells #[.int .i64 x0, .int .i64 x1] t)) #[.int .i64 z0, .int .i64 z1] t (j := 0) rfl
    rw [hs] at this; exact this
  · have := cells_new (w.alloc (Obj.cells #[.int .i64 x0, .int .i64 x1] t)) #[.int .i64 z0, .int .i64 z1] t (j := 1) rfl
    rw [hs] at this; exact this
theorem AB.below {W W' : World} {s : Nat} {x0 x1 z0 z1 : Int} (h : AB W s x0 x1 z0 z1) (hb : Below W.heap.size W W') : AB W' s x0 x1 z0 z1 :=
  have hg := h.big
  ⟨(hb.cell (p := ⟨s, 0, none⟩) (by show s < _; omega)).trans h.a0, (hb.cell (p := ⟨s, 1, none⟩) (by show s < _; omega)).trans h.a1, (hb.cell (p := ⟨s + 1, 0, none⟩) (by show s + 1 < _; omega)).trans h.b0, (hb.cell (p := ⟨s + 1, 1, none⟩) (by show s + 1 < _; omega)).trans h.b1, Nat.le_trans h.big hb.size⟩
end Go.Proofs.YtmjmmokbaocboaaGreatDoor
namespace Go.Proofs.YtmjmmokbaocboaaGreatDoor
open Go.RowKit
theorem PoR.two {w W : World} {m : Mach} (h : PoR w m W) (o1 o2 : Obj) : PoR w m ((W.alloc o1).alloc o2) :=
  (h.below ((Below.refl _ W).alloc (Nat.le_refl _) o1)).below ((Below.refl _ _).alloc (Nat.le_refl _) o2)
theorem AB.two {W : World} {s : Nat} {x0 x1 z0 z1 : Int} (h : AB W s x0 x1 z0 z1) (o1 o2 : Obj) : AB ((W.alloc o1).alloc o2) s x0 x1 z0 z1 :=
  (h.below ((Below.refl _ W).alloc (Nat.le_refl _) o1)).below ((Below.refl _ _).alloc (Nat.le_refl _) o2)
theorem PoR.new (w : World) (m : Mach) : PoR w m (w.alloc (.cells #[.slice m.sa m.sn m.sc, .int .i64 m.c0, .int .i64 m.c1, .int .i64 m.d0, .int .i64 m.d1, .int .i64 m.w0, .int .i64 m.w1, .int .i64 m.v0, .int .i64 m.v1, .slice m.ra m.rn m.rc] 29)) :=
  ⟨MAt.new w m, (Below.refl _ _).alloc (Nat.le_refl _) _, by rw [World.size_alloc]; omega⟩
set_option maxRecDepth 100000 in
set_option maxHeartbeats 4000000 in
theorem able_any (m : Mach) (er : Int) (hA : Able m true er) (w : World) (hs : m.sn ≤ 1000) (hr : m.rn ≤ 1000) (h : MIn w m) :
    Calls Tryz.prog 25 #[m.val] w fun e w' => e = .returned (.int .i64 er) ∧ Below w.heap.size w w' := by
  obtain ⟨W0, hW⟩ : ∃ W0, w.alloc (.cells #[.slice m.sa m.sn m.sc, .int .i64 m.c0, .int .i64 m.c1, .int .i64 m.d0, .int .i64 m.d1, .int .i64 m.w0, .int .i64 m.w1, .int .i64 m.v0, .int .i64 m.v1, .slice m.ra m.rn m.rc] 29) = W0 := ⟨_, rfl⟩
  have hX : PoR w m W0 := by rw [← hW]; exact PoR.new w m
  have hma := fun (W : World) (hB : Below w.heap.size w W) => rmachine_any m W (by omega) (by omega) (h.below hB)
  obtain ⟨q0, q1, q2, q3, q4, q5, q6, q7, q8, q9⟩ := id hX.mat
  cases hok : m.ok with
  | false =>
    obtain rfl := hA.arg (by rw [hok]; rfl)
    rw [hok] at hma
    go_enter Tryz.func25, Tryz.ntmps25
    go_wp2_with (go_at_call 17; with_reducible refine (hma _ hX.old).mono ?_; rintro e w1 ⟨rfl, hb⟩; replace hX := hX.below hb)
    go_ret
    exact ⟨rfl, hX.old⟩
  | true =>
    rw [hok] at hma
    obtain ⟨b, hb, hp⟩ := rpossible_b m hok
    have hpo := fun (W : World) (hB : Below w.heap.size w W) => hp W (h.below hB)
    cases b with
    | false =>
      obtain rfl := hA.rule (by rw [hok]; rfl) (fun hc => by have := hb.2 hc; cases this)
      clear hp hb
      go_enter Tryz.func25, Tryz.ntmps25
      go_wp2_with (first
        | (go_at_call 17; with_reducible refine (hma _ hX.old).mono ?_; rintro e w1 ⟨rfl, hb⟩; replace hX := hX.below hb; obtain ⟨q0, q1, q2, q3, q4, q5, q6, q7, q8, q9⟩ := id hX.mat)
        | (go_at_call 68; with_reducible refine (hpo _ hX.old).mono ?_; rintro e w2 ⟨rfl, hb⟩; replace hX := hX.below hb))
      go_ret
      exact ⟨rfl, hX.old⟩
    | true =>
      obtain rfl := hA.ok (by rw [hok]; rfl) (hb.1 rfl)
      clear hp hb
      go_enter Tryz.func25, Tryz.ntmps25
      go_wp2_with (first
        | (go_at_call 17; with_reducible refine (hma _ hX.old).mono ?_; rintro e w1 ⟨rfl, hb⟩; replace hX := hX.below hb; obtain ⟨q0, q1, q2, q3, q4, q5, q6, q7, q8, q9⟩ := id hX.mat)
        | (go_at_call 68; with_reducible refine (hpo _ hX.old).mono ?_; rintro e w2 ⟨rfl, hb⟩; replace hX := hX.below hb))
      go_ret
      exact ⟨rfl, hX.old⟩
end Go.Proofs.YtmjmmokbaocboaaGreatDoor
namespace Go.Proofs.YtmjmmokbaocboaaGreatDoor
open Go.RowKit
/-- the reference's near, of a point and another one. -/
def nearR (ax ay bx by_ off : Int) : Bool := inB (ax - bx) (-off) off && inB (ay - by_) (-off) off
theorem nearR_yes {ax ay bx by_ off : Int} (h : inB (ax - bx) (-off) off = true) : nearR ax ay bx by_ off = inB (ay - by_) (-off) off := by unfold nearR; rw [h]; rfl
theorem nearR_no {ax ay bx by_ off : Int} (h : inB (ax - bx) (-off) off = false) : nearR ax ay bx by_ off = false := by unfold nearR; rw [h]; rfl
theorem inB_shift (q p r : Int) : inB (q - p) (-r) r = inB q (p - r) (p + r) := by
  unfold inB; exact decide_eq_decide.2 ⟨fun ⟨a, b⟩ => ⟨by omega, by omega⟩, fun ⟨a, b⟩ => ⟨by omega, by omega⟩⟩
theorem nearR_nearB (qx qy px py r : Int) : nearR qx qy px py r = nearB px py qx qy r := by unfold nearR nearB; rw [inB_shift, inB_shift]
set_option maxRecDepth 100000 in
set_option maxHeartbeats 400000 in
theorem rnear_any (ax ay bx by_ off : Int) (h1 : -1000 ≤ ax) (h2 : ax ≤ 1000) (h3 : -1000 ≤ ay) (h4 : ay ≤ 1000) (h5 : -1000 ≤ bx) (h6 : bx ≤ 1000) (h7 : -1000 ≤ by_) (h8 : by_ ≤ 1000) (h9 : 0 ≤ off) (h10 : off ≤ 1000) (w : World) :
    Calls Tryz.prog 142 #[.agg #[.int .i64 ax, .int .i64 ay], .agg #[.int .i64 bx, .int .i64 by_], .int .i64 off] w fun e w' => e = .returned (.bool (nearR ax ay bx by_ off)) ∧ Below w.heap.size w w' := by
  cases hx : inB (ax - bx) (-off) off with
  | true =>
    go_enter Tryz.func142, Tryz.ntmps142
    go_wp2_with (go_at_call 57; refine (in_any _ _ _ _).mono ?_; rintro e w' ⟨rfl, rfl⟩)
    go_ret
    exact ⟨ret_bool (nearR_yes hx).symm, ((Below.refl _ _).alloc (Nat.le_refl _) _).alloc (by simp) _⟩
  | false =>
    go_enter Tryz.func142, Tryz.ntmps142
    go_wp2_with (go_at_call 57; refine (in_any _ _ _ _).mono ?_; rintro e w' ⟨rfl, rfl⟩)
    go_ret
    exact ⟨ret_bool (nearR_no hx).symm, ((Below.refl _ _).alloc (Nat.le_refl _) _).alloc (by simp) _⟩
end Go.Proofs.YtmjmmokbaocboaaGreatDoor
namespace Go.Proofs.YtmjmmokbaocboaaGreatDoor
open Go.RowKit Go.Can
def eqL : List Int → List Int → Bool
  | [], [] => true
  | x :: l, y :: m => decide (x = y) && eqL l m
  | _, _ => false
theorem eqL_ok : ∀ {l m : List Int}, eqL l m = true → l = m
  | [], [], _ => rfl
  | x :: l, y :: m, h => by
    simp only [eqL, Bool.and_eq_true, decide_eq_true_iff] at h
    rw [h.1, eqL_ok h.2]
  | [], _ :: _, h => by simp [eqL] at h
  | _ :: _, [], h => by simp [eqL] at h
def eqLL : List (List Int) → List (List Int) → Bool
  | [], [] => true
  | x :: l, y :: m => eqL x y && eqLL l m
  | _, _ => false
theorem eqLL_ok : ∀ {l m : List (List Int)}, eqLL l m = true → l = m
  | [], [], _ => rfl
  | x :: l, y :: m, h => by
    simp only [eqLL, Bool.and_eq_true] at h
    rw [eqL_ok h.1, eqLL_ok h.2]
  | [], _ :: _, h => by simp [eqLL] at h
  | _ :: _, [], h => by simp [eqLL] at h
noncomputable def isII (m : List (List Int)) (v : Value) (c : CW) : Bool := match readII c v with
  | some l => eqLL l m
  | none => false
theorem isII_ok {m : List (List Int)} {v v' : Value} {c : CW} {f : Mp} {w : World} (h : isII m v c = true) (hv : VR f v v') (hh : HR f c w) (hm : 0 < m.length) (hall : ∀ x ∈ m, 0 < x.length) : SlII w v' m := by
  unfold isII at h
  split at h
  · next l hl => rw [eqLL_ok h] at hl; exact readII_ok hv hh hl hm hall
  · cases h
/-- the orders as integers. -/
def ordI (many : Nat) : List (List Int) := (ords many).map fun q => q.map Int.ofNat
def L2 : List (List Int) := [[0,1],[1,0]]
def L3 : List (List Int) := [[0,1,2],[0,2,1],[1,0,2],[1,2,0],[2,0,1],[2,1,0]]
def L4 : List (List Int) := [[0,1,2,3],[0,1,3,2],[0,2,1,3],[0,2,3,1],[0,3,1,2],[0,3,2,1],[1,0,2,3],[1,0,3,2],[1,2,0,3],[1,2,3,0],[1,3,0,2],[1,3,2,0],[2,0,1,3],[2,0,3,1],[2,1,0,3],[2,1,3,0],[2,3,0,1],[2,3,1,0],[3,0,1,2],[3,0,2,1],[3,1,0,2],[3,1,2,0],[3,2,0,1],[3,2,1,0]]
set_option maxRecDepth 10000000 in
set_option maxHeartbeats 0 in
theorem ords_run2 : runsA Tryz.prog [] 10000000 98 [.int .i64 2] (isII L2) = true := by kernel_rfl
set_option maxRecDepth 10000000 in
set_option maxHeartbeats 0 in
theorem ords_run3 : runsA Tryz.prog [] 10000000 98 [.int .i64 3] (isII L3) = true := by kernel_rfl
set_option maxRecDepth 10000000 in
set_option maxHeartbeats 0 in
theorem ords_run4 : runsA Tryz.prog [] 10000000 98 [.int .i64 4] (isII L4) = true := by kernel_rfl
theorem rorders_any (many : Nat) (h1 : 2 ≤ many) (h2 : many ≤ 4) (w : World) (hk : KG w) :
    Calls Tryz.prog 98 #[.int .i64 many] w fun e w' => ∃ v, e = .returned v ∧ SlII w' v (ordI many) ∧ Below w.heap.size w w' := by
  obtain rfl | rfl | rfl : many = 2 ∨ many = 3 ∨ many = 4 := by omega
  · refine (runsA_sound fair (fun _ h => by cases h) (by decide) ords_run2 w hk.num).mono fun e w' ⟨v, v', c, f, he, hc, hv, hh, hb⟩ => ?_
    have e2 : ordI 2 = L2 := by unfold ordI; rw [ords2]; rfl
    exact ⟨v', he, by rw [e2]; exact isII_ok hc hv hh (by decide) (by decide), hb⟩
  · refine (runsA_sound fair (fun _ h => by cases h) (by decide) ords_run3 w hk.num).mono fun e w' ⟨v, v', c, f, he, hc, hv, hh, hb⟩ => ?_
    have e2 : ordI 3 = L3 := by unfold ordI; rw [ords3]; rfl
    exact ⟨v', he, by rw [e2]; exact isII_ok hc hv hh (by decide) (by decide), hb⟩
  · refine (runsA_sound fair (fun _ h => by cases h) (by decide) ords_run4 w hk.num).mono fun e w' ⟨v, v', c, f, he, hc, hv, hh, hb⟩ => ?_
    have e2 : ordI 4 = L4 := by unfold ordI; rw [ords4]; rfl
    exact ⟨v', he, by rw [e2]; exact isII_ok hc hv hh (by decide) (by decide), hb⟩
end Go.Proofs.YtmjmmokbaocboaaGreatDoor
namespace Go.Proofs.YtmjmmokbaocboaaGreatDoor
open Go.RowKit Go.Can
/-- an order in memory. -/
def OrdAt (w : World) (b off n : Nat) (q : List Nat) : Prop := ∀ i, i < n → w.cell? ⟨b, off + i, none⟩ = some (.int .i64 ((q.getD i 0 : Nat) : Int))
theorem OrdAt.below {w w' : World} {b off n : Nat} {q : List Nat} (h : OrdAt w b off n q) (hb : Below w.heap.size w w') (hl : b < w.heap.size) : OrdAt w' b off n q := fun i hi => (hb.cell (p := ⟨b, off + i, none⟩) hl).trans (h i hi)
theorem agQ_no {fit : Nat → Nat → Bool} {n i : Nat} {q : List Nat} (hi : i < n) (h : fit i (q.getD i 0) = false) : agQ fit n q = false := by
  unfold agQ; exact decide_eq_false (fun hh => by have := hh i hi; rw [h] at this; cases this)
theorem agQ_yes {fit : Nat → Nat → Bool} {n : Nat} {q : List Nat} (h : ∀ i, i < n → fit i (q.getD i 0) = true) : agQ fit n q = true := by unfold agQ; exact decide_eq_true h
set_option maxRecDepth 100000 in
set_option maxHeartbeats 2000000 in
theorem ragrees_any (pb po pc n t ob oo oc hb ho hc : Nat) (q : List Nat) (HX HY PX PY : Nat → Int) (r : Int) (w : World) (ht : t < 8) (hn : n ≤ 6) (hr0 : 0 ≤ r) (hr1 : r ≤ 500)
    (hP : Pts w pb po n PX PY) (hH : Pts w hb ho n HX HY) (hO : OrdAt w ob oo n q) (lp : pb < w.heap.size) (lh : hb < w.heap.size) (lo : ob < w.heap.size)
    (hq : ∀ i, i < n → q.getD i 0 < n) (hsP : ∀ i, i < n → small (PX i, PY i)) (hsH : ∀ i, i < n → small (HX i, HY i)) :
    Calls Tryz.prog 99 #[.slice (some ⟨pb, po, none⟩) n pc, .int .i64 t, .slice (some ⟨ob, oo, none⟩) n oc, .slice (some ⟨hb, ho, none⟩) n hc, .int .i64 r] w fun e w' => e = .returned (.bool (agQ (fitB HX HY PX PY r t) n q)) ∧ Below w.heap.size w w' := by
  go_enter Tryz.func99, Tryz.ntmps99
  go_wp2
  go_loopw [11] (fun i wr => ∃ k : Nat, k ≤ n ∧ i = .int .i64 k ∧ Below w.heap.size w wr ∧ ∀ m, m < k → fitB HX HY PX PY r t m (q.getD m 0) = true) (fun i _ => n - (intOf i).toNat)
  case atStart => exact ⟨0, Nat.zero_le _, rfl, Below.refl _ _, fun _ h => absurd h (Nat.not_lt_zero _)⟩
  case round =>
    obtain ⟨i, hi, rfl, hbl, hall⟩ := hrel
    have hzl := hbl.size
    by_cases hlt : i < n
    · obtain ⟨d1, d2⟩ := (hH.below hbl lh) i hlt
      obtain ⟨d3, d4⟩ := (hP.below hbl lp) (q.getD i 0) (hq i hlt)
      have d5 := (hO.below hbl lo) i hlt
      obtain ⟨⟨s1, s2⟩, s3, s4⟩ := hsH i hlt
      obtain ⟨⟨u1, u2⟩, u3, u4⟩ := hsP (q.getD i 0) (hq i hlt)
      obtain ⟨⟨v1, v2⟩, v3, v4⟩ := trn_small (t := t) (hsP (q.getD i 0) (hq i hlt))
      have hqi := hq i hlt
      generalize hj : q.getD i 0 = j at *
      dsimp only at s1 s2 s3 s4 u1 u2 u3 u4
      have hT := fun W => rturn_any t ht (PX j) (PY j) u1 u2 u3 u4 W
      generalize hqx : (trn t (PX j, PY j)).1 = qx at *
      generalize hqy : (trn t (PX j, PY j)).2 = qy at *
      have hi0 : (0 : Int) ≤ (i : Int) := Int.natCast_nonneg _
      have hi1 : (i : Int) < (n : Int) := by omega
      have hj0 : (0 : Int) ≤ (j : Int) := Int.natCast_nonneg _
      have hj1 : (j : Int) < (n : Int) := by omega
      have hfit : fitB HX HY PX PY r t i j = nearR qx qy (HX i) (HY i) r := by rw [nearR_nearB]; unfold fitB; rw [hqx, hqy]
      go_wp2_with fail
      go_region_held3 (fun w' => w'.cell? ⟨ob, oo + i, none⟩ = some (.int .i64 j) ∧ w'.cell? ⟨pb, po + j * 2, none⟩ = some (.int .i64 (PX j)) ∧ w'.cell? ⟨pb, po + j * 2 + 1, none⟩ = some (.int .i64 (PY j)) ∧ w'.cell? ⟨hb, ho + i * 2, none⟩ = some (.int .i64 (HX i)) ∧ w'.cell? ⟨hb, ho + i * 2 + 1, none⟩ = some (.int .i64 (HY i)))
        (first
          | (go_keep; done)
          | (go_split_ands
             refine ⟨?_, ?_, ?_, ?_, ?_⟩ <;> (rw [hbb.cell (by first | omega | (simp; omega) | simp)]; assumption)))
        (first
          | (go_at_call 116; refine (hT _).mono ?_; rintro e w' ⟨rfl, hbb⟩; have hs := hbb.size; try simp only [World.size_alloc, World.size_drew] at hs)
          | (go_at_call 142; refine (rnear_any _ _ _ _ _ (by omega) (by omega) (by omega) (by omega) (by omega) (by omega) (by omega) (by omega) (by omega) (by omega) _).mono ?_; rintro e w' ⟨rfl, hbb⟩; have hs := hbb.size; try simp only [World.size_alloc, World.size_drew] at hs))
      rename_i wA hA hsA _
      have hbw : Below w.heap.size w w' := hbl.trans ((((Below.refl _ _).drew).trans ((hA.mono (by simp)).trans (hbb.mono (by simpa using hsA)))).mono hzl)
      cases hv : nearR qx qy (HX i) (HY i) r with
      | true =>
        rw [hv] at hfit
        go_wp2
        go_roundw
        case rel => exact ⟨i + 1, by omega, by go_num, hbw, all_succ (p := fun m => fitB HX HY PX PY r t m (q.getD m 0) = true) hall (by rw [hj]; exact hfit)⟩
        case measure => simp [intOf]; omega
      | false =>
        rw [hv] at hfit
        go_wp2
        go_ret
        exact ⟨ret_bool (agQ_no hlt (by rw [hj]; exact hfit)).symm, hbw⟩
    · obtain rfl : n = i := by omega
      go_wp2
      go_ret
      exact ⟨ret_bool (agQ_yes hall).symm, hbl⟩
/-! ### The reference's Match -/
theorem find_at {P : List Nat → Bool} {l : List (List Nat)} {k : Nat} (hk : k < l.length) (hno : ∀ j, j < k → ∀ h : j < l.length, P l[j] = false) (hyes : P l[k] = true) : l.find? P = some l[k] := by
  induction l generalizing k with
  | nil => simp at hk
  | cons a l ih =>
    cases k with
    | zero => simp at hyes ⊢; simp [List.find?_cons, hyes]
    | succ k =>
      have h0 := hno 0 (by omega) (by simp)
      simp at h0
      rw [List.find?_cons, h0]
      simp at hyes hk ⊢
      exact ih hk (fun j hj h => by have := hno (j+1) (by omega) (by simp; omega); simpa using this) hyes
theorem find_no {P : List Nat → Bool} {l : List (List Nat)} (hno : ∀ j, j < l.length → ∀ h : j < l.length, P l[j] = false) : l.find? P = none := by
  rw [List.find?_eq_none]
  intro x hx
  obtain ⟨j, hj, rfl⟩ := List.getElem_of_mem hx
  rw [hno j hj hj]; simp
theorem ords_perm {many : Nat} (h1 : 2 ≤ many) (h2 : many ≤ 4) : ∀ q ∈ ords many, q.length = many ∧ ∀ i, i < many → q.getD i 0 < many := by
  obtain rfl | rfl | rfl : many = 2 ∨ many = 3 ∨ many = 4 := by omega
  · rw [ords2]; decide
  · rw [ords3]; decide
  · rw [ords4]; decide
theorem SlI_ord {w : World} {v : Value} {q : List Nat} (h : SlI w v (q.map Int.ofNat)) : ∃ b o cap, v = .slice (some ⟨b, o, none⟩) q.length cap ∧ q.length ≤ cap ∧ b < w.heap.size ∧ OrdAt w b o q.length q := by
  obtain ⟨b, o, cap, h1, h0, h2, h3⟩ := h
  rw [List.length_map] at h1 h0
  refine ⟨b, o, cap, h1, h0, h2, fun i hi => ?_⟩
  rw [h3 i (by rw [List.length_map]; exact hi)]
  simp [List.getD, hi]
end Go.Proofs.YtmjmmokbaocboaaGreatDoor
