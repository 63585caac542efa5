/- A part of the proof: see the last file. -/
import Derived.Test.YtmjmmokbaocboaaGreatDoorPay
import Derived.Test.YtmjmmokbaocboaaGreatDoorPaz
import Derived.Test.YtmjmmokbaocboaaGreatDoorPba
import Derived.Test.YtmjmmokbaocboaaGreatDoorPbb
import Derived.Test.YtmjmmokbaocboaaGreatDoorPbc
import Derived.Test.YtmjmmokbaocboaaGreatDoorPbd
import Derived.Test.YtmjmmokbaocboaaGreatDoorPbe
import Derived.Test.YtmjmmokbaocboaaGreatDoorPbf
import Derived.Test.YtmjmmokbaocboaaGreatDoorPbg
import Derived.Test.YtmjmmokbaocboaaGreatDoorPbh
import Derived.Test.YtmjmmokbaocboaaGreatDoorPbi
import Derived.Test.YtmjmmokbaocboaaGreatDoorPbj
import Derived.Test.YtmjmmokbaocboaaGreatDoorPas
import Derived.Test.YtmjmmokbaocboaaGreatDoorPae
set_option linter.unusedVariables false
set_option linter.unusedSimpArgs false
set_option linter.unusedSectionVars false
namespace Go.Proofs.YtmjmmokbaocboaaGreatDoor
open Go Go.Proofs Go.Can Go.RowKit
/-- the package-level variables hold what the text lays -/
structure KG (w : World) : Prop where
  g0 : ∃ e f, w.heap[3]? = some (.cells cells0.toArray e f)
  g1 : ∃ e f, w.heap[4]? = some (.cells cells1.toArray e f)
  g2 : ∃ e f, w.heap[2]? = some (.cells cells2.toArray e f)
  g3 : ∃ e f, w.heap[0]? = some (.cells cells3.toArray e f)
theorem KG.below {w w' : World} (h : KG w) (hb : Below w.heap.size w w') : KG w' := by
  have lt : ∀ {i : Nat} {o : Obj}, w.heap[i]? = some o → i < w.heap.size := fun h => (Array.getElem?_eq_some_iff.1 h).1
  obtain ⟨⟨e0, f0, h0⟩, ⟨e1, f1, h1⟩, ⟨e2, f2, h2⟩, ⟨e3, f3, h3⟩⟩ := h
  exact ⟨⟨e0, f0, by rw [hb.block _ (lt h0)]; exact h0⟩, ⟨e1, f1, by rw [hb.block _ (lt h1)]; exact h1⟩, ⟨e2, f2, by rw [hb.block _ (lt h2)]; exact h2⟩, ⟨e3, f3, by rw [hb.block _ (lt h3)]; exact h3⟩⟩
theorem KG.num {w : World} (h : KG w) : Glob.num ≤ w.heap.size := by
  obtain ⟨⟨e0, f0, h0⟩, ⟨e1, f1, h1⟩, ⟨e2, f2, h2⟩, ⟨e3, f3, h3⟩⟩ := h
  exact (Array.getElem?_eq_some_iff.1 h1).1
theorem known_ok (w : World) (h : KG w) : Calls Tryz.prog 9 #[] w fun e w' => e = .returned (.bool true) ∧ Below w.heap.size w w' := by
  have hn := h.num
  obtain ⟨⟨e0, f0, h0⟩, ⟨e1, f1, h1⟩, ⟨e2, f2, h2⟩, ⟨e3, f3, h3⟩⟩ := h
  refine runsM_true fair (ms := [memoF0, memoF1, memoF2, memoF3, memoF4, memoF5, memoF6, memoF7, memoF8, memoJ0]) (fun m hm => ?_) (known_run e0 e1 e2 e3 f0 f1 f2 f3) w ⟨hn, fun g o hg => ?_⟩
  · simp only [List.mem_cons, List.not_mem_nil, or_false] at hm
    rcases hm with rfl | rfl | rfl | rfl | rfl | rfl | rfl | rfl | rfl | rfl
    · exact memoF0_ok
    · exact memoF1_ok
    · exact memoF2_ok
    · exact memoF3_ok
    · exact memoF4_ok
    · exact memoF5_ok
    · exact memoF6_ok
    · exact memoF7_ok
    · exact memoF8_ok
    · exact memoJ0_ok
  · simp only [List.mem_cons, List.not_mem_nil, or_false, Prod.mk.injEq] at hg
    rcases hg with ⟨rfl, rfl⟩ | ⟨rfl, rfl⟩ | ⟨rfl, rfl⟩ | ⟨rfl, rfl⟩
    · exact ⟨_, h0, .plain (by kernel_rfl)⟩
    · exact ⟨_, h1, .plain (by kernel_rfl)⟩
    · exact ⟨_, h2, .plain (by kernel_rfl)⟩
    · exact ⟨_, h3, .plain (by kernel_rfl)⟩
end Go.Proofs.YtmjmmokbaocboaaGreatDoor
namespace Go.Proofs.YtmjmmokbaocboaaGreatDoor
open Go.RowKit
set_option maxRecDepth 100000 in
set_option maxHeartbeats 1000000 in
theorem slim_any (m : Mach) (w : World) (hs : m.sn ≤ 9223372036854775807) (hr : m.rn ≤ 9223372036854775807) :
    Calls Tryz.prog 8 #[m.val] w fun e w' => e = .returned (.bool (decide (m.sn ≤ 6) && decide (m.rn ≤ 6))) ∧ Below w.heap.size w w' := by
  obtain ⟨W0, hW⟩ : ∃ W0, w.alloc (.cells #[.slice m.sa m.sn m.sc, .int .i64 m.c0, .int .i64 m.c1, .int .i64 m.d0, .int .i64 m.d1, .int .i64 m.w0, .int .i64 m.w1, .int .i64 m.v0, .int .i64 m.v1, .slice m.ra m.rn m.rc] 29) = W0 := ⟨_, rfl⟩
  have hb0 : Below w.heap.size w W0 := by rw [← hW]; exact (Below.refl _ _).alloc (Nat.le_refl _) _
  have hMB : MAt W0 w.heap.size m := by rw [← hW]; exact MAt.new w m
  obtain ⟨q0, q1, q2, q3, q4, q5, q6, q7, q8, q9⟩ := hMB
  by_cases h1 : m.sn ≤ 6
  · have h1' : (m.sn : Int) ≤ 6 := by omega
    by_cases h2 : m.rn ≤ 6
    · have h2' : (m.rn : Int) ≤ 6 := by omega
      go_enter Tryz.func8, Tryz.ntmps8
      go_wp2
      go_ret
      exact ⟨ret_bool (by simp [h1, h2, h1', h2']), hb0⟩
    · have h2' : ¬ (m.rn : Int) ≤ 6 := by omega
      go_enter Tryz.func8, Tryz.ntmps8
      go_wp2
      go_ret
      exact ⟨ret_bool (by simp [h1, h2, h1', h2']), hb0⟩
  · have h1' : ¬ (m.sn : Int) ≤ 6 := by omega
    go_enter Tryz.func8, Tryz.ntmps8
    go_wp2
    go_ret
    exact ⟨ret_bool (by simp [h1, h1']), hb0⟩
/-! ### what Known and Machine answer, in one form -/
end Go.Proofs.YtmjmmokbaocboaaGreatDoor
namespace Go.Proofs.YtmjmmokbaocboaaGreatDoor
open Go.RowKit Go.Can
/-- the blocks of a machine and a truth. -/
structure MX (w W : World) (m : Mach) (a1 : Option Addr) (n1 c1 : Nat) (a2 : Option Addr) (n2 c2 : Nat) : Prop where
  mach : MAt W w.heap.size m
  x0 : W.cell? ⟨w.heap.size + 1, 0, none⟩ = some (.slice a1 n1 c1)
  x1 : W.cell? ⟨w.heap.size + 1, 1, none⟩ = some (.slice a2 n2 c2)
  old : Below w.heap.size w W
  big : w.heap.size + 2 ≤ W.heap.size
theorem MX.new (w : World) (m : Mach) (a1 : Option Addr) (n1 c1 : Nat) (a2 : Option Addr) (n2 c2 : Nat) : MX w ((w.alloc (.cells #[.slice m.sa m.sn m.sc, .int .i64 m.c0, .int .i64 m.c1, .int .i64 m.d0, .int .i64 m.d1, .int .i64 m.w0, .int .i64 m.w1, .int .i64 m.v0, .int .i64 m.v1, .slice m.ra m.rn m.rc] 29)).alloc (.cells #[.slice a1 n1 c1, .slice a2 n2 c2] 45)) m a1 n1 c1 a2 n2 c2 := by
  refine ⟨(MAt.new w m).below ((Below.refl _ _).alloc (Nat.le_refl _) _) (by rw [World.size_alloc]; omega), ?_, ?_, ((Below.refl _ _).alloc (Nat.le_refl _) _).alloc (by rw [World.size_alloc]; omega) _, by rw [World.size_alloc, World.size_alloc]; omega⟩
  · have h := cells_new (w.alloc (.cells #[.slice m.sa m.sn m.sc, .int .i64 m.c0, .int .i64 m.c1, .int .i64 m.d0, .int .i64 m.d1, .int .i64 m.w0, .int .i64 m.w1, .int .i64 m.v0, .int .i64 m.v1, .slice m.ra m.rn m.rc] 29)) #[.slice a1 n1 c1, .slice a2 n2 c2] 45 (j := 0) rfl
    rw [World.size_alloc] at h; exact h
  · have h := cells_new (w.alloc (.cells #[.slice m.sa m.sn m.sc, .int .i64 m.c0, .int .i64 m.c1, .int .i64 m.d0, .int .i64 m.d1, .int .i64 m.w0, .int .i64 m.w1, .int .i64 m.v0, .int .i64 m.v1, .slice m.ra m.rn m.rc] 29)) #[.slice a1 n1 c1, .slice a2 n2 c2] 45 (j := 1) rfl
    rw [World.size_alloc] at h; exact h
theorem MX.below {w W W' : World} {m : Mach} {a1 : Option Addr} {n1 c1 : Nat} {a2 : Option Addr} {n2 c2 : Nat} (h : MX w W m a1 n1 c1 a2 n2 c2) (hb : Below W.heap.size W W') : MX w W' m a1 n1 c1 a2 n2 c2 :=
  have hg := h.big
  ⟨h.mach.below hb (by omega), (hb.cell (p := ⟨w.heap.size + 1, 0, none⟩) (by show w.heap.size + 1 < _; omega)).trans h.x0, (hb.cell (p := ⟨w.heap.size + 1, 1, none⟩) (by show w.heap.size + 1 < _; omega)).trans h.x1, h.old.trans (hb.mono h.old.size), Nat.le_trans h.big hb.size⟩
end Go.Proofs.YtmjmmokbaocboaaGreatDoor
namespace Go.Proofs.YtmjmmokbaocboaaGreatDoor
open Go.RowKit Go.Can
theorem MX.two {w W : World} {m : Mach} {a1 : Option Addr} {n1 c1 : Nat} {a2 : Option Addr} {n2 c2 : Nat} (h : MX w W m a1 n1 c1 a2 n2 c2) (o1 o2 : Obj) : MX w ((W.alloc o1).alloc o2) m a1 n1 c1 a2 n2 c2 :=
  (h.below ((Below.refl _ W).alloc (Nat.le_refl _) o1)).below ((Below.refl _ _).alloc (Nat.le_refl _) o2)
end Go.Proofs.YtmjmmokbaocboaaGreatDoor
namespace Go.Proofs.YtmjmmokbaocboaaGreatDoor
open Go.RowKit Go.Can
/-- two spans in blocks of their own. -/
structure AB (W : World) (s : Nat) (x0 x1 z0 z1 : Int) : Prop where
  a0 : W.cell? ⟨s, 0, none⟩ = some (.int .i64 x0)
  a1 : W.cell? ⟨s, 1, none⟩ = some (.int .i64 x1)
  b0 : W.cell? ⟨s + 1, 0, none⟩ = some (.int .i64 z0)
  b1 : W.cell? ⟨s + 1, 1, none⟩ = some (.int .i64 z1)
  big : s + 2 ≤ W.heap.size
theorem AB.new (w : World) (x0 x1 z0 z1 : Int) (t : TypeId) : AB ((w.alloc (Obj.cells #[.int .i64 x0, .int .i64 x1] t)).alloc (Obj.cells #[.int .i64 z0, .int .i64 z1] t)) w.heap.size x0 x1 z0 z1 := by
  have hb : Below (w.alloc (Obj.cells #[.int .i64 x0, .int .i64 x1] t)).heap.size (w.alloc (Obj.cells #[.int .i64 x0, .int .i64 x1] t)) ((w.alloc (Obj.cells #[.int .i64 x0, .int .i64 x1] t)).alloc (Obj.cells #[.int .i64 z0, .int .i64 z1] t)) := (Below.refl _ _).alloc (Nat.le_refl _) _
  have hs := World.size_alloc w (Obj.cells #[.int .i64 x0, .int .i64 x1] t)
  refine ⟨?_, ?_, ?_, ?_, by rw [World.size_alloc, World.size_alloc]; omega⟩
  · exact (hb.cell (p := ⟨w.heap.size, 0, none⟩) (by show w.heap.size < _; omega)).trans (cells_new w _ _ rfl)
  · exact (hb.cell (p := ⟨w.heap.size, 1, none⟩) (by show w.heap.size < _; omega)).trans (cells_new w _ _ rfl)
  · have := cells_new (w.alloc (Obj.cells #[.int .i64 x0, .int .i64 x1] t)) #[.int .i64 z0, .int .i64 z1] t (j := 0) rfl
    rw [hs] at this; exact this
  · have := cells_new (w.alloc (Obj.cells #[.int .i64 x0, .int .i64 x1] t)) #[.int .i64 z0, .int .i64 z1] t (j := 1) rfl
    rw [hs] at this; exact this
theorem AB.below {W W' : World} {s : Nat} {x0 x1 z0 z1 : Int} (h : AB W s x0 x1 z0 z1) (hb : Below W.heap.size W W') : AB W' s x0 x1 z0 z1 :=
  have hg := h.big
  ⟨(hb.cell (p := ⟨s, 0, none⟩) (by show s < _; omega)).trans h.a0, (hb.cell (p := ⟨s, 1, none⟩) (by show s < _; omega)).trans h.a1, (hb.cell (p := ⟨s + 1, 0, none⟩) (by show s + 1 < _; omega)).trans h.b0, (hb.cell (p := ⟨s + 1, 1, none⟩) (by show s + 1 < _; omega)).trans h.b1, Nat.le_trans h.big hb.size⟩
end Go.Proofs.YtmjmmokbaocboaaGreatDoor
namespace Go.Proofs.YtmjmmokbaocboaaGreatDoor
open Go.RowKit
theorem PoR.two {w W : World} {m : Mach} (h : PoR w m W) (o1 o2 : Obj) : PoR w m ((W.alloc o1).alloc o2) :=
  (h.below ((Below.refl _ W).alloc (Nat.le_refl _) o1)).below ((Below.refl _ _).alloc (Nat.le_refl _) o2)
theorem AB.two {W : World} {s : Nat} {x0 x1 z0 z1 : Int} (h : AB W s x0 x1 z0 z1) (o1 o2 : Obj) : AB ((W.alloc o1).alloc o2) s x0 x1 z0 z1 :=
  (h.below ((Below.refl _ W).alloc (Nat.le_refl _) o1)).below ((Below.refl _ _).alloc (Nat.le_refl _) o2)
theorem PoR.new (w : World) (m : Mach) : PoR w m (w.alloc (.cells #[.slice m.sa m.sn m.sc, .int .i64 m.c0, .int .i64 m.c1, .int .i64 m.d0, .int .i64 m.d1, .int .i64 m.w0, .int .i64 m.w1, .int .i64 m.v0, .int .i64 m.v1, .slice m.ra m.rn m.rc] 29)) :=
  ⟨MAt.new w m, (Below.refl _ _).alloc (Nat.le_refl _) _, by rw [World.size_alloc]; omega⟩
set_option maxRecDepth 100000 in
set_option maxHeartbeats 4000000 in
theorem able_any (m : Mach) (er : Int) (hA : Able m true er) (w : World) (hs : m.sn ≤ 1000) (hr : m.rn ≤ 1000) (h : MIn w m) :
    Calls Tryz.prog 25 #[m.val] w fun e w' => e = .returned (.int .i64 er) ∧ Below w.heap.size w w' := by
  obtain ⟨W0, hW⟩ : ∃ W0, w.alloc (.cells #[.slice m.sa m.sn m.sc, .int .i64 m.c0, .int .i64 m.c1, .int .i64 m.d0, .int .i64 m.d1, .int .i64 m.w0, .int .i64 m.w1, .int .i64 m.v0, .int .i64 m.v1, .slice m.ra m.rn m.rc] 29) = W0 := ⟨_, rfl⟩
  have hX : PoR w m W0 := by rw [← hW]; exact PoR.new w m
  have hma := fun (W : World) (hB : Below w.heap.size w W) => rmachine_any m W (by omega) (by omega) (h.below hB)
  obtain ⟨q0, q1, q2, q3, q4, q5, q6, q7, q8, q9⟩ := id hX.mat
  cases hok : m.ok with
  | false =>
    obtain rfl := hA.arg (by rw [hok]; rfl)
    rw [hok] at hma
    go_enter Tryz.func25, Tryz.ntmps25
    go_wp2_with (go_at_call 17; with_reducible refine (hma _ hX.old).mono ?_; rintro e w1 ⟨rfl, hb⟩; replace hX := hX.below hb)
    go_ret
    exact ⟨rfl, hX.old⟩
  | true =>
    rw [hok] at hma
    obtain ⟨b, hb, hp⟩ := rpossible_b m hok
    have hpo := fun (W : World) (hB : Below w.heap.size w W) => hp W (h.below hB)
    cases b with
    | false =>
      obtain rfl := hA.rule (by rw [hok]; rfl) (fun hc => by have := hb.2 hc; cases this)
      clear hp hb
      go_enter Tryz.func25, Tryz.ntmps25
      go_wp2_with (first
        | (go_at_call 17; with_reducible refine (hma _ hX.old).mono ?_; rintro e w1 ⟨rfl, hb⟩; replace hX := hX.below hb; obtain ⟨q0, q1, q2, q3, q4, q5, q6, q7, q8, q9⟩ := id hX.mat)
        | (go_at_call 68; with_reducible refine (hpo _ hX.old).mono ?_; rintro e w2 ⟨rfl, hb⟩; replace hX := hX.below hb))
      go_ret
      exact ⟨rfl, hX.old⟩
    | true =>
      obtain rfl := hA.ok (by rw [hok]; rfl) (hb.1 rfl)
      clear hp hb
      go_enter Tryz.func25, Tryz.ntmps25
      go_wp2_with (first
        | (go_at_call 17; with_reducible refine (hma _ hX.old).mono ?_; rintro e w1 ⟨rfl, hb⟩; replace hX := hX.below hb; obtain ⟨q0, q1, q2, q3, q4, q5, q6, q7, q8, q9⟩ := id hX.mat)
        | (go_at_call 68; with_reducible refine (hpo _ hX.old).mono ?_; rintro e w2 ⟨rfl, hb⟩; replace hX := hX.below hb))
      go_ret
      exact ⟨rfl, hX.old⟩
end Go.Proofs.YtmjmmokbaocboaaGreatDoor
namespace Go.Proofs.YtmjmmokbaocboaaGreatDoor
open Go.RowKit
end Go.Proofs.YtmjmmokbaocboaaGreatDoor
namespace Go.Proofs.YtmjmmokbaocboaaGreatDoor
open Go.RowKit Go.Can
def L2 : List (List Int) := [[0,1],[1,0]]
def L3 : List (List Int) := [[0,1,2],[0,2,1],[1,0,2],[1,2,0],[2,0,1],[2,1,0]]
def L4 : List (List Int) := [[0,1,2,3],[0,1,3,2],[0,2,1,3],[0,2,3,1],[0,3,1,2],[0,3,2,1],[1,0,2,3],[1,0,3,2],[1,2,0,3],[1,2,3,0],[1,3,0,2],[1,3,2,0],[2,0,1,3],[2,0,3,1],[2,1,0,3],[2,1,3,0],[2,3,0,1],[2,3,1,0],[3,0,1,2],[3,0,2,1],[3,1,0,2],[3,1,2,0],[3,2,0,1],[3,2,1,0]]
end Go.Proofs.YtmjmmokbaocboaaGreatDoor
namespace Go.Proofs.YtmjmmokbaocboaaGreatDoor
open Go.RowKit Go.Can
/-- an order in memory. -/
def OrdAt (w : World) (b off n : Nat) (q : List Nat) : Prop := ∀ i, i < n → w.cell? ⟨b, off + i, none⟩ = some (.int .i64 ((q.getD i 0 : Nat) : Int))
theorem OrdAt.below {w w' : World} {b off n : Nat} {q : List Nat} (h : OrdAt w b off n q) (hb : Below w.heap.size w w') (hl : b < w.heap.size) : OrdAt w' b off n q := fun i hi => (hb.cell (p := ⟨b, off + i, none⟩) hl).trans (h i hi)
/-! ### The reference's Match -/
end Go.Proofs.YtmjmmokbaocboaaGreatDoor
