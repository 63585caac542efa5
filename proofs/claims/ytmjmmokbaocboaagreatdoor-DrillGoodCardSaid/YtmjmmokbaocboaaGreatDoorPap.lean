/- A part of the proof: see the last file. -/
import Derived.Test.YtmjmmokbaocboaaGreatDoorPag
import Derived.Test.YtmjmmokbaocboaaGreatDoorPaa
import Derived.Test.YtmjmmokbaocboaaGreatDoorPae
import Derived.Test.YtmjmmokbaocboaaGreatDoorPaj
import Derived.Deep.AppendLies
import Derived.OwnWalk
import Derived.Test.YtmjmmokbaocboaaGreatDoorPak
import Derived.Test.YtmjmmokbaocboaaGreatDoorPam
set_option linter.unusedVariables false
set_option linter.unusedSimpArgs false
set_option linter.unusedSectionVars false
namespace Go.Proofs.YtmjmmokbaocboaaGreatDoor
open Go.RowKit
def Mach.mark (m : Mach) (i : Nat) : Int × Int × Int × Int × Int := (m.RB i, m.RX i - m.RE i, m.RX i + m.RE i, m.RY i - m.RE i, m.RY i + m.RE i)
end Go.Proofs.YtmjmmokbaocboaaGreatDoor
namespace Go.Proofs.YtmjmmokbaocboaaGreatDoor
open Go.RowKit
/-- rows apart. -/
def Apr (a b : Value) : Prop := ∀ g, a.ownBlock = some g → b.ownBlock ≠ some g
theorem Apr.symm {a b : Value} (h : Apr a b) : Apr b a := fun g h1 h2 => h g h2 h1
/-- two rows of spans. -/
structure R2X (w : World) (B : Nat) (W : World) (n1 n2 : Nat) (p q : Value) (F1 F2 : Nat → Int × Int) : Prop where
  o1 : W.ownsRow B 26 2 p n1 (crsL F1 n1)
  o2 : W.ownsRow B 26 2 q n2 (crsL F2 n2)
  d : Apr p q
  old : Below w.heap.size w W
  low : w.heap.size ≤ B
  big : B ≤ W.heap.size
theorem R2X.below {w : World} {B : Nat} {W W' : World} {n1 n2 : Nat} {p q : Value} {F1 F2 : Nat → Int × Int} (h : R2X w B W n1 n2 p q F1 F2) (hb : Below W.heap.size W W') : R2X w B W' n1 n2 p q F1 F2 :=
  ⟨ownsRow_below h.o1 hb, ownsRow_below h.o2 hb, h.d, h.old.trans (hb.mono h.old.size), h.low, Nat.le_trans h.big hb.size⟩
/-- marks in memory. -/
def MkPts (w : World) (b off n : Nat) (f : Nat → Int × Int × Int × Int × Int) : Prop := ∀ i, i < n → w.cell? ⟨b, off + i * 5, none⟩ = some (.int .i64 (f i).1) ∧ w.cell? ⟨b, off + i * 5 + 1, none⟩ = some (.int .i64 (f i).2.1) ∧ w.cell? ⟨b, off + i * 5 + 2, none⟩ = some (.int .i64 (f i).2.2.1) ∧ w.cell? ⟨b, off + i * 5 + 3, none⟩ = some (.int .i64 (f i).2.2.2.1) ∧ w.cell? ⟨b, off + i * 5 + 4, none⟩ = some (.int .i64 (f i).2.2.2.2)
theorem MkPts.far {w w' : World} {b off n : Nat} {f : Nat → Int × Int × Int × Int × Int} (h : MkPts w b off n f) (hh : w'.heap[b]? = w.heap[b]?) : MkPts w' b off n f := fun i hi => by
  obtain ⟨h1, h2, h3, h4, h5⟩ := h i hi
  exact ⟨(World.cell?_of_block hh).trans h1, (World.cell?_of_block hh).trans h2, (World.cell?_of_block hh).trans h3, (World.cell?_of_block hh).trans h4, (World.cell?_of_block hh).trans h5⟩
/-- a slice of marks. -/
def MkSl (w : World) (v : Value) (n : Nat) (f : Nat → Int × Int × Int × Int × Int) : Prop := ∃ a c, v = .slice a n c ∧ (0 < n → ∃ b off, a = some ⟨b, off, none⟩ ∧ b < w.heap.size ∧ MkPts w b off n f)
theorem MkSl.below {w w' : World} {v : Value} {n : Nat} {f : Nat → Int × Int × Int × Int × Int} (h : MkSl w v n f) (hb : Below w.heap.size w w') : MkSl w' v n f := by
  obtain ⟨a, c, rfl, h⟩ := h
  refine ⟨a, c, rfl, fun hn => ?_⟩
  obtain ⟨b, off, rfl, hl, h⟩ := h hn
  exact ⟨b, off, rfl, Nat.lt_of_lt_of_le hl hb.size, h.far (hb.block b hl)⟩
end Go.Proofs.YtmjmmokbaocboaaGreatDoor
namespace Go.Proofs.YtmjmmokbaocboaaGreatDoor
open Go.RowKit
end Go.Proofs.YtmjmmokbaocboaaGreatDoor
/-! A late operation waits for another one: shown by a path of edges. No seat. -/
namespace Go
section
variable {P : Program} {ops : Array Oper} {md : Region.Mode}
end
end Go
namespace Go.Proofs.YtmjmmokbaocboaaGreatDoor
open Go.RowKit
/-- what stays while the reference's axis works: the chuck's and the wear's spans, in blocks of their own; g is the block of the list. -/
structure AxR (w : World) (g : Nat) (c0 c1 w0 w1 : Int) (W : World) : Prop where
  t1 : Two W w.heap.size c0 c1
  t2 : Two W (w.heap.size + 1) w0 w1
  old : Below w.heap.size w W
  lo : w.heap.size + 2 ≤ g
  hi : g < W.heap.size
theorem AxR.below {w : World} {g : Nat} {c0 c1 w0 w1 : Int} {W W' : World} (h : AxR w g c0 c1 w0 w1 W) (hb : Below W.heap.size W W') : AxR w g c0 c1 w0 w1 W' :=
  have h1 := h.lo; have h2 := h.hi
  ⟨h.t1.below hb (by omega), h.t2.below hb (by omega), h.old.trans (hb.mono h.old.size), h.lo, Nat.lt_of_lt_of_le h.hi hb.size⟩
theorem AxR.store {w : World} {g : Nat} {c0 c1 w0 w1 : Int} {W : World} (h : AxR w g c0 c1 w0 w1 W) (o1 o2 : Nat) (x y : Value) : AxR w g c0 c1 w0 w1 ((W.setCell ⟨g, o1, none⟩ x).setCell ⟨g, o2, none⟩ y) := by
  have h1 := h.lo
  have k : ∀ A, A ≠ g → ((W.setCell ⟨g, o1, none⟩ x).setCell ⟨g, o2, none⟩ y).heap[A]? = W.heap[A]? := fun A hA => (Below.heap_setCell _ ⟨g, o2, none⟩ y A hA).trans (Below.heap_setCell W ⟨g, o1, none⟩ x A hA)
  exact ⟨h.t1.far (k _ (by omega)), h.t2.far (k _ (by omega)), (h.old.setCell (p := ⟨g, o1, none⟩) (by show w.heap.size ≤ g; omega) _).setCell (p := ⟨g, o2, none⟩) (by show w.heap.size ≤ g; omega) _, h.lo, by rw [World.size_setCell, World.size_setCell]; exact h.hi⟩
theorem CAt.congr {W : World} {C : Nat} {f g : Nat → Int × Int} (h : CAt W C f) (hfg : ∀ j, j < 13 → f j = g j) : CAt W C g := ⟨fun j hj => by rw [← hfg j hj]; exact h.c j hj, h.z⟩
end Go.Proofs.YtmjmmokbaocboaaGreatDoor
namespace Go.Proofs.YtmjmmokbaocboaaGreatDoor
open Go.RowKit
/-- what stays while the reference's Bounds works: gx and gy are the blocks of the two lists. -/
structure BdR (w : World) (gx gy : Nat) (W : World) : Prop where
  old : Below w.heap.size w W
  lx : w.heap.size ≤ gx
  hx : gx < W.heap.size
  ly : w.heap.size ≤ gy
  hy : gy < W.heap.size
  ne : gx ≠ gy
theorem BdR.below {w : World} {gx gy : Nat} {W W' : World} (h : BdR w gx gy W) (hb : Below W.heap.size W W') : BdR w gx gy W' :=
  ⟨h.old.trans (hb.mono h.old.size), h.lx, Nat.lt_of_lt_of_le h.hx hb.size, h.ly, Nat.lt_of_lt_of_le h.hy hb.size, h.ne⟩
theorem CAt.far2 {W : World} {C D : Nat} {f : Nat → Int × Int} (h : CAt W C f) (hne : D ≠ C) (o1 o2 : Nat) (x y : Value) : CAt ((W.setCell ⟨D, o1, none⟩ x).setCell ⟨D, o2, none⟩ y) C f :=
  h.far ((Below.heap_setCell _ ⟨D, o2, none⟩ y C (Ne.symm hne)).trans (Below.heap_setCell W ⟨D, o1, none⟩ x C (Ne.symm hne)))
end Go.Proofs.YtmjmmokbaocboaaGreatDoor
namespace Go.Proofs.YtmjmmokbaocboaaGreatDoor
open Go.RowKit
end Go.Proofs.YtmjmmokbaocboaaGreatDoor
namespace Go.Proofs.YtmjmmokbaocboaaGreatDoor
open Go.RowKit
/-- a machine in a block of its own. -/
structure PoR (w : World) (m : Mach) (W : World) : Prop where
  mat : MAt W w.heap.size m
  old : Below w.heap.size w W
  big : w.heap.size < W.heap.size
theorem PoR.below {w : World} {m : Mach} {W W' : World} (h : PoR w m W) (hb : Below W.heap.size W W') : PoR w m W' :=
  ⟨h.mat.below hb h.big, h.old.trans (hb.mono h.old.size), Nat.lt_of_lt_of_le h.big hb.size⟩
structure PoK (w : World) (m : Mach) (W : World) : Prop where
  mat : MAt W w.heap.size m
  old : Below w.heap.size w W
  big : w.heap.size + 3 ≤ W.heap.size
theorem PoK.below {w : World} {m : Mach} {W W' : World} (h : PoK w m W) (hb : Below W.heap.size W W') : PoK w m W' :=
  have := h.big
  ⟨h.mat.below hb (by omega), h.old.trans (hb.mono h.old.size), Nat.le_trans h.big hb.size⟩
structure KcR (w : World) (m : Mach) (gx gy : Nat) (EX EY : Nat → Int × Int) (W : World) : Prop where
  cx : CAt W gx EX
  cy : CAt W gy EY
  old : Below w.heap.size w W
  big : w.heap.size + 3 ≤ W.heap.size
  nx : gx ≠ w.heap.size + 1 ∧ gx ≠ w.heap.size + 1 + 1
  ny : gy ≠ w.heap.size + 1 ∧ gy ≠ w.heap.size + 1 + 1
theorem KcR.put {w : World} {m : Mach} {gx gy : Nat} {EX EY : Nat → Int × Int} {W : World} (h : KcR w m gx gy EX EY W) {D : Nat} (h1 : w.heap.size + 1 ≤ D) (h2 : D ≤ w.heap.size + 2) (x y : Value) : KcR w m gx gy EX EY ((W.setCell ⟨D, 0, none⟩ x).setCell ⟨D, 1, none⟩ y) :=
  have a := h.nx
  have b := h.ny
  ⟨h.cx.far2 (by omega) _ _ _ _, h.cy.far2 (by omega) _ _ _ _, (h.old.setCell (p := ⟨D, 0, none⟩) (by show w.heap.size ≤ D; omega) _).setCell (p := ⟨D, 1, none⟩) (by show w.heap.size ≤ D; omega) _, by rw [World.size_setCell, World.size_setCell]; exact h.big, h.nx, h.ny⟩
end Go.Proofs.YtmjmmokbaocboaaGreatDoor
namespace Go.Proofs.YtmjmmokbaocboaaGreatDoor
open Go.RowKit
set_option maxRecDepth 100000 in
set_option maxHeartbeats 4000000 in
theorem Holes_yes (m : Mach) (a1 : Option Addr) (n1 c1 : Nat) (a2 : Option Addr) (n2 c2 : Nat) (F G : Nat → Int) (b : Nat) (hb : b ≤ 12) (w : World) (hs : m.sn ≤ 1000) (hr : m.rn ≤ 9223372036854775807) (h : MIn w m) (h1 : n1 ≤ 1000) (h2 : n2 ≤ 1000) (hF : IntsSl w (.slice a1 n1 c1) n1 F) (hG : IntsSl w (.slice a2 n2 c2) n2 G) (hok : m.ok = true) (ho1' : offB n1 F = true) (ho2' : offB n2 G = true) (hc1 : n1 ≤ c1) (hc2 : n2 ≤ c2) (hfit : (m.axX.holdB F && m.axY.holdB G) = true) :
    Calls Tryz.prog 21 #[m.val, .agg #[.slice a1 n1 c1, .slice a2 n2 c2], .int .i64 b] w fun e w' => ∃ v', e = .returned (.tuple #[v', .int .i64 0]) ∧ w'.ownsRow w.heap.size 74 2 v' m.sn (ptsCells (fun i => (m.SX i + F b, m.SY i + G b)) m.sn) ∧ Below w.heap.size w w' := by
  obtain ⟨W0, hW⟩ : ∃ W0, (w.alloc (.cells #[.slice m.sa m.sn m.sc, .int .i64 m.c0, .int .i64 m.c1, .int .i64 m.d0, .int .i64 m.d1, .int .i64 m.w0, .int .i64 m.w1, .int .i64 m.v0, .int .i64 m.v1, .slice m.ra m.rn m.rc] 29)).alloc (.cells #[.slice a1 n1 c1, .slice a2 n2 c2] 45) = W0 := ⟨_, rfl⟩
  have hb0 : Below w.heap.size w W0 := by rw [← hW]; exact ((Below.refl _ _).alloc (Nat.le_refl _) _).alloc (by rw [World.size_alloc]; omega) _
  have hsz : W0.heap.size = w.heap.size + 1 + 1 := by rw [← hW, World.size_alloc, World.size_alloc]
  have k0 : W0.cell? ⟨w.heap.size + 1, 0, none⟩ = some (.slice a1 n1 c1) := by
    have h := cells_new (w.alloc (.cells #[.slice m.sa m.sn m.sc, .int .i64 m.c0, .int .i64 m.c1, .int .i64 m.d0, .int .i64 m.d1, .int .i64 m.w0, .int .i64 m.w1, .int .i64 m.v0, .int .i64 m.v1, .slice m.ra m.rn m.rc] 29)) #[.slice a1 n1 c1, .slice a2 n2 c2] 45 (j := 0) rfl
    rw [World.size_alloc, hW] at h; exact h
  have k1 : W0.cell? ⟨w.heap.size + 1, 1, none⟩ = some (.slice a2 n2 c2) := by
    have h := cells_new (w.alloc (.cells #[.slice m.sa m.sn m.sc, .int .i64 m.c0, .int .i64 m.c1, .int .i64 m.d0, .int .i64 m.d1, .int .i64 m.w0, .int .i64 m.w1, .int .i64 m.v0, .int .i64 m.v1, .slice m.ra m.rn m.rc] 29)) #[.slice a1 n1 c1, .slice a2 n2 c2] 45 (j := 1) rfl
    rw [World.size_alloc, hW] at h; exact h
  have hMB : MAt W0 w.heap.size m := by rw [← hW]; exact (MAt.new w m).below ((Below.refl _ _).alloc (Nat.le_refl _) _) (by rw [World.size_alloc]; omega)
  obtain ⟨q0, q1, q2, q3, q4, q5, q6, q7, q8, q9⟩ := hMB
  have hfi := fun (W : World) (hB : Below w.heap.size w W) => Fits_yes m a1 n1 c1 a2 n2 c2 F G W hs hr (h.below hB) h1 h2 (isl_below hF hB) (isl_below hG hB) hok ho1' ho2' hc1 hc2
  rw [hfit] at hfi
  have hwi := fun (W : World) => within_any (b : Int) 0 12 W
  rw [inB_yes (n := (b : Int)) (lo := 0) (hi := 12) (by omega) (by omega)] at hwi
  obtain ⟨e1, r1⟩ := offB_iff.1 ho1'
  obtain ⟨e2, r2⟩ := offB_iff.1 ho2'
  subst e1
  subst e2
  obtain ⟨b1, o1, rfl, hb1, p1⟩ := ints_at hF (by omega)
  obtain ⟨b2, o2, rfl, hb2, p2⟩ := ints_at hG (by omega)
  have hst := (Mach.ok_parts hok).1
  unfold Mach.okStops at hst
  have hsp : 2 ≤ m.sn ∧ m.sn ≤ 4 ∧ ∀ i, i < m.sn → ptB (m.SX i) (m.SY i) 20 = true := by
    unfold arB at hst
    rw [Bool.and_eq_true, allB_iff, inB_iff] at hst
    exact ⟨by omega, by omega, hst.2⟩
  have hsm : ∀ i, i < m.sn → small (m.SX i, m.SY i) := fun i hi => by
    have := hsp.2.2 i hi
    unfold ptB at this
    rw [Bool.and_eq_true, inB_iff, inB_iff] at this
    unfold small
    dsimp only
    omega
  obtain ⟨sb, so, hsa, hsb, hpts⟩ : ∃ sb so, m.sa = some ⟨sb, so, none⟩ ∧ sb < w.heap.size ∧ Pts w sb so m.sn m.SX m.SY := by
    rcases h.stops with ⟨a, c, e1, e2⟩ | ⟨sb, so, c, e1, e2, e3⟩
    · omega
    · rw [Value.slice.injEq] at e1; exact ⟨sb, so, e1.1, e2, e3⟩
  have hmo := fun (W : World) (hB : Below w.heap.size w W) => moved_some sb so m.sn m.sc m.SX m.SY (F b) (G b) W hs (hpts.below hB hsb) (Nat.lt_of_lt_of_le hsb hB.size) (r1 b (by omega)) (r2 b (by omega)) hsm
  rw [← hsa] at hmo
  have hk0 : (0 : Int) ≤ (b : Int) := Int.natCast_nonneg _
  have hk1 : (b : Int) < 13 := by omega
  clear hsa hsp hst hsm hpts hfit ho1' ho2'
  go_enter Tryz.func21, Tryz.ntmps21
  go_wp2_with fail
  have hh := hfi _ hb0
  refine hh.mono ?_
  rintro e w1 ⟨rfl, hb1'⟩
  have hB1 := hb0.trans (hb1'.mono hb0.size)
  have l0 := (hb1'.cell (p := ⟨w.heap.size + 1, 0, none⟩) (by show w.heap.size + 1 < _; omega)).trans k0
  have l1 := (hb1'.cell (p := ⟨w.heap.size + 1, 1, none⟩) (by show w.heap.size + 1 < _; omega)).trans k1
  have l2 := (hb1'.cell (p := ⟨w.heap.size, 0, none⟩) (by show w.heap.size < _; omega)).trans q0
  have g1 := (hB1.cell (p := ⟨b1, o1 + b, none⟩) hb1).trans (p1 b (by omega))
  have g2 := (hB1.cell (p := ⟨b2, o2 + b, none⟩) hb2).trans (p2 b (by omega))
  go_wp2_with (first
    | (go_at_call 49; with_reducible refine (hwi _).mono ?_; rintro e w2 ⟨rfl, rfl⟩))
  go_region_held3 (fun W => W.cell? ⟨w.heap.size, 0, none⟩ = some (.slice m.sa m.sn m.sc) ∧ W.cell? ⟨w.heap.size + 1, 0, none⟩ = some (.slice (some ⟨b1, o1, none⟩) 13 c1) ∧ W.cell? ⟨w.heap.size + 1, 1, none⟩ = some (.slice (some ⟨b2, o2, none⟩) 13 c2) ∧ W.cell? ⟨b1, o1 + b, none⟩ = some (.int .i64 (F b)) ∧ W.cell? ⟨b2, o2 + b, none⟩ = some (.int .i64 (G b)))
    (first | (go_keep; done) | (go_split_ands; refine ⟨?_, ?_, ?_, ?_, ?_⟩ <;> (rw [hbb.cell (by first | omega | (simp; omega) | simp)]; assumption)))
    ((go_at_call 62; refine (hmo _ hB1.drew).mono ?_; rintro e w3 ⟨v3, rfl, hown, hbb⟩; have hs3 := hbb.size; have hz1 := hb1'.size; have hz0 := hB1.size))
  go_wp2
  go_ret2
  exact ⟨v3, rfl, ownsRow_base (by rw [World.size_drew]; omega) hown, hB1.trans (((Below.refl _ _).drew.trans (hbb.mono (by rw [World.size_drew]; exact Nat.le_refl _))).mono hB1.size)⟩
end Go.Proofs.YtmjmmokbaocboaaGreatDoor
