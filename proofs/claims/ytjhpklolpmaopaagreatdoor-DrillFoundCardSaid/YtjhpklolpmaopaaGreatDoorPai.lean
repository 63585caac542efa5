/- A part of the proof: see the last file. -/
import Derived.Test.YtjhpklolpmaopaaGreatDoorPag
import Derived.Test.YtjhpklolpmaopaaGreatDoorPah
import Derived.Test.YtjhpklolpmaopaaGreatDoorPab
import Derived.Test.YtjhpklolpmaopaaGreatDoorPaa
import Derived.Deep.AppendLies
import Derived.OwnWalk
import Derived.Test.YtjhpklolpmaopaaGreatDoorPaf
import Derived.IntWalk
set_option linter.unusedVariables false
set_option linter.unusedSimpArgs false
set_option linter.unusedSectionVars false
namespace Go.Proofs.YtjhpklolpmaopaaGreatDoor
open Go.RowKit
/-- rows apart. -/
def Apr (a b : Value) : Prop := ∀ g, a.ownBlock = some g → b.ownBlock ≠ some g
theorem Apr.symm {a b : Value} (h : Apr a b) : Apr b a := fun g h1 h2 => h g h2 h1
/-- two rows of spans. -/
structure R2X (w : World) (B : Nat) (W : World) (n1 n2 : Nat) (p q : Value) (F1 F2 : Nat → Int × Int) : Prop where
 o1 : W.ownsRow B 24 2 p n1 (crsL F1 n1)
 o2 : W.ownsRow B 24 2 q n2 (crsL F2 n2)
 d : Apr p q
 old : Below w.heap.size w W
 low : w.heap.size ≤ B
 big : B ≤ W.heap.size
theorem R2X.below {w : World} {B : Nat} {W W' : World} {n1 n2 : Nat} {p q : Value} {F1 F2 : Nat → Int × Int} (h : R2X w B W n1 n2 p q F1 F2) (hb : Below W.heap.size W W') : R2X w B W' n1 n2 p q F1 F2 :=
 ⟨ownsRow_below h.o1 hb, ownsRow_below h.o2 hb, h.d, h.old.trans (hb.mono h.old.size), h.low, Nat.le_trans h.big hb.size⟩
/-- marks in memory. -/
def MkPts (w : World) (b off n : Nat) (f : Nat → Int × Int × Int × Int × Int) : Prop := ∀ i, i < n → w.cell? ⟨b, off + i * 5, none⟩ = some (.int .i64 (f i).1) ∧ w.cell? ⟨b, off + i * 5 + 1, none⟩ = some (.int .i64 (f i).2.1) ∧ w.cell? ⟨b, off + i * 5 + 2, none⟩ = some (.int .i64 (f i).2.2.1) ∧ w.cell? ⟨b, off + i * 5 + 3, none⟩ = some (.int .i64 (f i).2.2.2.1) ∧ w.cell? ⟨b, off + i * 5 + 4, none⟩ = some (.int .i64 (f i).2.2.2.2)
theorem MkPts.far {w w' : World} {b off n : Nat} {f : Nat → Int × Int × Int × Int × Int} (h : MkPts w b off n f) (hh : w'.heap[b]? = w.heap[b]?) : MkPts w' b off n f := fun i hi => by
 obtain ⟨h1, h2, h3, h4, h5⟩ := h i hi
 exact ⟨(World.cell?_of_block hh).trans h1, (World.cell?_of_block hh).trans h2, (World.cell?_of_block hh).trans h3, (World.cell?_of_block hh).trans h4, (World.cell?_of_block hh).trans h5⟩
/-- a slice of marks. -/
def MkSl (w : World) (v : Value) (n : Nat) (f : Nat → Int × Int × Int × Int × Int) : Prop := ∃ a c, v = .slice a n c ∧ (0 < n → ∃ b off, a = some ⟨b, off, none⟩ ∧ b < w.heap.size ∧ MkPts w b off n f)
theorem MkSl.below {w w' : World} {v : Value} {n : Nat} {f : Nat → Int × Int × Int × Int × Int} (h : MkSl w v n f) (hb : Below w.heap.size w w') : MkSl w' v n f := by
 obtain ⟨a, c, rfl, h⟩ := h
 refine ⟨a, c, rfl, fun hn => ?_⟩
 obtain ⟨b, off, rfl, hl, h⟩ := h hn
 exact ⟨b, off, rfl, Nat.lt_of_lt_of_le hl hb.size, h.far (hb.block b hl)⟩
end Go.Proofs.YtjhpklolpmaopaaGreatDoor
namespace Go.Proofs.YtjhpklolpmaopaaGreatDoor
open Go.RowKit
end Go.Proofs.YtjhpklolpmaopaaGreatDoor
namespace Go.Proofs.YtjhpklolpmaopaaGreatDoor
open Go.RowKit
/-- what stays while the reference's axis works: the chuck's and the wear's spans, in blocks of their own; g is the block of the list. -/
structure AxR (w : World) (g : Nat) (c0 c1 w0 w1 : Int) (W : World) : Prop where
 t1 : Two W w.heap.size c0 c1
 t2 : Two W (w.heap.size + 1) w0 w1
 old : Below w.heap.size w W
 lo : w.heap.size + 2 ≤ g
 hi : g < W.heap.size
theorem AxR.below {w : World} {g : Nat} {c0 c1 w0 w1 : Int} {W W' : World} (h : AxR w g c0 c1 w0 w1 W) (hb : Below W.heap.size W W') : AxR w g c0 c1 w0 w1 W' :=
 have h1 := h.lo; have h2 := h.hi
 ⟨h.t1.below hb (by omega), h.t2.below hb (by omega), h.old.trans (hb.mono h.old.size), h.lo, Nat.lt_of_lt_of_le h.hi hb.size⟩
theorem AxR.store {w : World} {g : Nat} {c0 c1 w0 w1 : Int} {W : World} (h : AxR w g c0 c1 w0 w1 W) (o1 o2 : Nat) (x y : Value) : AxR w g c0 c1 w0 w1 ((W.setCell ⟨g, o1, none⟩ x).setCell ⟨g, o2, none⟩ y) := by
 have h1 := h.lo
 have k : ∀ A, A ≠ g → ((W.setCell ⟨g, o1, none⟩ x).setCell ⟨g, o2, none⟩ y).heap[A]? = W.heap[A]? := fun A hA => (Below.heap_setCell _ ⟨g, o2, none⟩ y A hA).trans (Below.heap_setCell W ⟨g, o1, none⟩ x A hA)
 exact ⟨h.t1.far (k _ (by omega)), h.t2.far (k _ (by omega)), (h.old.setCell (p := ⟨g, o1, none⟩) (by show w.heap.size ≤ g; omega) _).setCell (p := ⟨g, o2, none⟩) (by show w.heap.size ≤ g; omega) _, h.lo, by rw [World.size_setCell, World.size_setCell]; exact h.hi⟩
theorem CAt.congr {W : World} {C : Nat} {f g : Nat → Int × Int} (h : CAt W C f) (hfg : ∀ j, j < 13 → f j = g j) : CAt W C g := ⟨fun j hj => by rw [← hfg j hj]; exact h.c j hj, h.z⟩
end Go.Proofs.YtjhpklolpmaopaaGreatDoor
namespace Go.Proofs.YtjhpklolpmaopaaGreatDoor
open Go.RowKit
/-- what stays while the reference's Bounds works: gx and gy are the blocks of the two lists. -/
structure BdR (w : World) (gx gy : Nat) (W : World) : Prop where
 old : Below w.heap.size w W
 lx : w.heap.size ≤ gx
 hx : gx < W.heap.size
 ly : w.heap.size ≤ gy
 hy : gy < W.heap.size
 ne : gx ≠ gy
theorem BdR.below {w : World} {gx gy : Nat} {W W' : World} (h : BdR w gx gy W) (hb : Below W.heap.size W W') : BdR w gx gy W' :=
 ⟨h.old.trans (hb.mono h.old.size), h.lx, Nat.lt_of_lt_of_le h.hx hb.size, h.ly, Nat.lt_of_lt_of_le h.hy hb.size, h.ne⟩
theorem CAt.far2 {W : World} {C D : Nat} {f : Nat → Int × Int} (h : CAt W C f) (hne : D ≠ C) (o1 o2 : Nat) (x y : Value) : CAt ((W.setCell ⟨D, o1, none⟩ x).setCell ⟨D, o2, none⟩ y) C f :=
 h.far ((Below.heap_setCell _ ⟨D, o2, none⟩ y C (Ne.symm hne)).trans (Below.heap_setCell W ⟨D, o1, none⟩ x C (Ne.symm hne)))
def mkX (m : Mach) (n : Nat) (f : Nat → Int × Int × Int × Int × Int) : Axis := ⟨m.c0, m.c1, m.w0, m.w1, n, fun i => ((f i).1, (f i).2.1, (f i).2.2.1)⟩
def mkY (m : Mach) (n : Nat) (f : Nat → Int × Int × Int × Int × Int) : Axis := ⟨m.d0, m.d1, m.v0, m.v1, n, fun i => ((f i).1, (f i).2.2.2.1, (f i).2.2.2.2)⟩
end Go.Proofs.YtjhpklolpmaopaaGreatDoor
namespace Go.Proofs.YtjhpklolpmaopaaGreatDoor
open Go.RowKit
/-- a clue fails at numbers. -/
def cmiss (F : Nat → Int) (c : Int × Int × Int) : Bool := !inB (F c.1.toNat) c.2.1 c.2.2
set_option maxRecDepth 100000 in
set_option maxHeartbeats 1000000 in
theorem holds1_any (c : Int × Int × Int) (g b off cap : Nat) (F : Nat → Int) (w : World) (h0 : 0 ≤ c.1) (h1 : c.1 ≤ 12) (hg : g < w.heap.size) (hc : w.cell? ⟨g, 0, none⟩ = some (.slice (some ⟨b, off, none⟩) 13 cap)) (hb : b < w.heap.size) (hp : Ints w b off 13 F) :
  Calls Tryz.prog 131 #[.agg #[.int .i64 c.1, .int .i64 c.2.1, .int .i64 c.2.2], .pointer (some ⟨g, 0, none⟩)] w fun e w' => e = .returned (.bool (cmiss F c)) ∧ Below w.heap.size w w' := by
 obtain ⟨k, lo, hi⟩ := c
 dsimp only at h0 h1 ⊢
 obtain ⟨m, rfl⟩ := Int.eq_ofNat_of_zero_le h0
 unfold cmiss
 dsimp only
 rw [Int.toNat_natCast]
 have hm : m < 13 := by omega
 have hm1 : (m : Int) < 13 := by omega
 have e1 := hp m hm
 obtain ⟨W0, hW⟩ : ∃ W0, w.alloc (.cells #[.int .i64 (m : Int), .int .i64 lo, .int .i64 hi] 117) = W0 := ⟨_, rfl⟩
 have hb0 : Below w.heap.size w W0 := by rw [← hW]; exact (Below.refl _ _).alloc (Nat.le_refl _) _
 have f1 := (hb0.cell (p := ⟨b, off + m, none⟩) hb).trans e1
 have f0 := (hb0.cell (p := ⟨g, 0, none⟩) hg).trans hc
 have k0 : W0.cell? ⟨w.heap.size, 0, none⟩ = some (.int .i64 (m : Int)) := by rw [← hW]; exact cells_new w _ _ rfl
 have k1 : W0.cell? ⟨w.heap.size, 1, none⟩ = some (.int .i64 lo) := by rw [← hW]; exact cells_new w _ _ rfl
 have k2 : W0.cell? ⟨w.heap.size, 2, none⟩ = some (.int .i64 hi) := by rw [← hW]; exact cells_new w _ _ rfl
 have hsz : W0.heap.size = w.heap.size + 1 := by rw [← hW]; exact World.size_alloc _ _
 go_enter Tryz.func131, Tryz.ntmps131
 go_wp2_with fail
 go_region_held3 (fun w' => w'.cell? ⟨g, 0, none⟩ = some (.slice (some ⟨b, off, none⟩) 13 cap) ∧ w'.cell? ⟨b, off + m, none⟩ = some (.int .i64 (F m)) ∧ w'.cell? ⟨w.heap.size, 0, none⟩ = some (.int .i64 (m : Int)) ∧ w'.cell? ⟨w.heap.size, 1, none⟩ = some (.int .i64 lo) ∧ w'.cell? ⟨w.heap.size, 2, none⟩ = some (.int .i64 hi))
  (first | (go_keep; done) | (go_split_ands; refine ⟨?_, ?_, ?_, ?_, ?_⟩ <;> (rw [hbb.cell (by first | omega | (simp; omega) | simp)]; assumption)))
  ((go_at_call 129; refine (lies_any _ _ _ _).mono ?_; rintro e w6 ⟨rfl, hbb⟩; have hs := hbb.size))
 go_wp2
 go_ret
 exact ⟨rfl, hb0.trans (((Below.refl _ _).drew.trans (hbb.mono (by simp))).mono hb0.size)⟩
set_option maxRecDepth 100000 in
set_option maxHeartbeats 1000000 in
theorem idx_clue (b off n cap : Nat) (cl : Nat → Int × Int × Int) (g nb no nc : Nat) (F : Nat → Int) (w : World) (hn : n ≤ 1000) (hb : b < w.heap.size) (hp : CPts w b off n cl) (hcl : ∀ i, i < n → 0 ≤ (cl i).1 ∧ (cl i).1 ≤ 12) (hg : g < w.heap.size) (hc : w.cell? ⟨g, 0, none⟩ = some (.slice (some ⟨nb, no, none⟩) 13 nc)) (hnb : nb < w.heap.size) (hF : Ints w nb no 13 F) :
  Calls Tryz.prog 151 #[.slice (some ⟨b, off, none⟩) n cap, .func (.func 131) #[] #[.pointer (some ⟨g, 0, none⟩)]] w fun e w' => e = .returned (.int .i64 (idxQ (fun i => cmiss F (cl i)) 0 n)) ∧ Below w.heap.size w w' := by
 generalize hPP : (fun i => cmiss F (cl i)) = PP
 have hPQ : ∀ i, (fun i => cmiss F (cl i)) i = PP i := fun i => by rw [hPP]
 go_enter Tryz.func151, Tryz.ntmps151
 go_wp2
 go_loopw [8] (fun i wr => ∃ k : Nat, k ≤ n ∧ i = .int .i64 k ∧ idxQ PP 0 n = idxQ PP k (n - k) ∧ Below w.heap.size w wr) (fun i _ => n - (intOf i).toNat)
 case atStart => exact ⟨0, Nat.zero_le _, rfl, rfl, Below.refl _ _⟩
 case round =>
  obtain ⟨k, hk, rfl, hall, hbl⟩ := hrel
  by_cases hlt : k < n
  ·have hk0 : (0 : Int) ≤ (k : Int) := Int.natCast_nonneg _
   have hk1 : (k : Int) < (n : Int) := by omega
   have hq := (hcl k hlt)
   have hco := fun W (hW : Below wr.heap.size wr W) => holds1_any (cl k) g nb no nc F W hq.1 hq.2 (Nat.lt_of_lt_of_le hg (Nat.le_trans hbl.size hW.size)) ((hW.cell (p := ⟨g, 0, none⟩) (Nat.lt_of_lt_of_le hg hbl.size)).trans ((hbl.cell (p := ⟨g, 0, none⟩) hg).trans hc)) (Nat.lt_of_lt_of_le hnb (Nat.le_trans hbl.size hW.size)) fun i hi => ((hW.cell (p := ⟨nb, no + i, none⟩) (Nat.lt_of_lt_of_le hnb hbl.size)).trans ((hbl.cell (p := ⟨nb, no + i, none⟩) hnb).trans (hF i hi)))
   obtain ⟨e1, e2, e3⟩ := hp.below hbl hb k hlt
   have hk := hPQ k
   rw [hk] at hco
   clear hq hk
   generalize cl k = c at e1 e2 e3 hco
   obtain ⟨c0, c1, c2⟩ := c
   dsimp only at e1 e2 e3 hco
   cases hpt : PP k with
   | false =>
    rw [idxQ_miss hlt hpt] at hall
    rw [hpt] at hco
    go_wp2_with (go_at_call 131; with_reducible refine (hco _ (by first | exact (Below.refl _ _).alloc (Nat.le_refl _) _ | exact Below.refl _ _)).mono ?_; rintro e w' ⟨rfl, hb2⟩)
    go_roundw
    case rel =>
     first
      | exact ⟨k + 1, by omega, by go_num, hall, hbl.trans (hb2.mono hbl.size)⟩
      | exact ⟨k + 1, by omega, by go_num, hall, (hbl.alloc hbl.size _).trans (hb2.mono (by rw [World.size_alloc]; have := hbl.size; omega))⟩
    case measure => simp [intOf]; omega
   | true =>
    rw [idxQ_hit hlt hpt] at hall
    rw [hpt] at hco
    go_wp2_with (go_at_call 131; with_reducible refine (hco _ (by first | exact (Below.refl _ _).alloc (Nat.le_refl _) _ | exact Below.refl _ _)).mono ?_; rintro e w' ⟨rfl, hb2⟩)
    go_ret
    first
     | exact ⟨by rw [hall]; rfl, hbl.trans (hb2.mono hbl.size)⟩
     | exact ⟨by rw [hall]; rfl, (hbl.alloc hbl.size _).trans (hb2.mono (by rw [World.size_alloc]; have := hbl.size; omega))⟩
  ·obtain rfl : n = k := by omega
   go_wp2
   go_ret
   refine ⟨?_, hbl⟩
   rw [hall, Nat.sub_self]; rfl
set_option maxRecDepth 100000 in
set_option maxHeartbeats 1000000 in
theorem idx_clue_nil (a : Option Addr) (c : Nat) (v : Value) (w : World) :
  Calls Tryz.prog 151 #[.slice a 0 c, v] w fun e w' => e = .returned (.int .i64 (-1)) ∧ w' = w := by
 go_enter Tryz.func151, Tryz.ntmps151
 go_wp2
 refine wp_loop_rounds 1 ?_
 rw [rounds_succ]
 go_wp2
 go_ret
 exact ⟨rfl, rfl⟩
set_option maxRecDepth 100000 in
set_option maxHeartbeats 1000000 in
theorem has_clue (v : Value) (n : Nat) (cl : Nat → Int × Int × Int) (g nb no nc : Nat) (F : Nat → Int) (w : World) (hn : n ≤ 1000) (hp : CSp w v n cl) (hcl : ∀ i, i < n → 0 ≤ (cl i).1 ∧ (cl i).1 ≤ 12) (hg : g < w.heap.size) (hc : w.cell? ⟨g, 0, none⟩ = some (.slice (some ⟨nb, no, none⟩) 13 nc)) (hnb : nb < w.heap.size) (hF : Ints w nb no 13 F) :
  Calls Tryz.prog 130 #[v, .func (.func 131) #[] #[.pointer (some ⟨g, 0, none⟩)]] w fun e w' => e = .returned (.bool (anyB (fun i => cmiss F (cl i)) n)) ∧ Below w.heap.size w w' := by
 rcases hp with ⟨rfl, rfl⟩ | ⟨h0, b, off, cap, rfl, hb, hp⟩
 ·have hno : anyB (fun i => cmiss F (cl i)) 0 = false := anyB_no.2 fun i hi => absurd hi (Nat.not_lt_zero i)
  rw [hno]
  go_enter Tryz.func130, Tryz.ntmps130
  go_wp2_with (go_at_call 151; refine (idx_clue_nil _ _ _ _).mono ?_; rintro e w' ⟨rfl, rfl⟩)
  go_ret
  exact ⟨rfl, Below.refl _ _⟩
 ·have hi := idx_clue b off n cap cl g nb no nc F w hn hb hp hcl hg hc hnb hF
  unfold anyB
  generalize idxQ (fun i => cmiss F (cl i)) 0 n = x at hi ⊢
  go_enter Tryz.func130, Tryz.ntmps130
  go_wp2_with (go_at_call 151; refine hi.mono ?_; rintro e w' ⟨rfl, hb2⟩)
  go_ret
  exact ⟨rfl, hb2⟩
end Go.Proofs.YtjhpklolpmaopaaGreatDoor
namespace Go.Proofs.YtjhpklolpmaopaaGreatDoor
open Go.RowKit
theorem readB_iff {B X Y E : Int} : readB B X Y E = true ↔ inB B 0 12 = true ∧ inB X (-80) 80 = true ∧ inB Y (-80) 80 = true ∧ inB E 0 4 = true := by
 unfold readB ptB
 simp only [Bool.and_eq_true]
 constructor
 ·rintro ⟨a, ⟨b, c⟩, d⟩; exact ⟨a, b, c, d⟩
 ·rintro ⟨a, b, c, d⟩; exact ⟨a, ⟨b, c⟩, d⟩
theorem okReads_no {m : Mach} {i : Nat} (hi : i < m.rn) (h : readB (m.RB i) (m.RX i) (m.RY i) (m.RE i) = false) : m.ok = false := by
 have : m.okReads = false := by
  unfold Mach.okReads
  cases hx : anyB (fun i => !readB (m.RB i) (m.RX i) (m.RY i) (m.RE i)) m.rn with
  | true => rfl
  | false =>
   have := anyB_no.1 hx i hi
   rw [h] at this; cases this
 unfold Mach.ok
 rw [this]; simp
theorem okReads_yes {m : Mach} (h : ∀ i, i < m.rn → readB (m.RB i) (m.RX i) (m.RY i) (m.RE i) = true) : m.ok = (ponB m.sn 2 4 m.SX m.SY 20 && (decide ((m.rn : Int) ≤ 4) && m.okSpans)) := by
 have : m.okReads = true := by
  unfold Mach.okReads
  rw [anyB_no.2 fun i hi => by rw [h i hi]; rfl]; rfl
 unfold Mach.ok Mach.okStops
 rw [this, arB_pon2, Bool.and_true]
set_option maxRecDepth 100000 in
set_option maxHeartbeats 4000000 in
theorem rmachine_any (m : Mach) (w : World) (hs : m.sn ≤ 1000) (hr : m.rn ≤ 1000) (h : MIn w m) :
  Calls Tryz.prog 7 #[m.val] w fun e w' => e = .returned (.bool m.ok) ∧ Below w.heap.size w w' := by
 have hno := fun i hi h => okReads_no (m := m) (i := i) hi h
 have hyes := okReads_yes (m := m)
 unfold Mach.okSpans at hyes
 generalize m.ok = ok at *
 obtain ⟨sa, sn, sc, SX, SY, c0, c1, d0, d1, w0, w1, v0, v1, ra, rn, rc, RB, RX, RY, RE⟩ := m
 obtain ⟨h1, h2⟩ := h
 dsimp only [Mach.val] at *
 obtain ⟨W0, hW⟩ : ∃ W0, w.alloc (.cells #[.slice sa sn sc, .int .i64 c0, .int .i64 c1, .int .i64 d0, .int .i64 d1, .int .i64 w0, .int .i64 w1, .int .i64 v0, .int .i64 v1, .slice ra rn rc] 27) = W0 := ⟨_, rfl⟩
 have hw0 : Below w.heap.size w W0 := by rw [← hW]; exact (Below.refl _ _).alloc (Nat.le_refl _) _
 have hsz : W0.heap.size = w.heap.size + 1 := by rw [← hW]; exact World.size_alloc _ _
 have hMA : MAt W0 w.heap.size ⟨sa, sn, sc, SX, SY, c0, c1, d0, d1, w0, w1, v0, v1, ra, rn, rc, RB, RX, RY, RE⟩ := by rw [← hW]; exact MAt.new w ⟨sa, sn, sc, SX, SY, c0, c1, d0, d1, w0, w1, v0, v1, ra, rn, rc, RB, RX, RY, RE⟩
 have g1 := h1.below hw0
 have g2 := h2.below hw0
 go_enter Tryz.func7, Tryz.ntmps7
 go_wp2
 go_loopw [3] (fun i wr => ∃ k : Nat, k ≤ rn ∧ i = .int .i64 k ∧ Below W0.heap.size W0 wr ∧ ∀ j, j < k → readB (RB j) (RX j) (RY j) (RE j) = true) (fun i _ => rn - (intOf i).toNat)
 case atStart => exact ⟨0, Nat.zero_le _, rfl, Below.refl _ _, fun _ h => absurd h (Nat.not_lt_zero _)⟩
 case round =>
  obtain ⟨i, hi, rfl, hbl, hall⟩ := hrel
  have hMB := hMA.below hbl (by omega)
  have k9 := hMB.k9
  dsimp only at k9
  by_cases hlt : i < rn
  ·rcases g2 with ⟨_, _, _, h0⟩ | ⟨b, off, cap, e, hb, hp⟩
   ·omega
   ·cases e
    obtain ⟨e1, e2, e3, e4⟩ := hp.below hbl hb i hlt
    have hi0 : (0 : Int) ≤ (i : Int) := Int.natCast_nonneg _
    have hi1 : (i : Int) < (rn : Int) := by omega
    have hrb := @readB_iff (RB i) (RX i) (RY i) (RE i)
    have hno' := hno i hlt
    cases q1 : inB (RB i) 0 12 with
    | false =>
     have hz0 := hno' (by cases hz : readB (RB i) (RX i) (RY i) (RE i) with | false => rfl | true => have := (hrb.1 hz).1; rw [q1] at this; cases this)
     go_wp2_with (first
      | (go_at_call 9; refine (rblank_any _ _ _).mono ?_; rw [q1]; rintro e w' ⟨rfl, rfl⟩))
     go_ret
     exact ⟨ret_bool hz0.symm, hw0.trans ((hbl.trans (((Below.refl _ _).alloc (Nat.le_refl _) _).mono hbl.size)).mono hw0.size)⟩
    | true =>
     cases q2 : inB (RX i) (-80) 80 with
     | false =>
      have hz0 := hno' (by cases hz : readB (RB i) (RX i) (RY i) (RE i) with | false => rfl | true => have := (hrb.1 hz).2.1; rw [q2] at this; cases this)
      go_wp2_with (first
       | (go_at_call 9; refine (rblank_any _ _ _).mono ?_; rw [q1]; rintro e w' ⟨rfl, rfl⟩)
       | (go_at_call 25; refine (in_any _ _ _ _).mono ?_; rw [q2]; rintro e w' ⟨rfl, rfl⟩))
      go_ret
      exact ⟨ret_bool hz0.symm, hw0.trans ((hbl.trans (((Below.refl _ _).alloc (Nat.le_refl _) _).mono hbl.size)).mono hw0.size)⟩
     | true =>
      cases q3 : inB (RY i) (-80) 80 with
      | false =>
       have hz0 := hno' (by cases hz : readB (RB i) (RX i) (RY i) (RE i) with | false => rfl | true => have := (hrb.1 hz).2.2.1; rw [q3] at this; cases this)
       go_wp2_with (first
        | (go_at_call 9; refine (rblank_any _ _ _).mono ?_; rw [q1]; rintro e w' ⟨rfl, rfl⟩)
        | (go_at_call 25; refine (in_any _ _ _ _).mono ?_; (first | rw [q2] | rw [q3]); rintro e w' ⟨rfl, rfl⟩))
       go_ret
       exact ⟨ret_bool hz0.symm, hw0.trans ((hbl.trans (((Below.refl _ _).alloc (Nat.le_refl _) _).mono hbl.size)).mono hw0.size)⟩
      | true =>
       cases q4 : inB (RE i) 0 4 with
       | false =>
        have hz0 := hno' (by cases hz : readB (RB i) (RX i) (RY i) (RE i) with | false => rfl | true => have := (hrb.1 hz).2.2.2; rw [q4] at this; cases this)
        go_wp2_with (first
         | (go_at_call 9; refine (rblank_any _ _ _).mono ?_; rw [q1]; rintro e w' ⟨rfl, rfl⟩)
         | (go_at_call 25; refine (in_any _ _ _ _).mono ?_; (first | rw [q2] | rw [q3] | rw [q4]); rintro e w' ⟨rfl, rfl⟩))
        go_ret
        exact ⟨ret_bool hz0.symm, hw0.trans ((hbl.trans (((Below.refl _ _).alloc (Nat.le_refl _) _).mono hbl.size)).mono hw0.size)⟩
       | true =>
        go_wp2_with (first
         | (go_at_call 9; refine (rblank_any _ _ _).mono ?_; rw [q1]; rintro e w' ⟨rfl, rfl⟩)
         | (go_at_call 25; refine (in_any _ _ _ _).mono ?_; (first | rw [q2] | rw [q3] | rw [q4]); rintro e w' ⟨rfl, rfl⟩))
        go_roundw
        case rel => exact ⟨i + 1, by omega, by go_num, hbl.trans (((Below.refl _ _).alloc (Nat.le_refl _) _).mono hbl.size), all_succ (p := fun j => readB (RB j) (RX j) (RY j) (RE j) = true) hall (hrb.2 ⟨q1, q2, q3, q4⟩)⟩
        case measure => simp [intOf]; omega
  ·obtain rfl : rn = i := by omega
   have hok := hyes hall
   have hB := hbl
   have k0 := hMB.k0; have k1 := hMB.k1; have k2 := hMB.k2; have k3 := hMB.k3; have k4 := hMB.k4; have k5 := hMB.k5; have k6 := hMB.k6; have k7 := hMB.k7; have k8 := hMB.k8
   dsimp only at k0 k1 k2 k3 k4 k5 k6 k7 k8
   have hs1 := fun W => rspan_any c0 c1 (-12) 12 6 (by omega) (by omega) W
   have hs2 := fun W => rspan_any d0 d1 (-12) 12 6 (by omega) (by omega) W
   have hs3 := fun W => rspan_any w0 w1 (-3) 3 2 (by omega) (by omega) W
   have hs4 := fun W => rspan_any v0 v1 (-3) 3 2 (by omega) (by omega) W
   have hpo := fun (W : World) (hb : Below W0.heap.size W0 W) => points_any (.slice sa sn sc) sn 2 4 SX SY 20 (by omega) (by omega) W hs (g1.below hb)
   generalize spanR c0 c1 (-12) 12 6 = x1 at *
   generalize spanR d0 d1 (-12) 12 6 = x2 at *
   generalize spanR w0 w1 (-3) 3 2 = x3 at *
   generalize spanR v0 v1 (-3) 3 2 = x4 at *
   generalize ponB sn 2 4 SX SY 20 = x5 at *
   cases x1 <;> cases x2 <;> cases x3 <;> cases x4 <;> cases x5
   all_goals
    simp only [Bool.and_true, Bool.and_false, Bool.true_and, Bool.false_and] at hok
    go_wp2_with (first
     | (go_at_call 26; with_reducible refine (hs1 _).mono ?_; rintro e w' ⟨rfl, hb⟩; replace hB := hB.trans (hb.mono hB.size); have hMB := hMA.below hB (by omega); have k0 := hMB.k0; have k3 := hMB.k3; have k4 := hMB.k4; have k5 := hMB.k5; have k6 := hMB.k6; have k7 := hMB.k7; have k8 := hMB.k8; have k9 := hMB.k9; dsimp only at k0 k3 k4 k5 k6 k7 k8 k9)
     | (go_at_call 26; with_reducible refine (hs2 _).mono ?_; rintro e w' ⟨rfl, hb⟩; replace hB := hB.trans (hb.mono hB.size); have hMB := hMA.below hB (by omega); have k0 := hMB.k0; have k3 := hMB.k3; have k4 := hMB.k4; have k5 := hMB.k5; have k6 := hMB.k6; have k7 := hMB.k7; have k8 := hMB.k8; have k9 := hMB.k9; dsimp only at k0 k3 k4 k5 k6 k7 k8 k9)
     | (go_at_call 26; with_reducible refine (hs3 _).mono ?_; rintro e w' ⟨rfl, hb⟩; replace hB := hB.trans (hb.mono hB.size); have hMB := hMA.below hB (by omega); have k0 := hMB.k0; have k3 := hMB.k3; have k4 := hMB.k4; have k5 := hMB.k5; have k6 := hMB.k6; have k7 := hMB.k7; have k8 := hMB.k8; have k9 := hMB.k9; dsimp only at k0 k3 k4 k5 k6 k7 k8 k9)
     | (go_at_call 26; with_reducible refine (hs4 _).mono ?_; rintro e w' ⟨rfl, hb⟩; replace hB := hB.trans (hb.mono hB.size); have hMB := hMA.below hB (by omega); have k0 := hMB.k0; have k3 := hMB.k3; have k4 := hMB.k4; have k5 := hMB.k5; have k6 := hMB.k6; have k7 := hMB.k7; have k8 := hMB.k8; have k9 := hMB.k9; dsimp only at k0 k3 k4 k5 k6 k7 k8 k9)
     | (go_at_call 27; with_reducible refine (hpo _ hB).mono ?_; rintro e w' ⟨rfl, rfl⟩))
    go_ret
    exact ⟨ret_bool hok.symm, hw0.trans (hB.mono hw0.size)⟩
end Go.Proofs.YtjhpklolpmaopaaGreatDoor
namespace Go.Proofs.YtjhpklolpmaopaaGreatDoor
open Go.RowKit
/-- numbers that a truth can have. -/
def offB (n : Nat) (F : Nat → Int) : Bool := decide ((n : Int) = 13) && !anyB (fun i => !inB (F i) (-80) 80) n
theorem hasOff_any (v : Value) (n : Nat) (F : Nat → Int) (w : World) (hn : n ≤ 1000) (h : IntsSl w v n F) :
  Calls Tryz.prog 86 #[v, .func (.func 87) #[] #[]] w fun e w' => e = .returned (.bool (anyB (fun i => !inB (F i) (-80) 80) n)) ∧ Below w.heap.size w w' := by
 rcases h with ⟨a, c, rfl, rfl⟩ | ⟨b, off, cap, rfl, hb, hp⟩
 ·refine (has_int_nil a c _ w).mono ?_
  rintro e w' ⟨rfl, rfl⟩
  refine ⟨ret_bool ?_, Below.refl _ _⟩
  exact (anyB_no.2 fun i hi => absurd hi (Nat.not_lt_zero i)).symm
 ·exact has_int b off n cap F w hn hb hp
theorem IntsSl_slice {w : World} {v : Value} {n : Nat} {F : Nat → Int} (h : IntsSl w v n F) : ∃ a c, v = .slice a n c := by
 rcases h with ⟨a, c, h1, h2⟩ | ⟨b, off, c, h1, _⟩
 ·exact ⟨a, c, by rw [h1, h2]⟩
 ·exact ⟨_, c, h1⟩
set_option maxRecDepth 100000 in
set_option maxHeartbeats 400000 in
theorem areOffs_any (v : Value) (n : Nat) (F : Nat → Int) (w : World) (hn : n ≤ 1000) (h : IntsSl w v n F) :
  Calls Tryz.prog 44 #[v] w fun e w' => e = .returned (.bool (offB n F)) ∧ Below w.heap.size w w' := by
 obtain ⟨a, c, rfl⟩ := IntsSl_slice h
 have hh := hasOff_any _ n F w hn h
 unfold offB
 by_cases hl : (n : Int) = 13
 ·rw [decide_eq_true hl]
  go_enter Tryz.func44, Tryz.ntmps44
  go_wp2_with (go_at_call 86; refine hh.mono ?_; rintro e w' ⟨rfl, hb⟩)
  go_ret
  exact ⟨rfl, hb⟩
 ·rw [decide_eq_false hl]
  go_enter Tryz.func44, Tryz.ntmps44
  go_wp2
  go_ret
  exact ⟨rfl, Below.refl _ _⟩
end Go.Proofs.YtjhpklolpmaopaaGreatDoor
namespace Go.Proofs.YtjhpklolpmaopaaGreatDoor
open Go.RowKit
/-- numbers that an axis can have. -/
def Axis.holdB (a : Axis) (F : Nat → Int) : Bool := inB (F 0) a.c0 a.c1 && (!anyB (fun i => !inB (F (i+1) - F i) a.w0 a.w1) 12 && !anyB (fun i => cmiss F (a.cl i)) a.n)
theorem Axis.holdB_iff {a : Axis} {F : Nat → Int} : a.holdB F = true ↔ a.truth F := by
 unfold Axis.holdB
 simp only [Bool.and_eq_true, Bool.not_eq_true']
 rw [anyB_no, anyB_no, inB_iff]
 constructor
 ·rintro ⟨h1, h2, h3⟩
  refine ⟨h1, fun k hk => ?_, fun i hi => ?_⟩
  ·have := h2 k hk
   rw [Bool.not_eq_false'] at this
   exact inB_iff.1 this
  ·have := h3 i hi
   unfold cmiss at this
   rw [Bool.not_eq_false'] at this
   exact inB_iff.1 this
 ·rintro ⟨h1, h2, h3⟩
  refine ⟨h1, fun k hk => ?_, fun i hi => ?_⟩
  ·rw [Bool.not_eq_false']; exact inB_iff.2 (h2 k hk)
  ·unfold cmiss
   rw [Bool.not_eq_false']; exact inB_iff.2 (h3 i hi)
set_option maxRecDepth 100000 in
set_option maxHeartbeats 4000000 in
theorem holds_any (a : Axis) (v : Value) (nb no nc : Nat) (F : Nat → Int) (w : World) (hf : a.fine) (hv : CSp w v a.n a.cl) (hnb : nb < w.heap.size) (hF : Ints w nb no 13 F) (hr : ∀ i, i < 13 → -80 ≤ F i ∧ F i ≤ 80) (hcap : 13 ≤ nc) :
  Calls Tryz.prog 88 #[.agg #[.int .i64 a.c0, .int .i64 a.c1, .int .i64 a.w0, .int .i64 a.w1, v], .slice (some ⟨nb, no, none⟩) 13 nc] w fun e w' => e = .returned (.bool (a.holdB F)) ∧ Below w.heap.size w w' := by
 have hle : 1 ≤ nc := by omega
 have hle2 : (1 : Int) ≤ (nc : Int) := by omega
 have hle3 : (13 : Int) ≤ (nc : Int) := by omega
 obtain ⟨va, vc, rfl⟩ := hv.slice
 obtain ⟨W0, hW0⟩ : ∃ W0, (w.alloc (Obj.cells #[.int .i64 a.c0, .int .i64 a.c1, .int .i64 a.w0, .int .i64 a.w1, .slice va a.n vc] 114)).alloc (Obj.cells #[.slice (some ⟨nb, no, none⟩) 13 nc] 28) = W0 := ⟨_, rfl⟩
 have hsz : W0.heap.size = w.heap.size + 1 + 1 := by rw [← hW0, World.size_alloc, World.size_alloc]
 have hb0 : Below w.heap.size w W0 := by rw [← hW0]; exact ((Below.refl _ _).alloc (Nat.le_refl _) _).alloc (by rw [World.size_alloc]; omega) _
 have hA0 : AAt W0 w.heap.size a.c0 a.c1 a.w0 a.w1 (.slice va a.n vc) := by
  rw [← hW0]
  exact (AAt.new w 114 a.c0 a.c1 a.w0 a.w1 (.slice va a.n vc)).below (B := w.heap.size + 1) ((Below.refl (w.heap.size + 1) _).alloc (by rw [World.size_alloc]; omega) _) (by omega)
 have hG0 : W0.cell? ⟨w.heap.size + 1, 0, none⟩ = some (.slice (some ⟨nb, no, none⟩) 13 nc) := by
  have h := cells_new (w.alloc (Obj.cells #[.int .i64 a.c0, .int .i64 a.c1, .int .i64 a.w0, .int .i64 a.w1, .slice va a.n vc] 114)) #[.slice (some ⟨nb, no, none⟩) 13 nc] 28 (j := 0) rfl
  rw [World.size_alloc, hW0] at h
  exact h
 have e0 := (hb0.cell (p := ⟨nb, no, none⟩) hnb).trans (hF 0 (by omega))
 have hA' := hA0
 obtain ⟨q0, q1, q2, q3, q4, q5, q6, q7, q8, q9⟩ := hA'
 have hli := fun W => lies_any (F 0) a.c0 a.c1 W
 generalize hok : a.holdB F = ok
 unfold Axis.holdB at hok
 cases z1 : inB (F 0) a.c0 a.c1 with
 | false =>
  rw [z1] at hli
  rw [z1, Bool.false_and] at hok
  subst hok
  go_enter Tryz.func88, Tryz.ntmps88
  go_wp2_with fail
  go_region_held3 (fun w' => w'.cell? ⟨w.heap.size + 1, 0, none⟩ = some (.slice (some ⟨nb, no, none⟩) 13 nc) ∧ w'.cell? ⟨nb, no, none⟩ = some (.int .i64 (F 0)) ∧ w'.cell? ⟨w.heap.size, 0, none⟩ = some (.int .i64 a.c0) ∧ w'.cell? ⟨w.heap.size, 1, none⟩ = some (.int .i64 a.c1))
   (first | (go_keep; done) | (go_split_ands; refine ⟨?_, ?_, ?_, ?_⟩ <;> (rw [hbb.cell (by first | omega | (simp; omega) | simp)]; assumption)))
   ((go_at_call 129; with_reducible refine (hli _).mono ?_; rintro e w6 ⟨rfl, hbb⟩; have hs := hbb.size))
  go_wp2
  go_ret
  exact ⟨rfl, hb0.trans (((Below.refl _ _).drew.trans (hbb.mono (by simp))).mono hb0.size)⟩
 | true =>
  rw [z1] at hli
  rw [z1, Bool.true_and] at hok
  go_enter Tryz.func88, Tryz.ntmps88
  go_wp2_with fail
  go_region_held3 (fun w' => w'.cell? ⟨w.heap.size + 1, 0, none⟩ = some (.slice (some ⟨nb, no, none⟩) 13 nc) ∧ w'.cell? ⟨nb, no, none⟩ = some (.int .i64 (F 0)) ∧ w'.cell? ⟨w.heap.size, 0, none⟩ = some (.int .i64 a.c0) ∧ w'.cell? ⟨w.heap.size, 1, none⟩ = some (.int .i64 a.c1))
   (first | (go_keep; done) | (go_split_ands; refine ⟨?_, ?_, ?_, ?_⟩ <;> (rw [hbb.cell (by first | omega | (simp; omega) | simp)]; assumption)))
   ((go_at_call 129; with_reducible refine (hli _).mono ?_; rintro e w6 ⟨rfl, hbb⟩; have hs := hbb.size))
  go_wp2
  have hsz6 : W0.heap.size ≤ w6.heap.size := by simpa using hs
  have hb6 : Below w.heap.size w w6 := hb0.trans (((Below.refl _ _).drew.trans (hbb.mono (by simp))).mono hb0.size)
  have hb06 : Below W0.heap.size W0 w6 := (Below.refl _ _).drew.trans (hbb.mono (by simp))
  have hA6 := hA0.below hb06 (by omega)
  have hG6 := (hb06.cell (p := ⟨w.heap.size + 1, 0, none⟩) (by show w.heap.size + 1 < _; omega)).trans hG0
  have hv6 := hv.below hb6
  have hF6 : Ints w6 nb no 13 F := fun i hi => (hb6.cell (p := ⟨nb, no + i, none⟩) hnb).trans (hF i hi)
  have hnb6 : nb < w6.heap.size := Nat.lt_of_lt_of_le hnb hb6.size
  clear hbb hs hb06 hA0 hG0 hb0 e0 q0 q1 q2 q3 q4 q5 q6 q7 q8 q9 hli hW0 hv hF
  go_loopw [17] (fun i wr => ∃ k : Nat, k ≤ 12 ∧ i = .int .i64 k ∧ Below w6.heap.size w6 wr ∧ ∀ j, j < k → inB (F (j+1) - F j) a.w0 a.w1 = true) (fun i _ => 12 - (intOf i).toNat)
  case atStart => exact ⟨0, Nat.zero_le _, rfl, Below.refl _ _, fun _ h => absurd h (Nat.not_lt_zero _)⟩
  case round =>
   obtain ⟨k, hk, rfl, hbl, hall⟩ := hrel
   have hA7 := hA6.below hbl (by omega)
   obtain ⟨q0, q1, q2, q3, q4, q5, q6, q7, q8, q9⟩ := hA7
   have g7 := (hbl.cell (p := ⟨w.heap.size + 1, 0, none⟩) (by show w.heap.size + 1 < _; omega)).trans hG6
   have hzl := hbl.size
   by_cases hlt : k < 12
   ·have e1 := (hbl.cell (p := ⟨nb, no + k, none⟩) hnb6).trans (hF6 k (by omega))
    have e2 := (hbl.cell (p := ⟨nb, no + (k + 1), none⟩) hnb6).trans (hF6 (k + 1) (by omega))
    rw [show no + (k + 1) = no + 1 + k by omega] at e2
    have hk0 : (0 : Int) ≤ (k : Int) := Int.natCast_nonneg _
    have hk1 : (k : Int) < 12 := by omega
    have hk2 : (k : Int) < 13 := by omega
    obtain ⟨r1, r2⟩ := hr k (by omega)
    obtain ⟨r3, r4⟩ := hr (k + 1) (by omega)
    have hli := fun W => lies_any (F (k + 1) - F k) a.w0 a.w1 W
    have hwr : IntKind.i64.wrap (F (k + 1) - F k) = F (k + 1) - F k := IntWalk.i64_in _ (by omega)
    cases z2 : inB (F (k + 1) - F k) a.w0 a.w1 with
    | false =>
     rw [z2] at hli
     have hx : anyB (fun i => !inB (F (i + 1) - F i) a.w0 a.w1) 12 = true := by
      cases hx : anyB (fun i => !inB (F (i + 1) - F i) a.w0 a.w1) 12 with
      | true => rfl
      | false => have := anyB_no.1 hx k hlt; (try dsimp only at this); rw [z2] at this; cases this
     rw [hx, Bool.not_true, Bool.false_and] at hok
     subst hok
     go_wp2_with fail
     go_region_held3 (fun w' => w'.cell? ⟨w.heap.size + 1, 0, none⟩ = some (.slice (some ⟨nb, no, none⟩) 13 nc) ∧ w'.cell? ⟨nb, no + k, none⟩ = some (.int .i64 (F k)) ∧ w'.cell? ⟨w.heap.size, 2, none⟩ = some (.int .i64 a.w0) ∧ w'.cell? ⟨w.heap.size, 3, none⟩ = some (.int .i64 a.w1))
      (first | (go_keep; done) | (go_split_ands; refine ⟨?_, ?_, ?_, ?_⟩ <;> (rw [hbb.cell (by first | omega | (simp; omega) | simp)]; assumption)))
      ((go_at_call 129; with_reducible refine (hli _).mono ?_; rintro e w8 ⟨rfl, hbb⟩; have hs := hbb.size))
     go_wp2
     go_ret
     exact ⟨rfl, hb6.trans ((hbl.trans (((Below.refl _ _).drew.trans (hbb.mono (by simp))).mono hbl.size)).mono hb6.size)⟩
    | true =>
     rw [z2] at hli
     go_wp2_with fail
     go_region_held3 (fun w' => w'.cell? ⟨w.heap.size + 1, 0, none⟩ = some (.slice (some ⟨nb, no, none⟩) 13 nc) ∧ w'.cell? ⟨nb, no + k, none⟩ = some (.int .i64 (F k)) ∧ w'.cell? ⟨w.heap.size, 2, none⟩ = some (.int .i64 a.w0) ∧ w'.cell? ⟨w.heap.size, 3, none⟩ = some (.int .i64 a.w1))
      (first | (go_keep; done) | (go_split_ands; refine ⟨?_, ?_, ?_, ?_⟩ <;> (rw [hbb.cell (by first | omega | (simp; omega) | simp)]; assumption)))
      ((go_at_call 129; with_reducible refine (hli _).mono ?_; rintro e w8 ⟨rfl, hbb⟩; have hs := hbb.size))
     go_wp2
     go_roundw
     case rel => exact ⟨k + 1, by omega, by go_num, hbl.trans (((Below.refl _ _).drew.trans (hbb.mono (by simp))).mono hbl.size), all_succ (p := fun j => inB (F (j + 1) - F j) a.w0 a.w1 = true) hall z2⟩
     case measure => simp [intOf]; omega
   ·obtain rfl : k = 12 := by omega
    have hx : anyB (fun i => !inB (F (i + 1) - F i) a.w0 a.w1) 12 = false := anyB_no.2 fun i hi => by rw [hall i hi]; rfl
    rw [hx, Bool.not_false, Bool.true_and] at hok
    have hco := fun (W : World) (hW : Below wr.heap.size wr W) => has_clue (.slice va a.n vc) a.n a.cl (w.heap.size + 1) nb no nc F W (by have := hf.few; omega) ((hv6.below hbl).below hW) (fun i hi => ⟨(hf.cl i hi).1, (hf.cl i hi).2.1⟩) (by have := hW.size; omega) ((hW.cell (p := ⟨w.heap.size + 1, 0, none⟩) (by show w.heap.size + 1 < _; omega)).trans g7) (Nat.lt_of_lt_of_le hnb6 (Nat.le_trans hzl hW.size)) fun i hi => (hW.cell (p := ⟨nb, no + i, none⟩) (Nat.lt_of_lt_of_le hnb6 hzl)).trans ((hbl.cell (p := ⟨nb, no + i, none⟩) hnb6).trans (hF6 i hi))
    generalize hq : anyB (fun i => cmiss F (a.cl i)) a.n = q at hok hco
    clear hall hx
    go_wp2_with (go_at_call 130; with_reducible refine (hco _ (Below.refl _ _)).mono ?_; rintro e w9 ⟨rfl, hb9⟩)
    go_ret
    exact ⟨by first | rfl | exact ret_bool hok, hb6.trans ((hbl.trans (hb9.mono hbl.size)).mono hb6.size)⟩
end Go.Proofs.YtjhpklolpmaopaaGreatDoor
namespace Go.Proofs.YtjhpklolpmaopaaGreatDoor
open Go.RowKit
def Mach.axX (m : Mach) : Axis := ⟨m.c0, m.c1, m.w0, m.w1, m.rn, fun i => (m.RB i, m.RX i - m.RE i, m.RX i + m.RE i)⟩
def Mach.axY (m : Mach) : Axis := ⟨m.d0, m.d1, m.v0, m.v1, m.rn, fun i => (m.RB i, m.RY i - m.RE i, m.RY i + m.RE i)⟩
theorem Mach.ok_parts {m : Mach} (h : m.ok = true) : m.okStops = true ∧ m.rn ≤ 4 ∧ m.okSpans = true ∧ ∀ i, i < m.rn → readB (m.RB i) (m.RX i) (m.RY i) (m.RE i) = true := by
 unfold Mach.ok at h
 simp only [Bool.and_eq_true, decide_eq_true_eq] at h
 obtain ⟨h1, h2, h3, h4⟩ := h
 refine ⟨h1, by omega, h3, fun i hi => ?_⟩
 unfold Mach.okReads at h4
 rw [Bool.not_eq_true'] at h4
 have := anyB_no.1 h4 i hi
 rwa [Bool.not_eq_false'] at this
theorem Mach.reads {m : Mach} (h : m.ok = true) (i : Nat) (hi : i < m.rn) : (0 ≤ m.RB i ∧ m.RB i ≤ 12) ∧ (-80 ≤ m.RX i ∧ m.RX i ≤ 80) ∧ (-80 ≤ m.RY i ∧ m.RY i ≤ 80) ∧ (0 ≤ m.RE i ∧ m.RE i ≤ 4) := by
 obtain ⟨a, b, c, d⟩ := readB_iff.1 ((Mach.ok_parts h).2.2.2 i hi)
 exact ⟨inB_iff.1 a, inB_iff.1 b, inB_iff.1 c, inB_iff.1 d⟩
theorem Mach.fineX {m : Mach} (h : m.ok = true) : m.axX.fine := by
 obtain ⟨h1, h2, h3, h4⟩ := Mach.ok_parts h
 unfold Mach.okSpans at h3
 simp only [Bool.and_eq_true] at h3
 obtain ⟨s1, s2, s3, s4⟩ := h3
 have s1 := spanR_iff.1 s1
 have s3 := spanR_iff.1 s3
 refine ⟨by show _ ≤ m.c0 ∧ m.c0 ≤ m.c1 ∧ m.c1 ≤ _; omega, by show _ ≤ m.w0 ∧ m.w0 ≤ m.w1 ∧ m.w1 ≤ _; omega, by show m.rn ≤ 8; omega, fun i hi => ?_⟩
 have := Mach.reads h i hi
 show 0 ≤ m.RB i ∧ m.RB i ≤ 12 ∧ -110 ≤ m.RX i - m.RE i ∧ m.RX i - m.RE i ≤ 110 ∧ -110 ≤ m.RX i + m.RE i ∧ m.RX i + m.RE i ≤ 110
 omega
theorem Mach.fineY {m : Mach} (h : m.ok = true) : m.axY.fine := by
 obtain ⟨h1, h2, h3, h4⟩ := Mach.ok_parts h
 unfold Mach.okSpans at h3
 simp only [Bool.and_eq_true] at h3
 obtain ⟨s1, s2, s3, s4⟩ := h3
 have s1 := spanR_iff.1 s2
 have s3 := spanR_iff.1 s4
 refine ⟨by show _ ≤ m.d0 ∧ m.d0 ≤ m.d1 ∧ m.d1 ≤ _; omega, by show _ ≤ m.v0 ∧ m.v0 ≤ m.v1 ∧ m.v1 ≤ _; omega, by show m.rn ≤ 8; omega, fun i hi => ?_⟩
 have := Mach.reads h i hi
 show 0 ≤ m.RB i ∧ m.RB i ≤ 12 ∧ -110 ≤ m.RY i - m.RE i ∧ m.RY i - m.RE i ≤ 110 ∧ -110 ≤ m.RY i + m.RE i ∧ m.RY i + m.RE i ≤ 110
 omega
/-- a studied machine's cells: the machine's, and those of two courses. -/
def Mach.cells (m : Mach) : List Value := [.slice m.sa m.sn m.sc, .int .i64 m.c0, .int .i64 m.c1, .int .i64 m.d0, .int .i64 m.d1, .int .i64 m.w0, .int .i64 m.w1, .int .i64 m.v0, .int .i64 m.v1, .slice m.ra m.rn m.rc]
def Mach.st (m : Mach) (X Y : List Value) : List Value := m.cells ++ (X ++ Y)
theorem Mach.st_length (m : Mach) {X Y : List Value} (hx : X.length = 26) (hy : Y.length = 26) : (m.st X Y).length = 62 := by
 unfold Mach.st Mach.cells
 simp [hx, hy]
theorem Mach.st_cells (m : Mach) {X Y : List Value} (hx : X.length = 26) (hy : Y.length = 26) : SCells (m.st X Y).toArray m :=
 ⟨by rw [List.size_toArray]; exact m.st_length hx hy, rfl, rfl, rfl, rfl, rfl, rfl, rfl, rfl, rfl, rfl⟩
theorem Mach.st_one (m : Mach) {X Y : List Value} (hx : ∀ v ∈ X, v.oneCell' = true) (hy : ∀ v ∈ Y, v.oneCell' = true) : ∀ v ∈ m.st X Y, v.oneCell' = true := fun v hv => by
 unfold Mach.st Mach.cells at hv
 simp only [List.mem_append, List.mem_cons, List.not_mem_nil, or_false] at hv
 rcases hv with h | h | h
 ·rcases h with rfl | rfl | rfl | rfl | rfl | rfl | rfl | rfl | rfl | rfl <;> rfl
 ·exact hx v h
 ·exact hy v h
theorem ints_at {w : World} {a : Option Addr} {n c : Nat} {F : Nat → Int} (h : IntsSl w (.slice a n c) n F) (hn : 0 < n) : ∃ b off, a = some ⟨b, off, none⟩ ∧ b < w.heap.size ∧ Ints w b off n F := by
 rcases h with ⟨a', c', h1, h2⟩ | ⟨b, off, c', h1, h2, h3⟩
 ·omega
 ·cases h1; exact ⟨b, off, rfl, h2, h3⟩
def zero26 : List Value := [.int .i64 0, .int .i64 0, .int .i64 0, .int .i64 0, .int .i64 0, .int .i64 0, .int .i64 0, .int .i64 0, .int .i64 0, .int .i64 0, .int .i64 0, .int .i64 0, .int .i64 0, .int .i64 0, .int .i64 0, .int .i64 0, .int .i64 0, .int .i64 0, .int .i64 0, .int .i64 0, .int .i64 0, .int .i64 0, .int .i64 0, .int .i64 0, .int .i64 0, .int .i64 0]
theorem zero26_one : ∀ v ∈ zero26, v.oneCell' = true := fun v hv => by
 unfold zero26 at hv
 simp only [List.mem_cons, List.not_mem_nil, or_false, or_self] at hv
 subst hv; rfl
set_option maxRecDepth 100000 in
set_option maxHeartbeats 4000000 in
theorem axes_any (L : List Value) (hL : L.length = 62) (w : World) :
  Calls Tryz.prog 57 #[.agg L.toArray] w fun e w' => e = .returned (.agg #[.func (.func 95) #[.agg L.toArray] #[], .func (.func 96) #[.agg L.toArray] #[]]) ∧ Below w.heap.size w w' := by
 have hmf : ∀ (fn : Fn) (first cap : Array Value) (w : World), (Instr.makeFunc fn first cap).run Tryz.prog w = .ok (.func fn first cap) w := fun _ _ _ _ => rfl
 have hi0 : (Tryz.prog.info? 93).map (·.size) = some 62 := by kernel_rfl
 have hi : (Tryz.prog.info? 93).map (·.size) = some L.length := by rw [hL]; exact hi0
 obtain ⟨W0, hW0⟩ : ∃ W0, (w.alloc (Obj.cells L.toArray 93)).alloc (Obj.cells #[.nilFunc, .nilFunc] 110) = W0 := ⟨_, rfl⟩
 have hrg : W0.rangeAt w.heap.size 0 L := by
  rw [← hW0]
  refine World.rangeAt_alloc (fun j v hj => ?_) _
  rw [Nat.zero_add]; exact cells_new w _ _ (by rw [List.getElem?_toArray]; exact hj)
 have hb0 : Below w.heap.size w W0 := by rw [← hW0]; exact ((Below.refl _ _).alloc (Nat.le_refl _) _).alloc (by rw [World.size_alloc]; omega) _
 have k0 : W0.cell? ⟨w.heap.size + 1, 0, none⟩ = some .nilFunc := by
  have h := cells_new (w.alloc (Obj.cells L.toArray 93)) #[.nilFunc, .nilFunc] 110 (j := 0) rfl
  rw [World.size_alloc, hW0] at h; exact h
 have k1 : W0.cell? ⟨w.heap.size + 1, 1, none⟩ = some .nilFunc := by
  have h := cells_new (w.alloc (Obj.cells L.toArray 93)) #[.nilFunc, .nilFunc] 110 (j := 1) rfl
  rw [World.size_alloc, hW0] at h; exact h
 have z0 : W0.frozen? ⟨w.heap.size + 1, 0, none⟩ = false := by
  rw [← hW0]; simp [go_sem]
 have z1 : W0.frozen? ⟨w.heap.size + 1, 1, none⟩ = false := by
  rw [← hW0]; simp [go_sem]
 clear hi0 hL
 go_enter Tryz.func57, Tryz.ntmps57
 go_wp2_with (first
  | (refine wpList_load_mid rfl 93 _ rfl w.heap.size 0 rfl L _ (by first | exact hrg | (rw [hW0]; exact hrg)) Tryz.underlying93 rfl hi ?_))
 refine bodyPost_ret (v := .agg #[.func (.func 95) #[.agg L.toArray] #[], .func (.func 96) #[.agg L.toArray] #[]]) (by simp [results, Tryz.results57, go_sem, k0, k1]) rfl ⟨rfl, (hb0.setCell (p := ⟨w.heap.size + 1, 0, none⟩) (Nat.le_succ _) _).setCell (p := ⟨w.heap.size + 1, 1, none⟩) (Nat.le_succ _) _⟩
end Go.Proofs.YtjhpklolpmaopaaGreatDoor
