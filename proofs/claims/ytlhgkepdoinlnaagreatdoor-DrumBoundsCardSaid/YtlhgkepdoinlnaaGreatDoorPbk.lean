/- A part of the proof: see the last file. -/
import Derived.Test.YtlhgkepdoinlnaaGreatDoorPbj
import Derived.Test.YtlhgkepdoinlnaaGreatDoorPah
set_option linter.unusedVariables false
set_option linter.unusedSimpArgs false
set_option linter.unusedSectionVars false
namespace Go.Proofs.YtlhgkepdoinlnaaGreatDoor
open Go.RowKit Go.Gen Go.Drum
/-- four numbers in a block. -/
structure Four (W : World) (A : Nat) (a0 a1 a2 a3 : Int) : Prop where
 k0 : W.cell? ⟨A, 0, none⟩ = some (.int .i64 a0)
 k1 : W.cell? ⟨A, 1, none⟩ = some (.int .i64 a1)
 k2 : W.cell? ⟨A, 2, none⟩ = some (.int .i64 a2)
 k3 : W.cell? ⟨A, 3, none⟩ = some (.int .i64 a3)
 f : ∀ j, W.frozen? ⟨A, j, none⟩ = false
theorem Four.new (w : World) (e : TypeId) (a0 a1 a2 a3 : Int) : Four (w.alloc (Obj.cells #[.int .i64 a0, .int .i64 a1, .int .i64 a2, .int .i64 a3] e)) w.heap.size a0 a1 a2 a3 := ⟨cells_new w _ _ rfl, cells_new w _ _ rfl, cells_new w _ _ rfl, cells_new w _ _ rfl, fun j => by simp [go_sem]⟩
theorem Four.below {W W' : World} {A B : Nat} {a0 a1 a2 a3 : Int} (h : Four W A a0 a1 a2 a3) (hb : Below B W W') (hl : A < B) : Four W' A a0 a1 a2 a3 := by
 have c : ∀ j, W'.cell? ⟨A, j, none⟩ = W.cell? ⟨A, j, none⟩ := fun j => hb.cell (p := ⟨A, j, none⟩) hl
 exact ⟨(c 0).trans h.k0, (c 1).trans h.k1, (c 2).trans h.k2, (c 3).trans h.k3, fun j => (hb.frozen (p := ⟨A, j, none⟩) hl).trans (h.f j)⟩
theorem set_other (W : World) (A i j : Nat) (v : Value) (h : i ≠ j) : (W.setCell ⟨A, i, none⟩ v).cell? ⟨A, j, none⟩ = W.cell? ⟨A, j, none⟩ :=
 World.cell?_setCell_other _ _ (a := ⟨A, i, none⟩) (b := ⟨A, j, none⟩) (by intro e; injection e with e1 e2 e3; exact h e2)
theorem Four.set {W : World} {A : Nat} {a0 a1 a2 a3 : Int} (h : Four W A a0 a1 a2 a3) (u0 u1 u2 u3 : Int) :
  Four ((((W.setCell ⟨A, 0, none⟩ (.int .i64 u0)).setCell ⟨A, 1, none⟩ (.int .i64 u1)).setCell ⟨A, 2, none⟩ (.int .i64 u2)).setCell ⟨A, 3, none⟩ (.int .i64 u3)) A u0 u1 u2 u3 := by
 refine ⟨?_, ?_, ?_, ?_, fun j => by rw [World.frozen?_setCell, World.frozen?_setCell, World.frozen?_setCell, World.frozen?_setCell]; exact h.f j⟩
 ·rw [set_other _ _ 3 0 _ (by decide), set_other _ _ 2 0 _ (by decide), set_other _ _ 1 0 _ (by decide)]; exact World.cell?_setCell_same' _ _ _ (by rw [h.k0]; rfl)
 ·rw [set_other _ _ 3 1 _ (by decide), set_other _ _ 2 1 _ (by decide)]; exact World.cell?_setCell_same' _ _ _ (by rw [set_other _ _ 0 1 _ (by decide), h.k1]; rfl)
 ·rw [set_other _ _ 3 2 _ (by decide)]; exact World.cell?_setCell_same' _ _ _ (by rw [set_other _ _ 1 2 _ (by decide), set_other _ _ 0 2 _ (by decide), h.k2]; rfl)
 ·exact World.cell?_setCell_same' _ _ _ (by rw [set_other _ _ 2 3 _ (by decide), set_other _ _ 1 3 _ (by decide), set_other _ _ 0 3 _ (by decide), h.k3]; rfl)
/-- bounds' blocks: the batch's, the result, all. -/
structure BZ (w : World) (b : Nat → Int) (a0 a1 a2 a3 : Int) (W : World) : Prop where
 o : Below w.heap.size w W
 b0 : W.cell? ⟨w.heap.size, 0, none⟩ = some (.int .i64 (b 0))
 b1 : W.cell? ⟨w.heap.size, 1, none⟩ = some (.int .i64 (b 1))
 b2 : W.cell? ⟨w.heap.size, 2, none⟩ = some (.int .i64 (b 2))
 b3 : W.cell? ⟨w.heap.size, 3, none⟩ = some (.int .i64 (b 3))
 b4 : W.cell? ⟨w.heap.size, 4, none⟩ = some (.int .i64 (b 4))
 b5 : W.cell? ⟨w.heap.size, 5, none⟩ = some (.int .i64 (b 5))
 r : Four W (w.heap.size + 1) 0 0 0 0
 a : Four W (w.heap.size + 1 + 1) a0 a1 a2 a3
 lt : w.heap.size + 1 + 1 < W.heap.size
theorem BZ.beyond {w : World} {b : Nat → Int} {a0 a1 a2 a3 : Int} {W W' : World} (h : BZ w b a0 a1 a2 a3 W) {u0 u1 u2 u3 : Int} (hb : Below (w.heap.size + 1 + 1) W W') (ha : Four W' (w.heap.size + 1 + 1) u0 u1 u2 u3) (hs : W.heap.size ≤ W'.heap.size) : BZ w b u0 u1 u2 u3 W' := by
 have c : ∀ j, W'.cell? ⟨w.heap.size, j, none⟩ = W.cell? ⟨w.heap.size, j, none⟩ := fun j => hb.cell (p := ⟨w.heap.size, j, none⟩) (by show w.heap.size < _; omega)
 exact ⟨h.o.trans (hb.mono (by omega)), (c 0).trans h.b0, (c 1).trans h.b1, (c 2).trans h.b2, (c 3).trans h.b3, (c 4).trans h.b4, (c 5).trans h.b5, h.r.below hb (by omega), ha, Nat.lt_of_lt_of_le h.lt hs⟩
theorem BZ.below {w : World} {b : Nat → Int} {a0 a1 a2 a3 : Int} {W W' : World} (h : BZ w b a0 a1 a2 a3 W) (hb : Below W.heap.size W W') : BZ w b a0 a1 a2 a3 W' :=
 h.beyond (hb.mono (Nat.le_of_lt h.lt)) (h.a.below hb h.lt) hb.size
theorem BZ.set {w : World} {b : Nat → Int} {a0 a1 a2 a3 : Int} {W : World} (h : BZ w b a0 a1 a2 a3 W) (u0 u1 u2 u3 : Int) :
  BZ w b u0 u1 u2 u3 ((((W.setCell ⟨w.heap.size + 1 + 1, 0, none⟩ (.int .i64 u0)).setCell ⟨w.heap.size + 1 + 1, 1, none⟩ (.int .i64 u1)).setCell ⟨w.heap.size + 1 + 1, 2, none⟩ (.int .i64 u2)).setCell ⟨w.heap.size + 1 + 1, 3, none⟩ (.int .i64 u3)) :=
 h.beyond (((((Below.refl _ W).setCell (p := ⟨w.heap.size + 1 + 1, 0, none⟩) (Nat.le_refl _) _).setCell (p := ⟨w.heap.size + 1 + 1, 1, none⟩) (Nat.le_refl _) _).setCell (p := ⟨w.heap.size + 1 + 1, 2, none⟩) (Nat.le_refl _) _).setCell (p := ⟨w.heap.size + 1 + 1, 3, none⟩) (Nat.le_refl _) _) (h.a.set _ _ _ _) (by simp only [World.size_setCell]; exact Nat.le_refl _)
/-- beside them a state's. -/
structure BZS (w : World) (b : Nat → Int) (a0 a1 a2 a3 : Int) (T : Nat) (s0 s1 : Int) (W : World) : Prop where
 z : BZ w b a0 a1 a2 a3 W
 s : Two W T s0 s1
 lt : T < W.heap.size
theorem BZS.below {w : World} {b : Nat → Int} {a0 a1 a2 a3 : Int} {T : Nat} {s0 s1 : Int} {W W' : World} (h : BZS w b a0 a1 a2 a3 T s0 s1 W) (hb : Below W.heap.size W W') : BZS w b a0 a1 a2 a3 T s0 s1 W' :=
 ⟨h.z.below hb, h.s.below hb h.lt, Nat.lt_of_lt_of_le h.lt hb.size⟩
theorem BZS.drew {w : World} {b : Nat → Int} {a0 a1 a2 a3 : Int} {T : Nat} {s0 s1 : Int} {W : World} (h : BZS w b a0 a1 a2 a3 T s0 s1 W) : BZS w b a0 a1 a2 a3 T s0 s1 W.drew := h.below (Below.refl _ _).drew
theorem idxF0 (f g : Fn) (a b c d : Array Value) (w : World) : (Instr.index 159 (.agg #[.func f a b, .func g c d]) (.int .i64 0)).run Tryz.prog w = .ok (.func f a b) w := by kernel_rfl
theorem idxF1 (f g : Fn) (a b c d : Array Value) (w : World) : (Instr.index 159 (.agg #[.func f a b, .func g c d]) (.int .i64 1)).run Tryz.prog w = .ok (.func g c d) w := by kernel_rfl
/-- a batch's bounds. -/
def Drm.rE (d : Drm) (b : Nat → Int) : Nat → Nat → Int × Int := leE d.en (b 0) (b 4)
def Drm.tE (d : Drm) (b : Nat → Int) : Nat → Nat → Int × Int := leE d.en (b 2) (b 5)
structure BatOk (b : Nat → Int) : Prop where
 h0 : 0 ≤ b 0 ∧ b 0 ≤ 1000
 h1 : 0 ≤ b 1 ∧ b 1 ≤ 1000
 h2 : 0 ≤ b 2 ∧ b 2 ≤ 1000
 h3 : 0 ≤ b 3 ∧ b 3 ≤ 1000
 h4 : 0 ≤ b 4 ∧ b 4 ≤ 100
 h5 : 0 ≤ b 5 ∧ b 5 ≤ 100
theorem Drm.Ok.bat {d : Drm} (h : d.Ok) {i : Nat} (hi : i < d.bn) : BatOk (d.B i) := by
 have := h.batch i hi
 unfold baB at this
 simp only [Bool.and_eq_true, inB_iff] at this
 obtain ⟨h0, h1, h2, h3, h4, h5⟩ := this
 exact ⟨h0, h1, h2, h3, h4, h5⟩
@[reducible] def batV (b : Nat → Int) : Value := .agg #[.int .i64 (b 0), .int .i64 (b 1), .int .i64 (b 2), .int .i64 (b 3), .int .i64 (b 4), .int .i64 (b 5)]
set_option maxRecDepth 100000 in
set_option maxHeartbeats 8000000 in
theorem bounds_any (d : Drm) (B : Nat) (xs : List Ch) (g cap : Nat) (b : Nat → Int) (hr : Nat) (w : World) (hok : d.Ok) (hb : BatOk b) (hC : ChIn d B xs g w) (hx1 : 1 ≤ xs.length) (hcap : xs.length ≤ cap) (hh : hr ≤ d.dn) :
  Calls Tryz.prog 75 #[.slice (some ⟨g, 0, none⟩) xs.length cap, batV b, .int .i64 hr] w fun e w' => e = .returned (.agg #[.int .i64 (hullTo (d.rE b) (xs.map Ch.acid) hr).1, .int .i64 (hullTo (d.rE b) (xs.map Ch.acid) hr).2, .int .i64 (hullTo (d.tE b) (xs.map Ch.acid) hr).1, .int .i64 (hullTo (d.tE b) (xs.map Ch.acid) hr).2]) ∧ Below w.heap.size w w' := by
 have hlen4 : xs.length ≤ 4 := by have := CouldTo.length_le hC.could; rw [List.length_map] at this; have := hok.acids; omega
 obtain ⟨hdn1, hdn2⟩ : 1 ≤ d.dn ∧ d.dn ≤ 12 := by have := hok.hours; have := hok.adds; omega
 obtain ⟨W1, hW1⟩ : ∃ W, w.alloc (.cells #[.int .i64 (b 0), .int .i64 (b 1), .int .i64 (b 2), .int .i64 (b 3), .int .i64 (b 4), .int .i64 (b 5)] 79) = W := ⟨_, rfl⟩
 obtain ⟨W2, hW2⟩ : ∃ W, W1.alloc (.cells #[.int .i64 0, .int .i64 0, .int .i64 0, .int .i64 0] 75) = W := ⟨_, rfl⟩
 obtain ⟨W3, hW3⟩ : ∃ W, W2.alloc (.cells #[.int .i64 (b 0), .int .i64 0, .int .i64 (b 2), .int .i64 0] 75) = W := ⟨_, rfl⟩
 obtain ⟨W4, hW4⟩ : ∃ W, W3.setCell ⟨w.heap.size + 1 + 1, 3, none⟩ (.int .i64 0) = W := ⟨_, rfl⟩
 have hz1 : W1.heap.size = w.heap.size + 1 := by rw [← hW1, World.size_alloc]
 have hz2 : W2.heap.size = w.heap.size + 1 + 1 := by rw [← hW2, World.size_alloc, hz1]
 have hb12 : Below W1.heap.size W1 W2 := by rw [← hW2]; exact (Below.refl _ _).alloc (Nat.le_refl _) _
 have hb23 : Below W2.heap.size W2 W3 := by rw [← hW3]; exact (Below.refl _ _).alloc (Nat.le_refl _) _
 have hb01 : Below w.heap.size w W1 := by rw [← hW1]; exact (Below.refl _ _).alloc (Nat.le_refl _) _
 have hb13 := hb12.trans (hb23.mono hb12.size)
 have hZ0 : BZ w b (b 0) 0 (b 2) 0 W3 := by
  have c : ∀ j, W3.cell? ⟨w.heap.size, j, none⟩ = W1.cell? ⟨w.heap.size, j, none⟩ := fun j => hb13.cell (p := ⟨w.heap.size, j, none⟩) (by show w.heap.size < _; omega)
  have c' : ∀ j v, (#[.int .i64 (b 0), .int .i64 (b 1), .int .i64 (b 2), .int .i64 (b 3), .int .i64 (b 4), .int .i64 (b 5)] : Array Value)[j]? = some v → W1.cell? ⟨w.heap.size, j, none⟩ = some v := fun j v h => by rw [← hW1]; exact cells_new w _ _ h
  refine ⟨hb01.trans (hb13.mono hb01.size), (c 0).trans (c' 0 _ rfl), (c 1).trans (c' 1 _ rfl), (c 2).trans (c' 2 _ rfl), (c 3).trans (c' 3 _ rfl), (c 4).trans (c' 4 _ rfl), (c 5).trans (c' 5 _ rfl), ?_, ?_, ?_⟩
  ·rw [← hz1]; exact (show Four W2 W1.heap.size 0 0 0 0 by rw [← hW2]; exact Four.new W1 _ _ _ _ _).below hb23 (by omega)
  ·rw [← hz2, ← hW3]; exact Four.new W2 _ _ _ _ _
  ·rw [← hW3, World.size_alloc]; omega
 have k0 : W2.cell? ⟨w.heap.size, 0, none⟩ = some (.int .i64 (b 0)) := (hb12.cell (p := ⟨w.heap.size, 0, none⟩) (by show w.heap.size < _; omega)).trans (by rw [← hW1]; exact cells_new w _ _ rfl)
 have k2 : W2.cell? ⟨w.heap.size, 2, none⟩ = some (.int .i64 (b 2)) := (hb12.cell (p := ⟨w.heap.size, 2, none⟩) (by show w.heap.size < _; omega)).trans (by rw [← hW1]; exact cells_new w _ _ rfl)
 have hF3 := hZ0.a
 have k33 := hF3.k3
 have z33 := hF3.f 3
 have hZ4 : BZ w b (b 0) 0 (b 2) 0 W4 := by
  rw [← hW4]
  refine hZ0.beyond ((Below.refl _ W3).setCell (p := ⟨w.heap.size + 1 + 1, 3, none⟩) (Nat.le_refl _) _) ⟨?_, ?_, ?_, ?_, fun j => by rw [World.frozen?_setCell]; exact hF3.f j⟩ (by rw [World.size_setCell]; exact Nat.le_refl _)
  ·rw [set_other _ _ 3 0 _ (by decide)]; exact hF3.k0
  ·rw [set_other _ _ 3 1 _ (by decide)]; exact hF3.k1
  ·rw [set_other _ _ 3 2 _ (by decide)]; exact hF3.k2
  ·exact World.cell?_setCell_same' _ _ _ (by rw [k33]; rfl)
 clear hb12 hb23 hb01 hb13 hF3 hZ0
 go_enter Tryz.func75, Tryz.ntmps75
 go_wp2_with fail
 go_loopw [22] (fun i' wr => ∃ k : Nat, k ≤ xs.length ∧ i' = .int .i64 k ∧ BZ w b (accB (d.rE b) (b 0) ((xs.take k).map Ch.acid) hr).1 (accB (d.rE b) (b 0) ((xs.take k).map Ch.acid) hr).2 (accB (d.tE b) (b 2) ((xs.take k).map Ch.acid) hr).1 (accB (d.tE b) (b 2) ((xs.take k).map Ch.acid) hr).2 wr) (fun i' _ => xs.length - (intOf i').toNat)
 case atStart => exact ⟨0, Nat.zero_le _, rfl, by rw [List.take_zero, List.map_nil, accB_nil, accB_nil]; exact hZ4⟩
 clear hZ4 k0 k2 hW1 hW2 hW3 hW4 k33 z33 hz1 hz2
 case round =>
  obtain ⟨k, hk5, rfl, hZ⟩ := hrel
  have hk6 : (0 : Int) ≤ (k : Int) := Int.natCast_nonneg _
  by_cases hlt : k < xs.length
  ·have hk7 : (k : Int) < (xs.length : Int) := by omega
   have hk77 : (k : Int) < 4 := by omega
   have hCw := hC.below hZ.o
   obtain ⟨x, hx⟩ : ∃ x, xs[k]? = some x := ⟨_, List.getElem?_eq_getElem hlt⟩
   obtain ⟨e0, e1, e2, e3, e4, e5, e6, e7⟩ := hCw.cells k x hx
   obtain ⟨⟨hr1, hr2⟩, hr3, hr4⟩ := hC.rows x (List.mem_of_getElem? hx)
   have hrow : CAt w x.r d.dn (d.en x.acid) := hr4
   have hcan : (d.acid x.acid).can d.dn := ((CouldTo.mem hC.could x.acid).1 (List.mem_map.2 ⟨x, List.mem_of_getElem? hx, rfl⟩)).2.2
   have hen : ∀ j, j < d.dn → 0 ≤ (d.en x.acid j).1 ∧ (d.en x.acid j).1 ≤ (d.en x.acid j).2 ∧ (d.en x.acid j).2 ≤ 2400 := fun j hj => Acid.ends_small (hok.small hr3) hcan hdn2 hj
   have hnew : ∀ b' : Bool, ∀ j, j < hr → 0 ≤ selE b' (d.en x.acid j) ∧ selE b' (d.en x.acid j) ≤ 10000 := fun b' j hj => by
    have := hen j (by omega)
    cases b' <;> (unfold selE; simp only [if_true, if_false, Bool.false_eq_true]; omega)
   have htk : Hdn ((xs.take (k + 1)).map Ch.acid = (xs.take k).map Ch.acid ++ [x.acid]) := ⟨by rw [List.take_add_one, List.map_append, hx]; rfl⟩
   -- the states at both ends
   have hlo : ∀ j, j < hr → 0 ≤ (d.en x.acid j).1 ∧ (d.en x.acid j).1 ≤ (d.en x.acid j).2 := fun j hj => by have := hen j (by omega); omega
   have hlo1 : ∀ j, j < hr → 0 ≤ (d.en x.acid j).1 := fun j hj => (hlo j hj).1
   have hlo2 : ∀ j, j < hr → 0 ≤ (d.en x.acid j).2 := fun j hj => by have := hlo j hj; omega
   have hm0 := left_mono (n := b 0) (rate := b 4) hb.h4.1 hr hlo
   have hm2 := left_mono (n := b 2) (rate := b 5) hb.h5.1 hr hlo
   have hB0 := left_bound (n := b 0) (rate := b 4) hb.h4.1 hb.h0.1 hr hlo1
   have hB0' := left_bound (n := b 0) (rate := b 4) hb.h4.1 hb.h0.1 hr hlo2
   have hB2 := left_bound (n := b 2) (rate := b 5) hb.h5.1 hb.h2.1 hr hlo1
   have hB2' := left_bound (n := b 2) (rate := b 5) hb.h5.1 hb.h2.1 hr hlo2
   have hpR := accB_push (d.rE b) (b 0) ((xs.take k).map Ch.acid) x.acid hr hB0'.2 hB0.1
   have hpT := accB_push (d.tE b) (b 2) ((xs.take k).map Ch.acid) x.acid hr hB2'.2 hB2.1
   rw [← htk.out] at hpR hpT
   have hEr : d.rE b x.acid hr = (left (b 0) (b 4) (fun k => (d.en x.acid k).2) hr, left (b 0) (b 4) (fun k => (d.en x.acid k).1) hr) := rfl
   have hEt : d.tE b x.acid hr = (left (b 2) (b 5) (fun k => (d.en x.acid k).2) hr, left (b 2) (b 5) (fun k => (d.en x.acid k).1) hr) := rfl
   rw [hEr] at hpR
   rw [hEt] at hpT
   clear hEr hEt htk
   have hff := fun (W : World) => ends_any d x.acid (.slice (some ⟨x.r, 0, none⟩) d.dn x.cap) W
   have hweakest := fun (W : World) (hB : Below w.heap.size w W) => weakest_any d x.acid x.r x.cap (d.en x.acid) W hdn2 hdn1 (hrow.below hB hr2) (Nat.lt_of_lt_of_le hr2 hB.size)
   have hstrongest := fun (W : World) (hB : Below w.heap.size w W) => strongest_any d x.acid x.r x.cap (d.en x.acid) W hdn2 hdn1 (hrow.below hB hr2) (Nat.lt_of_lt_of_le hr2 hB.size)
   have haw : ∀ (W : World) (gE cE : Nat), KSl 1 W (.slice (some ⟨gE, 0, none⟩) hr cE) hr (fun i _ => (d.en x.acid i).1) → Calls Tryz.prog 74 #[batV b, .slice (some ⟨gE, 0, none⟩) hr cE] W fun e w' => e = .returned (.agg #[.int .i64 (left (b 0) (b 4) (fun k => (d.en x.acid k).1) hr), .int .i64 (left (b 2) (b 5) (fun k => (d.en x.acid k).1) hr)]) ∧ Below W.heap.size W w' :=
    fun W gE cE h => after_any (b 0) (b 1) (b 2) (b 3) (b 4) (b 5) hr _ cE _ W (by omega) hb.h0 hb.h2 hb.h4 hb.h5 (hnew false) h
   have has : ∀ (W : World) (gE cE : Nat), KSl 1 W (.slice (some ⟨gE, 0, none⟩) hr cE) hr (fun i _ => (d.en x.acid i).2) → Calls Tryz.prog 74 #[batV b, .slice (some ⟨gE, 0, none⟩) hr cE] W fun e w' => e = .returned (.agg #[.int .i64 (left (b 0) (b 4) (fun k => (d.en x.acid k).2) hr), .int .i64 (left (b 2) (b 5) (fun k => (d.en x.acid k).2) hr)]) ∧ Below W.heap.size W w' :=
    fun W gE cE h => after_any (b 0) (b 1) (b 2) (b 3) (b 4) (b 5) hr _ cE _ W (by omega) hb.h0 hb.h2 hb.h4 hb.h5 (hnew true) h
   obtain ⟨W5, hW5⟩ : ∃ W, wr.alloc (.cells #[.slice d.aa d.an d.ac, .int .i64 d.known, .int .i64 d.hours, .slice d.da d.dn d.dc, .slice d.sa d.sn d.sc, .slice d.ba d.bn d.bc, .int .i64 x.acid, .slice (some ⟨x.r, 0, none⟩) d.dn x.cap] 97) = W := ⟨_, rfl⟩
   have hFA : FAt W5 wr.heap.size d x.acid (.slice (some ⟨x.r, 0, none⟩) d.dn x.cap) := by rw [← hW5]; exact FAt.new wr d x.acid _
   have hb5 : Below wr.heap.size wr W5 := by rw [← hW5]; exact (Below.refl _ _).alloc (Nat.le_refl _) _
   have hZ5 := hZ.below hb5
   obtain ⟨⟨y0, y1, y2, y3, y4, y5⟩, y6, y7, _⟩ := id hFA
   obtain ⟨a0, ha0⟩ : ∃ y, (accB (d.rE b) (b 0) ((xs.take k).map Ch.acid) hr).1 = y := ⟨_, rfl⟩
   obtain ⟨a1, ha1⟩ : ∃ y, (accB (d.rE b) (b 0) ((xs.take k).map Ch.acid) hr).2 = y := ⟨_, rfl⟩
   obtain ⟨a2, ha2⟩ : ∃ y, (accB (d.tE b) (b 2) ((xs.take k).map Ch.acid) hr).1 = y := ⟨_, rfl⟩
   obtain ⟨a3, ha3⟩ : ∃ y, (accB (d.tE b) (b 2) ((xs.take k).map Ch.acid) hr).2 = y := ⟨_, rfl⟩
   rw [ha0, ha1] at hpR
   rw [ha2, ha3] at hpT
   rw [ha0, ha1, ha2, ha3] at hZ5
   obtain ⟨rw', hrw⟩ : ∃ y, left (b 0) (b 4) (fun k => (d.en x.acid k).1) hr = y := ⟨_, rfl⟩
   obtain ⟨tw, htw⟩ : ∃ y, left (b 2) (b 5) (fun k => (d.en x.acid k).1) hr = y := ⟨_, rfl⟩
   obtain ⟨rs, hrs⟩ : ∃ y, left (b 0) (b 4) (fun k => (d.en x.acid k).2) hr = y := ⟨_, rfl⟩
   obtain ⟨ts, hts⟩ : ∃ y, left (b 2) (b 5) (fun k => (d.en x.acid k).2) hr = y := ⟨_, rfl⟩
   rw [hrw, htw] at haw
   rw [hrs, hts] at has
   rw [hrs, hrw] at hpR
   rw [hts, htw] at hpT
   rw [hrs, hrw] at hm0
   rw [hts, htw] at hm2
   replace hpR := Hdn.mk hpR
   replace hpT := Hdn.mk hpT
   clear hb5 hFA hZ hrw htw hrs hts ha0 ha1 ha2 ha3 hnew hlo hlo1 hlo2 hen hB0 hB0' hB2 hB2' hcan hrow hx hr1 hr2 hr3 hr4
   go_wp2_with (go_at_call 119; (with_reducible refine (hff _).mono ?_); rintro e w2 ⟨rfl, hb2⟩; have hZ2 := hZ5.below hb2)
   have hx0 := idxF0
   have hx1 := idxF1
   refine wp_loop_rounds 3 ?_
   rw [rounds_succ]
   go_wp2_with fail
   rename_i Q' K hKK
   refine (fun (fin : ∀ (T gE cE : Nat) (VV : World), BZS w b a0 a1 a2 a3 T rw' tw VV → K ((?F : Nat → Nat → Nat → Act) T gE cE) VV) => ?leafs) ?fin
   case leafs =>
    refine wp_region_late [7] (fun _ => True) (fun w9 => Below w2.heap.size w2 w9) (by kernel_rfl) ?_ (fun hHeld => ?_)
    ·exact ⟨trivial, (Below.refl _ _).drew⟩
    have hH := hHeld.2
    generalize w2.drew = V0 at hH hHeld ⊢
    have hVs := hH.size
    refine tkT 0 1 rfl (waits_one [] (by kernel_rfl)) (by intro w9 hSw; have hS := hSw.2; clear hSw; (have hq := hZ2.below hS; have z := hq.b0; have z1 := hq.b1; have z2 := hq.b2; have z3 := hq.b3; have z4 := hq.b4; have z5 := hq.b5; clear hq; clear hS; go_simp) <;> with_reducible rfl) hHeld ?_
    refine tk1 1 rfl hHeld ?_
    refine tk1 3 rfl hHeld ?_
    refine wpAnyP_ready (rs := [2, 6]) (by kernel_rfl) (by simp) ?_
    refine AllReadyP.cons (o := _) rfl (fun K hK => ?_) (AllReadyP.cons (o := _) rfl (fun K hK => ?_) AllReadyP.nil)
    ·skip
     go_simp
     (go_at_call 142; (with_reducible refine (hweakest _ (hZ2.o.trans (hH.mono hZ2.o.size))).mono ?_); rintro e w3 ⟨gE, cE, rfl, hcE, hgE, hrE, hb3⟩)
     have hH2 := hH.trans (hb3.mono hH.size)
     have hcE1 : ((hr : Nat) : Int) ≤ ((cE : Nat) : Int) := by omega
     have hcE2 : hr ≤ cE := by omega
     have hcE3 : ¬ cE = 0 := by omega
     have hkE := krows_pre (c := cE) hrE hh hgE
     have hV3 := hb3.size
     refine hK.out _ _ ?_ (fun hHeld => ?_)
     ·exact ⟨trivial, hH2⟩
     clear hK K hH
     have hH := hHeld.2
     (try simp only [Act.put, xpA, xpZ, xpS])
     refine tk1 4 rfl hHeld ?_
     refine wpAnyP_ready (rs := [5, 6]) (by kernel_rfl) (by simp) ?_
     refine AllReadyP.cons (o := _) rfl (fun K hK => ?_) (AllReadyP.cons (o := _) rfl (fun K hK => ?_) AllReadyP.nil)
     ·skip
      go_simp
      (go_at_call 74; (with_reducible refine (haw _ gE cE hkE).mono ?_); rintro e w4 ⟨rfl, hb4⟩)
      have hH3 := hH.trans (hb4.mono hH.size)
      refine hK.out _ _ ?_ (fun hHeld => ?_)
      ·exact ⟨trivial, hH3⟩
      clear hK K hH
      have hH := hHeld.2
      (try simp only [Act.put, xpA, xpZ, xpS])
      refine rd1 6 rfl (fun K hK => ?_)
      go_simp
      have hT := Two.new w4 73 0 0
      have hTl : w4.heap.size < (w4.alloc (Obj.cells #[.int .i64 0, .int .i64 0] 73)).heap.size := by rw [World.size_alloc]; omega
      have hHn := hH.alloc hH.size (Obj.cells #[.int .i64 0, .int .i64 0] 73)
      have hT4 := hT
      have hTl4 := hTl
      have hHb := hH
      refine hK.out _ _ ?_ (fun hHeld => ?_)
      ·exact ⟨trivial, hHn⟩
      clear hK K hH
      have hH := hHeld.2
      (try simp only [Act.put, xpA, xpZ, xpS])
      refine rdL 7 rfl (fun K hK => ?_)
      have hHold := hH
      have c0 := hT4.k0
      have c1 := hT4.k1
      have z0 := hT4.f0
      have z1 := hT4.f1
      go_simp
      clear c0 c1 z0 z1
      refine hK.out _ _ ?_ (fun _ => ?_)
      ·trivial
      clear hK K
      (try simp only [Act.put, xpA, xpZ, xpS])
      refine wpAnyP_done (by kernel_rfl) ?_ _
      (try simp only [Act.put, List.getElem_toArray, List.getElem_cons_zero, List.getElem_cons_succ, xpA, xpZ, xpS])
      have hQ : BZS w b a0 a1 a2 a3 w4.heap.size rw' tw (w4.alloc (Obj.cells #[.int .i64 rw', .int .i64 tw] 73)) := ⟨(hZ2.below hHb).below ((Below.refl _ _).alloc (Nat.le_refl _) _), Two.new _ _ _ _, by rw [World.size_alloc]; omega⟩
      generalize (w4.alloc (Obj.cells #[.int .i64 rw', .int .i64 tw] 73)) = W9 at hQ ⊢
      obtain ⟨T, hTT⟩ : ∃ g, w4.heap.size = g := ⟨_, rfl⟩
      simp only [hTT] at hQ ⊢
      exact fin T gE cE W9 hQ
     ·skip
      go_simp
      have hT := Two.new w3 73 0 0
      have hTl : w3.heap.size < (w3.alloc (Obj.cells #[.int .i64 0, .int .i64 0] 73)).heap.size := by rw [World.size_alloc]; omega
      have hHn := hH.alloc hH.size (Obj.cells #[.int .i64 0, .int .i64 0] 73)
      replace hkE := hkE.below ((Below.refl w3.heap.size w3).alloc (Nat.le_refl _) (Obj.cells #[.int .i64 0, .int .i64 0] 73))
      have hT3 := hT
      have hTl3 := hTl
      refine hK.out _ _ ?_ (fun hHeld => ?_)
      ·exact ⟨trivial, hHn⟩
      clear hK K hH
      have hH := hHeld.2
      (try simp only [Act.put, xpA, xpZ, xpS])
      refine rd1 5 rfl (fun K hK => ?_)
      go_simp
      (go_at_call 74; (with_reducible refine (haw _ gE cE hkE).mono ?_); rintro e w4 ⟨rfl, hb4⟩)
      have hH3 := hH.trans (hb4.mono hH.size)
      have hT4 := hT3.below hb4 hTl3
      have hTl4 := Nat.lt_of_lt_of_le hTl3 hb4.size
      refine hK.out _ _ ?_ (fun hHeld => ?_)
      ·exact ⟨trivial, hH3⟩
      clear hK K hH
      have hH := hHeld.2
      (try simp only [Act.put, xpA, xpZ, xpS])
      refine rdL 7 rfl (fun K hK => ?_)
      have hHold := hH
      have c0 := hT4.k0
      have c1 := hT4.k1
      have z0 := hT4.f0
      have z1 := hT4.f1
      go_simp
      clear c0 c1 z0 z1
      refine hK.out _ _ ?_ (fun _ => ?_)
      ·trivial
      clear hK K
      (try simp only [Act.put, xpA, xpZ, xpS])
      refine wpAnyP_done (by kernel_rfl) ?_ _
      (try simp only [Act.put, List.getElem_toArray, List.getElem_cons_zero, List.getElem_cons_succ, xpA, xpZ, xpS])
      have hQ : BZS w b a0 a1 a2 a3 w3.heap.size rw' tw ((w4.setCell ⟨w3.heap.size, 0, none⟩ (.int .i64 rw')).setCell ⟨w3.heap.size, 1, none⟩ (.int .i64 tw)) := ⟨(hZ2.below hHold).beyond (((Below.refl _ w4).setCell (p := ⟨w3.heap.size, 0, none⟩) (by have h1 := hZ2.lt; have h2 := hVs; (try have h3 := hV3); show w.heap.size + 1 + 1 ≤ w3.heap.size; omega) _).setCell (p := ⟨w3.heap.size, 1, none⟩) (by have h1 := hZ2.lt; have h2 := hVs; (try have h3 := hV3); show w.heap.size + 1 + 1 ≤ w3.heap.size; omega) _) ((hZ2.below hHold).a.below (((Below.refl _ w4).setCell (p := ⟨w3.heap.size, 0, none⟩) (Nat.le_refl _) _).setCell (p := ⟨w3.heap.size, 1, none⟩) (Nat.le_refl _) _) (by have h1 := hZ2.lt; have h2 := hVs; (try have h3 := hV3); show w.heap.size + 1 + 1 < w3.heap.size; omega)) (by simp only [World.size_setCell]; exact Nat.le_refl _), hT4.set01 _ _, by simp only [World.size_setCell]; exact hTl4⟩
      generalize (w4.setCell ⟨w3.heap.size, 0, none⟩ (.int .i64 rw')).setCell ⟨w3.heap.size, 1, none⟩ (.int .i64 tw) = W9 at hQ ⊢
      obtain ⟨T, hTT⟩ : ∃ g, w3.heap.size = g := ⟨_, rfl⟩
      simp only [hTT] at hQ ⊢
      exact fin T gE cE W9 hQ
    ·skip
     go_simp
     have hT := Two.new V0 73 0 0
     have hTl : V0.heap.size < (V0.alloc (Obj.cells #[.int .i64 0, .int .i64 0] 73)).heap.size := by rw [World.size_alloc]; omega
     have hHn := hH.alloc hH.size (Obj.cells #[.int .i64 0, .int .i64 0] 73)
     refine hK.out _ _ ?_ (fun hHeld => ?_)
     ·exact ⟨trivial, hHn⟩
     clear hK K hH
     have hH := hHeld.2
     (try simp only [Act.put, xpA, xpZ, xpS])
     refine rd1 2 rfl (fun K hK => ?_)
     go_simp
     (go_at_call 142; (with_reducible refine (hweakest _ (hZ2.o.trans (hH.mono hZ2.o.size))).mono ?_); rintro e w3 ⟨gE, cE, rfl, hcE, hgE, hrE, hb3⟩)
     have hH2 := hH.trans (hb3.mono hH.size)
     have hcE1 : ((hr : Nat) : Int) ≤ ((cE : Nat) : Int) := by omega
     have hcE2 : hr ≤ cE := by omega
     have hcE3 : ¬ cE = 0 := by omega
     have hkE := krows_pre (c := cE) hrE hh hgE
     have hV3 := hb3.size
     have hT3 := hT.below hb3 hTl
     have hTl3 := Nat.lt_of_lt_of_le hTl hb3.size
     refine hK.out _ _ ?_ (fun hHeld => ?_)
     ·exact ⟨trivial, hH2⟩
     clear hK K hH
     have hH := hHeld.2
     (try simp only [Act.put, xpA, xpZ, xpS])
     refine tk1 4 rfl hHeld ?_
     refine rd1 5 rfl (fun K hK => ?_)
     go_simp
     (go_at_call 74; (with_reducible refine (haw _ gE cE hkE).mono ?_); rintro e w4 ⟨rfl, hb4⟩)
     have hH3 := hH.trans (hb4.mono hH.size)
     have hT4 := hT3.below hb4 hTl3
     have hTl4 := Nat.lt_of_lt_of_le hTl3 hb4.size
     refine hK.out _ _ ?_ (fun hHeld => ?_)
     ·exact ⟨trivial, hH3⟩
     clear hK K hH
     have hH := hHeld.2
     (try simp only [Act.put, xpA, xpZ, xpS])
     refine rdL 7 rfl (fun K hK => ?_)
     have hHold := hH
     have c0 := hT4.k0
     have c1 := hT4.k1
     have z0 := hT4.f0
     have z1 := hT4.f1
     go_simp
     clear c0 c1 z0 z1
     refine hK.out _ _ ?_ (fun _ => ?_)
     ·trivial
     clear hK K
     (try simp only [Act.put, xpA, xpZ, xpS])
     refine wpAnyP_done (by kernel_rfl) ?_ _
     (try simp only [Act.put, List.getElem_toArray, List.getElem_cons_zero, List.getElem_cons_succ, xpA, xpZ, xpS])
     have hQ : BZS w b a0 a1 a2 a3 V0.heap.size rw' tw ((w4.setCell ⟨V0.heap.size, 0, none⟩ (.int .i64 rw')).setCell ⟨V0.heap.size, 1, none⟩ (.int .i64 tw)) := ⟨(hZ2.below hHold).beyond (((Below.refl _ w4).setCell (p := ⟨V0.heap.size, 0, none⟩) (by have h1 := hZ2.lt; have h2 := hVs; (try have h3 := hV3); show w.heap.size + 1 + 1 ≤ V0.heap.size; omega) _).setCell (p := ⟨V0.heap.size, 1, none⟩) (by have h1 := hZ2.lt; have h2 := hVs; (try have h3 := hV3); show w.heap.size + 1 + 1 ≤ V0.heap.size; omega) _) ((hZ2.below hHold).a.below (((Below.refl _ w4).setCell (p := ⟨V0.heap.size, 0, none⟩) (Nat.le_refl _) _).setCell (p := ⟨V0.heap.size, 1, none⟩) (Nat.le_refl _) _) (by have h1 := hZ2.lt; have h2 := hVs; (try have h3 := hV3); show w.heap.size + 1 + 1 < V0.heap.size; omega)) (by simp only [World.size_setCell]; exact Nat.le_refl _), hT4.set01 _ _, by simp only [World.size_setCell]; exact hTl4⟩
     generalize (w4.setCell ⟨V0.heap.size, 0, none⟩ (.int .i64 rw')).setCell ⟨V0.heap.size, 1, none⟩ (.int .i64 tw) = W9 at hQ ⊢
     obtain ⟨T, hTT⟩ : ∃ g, V0.heap.size = g := ⟨_, rfl⟩
     simp only [hTT] at hQ ⊢
     exact fin T gE cE W9 hQ

   case fin =>
    intro T gE cE VV hSt
    refine hKK _ _ ?_
    have hre0a := fun W => reaching_any a0 a1 rw' W
    have hre0b := fun W => reaching_any a2 a3 tw W
    obtain ⟨p0, hp0⟩ : ∃ y, min a0 rw' = y := ⟨_, rfl⟩
    obtain ⟨p1, hp1⟩ : ∃ y, max a1 rw' = y := ⟨_, rfl⟩
    obtain ⟨p2, hp2⟩ : ∃ y, min a2 tw = y := ⟨_, rfl⟩
    obtain ⟨p3, hp3⟩ : ∃ y, max a3 tw = y := ⟨_, rfl⟩
    rw [hp0, hp1] at hre0a
    rw [hp2, hp3] at hre0b
    have hpp : Hdn ((min a0 rw' = p0 ∧ max a1 rw' = p1) ∧ min a2 tw = p2 ∧ max a3 tw = p3) := ⟨⟨hp0, hp1⟩, hp2, hp3⟩
    clear hp0 hp1 hp2 hp3
    refine wp_region_late [11, 13] (fun _ => True) (fun w9 => BZS w b a0 a1 a2 a3 T rw' tw w9) (by kernel_rfl) ?_ (fun hHeld => ?_)
    ·exact ⟨trivial, hSt.drew⟩
    have hH := hHeld.2
    generalize VV.drew = V5 at hH hHeld ⊢
    refine tk1 0 rfl hHeld ?_
    refine tkT 1 1 rfl (waits_two 1 [] [] (by kernel_rfl) (by kernel_rfl) (by decide) (by decide)) (by intro w9 hSw; have hS := hSw.2; clear hSw; (have z := hS.z.a.k0; have z1 := hS.z.a.k1; clear hS; go_simp) <;> with_reducible rfl) hHeld ?_
    refine tk1 2 rfl hHeld ?_
    refine tkT 3 1 rfl (waits_two 1 [] [] (by kernel_rfl) (by kernel_rfl) (by decide) (by decide)) (by intro w9 hSw; have hS := hSw.2; clear hSw; (have z := hS.s.k0; clear hS; go_simp) <;> with_reducible rfl) hHeld ?_
    refine tk1 5 rfl hHeld ?_
    refine tkT 6 1 rfl (waits_two 1 [] [] (by kernel_rfl) (by kernel_rfl) (by decide) (by decide)) (by intro w9 hSw; have hS := hSw.2; clear hSw; (have z := hS.z.a.k2; have z1 := hS.z.a.k3; clear hS; go_simp) <;> with_reducible rfl) hHeld ?_
    refine tk1 7 rfl hHeld ?_
    refine tkT 8 2 rfl (waits_two 2 [9] [] (by kernel_rfl) (by kernel_rfl) (by decide) (by decide)) (by intro w9 hSw; have hS := hSw.2; clear hSw; (have z := hS.s.k1; clear hS; go_simp) <;> with_reducible rfl) hHeld ?_
    refine rd1 4 rfl (fun K hK => ?_)
    go_simp
    (go_at_call 71; (with_reducible refine (hre0a _).mono ?_); rintro e w6 ⟨rfl, hb6⟩)
    refine hK.out _ _ ?_ (fun hHeld => ?_)
    ·exact ⟨trivial, hH.below hb6⟩
    clear hK K hH
    have hH := hHeld.2
    (try simp only [Act.put, xpA, xpZ, xpS])
    refine tk1 10 rfl hHeld ?_
    refine rd1 9 rfl (fun K hK => ?_)
    go_simp
    (go_at_call 71; (with_reducible refine (hre0b _).mono ?_); rintro e w7 ⟨rfl, hb7⟩)
    refine hK.out _ _ ?_ (fun hHeld => ?_)
    ·exact ⟨trivial, hH.below hb7⟩
    clear hK K hH
    have hH := hHeld.2
    (try simp only [Act.put, xpA, xpZ, xpS])
    refine rdL 11 rfl (fun K hK => ?_)
    have c0 := hH.z.a.k0
    have c1 := hH.z.a.k1
    have z0 := hH.z.a.f 0
    have z1 := hH.z.a.f 1
    go_simp
    clear c0 c1 z0 z1
    refine hK.out _ _ ?_ (fun _ => ?_)
    ·trivial
    clear hK K
    (try simp only [Act.put, xpA, xpZ, xpS])
    refine tkB 12 rfl trivial ?_
    refine rdL 13 rfl (fun K hK => ?_)
    have hZ9 := hH.z
    have c2 := (set_other (w7.setCell ⟨w.heap.size + 1 + 1, 0, none⟩ (.int .i64 p0)) (w.heap.size + 1 + 1) 1 2 (.int .i64 p1) (by decide)).trans ((set_other w7 (w.heap.size + 1 + 1) 0 2 (.int .i64 p0) (by decide)).trans hZ9.a.k2)
    have c3 := (set_other (w7.setCell ⟨w.heap.size + 1 + 1, 0, none⟩ (.int .i64 p0)) (w.heap.size + 1 + 1) 1 3 (.int .i64 p1) (by decide)).trans ((set_other w7 (w.heap.size + 1 + 1) 0 3 (.int .i64 p0) (by decide)).trans hZ9.a.k3)
    have z2 : ((w7.setCell ⟨w.heap.size + 1 + 1, 0, none⟩ (.int .i64 p0)).setCell ⟨w.heap.size + 1 + 1, 1, none⟩ (.int .i64 p1)).frozen? ⟨w.heap.size + 1 + 1, 2, none⟩ = false := by rw [World.frozen?_setCell, World.frozen?_setCell]; exact hZ9.a.f 2
    have z3 : ((w7.setCell ⟨w.heap.size + 1 + 1, 0, none⟩ (.int .i64 p0)).setCell ⟨w.heap.size + 1 + 1, 1, none⟩ (.int .i64 p1)).frozen? ⟨w.heap.size + 1 + 1, 3, none⟩ = false := by rw [World.frozen?_setCell, World.frozen?_setCell]; exact hZ9.a.f 3
    go_simp
    clear c2 c3 z2 z3
    refine hK.out _ _ ?_ (fun _ => ?_)
    ·trivial
    clear hK K
    (try simp only [Act.put, xpA, xpZ, xpS])
    refine wpAnyP_done (by kernel_rfl) ?_ _
    (try simp only [Act.put, List.getElem_toArray, List.getElem_cons_zero, List.getElem_cons_succ, xpA, xpZ, xpS])
    have hQ := hZ9.set p0 p1 p2 p3
    generalize (((w7.setCell ⟨w.heap.size + 1 + 1, 0, none⟩ (.int .i64 p0)).setCell ⟨w.heap.size + 1 + 1, 1, none⟩ (.int .i64 p1)).setCell ⟨w.heap.size + 1 + 1, 2, none⟩ (.int .i64 p2)).setCell ⟨w.heap.size + 1 + 1, 3, none⟩ (.int .i64 p3) = W8 at hQ ⊢
    clear hZ9 hH hSt
    clear hZ2 hZ5 hre0a hre0b
    have hZ2 := hQ
    clear hQ
    obtain ⟨w2, hw2⟩ : ∃ W, W = W8 := ⟨_, rfl⟩
    subst hw2
    go_wp2_with fail
    rw [rounds_succ]
    go_wp2_with fail
    rename_i Q2 K2 hKK2
    refine (fun (fin : ∀ (T gE cE : Nat) (VV : World), BZS w b p0 p1 p2 p3 T rs ts VV → K2 ((?F2 : Nat → Nat → Nat → Act) T gE cE) VV) => ?leafs2) ?fin2
    case leafs2 =>
     refine wp_region_late [7] (fun _ => True) (fun w9 => Below w2.heap.size w2 w9) (by kernel_rfl) ?_ (fun hHeld => ?_)
     ·exact ⟨trivial, (Below.refl _ _).drew⟩
     have hH := hHeld.2
     generalize w2.drew = V0 at hH hHeld ⊢
     have hVs := hH.size
     refine tkT 0 1 rfl (waits_one [] (by kernel_rfl)) (by intro w9 hSw; have hS := hSw.2; clear hSw; (have hq := hZ2.below hS; have z := hq.b0; have z1 := hq.b1; have z2 := hq.b2; have z3 := hq.b3; have z4 := hq.b4; have z5 := hq.b5; clear hq; clear hS; go_simp) <;> with_reducible rfl) hHeld ?_
     refine tk1 1 rfl hHeld ?_
     refine tk1 3 rfl hHeld ?_
     refine wpAnyP_ready (rs := [2, 6]) (by kernel_rfl) (by simp) ?_
     refine AllReadyP.cons (o := _) rfl (fun K hK => ?_) (AllReadyP.cons (o := _) rfl (fun K hK => ?_) AllReadyP.nil)
     ·skip
      go_simp
      (go_at_call 143; (with_reducible refine (hstrongest _ (hZ2.o.trans (hH.mono hZ2.o.size))).mono ?_); rintro e w3 ⟨gE, cE, rfl, hcE, hgE, hrE, hb3⟩)
      have hH2 := hH.trans (hb3.mono hH.size)
      have hcE1 : ((hr : Nat) : Int) ≤ ((cE : Nat) : Int) := by omega
      have hcE2 : hr ≤ cE := by omega
      have hcE3 : ¬ cE = 0 := by omega
      have hkE := krows_pre (c := cE) hrE hh hgE
      have hV3 := hb3.size
      refine hK.out _ _ ?_ (fun hHeld => ?_)
      ·exact ⟨trivial, hH2⟩
      clear hK K hH
      have hH := hHeld.2
      (try simp only [Act.put, xpA, xpZ, xpS])
      refine tk1 4 rfl hHeld ?_
      refine wpAnyP_ready (rs := [5, 6]) (by kernel_rfl) (by simp) ?_
      refine AllReadyP.cons (o := _) rfl (fun K hK => ?_) (AllReadyP.cons (o := _) rfl (fun K hK => ?_) AllReadyP.nil)
      ·skip
       go_simp
       (go_at_call 74; (with_reducible refine (has _ gE cE hkE).mono ?_); rintro e w4 ⟨rfl, hb4⟩)
       have hH3 := hH.trans (hb4.mono hH.size)
       refine hK.out _ _ ?_ (fun hHeld => ?_)
       ·exact ⟨trivial, hH3⟩
       clear hK K hH
       have hH := hHeld.2
       (try simp only [Act.put, xpA, xpZ, xpS])
       refine rd1 6 rfl (fun K hK => ?_)
       go_simp
       have hT := Two.new w4 73 0 0
       have hTl : w4.heap.size < (w4.alloc (Obj.cells #[.int .i64 0, .int .i64 0] 73)).heap.size := by rw [World.size_alloc]; omega
       have hHn := hH.alloc hH.size (Obj.cells #[.int .i64 0, .int .i64 0] 73)
       have hT4 := hT
       have hTl4 := hTl
       have hHb := hH
       refine hK.out _ _ ?_ (fun hHeld => ?_)
       ·exact ⟨trivial, hHn⟩
       clear hK K hH
       have hH := hHeld.2
       (try simp only [Act.put, xpA, xpZ, xpS])
       refine rdL 7 rfl (fun K hK => ?_)
       have hHold := hH
       have c0 := hT4.k0
       have c1 := hT4.k1
       have z0 := hT4.f0
       have z1 := hT4.f1
       go_simp
       clear c0 c1 z0 z1
       refine hK.out _ _ ?_ (fun _ => ?_)
       ·trivial
       clear hK K
       (try simp only [Act.put, xpA, xpZ, xpS])
       refine wpAnyP_done (by kernel_rfl) ?_ _
       (try simp only [Act.put, List.getElem_toArray, List.getElem_cons_zero, List.getElem_cons_succ, xpA, xpZ, xpS])
       have hQ : BZS w b p0 p1 p2 p3 w4.heap.size rs ts (w4.alloc (Obj.cells #[.int .i64 rs, .int .i64 ts] 73)) := ⟨(hZ2.below hHb).below ((Below.refl _ _).alloc (Nat.le_refl _) _), Two.new _ _ _ _, by rw [World.size_alloc]; omega⟩
       generalize (w4.alloc (Obj.cells #[.int .i64 rs, .int .i64 ts] 73)) = W9 at hQ ⊢
       obtain ⟨T, hTT⟩ : ∃ g, w4.heap.size = g := ⟨_, rfl⟩
       simp only [hTT] at hQ ⊢
       exact fin T gE cE W9 hQ
      ·skip
       go_simp
       have hT := Two.new w3 73 0 0
       have hTl : w3.heap.size < (w3.alloc (Obj.cells #[.int .i64 0, .int .i64 0] 73)).heap.size := by rw [World.size_alloc]; omega
       have hHn := hH.alloc hH.size (Obj.cells #[.int .i64 0, .int .i64 0] 73)
       replace hkE := hkE.below ((Below.refl w3.heap.size w3).alloc (Nat.le_refl _) (Obj.cells #[.int .i64 0, .int .i64 0] 73))
       have hT3 := hT
       have hTl3 := hTl
       refine hK.out _ _ ?_ (fun hHeld => ?_)
       ·exact ⟨trivial, hHn⟩
       clear hK K hH
       have hH := hHeld.2
       (try simp only [Act.put, xpA, xpZ, xpS])
       refine rd1 5 rfl (fun K hK => ?_)
       go_simp
       (go_at_call 74; (with_reducible refine (has _ gE cE hkE).mono ?_); rintro e w4 ⟨rfl, hb4⟩)
       have hH3 := hH.trans (hb4.mono hH.size)
       have hT4 := hT3.below hb4 hTl3
       have hTl4 := Nat.lt_of_lt_of_le hTl3 hb4.size
       refine hK.out _ _ ?_ (fun hHeld => ?_)
       ·exact ⟨trivial, hH3⟩
       clear hK K hH
       have hH := hHeld.2
       (try simp only [Act.put, xpA, xpZ, xpS])
       refine rdL 7 rfl (fun K hK => ?_)
       have hHold := hH
       have c0 := hT4.k0
       have c1 := hT4.k1
       have z0 := hT4.f0
       have z1 := hT4.f1
       go_simp
       clear c0 c1 z0 z1
       refine hK.out _ _ ?_ (fun _ => ?_)
       ·trivial
       clear hK K
       (try simp only [Act.put, xpA, xpZ, xpS])
       refine wpAnyP_done (by kernel_rfl) ?_ _
       (try simp only [Act.put, List.getElem_toArray, List.getElem_cons_zero, List.getElem_cons_succ, xpA, xpZ, xpS])
       have hQ : BZS w b p0 p1 p2 p3 w3.heap.size rs ts ((w4.setCell ⟨w3.heap.size, 0, none⟩ (.int .i64 rs)).setCell ⟨w3.heap.size, 1, none⟩ (.int .i64 ts)) := ⟨(hZ2.below hHold).beyond (((Below.refl _ w4).setCell (p := ⟨w3.heap.size, 0, none⟩) (by have h1 := hZ2.lt; have h2 := hVs; (try have h3 := hV3); show w.heap.size + 1 + 1 ≤ w3.heap.size; omega) _).setCell (p := ⟨w3.heap.size, 1, none⟩) (by have h1 := hZ2.lt; have h2 := hVs; (try have h3 := hV3); show w.heap.size + 1 + 1 ≤ w3.heap.size; omega) _) ((hZ2.below hHold).a.below (((Below.refl _ w4).setCell (p := ⟨w3.heap.size, 0, none⟩) (Nat.le_refl _) _).setCell (p := ⟨w3.heap.size, 1, none⟩) (Nat.le_refl _) _) (by have h1 := hZ2.lt; have h2 := hVs; (try have h3 := hV3); show w.heap.size + 1 + 1 < w3.heap.size; omega)) (by simp only [World.size_setCell]; exact Nat.le_refl _), hT4.set01 _ _, by simp only [World.size_setCell]; exact hTl4⟩
       generalize (w4.setCell ⟨w3.heap.size, 0, none⟩ (.int .i64 rs)).setCell ⟨w3.heap.size, 1, none⟩ (.int .i64 ts) = W9 at hQ ⊢
       obtain ⟨T, hTT⟩ : ∃ g, w3.heap.size = g := ⟨_, rfl⟩
       simp only [hTT] at hQ ⊢
       exact fin T gE cE W9 hQ
     ·skip
      go_simp
      have hT := Two.new V0 73 0 0
      have hTl : V0.heap.size < (V0.alloc (Obj.cells #[.int .i64 0, .int .i64 0] 73)).heap.size := by rw [World.size_alloc]; omega
      have hHn := hH.alloc hH.size (Obj.cells #[.int .i64 0, .int .i64 0] 73)
      refine hK.out _ _ ?_ (fun hHeld => ?_)
      ·exact ⟨trivial, hHn⟩
      clear hK K hH
      have hH := hHeld.2
      (try simp only [Act.put, xpA, xpZ, xpS])
      refine rd1 2 rfl (fun K hK => ?_)
      go_simp
      (go_at_call 143; (with_reducible refine (hstrongest _ (hZ2.o.trans (hH.mono hZ2.o.size))).mono ?_); rintro e w3 ⟨gE, cE, rfl, hcE, hgE, hrE, hb3⟩)
      have hH2 := hH.trans (hb3.mono hH.size)
      have hcE1 : ((hr : Nat) : Int) ≤ ((cE : Nat) : Int) := by omega
      have hcE2 : hr ≤ cE := by omega
      have hcE3 : ¬ cE = 0 := by omega
      have hkE := krows_pre (c := cE) hrE hh hgE
      have hV3 := hb3.size
      have hT3 := hT.below hb3 hTl
      have hTl3 := Nat.lt_of_lt_of_le hTl hb3.size
      refine hK.out _ _ ?_ (fun hHeld => ?_)
      ·exact ⟨trivial, hH2⟩
      clear hK K hH
      have hH := hHeld.2
      (try simp only [Act.put, xpA, xpZ, xpS])
      refine tk1 4 rfl hHeld ?_
      refine rd1 5 rfl (fun K hK => ?_)
      go_simp
      (go_at_call 74; (with_reducible refine (has _ gE cE hkE).mono ?_); rintro e w4 ⟨rfl, hb4⟩)
      have hH3 := hH.trans (hb4.mono hH.size)
      have hT4 := hT3.below hb4 hTl3
      have hTl4 := Nat.lt_of_lt_of_le hTl3 hb4.size
      refine hK.out _ _ ?_ (fun hHeld => ?_)
      ·exact ⟨trivial, hH3⟩
      clear hK K hH
      have hH := hHeld.2
      (try simp only [Act.put, xpA, xpZ, xpS])
      refine rdL 7 rfl (fun K hK => ?_)
      have hHold := hH
      have c0 := hT4.k0
      have c1 := hT4.k1
      have z0 := hT4.f0
      have z1 := hT4.f1
      go_simp
      clear c0 c1 z0 z1
      refine hK.out _ _ ?_ (fun _ => ?_)
      ·trivial
      clear hK K
      (try simp only [Act.put, xpA, xpZ, xpS])
      refine wpAnyP_done (by kernel_rfl) ?_ _
      (try simp only [Act.put, List.getElem_toArray, List.getElem_cons_zero, List.getElem_cons_succ, xpA, xpZ, xpS])
      have hQ : BZS w b p0 p1 p2 p3 V0.heap.size rs ts ((w4.setCell ⟨V0.heap.size, 0, none⟩ (.int .i64 rs)).setCell ⟨V0.heap.size, 1, none⟩ (.int .i64 ts)) := ⟨(hZ2.below hHold).beyond (((Below.refl _ w4).setCell (p := ⟨V0.heap.size, 0, none⟩) (by have h1 := hZ2.lt; have h2 := hVs; (try have h3 := hV3); show w.heap.size + 1 + 1 ≤ V0.heap.size; omega) _).setCell (p := ⟨V0.heap.size, 1, none⟩) (by have h1 := hZ2.lt; have h2 := hVs; (try have h3 := hV3); show w.heap.size + 1 + 1 ≤ V0.heap.size; omega) _) ((hZ2.below hHold).a.below (((Below.refl _ w4).setCell (p := ⟨V0.heap.size, 0, none⟩) (Nat.le_refl _) _).setCell (p := ⟨V0.heap.size, 1, none⟩) (Nat.le_refl _) _) (by have h1 := hZ2.lt; have h2 := hVs; (try have h3 := hV3); show w.heap.size + 1 + 1 < V0.heap.size; omega)) (by simp only [World.size_setCell]; exact Nat.le_refl _), hT4.set01 _ _, by simp only [World.size_setCell]; exact hTl4⟩
      generalize (w4.setCell ⟨V0.heap.size, 0, none⟩ (.int .i64 rs)).setCell ⟨V0.heap.size, 1, none⟩ (.int .i64 ts) = W9 at hQ ⊢
      obtain ⟨T, hTT⟩ : ∃ g, V0.heap.size = g := ⟨_, rfl⟩
      simp only [hTT] at hQ ⊢
      exact fin T gE cE W9 hQ

    case fin2 =>
     intro T gE cE VV hSt
     refine hKK2 _ _ ?_
     have hre1a := fun W => reaching_any p0 p1 rs W
     have hre1b := fun W => reaching_any p2 p3 ts W
     obtain ⟨n0, hn0⟩ : ∃ y, min p0 rs = y := ⟨_, rfl⟩
     obtain ⟨n1, hn1⟩ : ∃ y, max p1 rs = y := ⟨_, rfl⟩
     obtain ⟨n2, hn2⟩ : ∃ y, min p2 ts = y := ⟨_, rfl⟩
     obtain ⟨n3, hn3⟩ : ∃ y, max p3 ts = y := ⟨_, rfl⟩
     rw [hn0, hn1] at hre1a
     rw [hn2, hn3] at hre1b
     have hnn : Hdn ((min p0 rs = n0 ∧ max p1 rs = n1) ∧ min p2 ts = n2 ∧ max p3 ts = n3) := ⟨⟨hn0, hn1⟩, hn2, hn3⟩
     clear hn0 hn1 hn2 hn3
     refine wp_region_late [11, 13] (fun _ => True) (fun w9 => BZS w b p0 p1 p2 p3 T rs ts w9) (by kernel_rfl) ?_ (fun hHeld => ?_)
     ·exact ⟨trivial, hSt.drew⟩
     have hH := hHeld.2
     generalize VV.drew = V5 at hH hHeld ⊢
     refine tk1 0 rfl hHeld ?_
     refine tkT 1 1 rfl (waits_two 1 [] [] (by kernel_rfl) (by kernel_rfl) (by decide) (by decide)) (by intro w9 hSw; have hS := hSw.2; clear hSw; (have z := hS.z.a.k0; have z1 := hS.z.a.k1; clear hS; go_simp) <;> with_reducible rfl) hHeld ?_
     refine tk1 2 rfl hHeld ?_
     refine tkT 3 1 rfl (waits_two 1 [] [] (by kernel_rfl) (by kernel_rfl) (by decide) (by decide)) (by intro w9 hSw; have hS := hSw.2; clear hSw; (have z := hS.s.k0; clear hS; go_simp) <;> with_reducible rfl) hHeld ?_
     refine tk1 5 rfl hHeld ?_
     refine tkT 6 1 rfl (waits_two 1 [] [] (by kernel_rfl) (by kernel_rfl) (by decide) (by decide)) (by intro w9 hSw; have hS := hSw.2; clear hSw; (have z := hS.z.a.k2; have z1 := hS.z.a.k3; clear hS; go_simp) <;> with_reducible rfl) hHeld ?_
     refine tk1 7 rfl hHeld ?_
     refine tkT 8 2 rfl (waits_two 2 [9] [] (by kernel_rfl) (by kernel_rfl) (by decide) (by decide)) (by intro w9 hSw; have hS := hSw.2; clear hSw; (have z := hS.s.k1; clear hS; go_simp) <;> with_reducible rfl) hHeld ?_
     refine rd1 4 rfl (fun K hK => ?_)
     go_simp
     (go_at_call 71; (with_reducible refine (hre1a _).mono ?_); rintro e w6 ⟨rfl, hb6⟩)
     refine hK.out _ _ ?_ (fun hHeld => ?_)
     ·exact ⟨trivial, hH.below hb6⟩
     clear hK K hH
     have hH := hHeld.2
     (try simp only [Act.put, xpA, xpZ, xpS])
     refine tk1 10 rfl hHeld ?_
     refine rd1 9 rfl (fun K hK => ?_)
     go_simp
     (go_at_call 71; (with_reducible refine (hre1b _).mono ?_); rintro e w7 ⟨rfl, hb7⟩)
     refine hK.out _ _ ?_ (fun hHeld => ?_)
     ·exact ⟨trivial, hH.below hb7⟩
     clear hK K hH
     have hH := hHeld.2
     (try simp only [Act.put, xpA, xpZ, xpS])
     refine rdL 11 rfl (fun K hK => ?_)
     have c0 := hH.z.a.k0
     have c1 := hH.z.a.k1
     have z0 := hH.z.a.f 0
     have z1 := hH.z.a.f 1
     go_simp
     clear c0 c1 z0 z1
     refine hK.out _ _ ?_ (fun _ => ?_)
     ·trivial
     clear hK K
     (try simp only [Act.put, xpA, xpZ, xpS])
     refine tkB 12 rfl trivial ?_
     refine rdL 13 rfl (fun K hK => ?_)
     have hZ9 := hH.z
     have c2 := (set_other (w7.setCell ⟨w.heap.size + 1 + 1, 0, none⟩ (.int .i64 n0)) (w.heap.size + 1 + 1) 1 2 (.int .i64 n1) (by decide)).trans ((set_other w7 (w.heap.size + 1 + 1) 0 2 (.int .i64 n0) (by decide)).trans hZ9.a.k2)
     have c3 := (set_other (w7.setCell ⟨w.heap.size + 1 + 1, 0, none⟩ (.int .i64 n0)) (w.heap.size + 1 + 1) 1 3 (.int .i64 n1) (by decide)).trans ((set_other w7 (w.heap.size + 1 + 1) 0 3 (.int .i64 n0) (by decide)).trans hZ9.a.k3)
     have z2 : ((w7.setCell ⟨w.heap.size + 1 + 1, 0, none⟩ (.int .i64 n0)).setCell ⟨w.heap.size + 1 + 1, 1, none⟩ (.int .i64 n1)).frozen? ⟨w.heap.size + 1 + 1, 2, none⟩ = false := by rw [World.frozen?_setCell, World.frozen?_setCell]; exact hZ9.a.f 2
     have z3 : ((w7.setCell ⟨w.heap.size + 1 + 1, 0, none⟩ (.int .i64 n0)).setCell ⟨w.heap.size + 1 + 1, 1, none⟩ (.int .i64 n1)).frozen? ⟨w.heap.size + 1 + 1, 3, none⟩ = false := by rw [World.frozen?_setCell, World.frozen?_setCell]; exact hZ9.a.f 3
     go_simp
     clear c2 c3 z2 z3
     refine hK.out _ _ ?_ (fun _ => ?_)
     ·trivial
     clear hK K
     (try simp only [Act.put, xpA, xpZ, xpS])
     refine wpAnyP_done (by kernel_rfl) ?_ _
     (try simp only [Act.put, List.getElem_toArray, List.getElem_cons_zero, List.getElem_cons_succ, xpA, xpZ, xpS])
     have hQ := hZ9.set n0 n1 n2 n3
     generalize (((w7.setCell ⟨w.heap.size + 1 + 1, 0, none⟩ (.int .i64 n0)).setCell ⟨w.heap.size + 1 + 1, 1, none⟩ (.int .i64 n1)).setCell ⟨w.heap.size + 1 + 1, 2, none⟩ (.int .i64 n2)).setCell ⟨w.heap.size + 1 + 1, 3, none⟩ (.int .i64 n3) = W8 at hQ ⊢
     clear hZ9 hH hSt
     clear hre1a hre1b hZ2
     go_wp2_with fail
     rw [rounds_succ]
     go_wp2
     go_roundw
     case rel =>
      obtain ⟨⟨hp0, hp1⟩, hp2, hp3⟩ := hpp.out
      obtain ⟨⟨hn0, hn1⟩, hn2, hn3⟩ := hnn.out
      refine ⟨k + 1, by omega, by go_num, ?_⟩
      rw [hpR.out, hpT.out]
      (try dsimp only)
      rw [show min a0 rs = n0 by omega, show max a1 rw' = n1 by omega, show min a2 ts = n2 by omega, show max a3 tw = n3 by omega]
      exact hQ
     case measure => simp [intOf] <;> omega


  ·obtain rfl : k = xs.length := by omega
   have hk9 : ¬ (xs.length : Int) < (xs.length : Int) := by omega
   have hne : xs.map Ch.acid ≠ [] := by intro h; have := congrArg List.length h; rw [List.length_map, List.length_nil] at this; omega
   rw [List.take_length, accB_some _ _ hne, accB_some _ _ hne] at hZ
   obtain ⟨A0, hA0⟩ : ∃ y, (hullTo (d.rE b) (xs.map Ch.acid) hr).1 = y := ⟨_, rfl⟩
   obtain ⟨A1, hA1⟩ : ∃ y, (hullTo (d.rE b) (xs.map Ch.acid) hr).2 = y := ⟨_, rfl⟩
   obtain ⟨A2, hA2⟩ : ∃ y, (hullTo (d.tE b) (xs.map Ch.acid) hr).1 = y := ⟨_, rfl⟩
   obtain ⟨A3, hA3⟩ : ∃ y, (hullTo (d.tE b) (xs.map Ch.acid) hr).2 = y := ⟨_, rfl⟩
   rw [hA0, hA1, hA2, hA3] at hZ
   have hAH : Hdn (((hullTo (d.rE b) (xs.map Ch.acid) hr).1 = A0 ∧ (hullTo (d.rE b) (xs.map Ch.acid) hr).2 = A1) ∧ (hullTo (d.tE b) (xs.map Ch.acid) hr).1 = A2 ∧ (hullTo (d.tE b) (xs.map Ch.acid) hr).2 = A3) := ⟨⟨hA0, hA1⟩, hA2, hA3⟩
   clear hA0 hA1 hA2 hA3
   obtain ⟨hO, _, _, _, _, _, _, hR, ⟨x0, x1, x2, x3, _⟩, _⟩ := id hZ
   have hS := hR.set A0 A1 A2 A3
   have hO2 := (((hO.setCell (p := ⟨w.heap.size + 1, 0, none⟩) (by show w.heap.size ≤ w.heap.size + 1; omega) (.int .i64 A0)).setCell (p := ⟨w.heap.size + 1, 1, none⟩) (by show w.heap.size ≤ w.heap.size + 1; omega) (.int .i64 A1)).setCell (p := ⟨w.heap.size + 1, 2, none⟩) (by show w.heap.size ≤ w.heap.size + 1; omega) (.int .i64 A2)).setCell (p := ⟨w.heap.size + 1, 3, none⟩) (by show w.heap.size ≤ w.heap.size + 1; omega) (.int .i64 A3)
   obtain ⟨c0, c1, c2, c3, cf⟩ := hR
   have z0 := cf 0
   have z1 := cf 1
   have z2 := cf 2
   have z3 := cf 3
   clear cf
   go_wp2
   clear c0 c1 c2 c3 z0 z1 z2 z3
   generalize (((wr.setCell ⟨w.heap.size + 1, 0, none⟩ (.int .i64 A0)).setCell ⟨w.heap.size + 1, 1, none⟩ (.int .i64 A1)).setCell ⟨w.heap.size + 1, 2, none⟩ (.int .i64 A2)).setCell ⟨w.heap.size + 1, 3, none⟩ (.int .i64 A3) = W8 at hS hO2 ⊢
   obtain ⟨r0, r1, r2, r3, _⟩ := hS
   refine bodyPost_ret (v := .agg #[.int .i64 A0, .int .i64 A1, .int .i64 A2, .int .i64 A3]) ?_ rfl ⟨by rw [hAH.out.1.1, hAH.out.1.2, hAH.out.2.1, hAH.out.2.2], hO2⟩
   simp [results, Tryz.results75, go_sem, r0, r1, r2, r3]
end Go.Proofs.YtlhgkepdoinlnaaGreatDoor
