/- A part of the proof: see the last file. -/
import Derived.Test.YtjhpklolpmaopaaGreatDoorPag
import Derived.Test.YtjhpklolpmaopaaGreatDoorPah
import Derived.Test.YtjhpklolpmaopaaGreatDoorPab
import Derived.Test.YtjhpklolpmaopaaGreatDoorPaa
import Derived.Deep.AppendLies
import Derived.OwnWalk
import Derived.Test.YtjhpklolpmaopaaGreatDoorPaf
import Derived.IntWalk
set_option linter.unusedVariables false
set_option linter.unusedSimpArgs false
set_option linter.unusedSectionVars false
namespace Go.Proofs.YtjhpklolpmaopaaGreatDoor
open Go.RowKit
/-- a row of spans, as in a course. -/
theorem own_cat {W : World} {B : Nat} {v : Value} {f : Nat → Int × Int} (h : W.ownsRow B 24 2 v 13 (crsL f 13)) : ∃ g c, v = .slice (some ⟨g, 0, none⟩) 13 c ∧ 13 ≤ c ∧ c ≤ maxLen ∧ B ≤ g ∧ g < W.heap.size ∧ CAt W g f := by
 obtain ⟨_, ⟨_, h0⟩ | ⟨g, cap, cur, rfl, hB, hh, hc, hm, _, hx⟩⟩ := h
 ·omega
 ·have hg : g < W.heap.size := (Array.getElem?_eq_some_iff.1 hh).1
  have hcell : ∀ j u, (crsL f 13)[j]? = some u → W.cell? ⟨g, j, none⟩ = some u := fun j u hj => by
   rw [← hx, List.getElem?_take] at hj
   split at hj
   ·unfold World.cell?
    rw [hh]
    simpa [go_sem] using hj
   ·cases hj
  refine ⟨g, cap, rfl, hc, hm, hB, hg, fun j hj => ?_, fun i => ?_⟩
  ·obtain ⟨h1, h2⟩ := crsL_at f 13 j hj
   exact ⟨hcell _ _ h1, hcell _ _ h2⟩
  ·unfold World.frozen?
   rw [hh]
   simp [go_sem]
/-- rows apart. -/
def Apr (a b : Value) : Prop := ∀ g, a.ownBlock = some g → b.ownBlock ≠ some g
theorem Apr.symm {a b : Value} (h : Apr a b) : Apr b a := fun g h1 h2 => h g h2 h1
/-- two rows of spans. -/
structure R2X (w : World) (B : Nat) (W : World) (n1 n2 : Nat) (p q : Value) (F1 F2 : Nat → Int × Int) : Prop where
 o1 : W.ownsRow B 24 2 p n1 (crsL F1 n1)
 o2 : W.ownsRow B 24 2 q n2 (crsL F2 n2)
 d : Apr p q
 old : Below w.heap.size w W
 low : w.heap.size ≤ B
 big : B ≤ W.heap.size
theorem R2X.swap {w : World} {B : Nat} {W : World} {n1 n2 : Nat} {p q : Value} {F1 F2 : Nat → Int × Int} (h : R2X w B W n1 n2 p q F1 F2) : R2X w B W n2 n1 q p F2 F1 := ⟨h.o2, h.o1, h.d.symm, h.old, h.low, h.big⟩
theorem R2X.below {w : World} {B : Nat} {W W' : World} {n1 n2 : Nat} {p q : Value} {F1 F2 : Nat → Int × Int} (h : R2X w B W n1 n2 p q F1 F2) (hb : Below W.heap.size W W') : R2X w B W' n1 n2 p q F1 F2 :=
 ⟨ownsRow_below h.o1 hb, ownsRow_below h.o2 hb, h.d, h.old.trans (hb.mono h.old.size), h.low, Nat.le_trans h.big hb.size⟩
theorem other_kept2 {W W' : World} {B : Nat} {p q : Value} {n : Nat} {xs : List Value} {e : TypeId} {s : Nat} (h : W.ownsRow B e s q n xs) (hg : W.grownBy W' p.ownBlock) (hd : Apr p q) : W'.ownsRow B e s q n xs := by
 refine h.kept hg ?_
 cases hq : q.ownBlock with
 | none => exact .inl rfl
 | some j =>
  refine .inr fun e => ?_
  rw [← hq] at e
  exact hd j (e ▸ hq) hq
theorem new_apart2 {W : World} {B : Nat} {p q : Value} {n g k c : Nat} {xs : List Value} {e : TypeId} {s : Nat} (h : W.ownsRow B e s q n xs) (hd : Apr p q) (hat : p.ownBlock = some g ∨ g = W.heap.size) : Apr (.slice (some ⟨g, 0, none⟩) k c) q := fun g' hg' hq => by
 simp [Value.ownBlock] at hg'
 subst hg'
 rcases hat with e | e
 ·exact hd _ e hq
 ·have := (h.lt _ hq).2; omega
theorem R2X.push1 {w : World} {B : Nat} {W W' : World} {n1 n2 : Nat} {p q : Value} {F1 F2 : Nat → Int × Int} (h : R2X w B W n1 n2 p q F1 F2) {g cap : Nat} (hg : W.grownBy W' p.ownBlock)
  (hown : W'.ownsRow B 24 2 (.slice (some ⟨g, 0, none⟩) (n1 + 1) cap) (n1 + 1) (crsL F1 n1 ++ [.int .i64 (F1 n1).1, .int .i64 (F1 n1).2])) (hat : p.ownBlock = some g ∨ g = W.heap.size) : R2X w B W' (n1 + 1) n2 (.slice (some ⟨g, 0, none⟩) (n1 + 1) cap) q F1 F2 :=
 ⟨hown, other_kept2 h.o2 hg h.d, new_apart2 h.o2 h.d hat, h.old.grown hg h.old.size fun k hk => Nat.le_trans h.low (h.o1.lt k hk).1, h.low, Nat.le_trans h.big hg.size⟩
theorem R2X.push2 {w : World} {B : Nat} {W W' : World} {n1 n2 : Nat} {p q : Value} {F1 F2 : Nat → Int × Int} (h : R2X w B W n1 n2 p q F1 F2) {g cap : Nat} (hg : W.grownBy W' q.ownBlock)
  (hown : W'.ownsRow B 24 2 (.slice (some ⟨g, 0, none⟩) (n2 + 1) cap) (n2 + 1) (crsL F2 n2 ++ [.int .i64 (F2 n2).1, .int .i64 (F2 n2).2])) (hat : q.ownBlock = some g ∨ g = W.heap.size) : R2X w B W' n1 (n2 + 1) p (.slice (some ⟨g, 0, none⟩) (n2 + 1) cap) F1 F2 := (h.swap.push1 hg hown hat).swap
/-- marks in memory. -/
def MkPts (w : World) (b off n : Nat) (f : Nat → Int × Int × Int × Int × Int) : Prop := ∀ i, i < n → w.cell? ⟨b, off + i * 5, none⟩ = some (.int .i64 (f i).1) ∧ w.cell? ⟨b, off + i * 5 + 1, none⟩ = some (.int .i64 (f i).2.1) ∧ w.cell? ⟨b, off + i * 5 + 2, none⟩ = some (.int .i64 (f i).2.2.1) ∧ w.cell? ⟨b, off + i * 5 + 3, none⟩ = some (.int .i64 (f i).2.2.2.1) ∧ w.cell? ⟨b, off + i * 5 + 4, none⟩ = some (.int .i64 (f i).2.2.2.2)
theorem MkPts.far {w w' : World} {b off n : Nat} {f : Nat → Int × Int × Int × Int × Int} (h : MkPts w b off n f) (hh : w'.heap[b]? = w.heap[b]?) : MkPts w' b off n f := fun i hi => by
 obtain ⟨h1, h2, h3, h4, h5⟩ := h i hi
 exact ⟨(World.cell?_of_block hh).trans h1, (World.cell?_of_block hh).trans h2, (World.cell?_of_block hh).trans h3, (World.cell?_of_block hh).trans h4, (World.cell?_of_block hh).trans h5⟩
/-- a slice of marks. -/
def MkSl (w : World) (v : Value) (n : Nat) (f : Nat → Int × Int × Int × Int × Int) : Prop := ∃ a c, v = .slice a n c ∧ (0 < n → ∃ b off, a = some ⟨b, off, none⟩ ∧ b < w.heap.size ∧ MkPts w b off n f)
theorem MkSl.below {w w' : World} {v : Value} {n : Nat} {f : Nat → Int × Int × Int × Int × Int} (h : MkSl w v n f) (hb : Below w.heap.size w w') : MkSl w' v n f := by
 obtain ⟨a, c, rfl, h⟩ := h
 refine ⟨a, c, rfl, fun hn => ?_⟩
 obtain ⟨b, off, rfl, hl, h⟩ := h hn
 exact ⟨b, off, rfl, Nat.lt_of_lt_of_le hl hb.size, h.far (hb.block b hl)⟩
theorem own_marks {W : World} {B : Nat} {e : TypeId} {v : Value} {n : Nat} {f : Nat → Int × Int × Int × Int × Int} (h : W.ownsRow B e 5 v n (markCells f n)) : MkSl W v n f := by
 rcases ownsRow_lt h with ⟨rfl, h0⟩ | ⟨g, cap, rfl, hg, hcell⟩
 ·exact ⟨none, 0, by rw [h0], fun hn => by omega⟩
 ·refine ⟨_, cap, rfl, fun hn => ⟨g, 0, rfl, hg, fun i hi => ?_⟩⟩
  obtain ⟨h1, h2, h3, h4, h5⟩ := markCells_at f hi
  rw [Nat.zero_add]
  exact ⟨hcell _ _ h1, hcell _ _ h2, hcell _ _ h3, hcell _ _ h4, hcell _ _ h5⟩
end Go.Proofs.YtjhpklolpmaopaaGreatDoor
namespace Go.Proofs.YtjhpklolpmaopaaGreatDoor
open Go.RowKit
set_option maxRecDepth 100000 in
set_option maxHeartbeats 400000 in
theorem rcommon_any (a0 a1 b0 b1 : Int) (w : World) :
  Calls Tryz.prog 101 #[.agg #[.int .i64 a0, .int .i64 a1], .agg #[.int .i64 b0, .int .i64 b1]] w fun e w' => e = .returned (.agg #[.int .i64 (max a0 b0), .int .i64 (min a1 b1)]) ∧ Below w.heap.size w w' := by
 go_enter Tryz.func101, Tryz.ntmps101
 go_wp2
 all_goals
  refine bodyPost_ret (v := .agg #[.int .i64 (max a0 b0), .int .i64 (min a1 b1)]) (by simp [results, Tryz.results101, go_sem] <;> omega) rfl ⟨rfl, ?_⟩
  exact (((Below.refl _ _).alloc (Nat.le_refl _) _).alloc (by simp) _).alloc (by simp; omega) _
end Go.Proofs.YtjhpklolpmaopaaGreatDoor
namespace Go.Proofs.YtjhpklolpmaopaaGreatDoor
open Go.RowKit
/-- what stays while the reference's axis works: the chuck's and the wear's spans, in blocks of their own; g is the block of the list. -/
structure AxR (w : World) (g : Nat) (c0 c1 w0 w1 : Int) (W : World) : Prop where
 t1 : Two W w.heap.size c0 c1
 t2 : Two W (w.heap.size + 1) w0 w1
 old : Below w.heap.size w W
 lo : w.heap.size + 2 ≤ g
 hi : g < W.heap.size
theorem addr_add (b off j : Nat) : (⟨b, off, none⟩ : Addr).add j = ⟨b, off + j, none⟩ := by simp [Addr.add]
theorem AxR.below {w : World} {g : Nat} {c0 c1 w0 w1 : Int} {W W' : World} (h : AxR w g c0 c1 w0 w1 W) (hb : Below W.heap.size W W') : AxR w g c0 c1 w0 w1 W' :=
 have h1 := h.lo; have h2 := h.hi
 ⟨h.t1.below hb (by omega), h.t2.below hb (by omega), h.old.trans (hb.mono h.old.size), h.lo, Nat.lt_of_lt_of_le h.hi hb.size⟩
theorem AxR.store {w : World} {g : Nat} {c0 c1 w0 w1 : Int} {W : World} (h : AxR w g c0 c1 w0 w1 W) (o1 o2 : Nat) (x y : Value) : AxR w g c0 c1 w0 w1 ((W.setCell ⟨g, o1, none⟩ x).setCell ⟨g, o2, none⟩ y) := by
 have h1 := h.lo
 have k : ∀ A, A ≠ g → ((W.setCell ⟨g, o1, none⟩ x).setCell ⟨g, o2, none⟩ y).heap[A]? = W.heap[A]? := fun A hA => (Below.heap_setCell _ ⟨g, o2, none⟩ y A hA).trans (Below.heap_setCell W ⟨g, o1, none⟩ x A hA)
 exact ⟨h.t1.far (k _ (by omega)), h.t2.far (k _ (by omega)), (h.old.setCell (p := ⟨g, o1, none⟩) (by show w.heap.size ≤ g; omega) _).setCell (p := ⟨g, o2, none⟩) (by show w.heap.size ≤ g; omega) _, h.lo, by rw [World.size_setCell, World.size_setCell]; exact h.hi⟩
theorem CAt.congr {W : World} {C : Nat} {f g : Nat → Int × Int} (h : CAt W C f) (hfg : ∀ j, j < 13 → f j = g j) : CAt W C g := ⟨fun j hj => by rw [← hfg j hj]; exact h.c j hj, h.z⟩
set_option maxRecDepth 100000 in
set_option maxHeartbeats 8000000 in
theorem raxis_any (a : Axis) (g0 cap0 : Nat) (f : Nat → Int × Int) (w : World) (hf : a.fine) (hg0 : g0 < w.heap.size) (hC0 : CAt w g0 f) (hfk : ∀ k, k ≤ 12 → f k = nar (k : Int) a.cl a.n (-1000, 1000)) (hcap : 13 ≤ cap0) (hcap2 : cap0 ≤ maxLen) :
  Calls Tryz.prog 102 #[.agg #[.int .i64 a.c0, .int .i64 a.c1], .agg #[.int .i64 a.w0, .int .i64 a.w1], .slice (some ⟨g0, 0, none⟩) 13 cap0] w fun e w' => ((a.can ∧ ∃ g c, e = .returned (.tuple #[.slice (some ⟨g, 0, none⟩) 13 c, .bool true]) ∧ w.heap.size ≤ g ∧ g < w'.heap.size ∧ CAt w' g a.ends) ∨ (¬ a.can ∧ e = .returned (.tuple #[.slice none 0 0, .bool false]))) ∧ Below w.heap.size w w' := by
 obtain ⟨i0, hi, hz0, hz1, hz2⟩ := info_parts Tryz.info24
 have hfw := Axis.fwd_bound hf
 have hab := Axis.any_bound hf
 obtain ⟨W0, hW⟩ : ∃ W0, (w.alloc (Obj.cells #[.int .i64 a.c0, .int .i64 a.c1] 24)).alloc (Obj.cells #[.int .i64 a.w0, .int .i64 a.w1] 24) = W0 := ⟨_, rfl⟩
 have hb0 : Below w.heap.size w W0 := by rw [← hW]; exact ((Below.refl _ _).alloc (Nat.le_refl _) _).alloc (by rw [World.size_alloc]; omega) _
 have hsz : W0.heap.size = w.heap.size + 2 := by rw [← hW, World.size_alloc, World.size_alloc]
 have ht1 : Two W0 w.heap.size a.c0 a.c1 := by rw [← hW]; exact (Two.new w _ _ _).below ((Below.refl (w.heap.size + 1) _).alloc (by rw [World.size_alloc]; omega) _) (by omega)
 have ht2 : Two W0 (w.heap.size + 1) a.w0 a.w1 := by
  have h := Two.new (w.alloc (Obj.cells #[.int .i64 a.c0, .int .i64 a.c1] 24)) 24 a.w0 a.w1
  rw [World.size_alloc, hW] at h; exact h
 have hC1 := hC0.below hb0 hg0
 have hown0 : W0.ownsRow (w.heap.size + 2) 24 2 (.slice none 0 0) 0 [] := ⟨rfl, .inl ⟨rfl, rfl⟩⟩
 go_enter Tryz.func102, Tryz.ntmps102
 subst hW
 go_wp2_with (at_builtin; refine wpList_append_own _ rfl _ _ 120 rfl (w.heap.size + 2) 24 i0 (.agg #[.int .i64 0, .int .i64 0]) 2 16 Tryz.underlying120 hi hz0 hz1 hz2 rfl (by decide) _ 0 [] rfl hown0 ⟨g0, 0, none⟩ 13 cap0 (crsL f 13) rfl ?c0 ?c1 ?c2 ?c3 ?c4 ?c5 ?_)
 case c0 => rw [crsL_length]
 case c1 => exact fun j u hj => by rw [addr_add]; exact cat_range hC1 j u hj
 case c2 => exact crsL_one f 13
 case c3 => unfold maxLen; omega
 case c4 => omega
 case c5 => omega
 intro v3 w3 hown3 hgrow _
 obtain ⟨g, cap, rfl, hc13, hcm, hgl, hgs, hCg⟩ := own_cat (by simpa using hown3)
 have hb3 := (Below.refl _ _).grown hgrow (Nat.le_refl _) fun k hk => by cases hk
 have hA : AxR w g a.c0 a.c1 a.w0 a.w1 w3 := ⟨ht1.below hb3 (by omega), ht2.below hb3 (by omega), hb0.trans (hb3.mono hb0.size), by omega, hgs⟩
 clear hgrow hown3 hown0 hC1 ht1 ht2 hb0 hb3
 go_wp2_with fail
 have hCF := hCg
 have hf0 : f 0 = nar 0 a.cl a.n (-1000, 1000) := hfk 0 (by omega)
 have hz0 := Axis.fwd_zero_own hf
 rw [← hf0] at hz0
 generalize hy : f 0 = y at hz0
 obtain ⟨y0, y1⟩ := y
 dsimp only at hz0
 refine wp_region_late [7] (fun w9 => AxR w g a.c0 a.c1 a.w0 a.w1 w9) (fun w9 => CAt w9 g f) (by kernel_rfl) ?_ (fun hHeld => ?_)
 ·(exact ⟨hA.below (Below.refl _ _).drew, hCF.below (Below.refl _ _).drew hA.hi⟩)
 refine tk2 0 rfl (by (intro w9 hSw; obtain ⟨⟨s0, s1, _, _⟩, ⟨s2, s3, _, _⟩, _, _, _⟩ := hSw; go_simp) <;> with_reducible rfl) hHeld ?_
 refine tk2 1 rfl (by (intro w9 hSw; obtain ⟨⟨s0, s1, _, _⟩, ⟨s2, s3, _, _⟩, _, _, _⟩ := hSw; go_simp) <;> with_reducible rfl) hHeld ?_
 refine tk2 2 rfl (by (intro w9 hSw; obtain ⟨⟨s0, s1, _, _⟩, ⟨s2, s3, _, _⟩, _, _, _⟩ := hSw; go_simp) <;> with_reducible rfl) hHeld ?_
 refine wpAnyP_take 1 (i := 3) (v := ?_) rfl (by kernel_rfl) (by kernel_rfl) (by kernel_rfl) (by kernel_rfl) (by rfl) (waits_one [] (by kernel_rfl)) (fun _ _ _ h => h) (Or.inl ⟨by rfl, ?_⟩) hHeld ?_
 rotate_left 1
 ·((intro w9 hSw; obtain ⟨_, hSC⟩ := hSw; obtain ⟨c0, c1⟩ := hSC.c 0 (by omega); rw [hy] at c0 c1; (try simp only [Nat.zero_mul, Nat.zero_add] at c0 c1); go_simp) <;> with_reducible rfl)
 (try simp only [Act.put, pA, pZ, pS])
 refine tk2 4 rfl (by (intro w9 hSw; obtain ⟨⟨s0, s1, _, _⟩, ⟨s2, s3, _, _⟩, _, _, _⟩ := hSw; go_simp) <;> with_reducible rfl) hHeld ?_
 refine rd1 5 rfl (fun K hK => ?_)
 go_simp
 (go_at_call 101; with_reducible refine (rcommon_any _ _ _ _ _).mono ?_; rintro e w5 ⟨rfl, hb5⟩)
 refine hK.out _ _ ?_ (fun hHeld => ?_)
 ·(exact ⟨hHeld.1.below hb5, hHeld.2.below hb5 hHeld.1.hi⟩)
 clear hK K
 (try simp only [Act.put, pA, pZ, pS])
 refine tk2 6 rfl (by (intro w9 hSw; obtain ⟨⟨s0, s1, _, _⟩, ⟨s2, s3, _, _⟩, _, _, _⟩ := hSw; go_simp) <;> with_reducible rfl) hHeld ?_
 refine wpAnyP_ready (rs := [7]) (by kernel_rfl) (by simp) ?_
 refine AllReadyP.behind (o := _) rfl (by kernel_rfl) (fun K hK => ?_) AllReadyP.nil
 ·obtain ⟨c0, c1⟩ := hHeld.2.c 0 (by omega)
  have z0 := hHeld.2.z 0
  have z1 := hHeld.2.z 1
  have hCs := hHeld.2.store 0 (by omega) (max y0 a.c0) (min y1 a.c1)
  simp only [Nat.zero_mul, Nat.zero_add] at c0 c1 hCs
  go_simp
  refine hK.out _ _ ?_ (fun hHeld => ?_)
  ·(exact hHeld.1.store _ _ _ _)
  clear hK K
  (try simp only [Act.put, pA, pZ, pS])
  refine wpAnyP_done (by kernel_rfl) ?_ _
  (try simp only [Act.put, List.getElem_toArray, List.getElem_cons_zero, List.getElem_cons_succ, pA, pZ, pS])
  clear c0 c1 z0 z1 hb5 hA hCg hCF
  go_wp2_with fail
  have hC2 : ∃ F, CAt ((w5.setCell ⟨g, 0, none⟩ (.int .i64 (max y0 a.c0))).setCell ⟨g, 1, none⟩ (.int .i64 (min y1 a.c1))) g F ∧ (∀ j, j < 1 → F j = a.fwd j) ∧ ∀ j, 1 ≤ j → j ≤ 12 → F j = f j := ⟨_, hCs, fun j hj => (by obtain rfl : j = 0 := (by omega); simp only [if_true]; exact hz0.symm), fun j h1 _ => by simp only [show ¬ j = 0 by omega, if_false]⟩
  clear hCs hz0 hy hf0
  generalize (w5.setCell ⟨g, 0, none⟩ (.int .i64 (max y0 a.c0))).setCell ⟨g, 1, none⟩ (.int .i64 (min y1 a.c1)) = W2 at *
  obtain ⟨F2, hC2, hlo2, hhi2⟩ := hC2
  go_loopw [9] (fun i wr => ∃ (k : Nat) (F : Nat → Int × Int), 1 ≤ k ∧ k ≤ 13 ∧ i = .int .i64 k ∧ AxR w g a.c0 a.c1 a.w0 a.w1 wr ∧ CAt wr g F ∧ (∀ j, j < k → F j = a.fwd j) ∧ ∀ j, k ≤ j → j ≤ 12 → F j = f j) (fun i _ => 13 - (intOf i).toNat)
  case atStart => exact ⟨1, F2, by omega, by omega, rfl, hHeld, hC2, hlo2, hhi2⟩
  case round =>
   clear hC2 hlo2 hhi2 hHeld
   obtain ⟨k, F, hk1, hk, rfl, hA, hCF, hlo, hhi⟩ := hrel
   have hk0 : (0 : Int) ≤ (k : Int) := Int.natCast_nonneg _
   by_cases hlt : k < 13
   ·obtain ⟨p, rfl⟩ : ∃ p, k = p + 1 := ⟨k - 1, by omega⟩
    have hlt' : ((p + 1 : Nat) : Int) ≤ 12 := by omega
    have hlt2 : ((p + 1 : Nat) : Int) < 13 := by omega
    have hki : ((p + 1 : Nat) : Int) - 1 = (p : Int) := by omega
    have hp13 : p < 13 := by omega
    have hp14 : p + 1 < 13 := by omega
    have hka : (0 : Int) ≤ (p : Int) + 1 := by omega
    have hkb : (p : Int) + 1 < 13 := by omega
    have hkc : (p : Int) + 1 ≤ 12 := by omega
    have hkd : (0 : Int) < (p : Int) + 1 := by omega
    have hp0 : (0 : Int) ≤ (p : Int) := Int.natCast_nonneg _
    have hp1 : (p : Int) < 13 := by omega
    have hfe := Axis.fwd_succ_own hf p (by omega)
    have hfn : f (p + 1) = nar ((p : Int) + 1) a.cl a.n (-1000, 1000) := hfk (p + 1) (by omega)
    have hnb := nar_own_bound ((p : Int) + 1) a.cl a.n (fun i hi => (hf.cl i hi).2.2)
    rw [← hfn] at hfe hnb
    have hbb := hfw p (by omega)
    have hww := hf.w
    have hxp := hlo p (by omega)
    have hxk := hhi (p + 1) (by omega) (by omega)
    generalize hx : a.fwd p = x at hfe hbb hxp
    generalize hy : f (p + 1) = y at hfe hnb hxk
    obtain ⟨x0, x1⟩ := x
    obtain ⟨y0, y1⟩ := y
    dsimp only at hfe hnb hbb
    have hwp : IntKind.i64.wrap (p : Int) = (p : Int) := IntWalk.i64_in _ (by omega)
    have hwa : IntKind.i64.wrap (x0 + a.w0) = x0 + a.w0 := IntWalk.i64_in _ (by omega)
    have hwb : IntKind.i64.wrap (x1 + a.w1) = x1 + a.w1 := IntWalk.i64_in _ (by omega)
    go_wp2_with fail
    refine wp_region_late [27] (fun w9 => AxR w g a.c0 a.c1 a.w0 a.w1 w9) (fun w9 => CAt w9 g F) (by kernel_rfl) ?_ (fun hHeld => ?_)
    ·(exact ⟨hA.below (Below.refl _ _).drew, hCF.below (Below.refl _ _).drew hA.hi⟩)
    refine tk2 0 rfl (by (intro w9 hSw; obtain ⟨⟨s0, s1, _, _⟩, ⟨s2, s3, _, _⟩, _, _, _⟩ := hSw; go_simp) <;> with_reducible rfl) hHeld ?_
    refine tk2 1 rfl (by (intro w9 hSw; obtain ⟨⟨s0, s1, _, _⟩, ⟨s2, s3, _, _⟩, _, _, _⟩ := hSw; go_simp) <;> with_reducible rfl) hHeld ?_
    refine tk2 2 rfl (by (intro w9 hSw; obtain ⟨⟨s0, s1, _, _⟩, ⟨s2, s3, _, _⟩, _, _, _⟩ := hSw; go_simp) <;> with_reducible rfl) hHeld ?_
    refine tk2 3 rfl (by (intro w9 hSw; obtain ⟨⟨s0, s1, _, _⟩, ⟨s2, s3, _, _⟩, _, _, _⟩ := hSw; go_simp) <;> with_reducible rfl) hHeld ?_
    refine tk2 4 rfl (by (intro w9 hSw; obtain ⟨⟨s0, s1, _, _⟩, ⟨s2, s3, _, _⟩, _, _, _⟩ := hSw; go_simp) <;> with_reducible rfl) hHeld ?_
    refine wpAnyP_take 1 (i := 5) (v := ?_) rfl (by kernel_rfl) (by kernel_rfl) (by kernel_rfl) (by kernel_rfl) (by rfl) (waits_one [] (by kernel_rfl)) (fun _ _ _ h => h) (Or.inl ⟨by rfl, ?_⟩) hHeld ?_
    rotate_left 1
    ·((intro w9 hSw; have c0 := (hSw.2.c p hp13).1; have c1 := (hSw.2.c p hp13).2; have c2 := (hSw.2.c (p + 1) hp14).1; have c3 := (hSw.2.c (p + 1) hp14).2; clear hSw; rw [hxp] at c0 c1; rw [hxk] at c2 c3; (try dsimp only at c0 c1 c2 c3); go_simp) <;> with_reducible rfl)
    (try simp only [Act.put, pA, pZ, pS])
    refine tk2 6 rfl (by (intro w9 hSw; obtain ⟨⟨s0, s1, _, _⟩, ⟨s2, s3, _, _⟩, _, _, _⟩ := hSw; go_simp) <;> with_reducible rfl) hHeld ?_
    refine tk2 7 rfl (by (intro w9 hSw; obtain ⟨⟨s0, s1, _, _⟩, ⟨s2, s3, _, _⟩, _, _, _⟩ := hSw; go_simp) <;> with_reducible rfl) hHeld ?_
    refine tk2 8 rfl (by (intro w9 hSw; obtain ⟨⟨s0, s1, _, _⟩, ⟨s2, s3, _, _⟩, _, _, _⟩ := hSw; go_simp) <;> with_reducible rfl) hHeld ?_
    refine tk2 9 rfl (by (intro w9 hSw; obtain ⟨⟨s0, s1, _, _⟩, ⟨s2, s3, _, _⟩, _, _, _⟩ := hSw; go_simp) <;> with_reducible rfl) hHeld ?_
    refine tk2 10 rfl (by (intro w9 hSw; obtain ⟨⟨s0, s1, _, _⟩, ⟨s2, s3, _, _⟩, _, _, _⟩ := hSw; go_simp) <;> with_reducible rfl) hHeld ?_
    refine wpAnyP_take 1 (i := 11) (v := ?_) rfl (by kernel_rfl) (by kernel_rfl) (by kernel_rfl) (by kernel_rfl) (by rfl) (waits_one [] (by kernel_rfl)) (fun _ _ _ h => h) (Or.inl ⟨by rfl, ?_⟩) hHeld ?_
    rotate_left 1
    ·((intro w9 hSw; have c0 := (hSw.2.c p hp13).1; have c1 := (hSw.2.c p hp13).2; have c2 := (hSw.2.c (p + 1) hp14).1; have c3 := (hSw.2.c (p + 1) hp14).2; clear hSw; rw [hxp] at c0 c1; rw [hxk] at c2 c3; (try dsimp only at c0 c1 c2 c3); go_simp) <;> with_reducible rfl)
    (try simp only [Act.put, pA, pZ, pS])
    refine tk2 12 rfl (by (intro w9 hSw; obtain ⟨⟨s0, s1, _, _⟩, ⟨s2, s3, _, _⟩, _, _, _⟩ := hSw; go_simp) <;> with_reducible rfl) hHeld ?_
    refine tk2 13 rfl (by (intro w9 hSw; obtain ⟨⟨s0, s1, _, _⟩, ⟨s2, s3, _, _⟩, _, _, _⟩ := hSw; go_simp) <;> with_reducible rfl) hHeld ?_
    refine tk2 14 rfl (by (intro w9 hSw; obtain ⟨⟨s0, s1, _, _⟩, ⟨s2, s3, _, _⟩, _, _, _⟩ := hSw; go_simp) <;> with_reducible rfl) hHeld ?_
    refine tk2 15 rfl (by (intro w9 hSw; obtain ⟨⟨s0, s1, _, _⟩, ⟨s2, s3, _, _⟩, _, _, _⟩ := hSw; go_simp) <;> with_reducible rfl) hHeld ?_
    refine tk2 16 rfl (by (intro w9 hSw; obtain ⟨⟨s0, s1, _, _⟩, ⟨s2, s3, _, _⟩, _, _, _⟩ := hSw; go_simp) <;> with_reducible rfl) hHeld ?_
    refine tk2 17 rfl (by (intro w9 hSw; obtain ⟨⟨s0, s1, _, _⟩, ⟨s2, s3, _, _⟩, _, _, _⟩ := hSw; go_simp) <;> with_reducible rfl) hHeld ?_
    refine tk2 18 rfl (by (intro w9 hSw; obtain ⟨⟨s0, s1, _, _⟩, ⟨s2, s3, _, _⟩, _, _, _⟩ := hSw; go_simp) <;> with_reducible rfl) hHeld ?_
    refine tk2 19 rfl (by (intro w9 hSw; obtain ⟨⟨s0, s1, _, _⟩, ⟨s2, s3, _, _⟩, _, _, _⟩ := hSw; go_simp) <;> with_reducible rfl) hHeld ?_
    refine wpAnyP_take 1 (i := 20) (v := ?_) rfl (by kernel_rfl) (by kernel_rfl) (by kernel_rfl) (by kernel_rfl) (by rfl) (waits_one [] (by kernel_rfl)) (fun _ _ _ h => h) (Or.inl ⟨by rfl, ?_⟩) hHeld ?_
    rotate_left 1
    ·((intro w9 hSw; have c0 := (hSw.2.c p hp13).1; have c1 := (hSw.2.c p hp13).2; have c2 := (hSw.2.c (p + 1) hp14).1; have c3 := (hSw.2.c (p + 1) hp14).2; clear hSw; rw [hxp] at c0 c1; rw [hxk] at c2 c3; (try dsimp only at c0 c1 c2 c3); go_simp) <;> with_reducible rfl)
    (try simp only [Act.put, pA, pZ, pS])
    refine tk2 21 rfl (by (intro w9 hSw; obtain ⟨⟨s0, s1, _, _⟩, ⟨s2, s3, _, _⟩, _, _, _⟩ := hSw; go_simp) <;> with_reducible rfl) hHeld ?_
    refine tk2 22 rfl (by (intro w9 hSw; obtain ⟨⟨s0, s1, _, _⟩, ⟨s2, s3, _, _⟩, _, _, _⟩ := hSw; go_simp) <;> with_reducible rfl) hHeld ?_
    refine tk2 23 rfl (by (intro w9 hSw; obtain ⟨⟨s0, s1, _, _⟩, ⟨s2, s3, _, _⟩, _, _, _⟩ := hSw; go_simp) <;> with_reducible rfl) hHeld ?_
    refine tk2 24 rfl (by (intro w9 hSw; obtain ⟨⟨s0, s1, _, _⟩, ⟨s2, s3, _, _⟩, _, _, _⟩ := hSw; go_simp) <;> with_reducible rfl) hHeld ?_
    refine rd1 25 rfl (fun K hK => ?_)
    go_simp
    (go_at_call 101; with_reducible refine (rcommon_any _ _ _ _ _).mono ?_; rintro e w5 ⟨rfl, hb5⟩)
    refine hK.out _ _ ?_ (fun hHeld => ?_)
    ·(exact ⟨hHeld.1.below hb5, hHeld.2.below hb5 hHeld.1.hi⟩)
    clear hK K
    (try simp only [Act.put, pA, pZ, pS])
    refine tk2 26 rfl (by (intro w9 hSw; obtain ⟨⟨s0, s1, _, _⟩, ⟨s2, s3, _, _⟩, _, _, _⟩ := hSw; go_simp) <;> with_reducible rfl) hHeld ?_
    refine wpAnyP_ready (rs := [27]) (by kernel_rfl) (by simp) ?_
    refine AllReadyP.behind (o := _) rfl (by kernel_rfl) (fun K hK => ?_) AllReadyP.nil
    ·have c2 := (hHeld.2.c (p + 1) hp14).1
     have c3 := (hHeld.2.c (p + 1) hp14).2
     have z0 := hHeld.2.z ((p + 1) * 2)
     have z1 := hHeld.2.z ((p + 1) * 2 + 1)
     have hCs := hHeld.2.store (p + 1) hp14 (max y0 (x0 + a.w0)) (min y1 (x1 + a.w1))
     go_simp
     refine hK.out _ _ ?_ (fun hHeld => ?_)
     ·(exact hHeld.1.store _ _ _ _)
     clear hK K
     (try simp only [Act.put, pA, pZ, pS])
     refine wpAnyP_done (by kernel_rfl) ?_ _
     (try simp only [Act.put, List.getElem_toArray, List.getElem_cons_zero, List.getElem_cons_succ, pA, pZ, pS])
     clear c2 c3 z0 z1 hb5 hA hCF
     go_wp2_with fail
     go_roundw
     case rel =>
      refine ⟨p + 1 + 1, _, by omega, by omega, by go_num, hHeld, hCs, fun j hj => ?_, fun j h1 h2 => ?_⟩
      ·by_cases hjk : j = p + 1
       ·subst hjk; simp only [if_true]; exact hfe.symm
       ·rw [if_neg hjk]; exact hlo j (by omega)
      ·rw [if_neg (by omega)]; exact hhi j (by omega) h2
     case measure => simp [intOf]; omega

   ·have hk13 : k = 13 := by omega
    have hng : ¬ ((k : Int) ≤ 12) := by omega
    go_wp2_with fail
    go_loopw [10] (fun i wr => ∃ (k : Nat) (F : Nat → Int × Int), k ≤ 12 ∧ i = .int .i64 k ∧ AxR w g a.c0 a.c1 a.w0 a.w1 wr ∧ CAt wr g F ∧ (∀ j, j < k → F j = a.fwd j) ∧ ∀ j, k ≤ j → j ≤ 12 → F j = a.ends j) (fun i _ => (intOf i).toNat)
    case atStart => exact ⟨12, F, by omega, rfl, hA, hCF, fun j hj => hlo j (by omega), fun j h1 h2 => by obtain rfl : j = 12 := (by omega); rw [hlo 12 (by omega)]; rfl⟩
    case round =>
     clear hA hCF hlo hhi hk1 hk hk0 hlt F hk13 hng
     obtain ⟨k, F, hk, rfl, hA, hCF, hlo, hhi⟩ := hrel
     have hk0 : (0 : Int) ≤ (k : Int) := Int.natCast_nonneg _
     by_cases hlt : 0 < k
     ·obtain ⟨p, rfl⟩ : ∃ p, k = p + 1 := ⟨k - 1, by omega⟩
      have hlt' : (0 : Int) < ((p + 1 : Nat) : Int) := by omega
      have hlt2 : ((p + 1 : Nat) : Int) < 13 := by omega
      have hki : ((p + 1 : Nat) : Int) - 1 = (p : Int) := by omega
      have hp13 : p < 13 := by omega
      have hp14 : p + 1 < 13 := by omega
      have hka : (0 : Int) ≤ (p : Int) + 1 := by omega
      have hkb : (p : Int) + 1 < 13 := by omega
      have hkc : (p : Int) + 1 ≤ 12 := by omega
      have hkd : (0 : Int) < (p : Int) + 1 := by omega
      have hp0 : (0 : Int) ≤ (p : Int) := Int.natCast_nonneg _
      have hp1 : (p : Int) < 13 := by omega
      have hfe := Axis.ends_step a p (by omega)
      have hbb := hfw p (by omega)
      have hnb := hab (p + 1) (by omega)
      have hww := hf.w
      have hxp := hlo p (by omega)
      have hxk := hhi (p + 1) (by omega) (by omega)
      generalize hx : a.fwd p = x at hfe hbb hxp
      generalize hy : a.ends (p + 1) = y at hfe hnb hxk
      obtain ⟨x0, x1⟩ := x
      obtain ⟨y0, y1⟩ := y
      dsimp only at hfe hnb hbb
      have hwp : IntKind.i64.wrap (p : Int) = (p : Int) := IntWalk.i64_in _ (by omega)
      have hwa : IntKind.i64.wrap (y0 - a.w1) = y0 - a.w1 := IntWalk.i64_in _ (by omega)
      have hwb : IntKind.i64.wrap (y1 - a.w0) = y1 - a.w0 := IntWalk.i64_in _ (by omega)
      go_wp2_with fail
      refine wp_region_late [27] (fun w9 => AxR w g a.c0 a.c1 a.w0 a.w1 w9) (fun w9 => CAt w9 g F) (by kernel_rfl) ?_ (fun hHeld => ?_)
      ·(exact ⟨hA.below (Below.refl _ _).drew, hCF.below (Below.refl _ _).drew hA.hi⟩)
      refine tk2 0 rfl (by (intro w9 hSw; obtain ⟨⟨s0, s1, _, _⟩, ⟨s2, s3, _, _⟩, _, _, _⟩ := hSw; go_simp) <;> with_reducible rfl) hHeld ?_
      refine tk2 1 rfl (by (intro w9 hSw; obtain ⟨⟨s0, s1, _, _⟩, ⟨s2, s3, _, _⟩, _, _, _⟩ := hSw; go_simp) <;> with_reducible rfl) hHeld ?_
      refine tk2 2 rfl (by (intro w9 hSw; obtain ⟨⟨s0, s1, _, _⟩, ⟨s2, s3, _, _⟩, _, _, _⟩ := hSw; go_simp) <;> with_reducible rfl) hHeld ?_
      refine tk2 3 rfl (by (intro w9 hSw; obtain ⟨⟨s0, s1, _, _⟩, ⟨s2, s3, _, _⟩, _, _, _⟩ := hSw; go_simp) <;> with_reducible rfl) hHeld ?_
      refine tk2 4 rfl (by (intro w9 hSw; obtain ⟨⟨s0, s1, _, _⟩, ⟨s2, s3, _, _⟩, _, _, _⟩ := hSw; go_simp) <;> with_reducible rfl) hHeld ?_
      refine tk2 5 rfl (by (intro w9 hSw; obtain ⟨⟨s0, s1, _, _⟩, ⟨s2, s3, _, _⟩, _, _, _⟩ := hSw; go_simp) <;> with_reducible rfl) hHeld ?_
      refine tk2 6 rfl (by (intro w9 hSw; obtain ⟨⟨s0, s1, _, _⟩, ⟨s2, s3, _, _⟩, _, _, _⟩ := hSw; go_simp) <;> with_reducible rfl) hHeld ?_
      refine wpAnyP_take 1 (i := 7) (v := ?_) rfl (by kernel_rfl) (by kernel_rfl) (by kernel_rfl) (by kernel_rfl) (by rfl) (waits_one [] (by kernel_rfl)) (fun _ _ _ h => h) (Or.inl ⟨by rfl, ?_⟩) hHeld ?_
      rotate_left 1
      ·((intro w9 hSw; have c0 := (hSw.2.c p hp13).1; have c1 := (hSw.2.c p hp13).2; have c2 := (hSw.2.c (p + 1) hp14).1; have c3 := (hSw.2.c (p + 1) hp14).2; clear hSw; rw [hxp] at c0 c1; rw [hxk] at c2 c3; (try dsimp only at c0 c1 c2 c3); go_simp) <;> with_reducible rfl)
      (try simp only [Act.put, pA, pZ, pS])
      refine tk2 8 rfl (by (intro w9 hSw; obtain ⟨⟨s0, s1, _, _⟩, ⟨s2, s3, _, _⟩, _, _, _⟩ := hSw; go_simp) <;> with_reducible rfl) hHeld ?_
      refine tk2 9 rfl (by (intro w9 hSw; obtain ⟨⟨s0, s1, _, _⟩, ⟨s2, s3, _, _⟩, _, _, _⟩ := hSw; go_simp) <;> with_reducible rfl) hHeld ?_
      refine tk2 10 rfl (by (intro w9 hSw; obtain ⟨⟨s0, s1, _, _⟩, ⟨s2, s3, _, _⟩, _, _, _⟩ := hSw; go_simp) <;> with_reducible rfl) hHeld ?_
      refine tk2 11 rfl (by (intro w9 hSw; obtain ⟨⟨s0, s1, _, _⟩, ⟨s2, s3, _, _⟩, _, _, _⟩ := hSw; go_simp) <;> with_reducible rfl) hHeld ?_
      refine wpAnyP_take 1 (i := 12) (v := ?_) rfl (by kernel_rfl) (by kernel_rfl) (by kernel_rfl) (by kernel_rfl) (by rfl) (waits_one [] (by kernel_rfl)) (fun _ _ _ h => h) (Or.inl ⟨by rfl, ?_⟩) hHeld ?_
      rotate_left 1
      ·((intro w9 hSw; have c0 := (hSw.2.c p hp13).1; have c1 := (hSw.2.c p hp13).2; have c2 := (hSw.2.c (p + 1) hp14).1; have c3 := (hSw.2.c (p + 1) hp14).2; clear hSw; rw [hxp] at c0 c1; rw [hxk] at c2 c3; (try dsimp only at c0 c1 c2 c3); go_simp) <;> with_reducible rfl)
      (try simp only [Act.put, pA, pZ, pS])
      refine tk2 13 rfl (by (intro w9 hSw; obtain ⟨⟨s0, s1, _, _⟩, ⟨s2, s3, _, _⟩, _, _, _⟩ := hSw; go_simp) <;> with_reducible rfl) hHeld ?_
      refine tk2 14 rfl (by (intro w9 hSw; obtain ⟨⟨s0, s1, _, _⟩, ⟨s2, s3, _, _⟩, _, _, _⟩ := hSw; go_simp) <;> with_reducible rfl) hHeld ?_
      refine tk2 15 rfl (by (intro w9 hSw; obtain ⟨⟨s0, s1, _, _⟩, ⟨s2, s3, _, _⟩, _, _, _⟩ := hSw; go_simp) <;> with_reducible rfl) hHeld ?_
      refine tk2 16 rfl (by (intro w9 hSw; obtain ⟨⟨s0, s1, _, _⟩, ⟨s2, s3, _, _⟩, _, _, _⟩ := hSw; go_simp) <;> with_reducible rfl) hHeld ?_
      refine tk2 17 rfl (by (intro w9 hSw; obtain ⟨⟨s0, s1, _, _⟩, ⟨s2, s3, _, _⟩, _, _, _⟩ := hSw; go_simp) <;> with_reducible rfl) hHeld ?_
      refine tk2 18 rfl (by (intro w9 hSw; obtain ⟨⟨s0, s1, _, _⟩, ⟨s2, s3, _, _⟩, _, _, _⟩ := hSw; go_simp) <;> with_reducible rfl) hHeld ?_
      refine tk2 19 rfl (by (intro w9 hSw; obtain ⟨⟨s0, s1, _, _⟩, ⟨s2, s3, _, _⟩, _, _, _⟩ := hSw; go_simp) <;> with_reducible rfl) hHeld ?_
      refine wpAnyP_take 1 (i := 20) (v := ?_) rfl (by kernel_rfl) (by kernel_rfl) (by kernel_rfl) (by kernel_rfl) (by rfl) (waits_one [] (by kernel_rfl)) (fun _ _ _ h => h) (Or.inl ⟨by rfl, ?_⟩) hHeld ?_
      rotate_left 1
      ·((intro w9 hSw; have c0 := (hSw.2.c p hp13).1; have c1 := (hSw.2.c p hp13).2; have c2 := (hSw.2.c (p + 1) hp14).1; have c3 := (hSw.2.c (p + 1) hp14).2; clear hSw; rw [hxp] at c0 c1; rw [hxk] at c2 c3; (try dsimp only at c0 c1 c2 c3); go_simp) <;> with_reducible rfl)
      (try simp only [Act.put, pA, pZ, pS])
      refine tk2 21 rfl (by (intro w9 hSw; obtain ⟨⟨s0, s1, _, _⟩, ⟨s2, s3, _, _⟩, _, _, _⟩ := hSw; go_simp) <;> with_reducible rfl) hHeld ?_
      refine tk2 22 rfl (by (intro w9 hSw; obtain ⟨⟨s0, s1, _, _⟩, ⟨s2, s3, _, _⟩, _, _, _⟩ := hSw; go_simp) <;> with_reducible rfl) hHeld ?_
      refine tk2 23 rfl (by (intro w9 hSw; obtain ⟨⟨s0, s1, _, _⟩, ⟨s2, s3, _, _⟩, _, _, _⟩ := hSw; go_simp) <;> with_reducible rfl) hHeld ?_
      refine tk2 24 rfl (by (intro w9 hSw; obtain ⟨⟨s0, s1, _, _⟩, ⟨s2, s3, _, _⟩, _, _, _⟩ := hSw; go_simp) <;> with_reducible rfl) hHeld ?_
      refine rd1 25 rfl (fun K hK => ?_)
      go_simp
      (go_at_call 101; with_reducible refine (rcommon_any _ _ _ _ _).mono ?_; rintro e w5 ⟨rfl, hb5⟩)
      refine hK.out _ _ ?_ (fun hHeld => ?_)
      ·(exact ⟨hHeld.1.below hb5, hHeld.2.below hb5 hHeld.1.hi⟩)
      clear hK K
      (try simp only [Act.put, pA, pZ, pS])
      refine tk2 26 rfl (by (intro w9 hSw; obtain ⟨⟨s0, s1, _, _⟩, ⟨s2, s3, _, _⟩, _, _, _⟩ := hSw; go_simp) <;> with_reducible rfl) hHeld ?_
      refine wpAnyP_ready (rs := [27]) (by kernel_rfl) (by simp) ?_
      refine AllReadyP.behind (o := _) rfl (by kernel_rfl) (fun K hK => ?_) AllReadyP.nil
      ·have c2 := (hHeld.2.c p hp13).1
       have c3 := (hHeld.2.c p hp13).2
       have z0 := hHeld.2.z (p * 2)
       have z1 := hHeld.2.z (p * 2 + 1)
       have hCs := hHeld.2.store p hp13 (max x0 (y0 - a.w1)) (min x1 (y1 - a.w0))
       go_simp
       refine hK.out _ _ ?_ (fun hHeld => ?_)
       ·(exact hHeld.1.store _ _ _ _)
       clear hK K
       (try simp only [Act.put, pA, pZ, pS])
       refine wpAnyP_done (by kernel_rfl) ?_ _
       (try simp only [Act.put, List.getElem_toArray, List.getElem_cons_zero, List.getElem_cons_succ, pA, pZ, pS])
       clear c2 c3 z0 z1 hb5 hA hCF
       go_wp2_with fail
       go_roundw
       case rel =>
        refine ⟨p, _, by omega, by go_num, hHeld, hCs, fun j hj => ?_, fun j h1 h2 => ?_⟩
        ·rw [if_neg (by omega)]; exact hlo j (by omega)
        ·by_cases hjk : j = p
         ·subst hjk; simp only [if_true]; exact hfe.symm
         ·rw [if_neg hjk]; exact hhi j (by omega) h2
       case measure => first | (simp [intOf]; done) | (simp [intOf]; omega)

     ·have hng : ¬ ((0 : Int) < (k : Int)) := by omega
      have hCE : CAt wr g a.ends := hCF.congr fun j hj => hhi j (by omega) (by omega)
      clear hCF hlo hhi hlt hk hk0
      go_wp2_with fail
      go_loopw [11] (fun i wr => ∃ (k : Nat), k ≤ 13 ∧ i = .int .i64 k ∧ AxR w g a.c0 a.c1 a.w0 a.w1 wr ∧ CAt wr g a.ends ∧ ∀ j, j < k → (a.ends j).1 ≤ (a.ends j).2) (fun i _ => 13 - (intOf i).toNat)
      case atStart => exact ⟨0, by omega, rfl, hA, hCE, fun j hj => absurd hj (Nat.not_lt_zero _)⟩
      case round =>
       clear hA hCE hng
       obtain ⟨k, hk, rfl, hA, hCE, hall⟩ := hrel
       have hk0 : (0 : Int) ≤ (k : Int) := Int.natCast_nonneg _
       by_cases hlt : k < 13
       ·have hlt' : (k : Int) ≤ 12 := by omega
        have hlt2 : (k : Int) < 13 := by omega
        obtain ⟨c0, c1⟩ := hCE.c k hlt
        have hcan : a.can → (a.ends k).1 ≤ (a.ends k).2 := fun h => (Axis.can_iff hf).1 h k (by omega)
        have hsucc : (a.ends k).1 ≤ (a.ends k).2 → ∀ j, j < k + 1 → (a.ends j).1 ≤ (a.ends j).2 := fun h => all_succ (p := fun j => (a.ends j).1 ≤ (a.ends j).2) hall h
        have hAd := fun n => hA.below (below_drewN (Below.refl _ _) n)
        have hCd := fun n => hCE.below (below_drewN (Below.refl _ _) n) hA.hi
        by_cases hle : (a.ends k).1 ≤ (a.ends k).2
        ·have hn := hsucc hle
         clear hsucc hcan
         generalize (a.ends k).1 = e0 at c0 hle
         generalize (a.ends k).2 = e1 at c1 hle
         have hng : ¬ e1 < e0 := by omega
         go_wp2_with fail
         go_quiet (fail)
         go_wp2_with fail
         go_roundw
         case rel => exact ⟨k + 1, by omega, by go_num, hAd _, hCd _, hn⟩
         case measure => simp [intOf]; omega
        ·have hno : ¬ a.can := fun h => hle (hcan h)
         clear hsucc hcan
         generalize (a.ends k).1 = e0 at c0 hle
         generalize (a.ends k).2 = e1 at c1 hle
         have hng : e1 < e0 := by omega
         go_wp2_with fail
         go_quiet (fail)
         go_wp2_with fail
         go_ret2
         exact ⟨.inr ⟨hno, rfl⟩, below_drewN hA.old _⟩
       ·obtain rfl : k = 13 := by omega
        have hcan : a.can := (Axis.can_iff hf).2 fun j hj => hall j (by omega)
        have hlo := hA.lo
        go_wp2_with fail
        go_ret2
        exact ⟨.inl ⟨hcan, g, cap, rfl, by omega, hA.hi, hCE⟩, hA.old⟩

end Go.Proofs.YtjhpklolpmaopaaGreatDoor
namespace Go.Proofs.YtjhpklolpmaopaaGreatDoor
open Go.RowKit
/-- the reference's axis, by a truth value. -/
theorem raxis_b (a : Axis) (hf : a.fine) : ∃ b : Bool, (b = true ↔ a.can) ∧ ∀ (g0 cap0 : Nat) (f : Nat → Int × Int) (w : World), g0 < w.heap.size → CAt w g0 f → (∀ k, k ≤ 12 → f k = nar (k : Int) a.cl a.n (-1000, 1000)) → 13 ≤ cap0 → cap0 ≤ maxLen →
    Calls Tryz.prog 102 #[.agg #[.int .i64 a.c0, .int .i64 a.c1], .agg #[.int .i64 a.w0, .int .i64 a.w1], .slice (some ⟨g0, 0, none⟩) 13 cap0] w fun e w' => ∃ v, e = .returned (.tuple #[v, .bool b]) ∧ (b = true → ∃ g c, v = .slice (some ⟨g, 0, none⟩) 13 c ∧ w.heap.size ≤ g ∧ g < w'.heap.size ∧ CAt w' g a.ends) ∧ Below w.heap.size w w' := by
  by_cases hc : a.can
  · refine ⟨true, ⟨fun _ => hc, fun _ => rfl⟩, fun g0 cap0 f w h1 h2 h3 h4 h5 => (raxis_any a g0 cap0 f w hf h1 h2 h3 h4 h5).mono ?_⟩
    rintro e w' ⟨(⟨_, g, c, rfl, hl, hg, hC⟩ | ⟨hn, _⟩), hb⟩
    · exact ⟨_, rfl, fun _ => ⟨g, c, rfl, hl, hg, hC⟩, hb⟩
    · exact absurd hc hn
  · refine ⟨false, ⟨fun h => (by cases h), fun h => absurd h hc⟩, fun g0 cap0 f w h1 h2 h3 h4 h5 => (raxis_any a g0 cap0 f w hf h1 h2 h3 h4 h5).mono ?_⟩
    rintro e w' ⟨(⟨hn, _⟩ | ⟨_, rfl⟩), hb⟩
    · exact absurd hn hc
    · exact ⟨_, rfl, fun h => (by cases h), hb⟩
/-- what stays while the reference's Bounds works: gx and gy are the blocks of the two lists. -/
structure BdR (w : World) (gx gy : Nat) (W : World) : Prop where
  old : Below w.heap.size w W
  lx : w.heap.size ≤ gx
  hx : gx < W.heap.size
  ly : w.heap.size ≤ gy
  hy : gy < W.heap.size
  ne : gx ≠ gy
theorem BdR.below {w : World} {gx gy : Nat} {W W' : World} (h : BdR w gx gy W) (hb : Below W.heap.size W W') : BdR w gx gy W' :=
  ⟨h.old.trans (hb.mono h.old.size), h.lx, Nat.lt_of_lt_of_le h.hx hb.size, h.ly, Nat.lt_of_lt_of_le h.hy hb.size, h.ne⟩
theorem BdR.storeX {w : World} {gx gy : Nat} {W : World} (h : BdR w gx gy W) (o1 o2 : Nat) (x y : Value) : BdR w gx gy ((W.setCell ⟨gx, o1, none⟩ x).setCell ⟨gx, o2, none⟩ y) :=
  ⟨(h.old.setCell (p := ⟨gx, o1, none⟩) h.lx _).setCell (p := ⟨gx, o2, none⟩) h.lx _, h.lx, by rw [World.size_setCell, World.size_setCell]; exact h.hx, h.ly, by rw [World.size_setCell, World.size_setCell]; exact h.hy, h.ne⟩
theorem BdR.storeY {w : World} {gx gy : Nat} {W : World} (h : BdR w gx gy W) (o1 o2 : Nat) (x y : Value) : BdR w gx gy ((W.setCell ⟨gy, o1, none⟩ x).setCell ⟨gy, o2, none⟩ y) :=
  ⟨(h.old.setCell (p := ⟨gy, o1, none⟩) h.ly _).setCell (p := ⟨gy, o2, none⟩) h.ly _, h.lx, by rw [World.size_setCell, World.size_setCell]; exact h.hx, h.ly, by rw [World.size_setCell, World.size_setCell]; exact h.hy, h.ne⟩
theorem CAt.far2 {W : World} {C D : Nat} {f : Nat → Int × Int} (h : CAt W C f) (hne : D ≠ C) (o1 o2 : Nat) (x y : Value) : CAt ((W.setCell ⟨D, o1, none⟩ x).setCell ⟨D, o2, none⟩ y) C f :=
  h.far ((Below.heap_setCell _ ⟨D, o2, none⟩ y C (Ne.symm hne)).trans (Below.heap_setCell W ⟨D, o1, none⟩ x C (Ne.symm hne)))
theorem nar_succ (k : Int) (cl : Nat → Int × Int × Int) (n : Nat) (s : Int × Int) : nar k cl (n + 1) s = if (cl n).1 = k then (max (nar k cl n s).1 (cl n).2.1, min (nar k cl n s).2 (cl n).2.2) else nar k cl n s := rfl
def mkX (m : Mach) (n : Nat) (f : Nat → Int × Int × Int × Int × Int) : Axis := ⟨m.c0, m.c1, m.w0, m.w1, n, fun i => ((f i).1, (f i).2.1, (f i).2.2.1)⟩
def mkY (m : Mach) (n : Nat) (f : Nat → Int × Int × Int × Int × Int) : Axis := ⟨m.d0, m.d1, m.v0, m.v1, n, fun i => ((f i).1, (f i).2.2.2.1, (f i).2.2.2.2)⟩
theorem put_nar {F : Nat → Int × Int} {cl : Nat → Int × Int × Int} {k q : Nat} {x0 x1 l0 l1 : Int} (hF : ∀ j, j < 13 → F j = nar (j : Int) cl k (-1000, 1000)) (hq : q < 13) (hx : F q = (x0, x1)) (hc : cl k = ((q : Int), l0, l1)) : ∀ j, j < 13 → (if j = q then (max x0 l0, min x1 l1) else F j) = nar (j : Int) cl (k + 1) (-1000, 1000) := fun j hj => by
  rw [nar_succ, hc]
  dsimp only
  by_cases h : j = q
  · subst h
    rw [if_pos rfl, if_pos rfl, ← hF j hj, hx]
  · rw [if_neg h, if_neg (fun e => h (by omega)), hF j hj]
set_option maxRecDepth 100000 in
set_option maxHeartbeats 8000000 in
theorem rbounds_any (m : Mach) (v : Value) (n : Nat) (f : Nat → Int × Int × Int × Int × Int) (w : World) (hX : (mkX m n f).fine) (hY : (mkY m n f).fine) (hm : MkSl w v n f) :
    ∃ b : Bool, (b = true ↔ (mkX m n f).can ∧ (mkY m n f).can) ∧ Calls Tryz.prog 61 #[m.val, v] w fun e w' => ∃ vx vy, e = .returned (.tuple #[vx, vy, .bool b]) ∧ (b = true → ∃ gx cx gy cy, vx = .slice (some ⟨gx, 0, none⟩) 13 cx ∧ vy = .slice (some ⟨gy, 0, none⟩) 13 cy ∧ w.heap.size ≤ gx ∧ w.heap.size ≤ gy ∧ gx < w'.heap.size ∧ gy < w'.heap.size ∧ CAt w' gx (mkX m n f).ends ∧ CAt w' gy (mkY m n f).ends) ∧ Below w.heap.size w w' := by
  obtain ⟨i0, hi, hz0, hz1, hz2⟩ := info_parts Tryz.info24
  obtain ⟨bx, hbx, hax⟩ := raxis_b (mkX m n f) hX
  obtain ⟨by_, hby, hay⟩ := raxis_b (mkY m n f) hY
  refine ⟨bx && by_, by rw [Bool.and_eq_true, hbx, hby], ?_⟩
  obtain ⟨la, lc, rfl, hmk⟩ := hm
  have hn4 : n ≤ 8 := hX.few
  have hcl : ∀ i, i < n → 0 ≤ (f i).1 ∧ (f i).1 ≤ 12 := fun i hi => ⟨(hX.cl i hi).1, (hX.cl i hi).2.1⟩
  obtain ⟨W0, hW⟩ : ∃ W0, w.alloc (.cells #[.slice m.sa m.sn m.sc, .int .i64 m.c0, .int .i64 m.c1, .int .i64 m.d0, .int .i64 m.d1, .int .i64 m.w0, .int .i64 m.w1, .int .i64 m.v0, .int .i64 m.v1, .slice m.ra m.rn m.rc] 27) = W0 := ⟨_, rfl⟩
  have hO : Below w.heap.size w W0 := by rw [← hW]; exact (Below.refl _ _).alloc (Nat.le_refl _) _
  have hM : MAt W0 w.heap.size m := by rw [← hW]; exact MAt.new w m
  have hsz : W0.heap.size = w.heap.size + 1 := by rw [← hW, World.size_alloc]
  go_enter Tryz.func61, Tryz.ntmps61
  go_wp2_with fail
  have hR0 : R2X W0 W0.heap.size W0 0 0 (.slice none 0 0) (.slice none 0 0) (fun _ => (-1000, 1000)) (fun _ => (-1000, 1000)) := ⟨⟨rfl, .inl ⟨rfl, rfl⟩⟩, ⟨rfl, .inl ⟨rfl, rfl⟩⟩, (fun _ hx => by cases hx), Below.refl _ _, Nat.le_refl _, Nat.le_refl _⟩
  go_loopw [7, 8, 9] (fun p q i wr => ∃ (k : Nat), k ≤ 13 ∧ i = .int .i64 k ∧ R2X W0 W0.heap.size wr k k p q (fun _ => (-1000, 1000)) (fun _ => (-1000, 1000))) (fun _ _ i _ => 13 - (intOf i).toNat)
  case atStart => exact ⟨0, by omega, rfl, hR0⟩
  case round =>
    clear hR0
    obtain ⟨k, hk, rfl, hRX⟩ := hrel
    have hk0 : (0 : Int) ≤ (k : Int) := Int.natCast_nonneg _
    by_cases hlt : k < 13
    · have hlt' : (k : Int) ≤ 12 := by omega
      have hRA := hRX.below ((Below.refl _ _).alloc (Nat.le_refl _) (Obj.cells #[.int .i64 (-1000), .int .i64 1000] 24))
      have hbg := hRX.big
      go_wp2_with (first
        | (at_builtin; refine wpList_append_lies _ rfl _ _ 120 rfl W0.heap.size 24 i0 (.agg #[.int .i64 0, .int .i64 0]) 2 16 Tryz.underlying120 hi hz0 hz1 hz2 rfl (by decide) _ k _ rfl hRA.o1 ⟨wr.heap.size, 0, none⟩ 1 1 [.int .i64 (-1000), .int .i64 1000] rfl rfl (cells_two _ _ _ _) (by simp [Value.oneCell']) (by decide) (by unfold maxLen; omega) (by omega) hRA.big _ rfl ?_; intro g1 cp1 w1 hown1 hgrow1 hat1 hlt1; have hRB := (hRA.push1 hgrow1 hown1 hat1).below ((Below.refl _ _).alloc (Nat.le_refl _) (Obj.cells #[.int .i64 (-1000), .int .i64 1000] 24)))
        | (at_builtin; refine wpList_append_lies _ rfl _ _ 120 rfl W0.heap.size 24 i0 (.agg #[.int .i64 0, .int .i64 0]) 2 16 Tryz.underlying120 hi hz0 hz1 hz2 rfl (by decide) _ k _ rfl hRB.o2 ⟨w1.heap.size, 0, none⟩ 1 1 [.int .i64 (-1000), .int .i64 1000] rfl rfl (cells_two _ _ _ _) (by simp [Value.oneCell']) (by decide) (by unfold maxLen; omega) (by omega) hRB.big _ rfl ?_; intro g2 cp2 w2 hown2 hgrow2 hat2 hlt2; have hRC := hRB.push2 hgrow2 hown2 hat2))
      clear hown1 hgrow1 hat1 hown2 hgrow2 hat2 hRA hRB
      go_roundw
      case rel => exact ⟨k + 1, by omega, by go_num, hRC⟩
      case measure => simp [intOf]; omega
    · have hk13 : k = 13 := by omega
      have hng : ¬ ((k : Int) ≤ 12) := by omega
      have hR13 : R2X W0 W0.heap.size wr 13 13 u7 u8 (fun _ => (-1000, 1000)) (fun _ => (-1000, 1000)) := hk13 ▸ hRX
      obtain ⟨gx, cx, e7, hc1, hc2, hgl, hgh, hC1⟩ := own_cat hR13.o1
      obtain ⟨gy, cy, e8, hd1, hd2, hhl, hhh, hC2⟩ := own_cat hR13.o2
      have hne : gx ≠ gy := fun e => by
        subst e
        exact hR13.d gx (by rw [e7]; rfl) (by rw [e8]; rfl)
      have hB : BdR W0 gx gy wr := ⟨hR13.old, hgl, hgh, hhl, hhh, hne⟩
      subst e7
      subst e8
      clear hRX hR13
      go_wp2_with fail
      go_loopw [10] (fun i wr => ∃ (k : Nat) (F1 F2 : Nat → Int × Int), k ≤ n ∧ i = .int .i64 k ∧ BdR W0 gx gy wr ∧ CAt wr gx F1 ∧ CAt wr gy F2 ∧ (∀ j, j < 13 → F1 j = nar (j : Int) (mkX m n f).cl k (-1000, 1000)) ∧ ∀ j, j < 13 → F2 j = nar (j : Int) (mkY m n f).cl k (-1000, 1000)) (fun i _ => n - (intOf i).toNat)
      case atStart => exact ⟨0, _, _, Nat.zero_le _, rfl, hB, hC1, hC2, fun _ _ => rfl, fun _ _ => rfl⟩
      case round =>
        clear hB hC1 hC2
        obtain ⟨k, F1, F2, hkn, rfl, hB, hC1, hC2, hF1, hF2⟩ := hrel
        have hk0 : (0 : Int) ≤ (k : Int) := Int.natCast_nonneg _
        by_cases hlt : k < n
        · have hlt' : (k : Int) < (n : Int) := by omega
          obtain ⟨b, off, rfl, hbl, hmp⟩ := hmk (by omega)
          obtain ⟨hq0, hq12⟩ := hcl k hlt
          have hmkk := hmp k hlt
          have hX1 : (mkX m n f).cl k = ((f k).1, (f k).2.1, (f k).2.2.1) := rfl
          have hY1 : (mkY m n f).cl k = ((f k).1, (f k).2.2.2.1, (f k).2.2.2.2) := rfl
          generalize f k = fk at hq0 hq12 hmkk hX1 hY1
          obtain ⟨fq, l0, l1, l2, l3⟩ := fk
          dsimp only at hq0 hq12 hmkk hX1 hY1
          obtain ⟨q, rfl⟩ : ∃ q : Nat, fq = (q : Int) := ⟨fq.toNat, by omega⟩
          have hq13 : q < 13 := by omega
          have hq13' : (q : Int) < 13 := by omega
          have hMk : ∀ W, Below W0.heap.size W0 W → W.cell? ⟨b, off + k * 5, none⟩ = some (.int .i64 q) ∧ W.cell? ⟨b, off + k * 5 + 1, none⟩ = some (.int .i64 l0) ∧ W.cell? ⟨b, off + k * 5 + 2, none⟩ = some (.int .i64 l1) ∧ W.cell? ⟨b, off + k * 5 + 3, none⟩ = some (.int .i64 l2) ∧ W.cell? ⟨b, off + k * 5 + 4, none⟩ = some (.int .i64 l3) := fun W hBW => by
            have hc : ∀ j, W.cell? ⟨b, j, none⟩ = w.cell? ⟨b, j, none⟩ := fun j => ((hBW.mono hO.size).cell (p := ⟨b, j, none⟩) hbl).trans (hO.cell (p := ⟨b, j, none⟩) hbl)
            rw [hc, hc, hc, hc, hc]; exact hmkk
          have j0 := (hMk wr hB.old).1
          have hn1 := put_nar hF1 hq13 (x0 := (F1 q).1) (x1 := (F1 q).2) rfl hX1
          have hn2 := put_nar hF2 hq13 (x0 := (F2 q).1) (x1 := (F2 q).2) rfl hY1
          generalize hxq : F1 q = x at hn1
          generalize hyq : F2 q = y at hn2
          obtain ⟨x0, x1⟩ := x
          obtain ⟨y0, y1⟩ := y
          dsimp only at hn1 hn2
          clear hmkk hmp
          go_wp2_with fail
          refine wp_region_late [25, 27] (fun w9 => BdR W0 gx gy w9) (fun w9 => CAt w9 gx F1 ∧ CAt w9 gy F2) (by kernel_rfl) ?_ (fun hHeld => ?_)
          · (exact ⟨hB.below (Below.refl _ _).drew, hC1.below (Below.refl _ _).drew hB.hx, hC2.below (Below.refl _ _).drew hB.hy⟩)
          refine tk2 0 rfl (by (intro w9 hSw; have j1 := (hMk w9 hSw.old).2.1; have j2 := (hMk w9 hSw.old).2.2.1; have j3 := (hMk w9 hSw.old).2.2.2.1; have j4 := (hMk w9 hSw.old).2.2.2.2; clear hSw; go_simp) <;> with_reducible rfl) hHeld ?_
          refine tk2 1 rfl (by (intro w9 hSw; have j1 := (hMk w9 hSw.old).2.1; have j2 := (hMk w9 hSw.old).2.2.1; have j3 := (hMk w9 hSw.old).2.2.2.1; have j4 := (hMk w9 hSw.old).2.2.2.2; clear hSw; go_simp) <;> with_reducible rfl) hHeld ?_
          refine tk2 2 rfl (by (intro w9 hSw; have j1 := (hMk w9 hSw.old).2.1; have j2 := (hMk w9 hSw.old).2.2.1; have j3 := (hMk w9 hSw.old).2.2.2.1; have j4 := (hMk w9 hSw.old).2.2.2.2; clear hSw; go_simp) <;> with_reducible rfl) hHeld ?_
          refine tk2 3 rfl (by (intro w9 hSw; have j1 := (hMk w9 hSw.old).2.1; have j2 := (hMk w9 hSw.old).2.2.1; have j3 := (hMk w9 hSw.old).2.2.2.1; have j4 := (hMk w9 hSw.old).2.2.2.2; clear hSw; go_simp) <;> with_reducible rfl) hHeld ?_
          refine tk2 4 rfl (by (intro w9 hSw; have j1 := (hMk w9 hSw.old).2.1; have j2 := (hMk w9 hSw.old).2.2.1; have j3 := (hMk w9 hSw.old).2.2.2.1; have j4 := (hMk w9 hSw.old).2.2.2.2; clear hSw; go_simp) <;> with_reducible rfl) hHeld ?_
          refine tk2 5 rfl (by (intro w9 hSw; have j1 := (hMk w9 hSw.old).2.1; have j2 := (hMk w9 hSw.old).2.2.1; have j3 := (hMk w9 hSw.old).2.2.2.1; have j4 := (hMk w9 hSw.old).2.2.2.2; clear hSw; go_simp) <;> with_reducible rfl) hHeld ?_
          refine tk2 6 rfl (by (intro w9 hSw; have j1 := (hMk w9 hSw.old).2.1; have j2 := (hMk w9 hSw.old).2.2.1; have j3 := (hMk w9 hSw.old).2.2.2.1; have j4 := (hMk w9 hSw.old).2.2.2.2; clear hSw; go_simp) <;> with_reducible rfl) hHeld ?_
          refine wpAnyP_take 1 (i := 7) (v := ?_) rfl (by kernel_rfl) (by kernel_rfl) (by kernel_rfl) (by kernel_rfl) (by rfl) (waits_two 1 [] [] (by kernel_rfl) (by kernel_rfl) (by decide) (by decide)) (fun _ _ _ h => h) (Or.inl ⟨by rfl, ?_⟩) hHeld ?_
          rotate_left 1
          · ((intro w9 hSw; have c0 := (hSw.2.1.c q hq13).1; have c1 := (hSw.2.1.c q hq13).2; have d0 := (hSw.2.2.c q hq13).1; have d1 := (hSw.2.2.c q hq13).2; clear hSw; rw [hxq] at c0 c1; rw [hyq] at d0 d1; (try dsimp only at c0 c1 d0 d1); go_simp) <;> with_reducible rfl)
          (try simp only [Act.put, pA, pZ, pS])
          refine tk2 8 rfl (by (intro w9 hSw; have j1 := (hMk w9 hSw.old).2.1; have j2 := (hMk w9 hSw.old).2.2.1; have j3 := (hMk w9 hSw.old).2.2.2.1; have j4 := (hMk w9 hSw.old).2.2.2.2; clear hSw; go_simp) <;> with_reducible rfl) hHeld ?_
          refine tk2 9 rfl (by (intro w9 hSw; have j1 := (hMk w9 hSw.old).2.1; have j2 := (hMk w9 hSw.old).2.2.1; have j3 := (hMk w9 hSw.old).2.2.2.1; have j4 := (hMk w9 hSw.old).2.2.2.2; clear hSw; go_simp) <;> with_reducible rfl) hHeld ?_
          refine tk2 10 rfl (by (intro w9 hSw; have j1 := (hMk w9 hSw.old).2.1; have j2 := (hMk w9 hSw.old).2.2.1; have j3 := (hMk w9 hSw.old).2.2.2.1; have j4 := (hMk w9 hSw.old).2.2.2.2; clear hSw; go_simp) <;> with_reducible rfl) hHeld ?_
          refine tk2 11 rfl (by (intro w9 hSw; have j1 := (hMk w9 hSw.old).2.1; have j2 := (hMk w9 hSw.old).2.2.1; have j3 := (hMk w9 hSw.old).2.2.2.1; have j4 := (hMk w9 hSw.old).2.2.2.2; clear hSw; go_simp) <;> with_reducible rfl) hHeld ?_
          refine tk2 12 rfl (by (intro w9 hSw; have j1 := (hMk w9 hSw.old).2.1; have j2 := (hMk w9 hSw.old).2.2.1; have j3 := (hMk w9 hSw.old).2.2.2.1; have j4 := (hMk w9 hSw.old).2.2.2.2; clear hSw; go_simp) <;> with_reducible rfl) hHeld ?_
          refine tk2 14 rfl (by (intro w9 hSw; have j1 := (hMk w9 hSw.old).2.1; have j2 := (hMk w9 hSw.old).2.2.1; have j3 := (hMk w9 hSw.old).2.2.2.1; have j4 := (hMk w9 hSw.old).2.2.2.2; clear hSw; go_simp) <;> with_reducible rfl) hHeld ?_
          refine tk2 15 rfl (by (intro w9 hSw; have j1 := (hMk w9 hSw.old).2.1; have j2 := (hMk w9 hSw.old).2.2.1; have j3 := (hMk w9 hSw.old).2.2.2.1; have j4 := (hMk w9 hSw.old).2.2.2.2; clear hSw; go_simp) <;> with_reducible rfl) hHeld ?_
          refine tk2 16 rfl (by (intro w9 hSw; have j1 := (hMk w9 hSw.old).2.1; have j2 := (hMk w9 hSw.old).2.2.1; have j3 := (hMk w9 hSw.old).2.2.2.1; have j4 := (hMk w9 hSw.old).2.2.2.2; clear hSw; go_simp) <;> with_reducible rfl) hHeld ?_
          refine wpAnyP_take 1 (i := 17) (v := ?_) rfl (by kernel_rfl) (by kernel_rfl) (by kernel_rfl) (by kernel_rfl) (by rfl) (waits_two 1 [] [] (by kernel_rfl) (by kernel_rfl) (by decide) (by decide)) (fun _ _ _ h => h) (Or.inl ⟨by rfl, ?_⟩) hHeld ?_
          rotate_left 1
          · ((intro w9 hSw; have c0 := (hSw.2.1.c q hq13).1; have c1 := (hSw.2.1.c q hq13).2; have d0 := (hSw.2.2.c q hq13).1; have d1 := (hSw.2.2.c q hq13).2; clear hSw; rw [hxq] at c0 c1; rw [hyq] at d0 d1; (try dsimp only at c0 c1 d0 d1); go_simp) <;> with_reducible rfl)
          (try simp only [Act.put, pA, pZ, pS])
          refine tk2 18 rfl (by (intro w9 hSw; have j1 := (hMk w9 hSw.old).2.1; have j2 := (hMk w9 hSw.old).2.2.1; have j3 := (hMk w9 hSw.old).2.2.2.1; have j4 := (hMk w9 hSw.old).2.2.2.2; clear hSw; go_simp) <;> with_reducible rfl) hHeld ?_
          refine tk2 19 rfl (by (intro w9 hSw; have j1 := (hMk w9 hSw.old).2.1; have j2 := (hMk w9 hSw.old).2.2.1; have j3 := (hMk w9 hSw.old).2.2.2.1; have j4 := (hMk w9 hSw.old).2.2.2.2; clear hSw; go_simp) <;> with_reducible rfl) hHeld ?_
          refine tk2 20 rfl (by (intro w9 hSw; have j1 := (hMk w9 hSw.old).2.1; have j2 := (hMk w9 hSw.old).2.2.1; have j3 := (hMk w9 hSw.old).2.2.2.1; have j4 := (hMk w9 hSw.old).2.2.2.2; clear hSw; go_simp) <;> with_reducible rfl) hHeld ?_
          refine tk2 21 rfl (by (intro w9 hSw; have j1 := (hMk w9 hSw.old).2.1; have j2 := (hMk w9 hSw.old).2.2.1; have j3 := (hMk w9 hSw.old).2.2.2.1; have j4 := (hMk w9 hSw.old).2.2.2.2; clear hSw; go_simp) <;> with_reducible rfl) hHeld ?_
          refine tk2 22 rfl (by (intro w9 hSw; have j1 := (hMk w9 hSw.old).2.1; have j2 := (hMk w9 hSw.old).2.2.1; have j3 := (hMk w9 hSw.old).2.2.2.1; have j4 := (hMk w9 hSw.old).2.2.2.2; clear hSw; go_simp) <;> with_reducible rfl) hHeld ?_
          refine rd1 13 rfl (fun K hK => ?_)
          go_simp
          (go_at_call 101; with_reducible refine (rcommon_any _ _ _ _ _).mono ?_; rintro e w5 ⟨rfl, hb5⟩)
          refine hK.out _ _ ?_ (fun hHeld => ?_)
          · (exact ⟨hHeld.1.below hb5, hHeld.2.1.below hb5 hHeld.1.hx, hHeld.2.2.below hb5 hHeld.1.hy⟩)
          clear hK K
          (try simp only [Act.put, pA, pZ, pS])
          refine rd1 23 rfl (fun K hK => ?_)
          go_simp
          (go_at_call 101; with_reducible refine (rcommon_any _ _ _ _ _).mono ?_; rintro e w6 ⟨rfl, hb6⟩)
          refine hK.out _ _ ?_ (fun hHeld => ?_)
          · (exact ⟨hHeld.1.below hb6, hHeld.2.1.below hb6 hHeld.1.hx, hHeld.2.2.below hb6 hHeld.1.hy⟩)
          clear hK K
          (try simp only [Act.put, pA, pZ, pS])
          refine tk2 24 rfl (by (intro w9 hSw; have j1 := (hMk w9 hSw.old).2.1; have j2 := (hMk w9 hSw.old).2.2.1; have j3 := (hMk w9 hSw.old).2.2.2.1; have j4 := (hMk w9 hSw.old).2.2.2.2; clear hSw; go_simp) <;> with_reducible rfl) hHeld ?_
          refine wpAnyP_ready (rs := [25]) (by kernel_rfl) (by simp) ?_
          refine AllReadyP.behind (o := _) rfl (by kernel_rfl) (fun K hK => ?_) AllReadyP.nil
          · have c0 := (hHeld.2.1.c q hq13).1
            have c1 := (hHeld.2.1.c q hq13).2
            have z0 := hHeld.2.1.z (q * 2)
            have z1 := hHeld.2.1.z (q * 2 + 1)
            have hCs := hHeld.2.1.store q hq13 (max x0 l0) (min x1 l1)
            have hDs := hHeld.2.2.far2 hHeld.1.ne (q * 2) (q * 2 + 1) (.int .i64 (max x0 l0)) (.int .i64 (min x1 l1))
            go_simp
            refine hK.out _ _ ?_ (fun hHeld => ?_)
            · (exact hHeld.1.storeX _ _ _ _)
            clear hK K
            (try simp only [Act.put, pA, pZ, pS])
            refine wpAnyP_takeB (i := 26) (v := ?_) rfl (by kernel_rfl) (by kernel_rfl) (by kernel_rfl) (by kernel_rfl) (by rfl) (by kernel_rfl) (fun _ _ _ h => h) (Or.inl ⟨by rfl, ?_⟩) hHeld ?_
            rotate_left 1
            · ((intro w9 hSw; have j1 := (hMk w9 hSw.old).2.1; have j2 := (hMk w9 hSw.old).2.2.1; have j3 := (hMk w9 hSw.old).2.2.2.1; have j4 := (hMk w9 hSw.old).2.2.2.2; clear hSw; go_simp) <;> with_reducible rfl)
            (try simp only [Act.put, pA, pZ, pS])
            refine wpAnyP_ready (rs := [27]) (by kernel_rfl) (by simp) ?_
            refine AllReadyP.behind (o := _) rfl (by kernel_rfl) (fun K hK => ?_) AllReadyP.nil
            · have d0 := (hDs.c q hq13).1
              have d1 := (hDs.c q hq13).2
              have z2 := hDs.z (q * 2)
              have z3 := hDs.z (q * 2 + 1)
              have hDt := hDs.store q hq13 (max y0 l2) (min y1 l3)
              have hCt := hCs.far2 (Ne.symm hHeld.ne) (q * 2) (q * 2 + 1) (.int .i64 (max y0 l2)) (.int .i64 (min y1 l3))
              go_simp
              refine hK.out _ _ ?_ (fun hHeld => ?_)
              · (exact hHeld.storeY _ _ _ _)
              clear hK K
              (try simp only [Act.put, pA, pZ, pS])
              refine wpAnyP_done (by kernel_rfl) ?_ _
              (try simp only [Act.put, List.getElem_toArray, List.getElem_cons_zero, List.getElem_cons_succ, pA, pZ, pS])
              clear c0 c1 z0 z1 d0 d1 z2 z3 hb5 hb6 hB hC1 hC2 hDs hCs
              go_wp2_with fail
              go_roundw
              case rel => exact ⟨k + 1, _, _, by omega, by go_num, hHeld, hCt, hDt, hn1, hn2⟩
              case measure => simp [intOf]; omega
        · have hkk : k = n := by omega
          have hng : ¬ ((k : Int) < (n : Int)) := by omega
          subst hkk
          have hM1 := hM.below hB.old (by omega)
          obtain ⟨p0, p1, p2, p3, p4, p5, p6, p7, p8, p9⟩ := id hM1
          have hxc : ∀ W, BdR W0 gx gy W → CAt W gx F1 → Calls Tryz.prog 102 #[.agg #[.int .i64 m.c0, .int .i64 m.c1], .agg #[.int .i64 m.w0, .int .i64 m.w1], .slice (some ⟨gx, 0, none⟩) 13 cx] W fun e w' => ∃ v, e = .returned (.tuple #[v, .bool bx]) ∧ (bx = true → ∃ g c, v = .slice (some ⟨g, 0, none⟩) 13 c ∧ W.heap.size ≤ g ∧ g < w'.heap.size ∧ CAt w' g (mkX m k f).ends) ∧ Below W.heap.size W w' := fun W h1 h2 => hax gx cx F1 W h1.hx h2 (fun j hj => hF1 j (by omega)) hc1 hc2
          have hyc : ∀ W, BdR W0 gx gy W → CAt W gy F2 → Calls Tryz.prog 102 #[.agg #[.int .i64 m.d0, .int .i64 m.d1], .agg #[.int .i64 m.v0, .int .i64 m.v1], .slice (some ⟨gy, 0, none⟩) 13 cy] W fun e w' => ∃ v, e = .returned (.tuple #[v, .bool by_]) ∧ (by_ = true → ∃ g c, v = .slice (some ⟨g, 0, none⟩) 13 c ∧ W.heap.size ≤ g ∧ g < w'.heap.size ∧ CAt w' g (mkY m k f).ends) ∧ Below W.heap.size W w' := fun W h1 h2 => hay gy cy F2 W h1.hy h2 (fun j hj => hF2 j (by omega)) hd1 hd2
          clear hax hay hbx hby hmk hX hY hcl hi hz0 hz1 hz2 hF1 hF2 hn4 hng hlt hkn hk0 hk hk13
          cases bx <;> cases by_
          all_goals
            go_wp2_with (first
              | (go_at_call 102; with_reducible refine (hxc _ hB hC1).mono ?_; rintro e w7 ⟨v7, rfl, hy7, hb7⟩; have hC7 := hC2.below hb7 hB.hy; have hB7 := hB.below hb7; have hM7 := hM.below hB7.old (by omega); obtain ⟨r0, r1, r2, r3, r4, r5, r6, r7, r8, r9⟩ := id hM7)
              | (go_at_call 102; with_reducible refine (hyc _ hB7 hC7).mono ?_; rintro e w8 ⟨v8, rfl, hy8, hb8⟩; have hB8 := hB7.below hb8))
            go_ret3
            refine ⟨_, _, rfl, fun h => ?_, hO.trans (hB8.old.mono hO.size)⟩
            first
              | (exact absurd h (by decide))
              | (obtain ⟨g1, d1, rfl, hl1, hg1, hE1⟩ := hy7 (by first | rfl | trivial)
                 obtain ⟨g2, d2, rfl, hl2, hg2, hE2⟩ := hy8 (by first | rfl | trivial)
                 have hs7 := (hO.trans (hB.old.mono hO.size)).size
                 have hs8 := (hO.trans (hB7.old.mono hO.size)).size
                 exact ⟨g1, d1, g2, d2, rfl, rfl, Nat.le_trans hs7 hl1, Nat.le_trans hs8 hl2, Nat.lt_of_lt_of_le hg1 hb8.size, hg2, hE1.below hb8 hg1, hE2⟩)
end Go.Proofs.YtjhpklolpmaopaaGreatDoor
namespace Go.Proofs.YtjhpklolpmaopaaGreatDoor
open Go.RowKit
end Go.Proofs.YtjhpklolpmaopaaGreatDoor
namespace Go.Proofs.YtjhpklolpmaopaaGreatDoor
open Go.RowKit
theorem readB_iff {B X Y E : Int} : readB B X Y E = true ↔ inB B 0 12 = true ∧ inB X (-80) 80 = true ∧ inB Y (-80) 80 = true ∧ inB E 0 4 = true := by
 unfold readB ptB
 simp only [Bool.and_eq_true]
 constructor
 ·rintro ⟨a, ⟨b, c⟩, d⟩; exact ⟨a, b, c, d⟩
 ·rintro ⟨a, b, c, d⟩; exact ⟨a, ⟨b, c⟩, d⟩
theorem okReads_no {m : Mach} {i : Nat} (hi : i < m.rn) (h : readB (m.RB i) (m.RX i) (m.RY i) (m.RE i) = false) : m.ok = false := by
 have : m.okReads = false := by
  unfold Mach.okReads
  cases hx : anyB (fun i => !readB (m.RB i) (m.RX i) (m.RY i) (m.RE i)) m.rn with
  | true => rfl
  | false =>
   have := anyB_no.1 hx i hi
   rw [h] at this; cases this
 unfold Mach.ok
 rw [this]; simp
theorem okReads_yes {m : Mach} (h : ∀ i, i < m.rn → readB (m.RB i) (m.RX i) (m.RY i) (m.RE i) = true) : m.ok = (ponB m.sn 2 4 m.SX m.SY 20 && (decide ((m.rn : Int) ≤ 4) && m.okSpans)) := by
 have : m.okReads = true := by
  unfold Mach.okReads
  rw [anyB_no.2 fun i hi => by rw [h i hi]; rfl]; rfl
 unfold Mach.ok Mach.okStops
 rw [this, arB_pon2, Bool.and_true]
set_option maxRecDepth 100000 in
set_option maxHeartbeats 4000000 in
theorem rmachine_any (m : Mach) (w : World) (hs : m.sn ≤ 1000) (hr : m.rn ≤ 1000) (h : MIn w m) :
  Calls Tryz.prog 7 #[m.val] w fun e w' => e = .returned (.bool m.ok) ∧ Below w.heap.size w w' := by
 have hno := fun i hi h => okReads_no (m := m) (i := i) hi h
 have hyes := okReads_yes (m := m)
 unfold Mach.okSpans at hyes
 generalize m.ok = ok at *
 obtain ⟨sa, sn, sc, SX, SY, c0, c1, d0, d1, w0, w1, v0, v1, ra, rn, rc, RB, RX, RY, RE⟩ := m
 obtain ⟨h1, h2⟩ := h
 dsimp only [Mach.val] at *
 obtain ⟨W0, hW⟩ : ∃ W0, w.alloc (.cells #[.slice sa sn sc, .int .i64 c0, .int .i64 c1, .int .i64 d0, .int .i64 d1, .int .i64 w0, .int .i64 w1, .int .i64 v0, .int .i64 v1, .slice ra rn rc] 27) = W0 := ⟨_, rfl⟩
 have hw0 : Below w.heap.size w W0 := by rw [← hW]; exact (Below.refl _ _).alloc (Nat.le_refl _) _
 have hsz : W0.heap.size = w.heap.size + 1 := by rw [← hW]; exact World.size_alloc _ _
 have hMA : MAt W0 w.heap.size ⟨sa, sn, sc, SX, SY, c0, c1, d0, d1, w0, w1, v0, v1, ra, rn, rc, RB, RX, RY, RE⟩ := by rw [← hW]; exact MAt.new w ⟨sa, sn, sc, SX, SY, c0, c1, d0, d1, w0, w1, v0, v1, ra, rn, rc, RB, RX, RY, RE⟩
 have g1 := h1.below hw0
 have g2 := h2.below hw0
 go_enter Tryz.func7, Tryz.ntmps7
 go_wp2
 go_loopw [3] (fun i wr => ∃ k : Nat, k ≤ rn ∧ i = .int .i64 k ∧ Below W0.heap.size W0 wr ∧ ∀ j, j < k → readB (RB j) (RX j) (RY j) (RE j) = true) (fun i _ => rn - (intOf i).toNat)
 case atStart => exact ⟨0, Nat.zero_le _, rfl, Below.refl _ _, fun _ h => absurd h (Nat.not_lt_zero _)⟩
 case round =>
  obtain ⟨i, hi, rfl, hbl, hall⟩ := hrel
  have hMB := hMA.below hbl (by omega)
  have k9 := hMB.k9
  dsimp only at k9
  by_cases hlt : i < rn
  ·rcases g2 with ⟨_, _, _, h0⟩ | ⟨b, off, cap, e, hb, hp⟩
   ·omega
   ·cases e
    obtain ⟨e1, e2, e3, e4⟩ := hp.below hbl hb i hlt
    have hi0 : (0 : Int) ≤ (i : Int) := Int.natCast_nonneg _
    have hi1 : (i : Int) < (rn : Int) := by omega
    have hrb := @readB_iff (RB i) (RX i) (RY i) (RE i)
    have hno' := hno i hlt
    cases q1 : inB (RB i) 0 12 with
    | false =>
     have hz0 := hno' (by cases hz : readB (RB i) (RX i) (RY i) (RE i) with | false => rfl | true => have := (hrb.1 hz).1; rw [q1] at this; cases this)
     go_wp2_with (first
      | (go_at_call 9; refine (rblank_any _ _ _).mono ?_; rw [q1]; rintro e w' ⟨rfl, rfl⟩))
     go_ret
     exact ⟨ret_bool hz0.symm, hw0.trans ((hbl.trans (((Below.refl _ _).alloc (Nat.le_refl _) _).mono hbl.size)).mono hw0.size)⟩
    | true =>
     cases q2 : inB (RX i) (-80) 80 with
     | false =>
      have hz0 := hno' (by cases hz : readB (RB i) (RX i) (RY i) (RE i) with | false => rfl | true => have := (hrb.1 hz).2.1; rw [q2] at this; cases this)
      go_wp2_with (first
       | (go_at_call 9; refine (rblank_any _ _ _).mono ?_; rw [q1]; rintro e w' ⟨rfl, rfl⟩)
       | (go_at_call 25; refine (in_any _ _ _ _).mono ?_; rw [q2]; rintro e w' ⟨rfl, rfl⟩))
      go_ret
      exact ⟨ret_bool hz0.symm, hw0.trans ((hbl.trans (((Below.refl _ _).alloc (Nat.le_refl _) _).mono hbl.size)).mono hw0.size)⟩
     | true =>
      cases q3 : inB (RY i) (-80) 80 with
      | false =>
       have hz0 := hno' (by cases hz : readB (RB i) (RX i) (RY i) (RE i) with | false => rfl | true => have := (hrb.1 hz).2.2.1; rw [q3] at this; cases this)
       go_wp2_with (first
        | (go_at_call 9; refine (rblank_any _ _ _).mono ?_; rw [q1]; rintro e w' ⟨rfl, rfl⟩)
        | (go_at_call 25; refine (in_any _ _ _ _).mono ?_; (first | rw [q2] | rw [q3]); rintro e w' ⟨rfl, rfl⟩))
       go_ret
       exact ⟨ret_bool hz0.symm, hw0.trans ((hbl.trans (((Below.refl _ _).alloc (Nat.le_refl _) _).mono hbl.size)).mono hw0.size)⟩
      | true =>
       cases q4 : inB (RE i) 0 4 with
       | false =>
        have hz0 := hno' (by cases hz : readB (RB i) (RX i) (RY i) (RE i) with | false => rfl | true => have := (hrb.1 hz).2.2.2; rw [q4] at this; cases this)
        go_wp2_with (first
         | (go_at_call 9; refine (rblank_any _ _ _).mono ?_; rw [q1]; rintro e w' ⟨rfl, rfl⟩)
         | (go_at_call 25; refine (in_any _ _ _ _).mono ?_; (first | rw [q2] | rw [q3] | rw [q4]); rintro e w' ⟨rfl, rfl⟩))
        go_ret
        exact ⟨ret_bool hz0.symm, hw0.trans ((hbl.trans (((Below.refl _ _).alloc (Nat.le_refl _) _).mono hbl.size)).mono hw0.size)⟩
       | true =>
        go_wp2_with (first
         | (go_at_call 9; refine (rblank_any _ _ _).mono ?_; rw [q1]; rintro e w' ⟨rfl, rfl⟩)
         | (go_at_call 25; refine (in_any _ _ _ _).mono ?_; (first | rw [q2] | rw [q3] | rw [q4]); rintro e w' ⟨rfl, rfl⟩))
        go_roundw
        case rel => exact ⟨i + 1, by omega, by go_num, hbl.trans (((Below.refl _ _).alloc (Nat.le_refl _) _).mono hbl.size), all_succ (p := fun j => readB (RB j) (RX j) (RY j) (RE j) = true) hall (hrb.2 ⟨q1, q2, q3, q4⟩)⟩
        case measure => simp [intOf]; omega
  ·obtain rfl : rn = i := by omega
   have hok := hyes hall
   have hB := hbl
   have k0 := hMB.k0; have k1 := hMB.k1; have k2 := hMB.k2; have k3 := hMB.k3; have k4 := hMB.k4; have k5 := hMB.k5; have k6 := hMB.k6; have k7 := hMB.k7; have k8 := hMB.k8
   dsimp only at k0 k1 k2 k3 k4 k5 k6 k7 k8
   have hs1 := fun W => rspan_any c0 c1 (-12) 12 6 (by omega) (by omega) W
   have hs2 := fun W => rspan_any d0 d1 (-12) 12 6 (by omega) (by omega) W
   have hs3 := fun W => rspan_any w0 w1 (-3) 3 2 (by omega) (by omega) W
   have hs4 := fun W => rspan_any v0 v1 (-3) 3 2 (by omega) (by omega) W
   have hpo := fun (W : World) (hb : Below W0.heap.size W0 W) => points_any (.slice sa sn sc) sn 2 4 SX SY 20 (by omega) (by omega) W hs (g1.below hb)
   generalize spanR c0 c1 (-12) 12 6 = x1 at *
   generalize spanR d0 d1 (-12) 12 6 = x2 at *
   generalize spanR w0 w1 (-3) 3 2 = x3 at *
   generalize spanR v0 v1 (-3) 3 2 = x4 at *
   generalize ponB sn 2 4 SX SY 20 = x5 at *
   cases x1 <;> cases x2 <;> cases x3 <;> cases x4 <;> cases x5
   all_goals
    simp only [Bool.and_true, Bool.and_false, Bool.true_and, Bool.false_and] at hok
    go_wp2_with (first
     | (go_at_call 26; with_reducible refine (hs1 _).mono ?_; rintro e w' ⟨rfl, hb⟩; replace hB := hB.trans (hb.mono hB.size); have hMB := hMA.below hB (by omega); have k0 := hMB.k0; have k3 := hMB.k3; have k4 := hMB.k4; have k5 := hMB.k5; have k6 := hMB.k6; have k7 := hMB.k7; have k8 := hMB.k8; have k9 := hMB.k9; dsimp only at k0 k3 k4 k5 k6 k7 k8 k9)
     | (go_at_call 26; with_reducible refine (hs2 _).mono ?_; rintro e w' ⟨rfl, hb⟩; replace hB := hB.trans (hb.mono hB.size); have hMB := hMA.below hB (by omega); have k0 := hMB.k0; have k3 := hMB.k3; have k4 := hMB.k4; have k5 := hMB.k5; have k6 := hMB.k6; have k7 := hMB.k7; have k8 := hMB.k8; have k9 := hMB.k9; dsimp only at k0 k3 k4 k5 k6 k7 k8 k9)
     | (go_at_call 26; with_reducible refine (hs3 _).mono ?_; rintro e w' ⟨rfl, hb⟩; replace hB := hB.trans (hb.mono hB.size); have hMB := hMA.below hB (by omega); have k0 := hMB.k0; have k3 := hMB.k3; have k4 := hMB.k4; have k5 := hMB.k5; have k6 := hMB.k6; have k7 := hMB.k7; have k8 := hMB.k8; have k9 := hMB.k9; dsimp only at k0 k3 k4 k5 k6 k7 k8 k9)
     | (go_at_call 26; with_reducible refine (hs4 _).mono ?_; rintro e w' ⟨rfl, hb⟩; replace hB := hB.trans (hb.mono hB.size); have hMB := hMA.below hB (by omega); have k0 := hMB.k0; have k3 := hMB.k3; have k4 := hMB.k4; have k5 := hMB.k5; have k6 := hMB.k6; have k7 := hMB.k7; have k8 := hMB.k8; have k9 := hMB.k9; dsimp only at k0 k3 k4 k5 k6 k7 k8 k9)
     | (go_at_call 27; with_reducible refine (hpo _ hB).mono ?_; rintro e w' ⟨rfl, rfl⟩))
    go_ret
    exact ⟨ret_bool hok.symm, hw0.trans (hB.mono hw0.size)⟩
end Go.Proofs.YtjhpklolpmaopaaGreatDoor
namespace Go.Proofs.YtjhpklolpmaopaaGreatDoor
open Go.RowKit
end Go.Proofs.YtjhpklolpmaopaaGreatDoor
namespace Go.Proofs.YtjhpklolpmaopaaGreatDoor
open Go.RowKit
end Go.Proofs.YtjhpklolpmaopaaGreatDoor
namespace Go.Proofs.YtjhpklolpmaopaaGreatDoor
open Go.RowKit
def Mach.axX (m : Mach) : Axis := ⟨m.c0, m.c1, m.w0, m.w1, m.rn, fun i => (m.RB i, m.RX i - m.RE i, m.RX i + m.RE i)⟩
def Mach.axY (m : Mach) : Axis := ⟨m.d0, m.d1, m.v0, m.v1, m.rn, fun i => (m.RB i, m.RY i - m.RE i, m.RY i + m.RE i)⟩
theorem Mach.ok_parts {m : Mach} (h : m.ok = true) : m.okStops = true ∧ m.rn ≤ 4 ∧ m.okSpans = true ∧ ∀ i, i < m.rn → readB (m.RB i) (m.RX i) (m.RY i) (m.RE i) = true := by
 unfold Mach.ok at h
 simp only [Bool.and_eq_true, decide_eq_true_eq] at h
 obtain ⟨h1, h2, h3, h4⟩ := h
 refine ⟨h1, by omega, h3, fun i hi => ?_⟩
 unfold Mach.okReads at h4
 rw [Bool.not_eq_true'] at h4
 have := anyB_no.1 h4 i hi
 rwa [Bool.not_eq_false'] at this
theorem Mach.reads {m : Mach} (h : m.ok = true) (i : Nat) (hi : i < m.rn) : (0 ≤ m.RB i ∧ m.RB i ≤ 12) ∧ (-80 ≤ m.RX i ∧ m.RX i ≤ 80) ∧ (-80 ≤ m.RY i ∧ m.RY i ≤ 80) ∧ (0 ≤ m.RE i ∧ m.RE i ≤ 4) := by
 obtain ⟨a, b, c, d⟩ := readB_iff.1 ((Mach.ok_parts h).2.2.2 i hi)
 exact ⟨inB_iff.1 a, inB_iff.1 b, inB_iff.1 c, inB_iff.1 d⟩
theorem Mach.fineX {m : Mach} (h : m.ok = true) : m.axX.fine := by
 obtain ⟨h1, h2, h3, h4⟩ := Mach.ok_parts h
 unfold Mach.okSpans at h3
 simp only [Bool.and_eq_true] at h3
 obtain ⟨s1, s2, s3, s4⟩ := h3
 have s1 := spanR_iff.1 s1
 have s3 := spanR_iff.1 s3
 refine ⟨by show _ ≤ m.c0 ∧ m.c0 ≤ m.c1 ∧ m.c1 ≤ _; omega, by show _ ≤ m.w0 ∧ m.w0 ≤ m.w1 ∧ m.w1 ≤ _; omega, by show m.rn ≤ 8; omega, fun i hi => ?_⟩
 have := Mach.reads h i hi
 show 0 ≤ m.RB i ∧ m.RB i ≤ 12 ∧ -110 ≤ m.RX i - m.RE i ∧ m.RX i - m.RE i ≤ 110 ∧ -110 ≤ m.RX i + m.RE i ∧ m.RX i + m.RE i ≤ 110
 omega
theorem Mach.fineY {m : Mach} (h : m.ok = true) : m.axY.fine := by
 obtain ⟨h1, h2, h3, h4⟩ := Mach.ok_parts h
 unfold Mach.okSpans at h3
 simp only [Bool.and_eq_true] at h3
 obtain ⟨s1, s2, s3, s4⟩ := h3
 have s1 := spanR_iff.1 s2
 have s3 := spanR_iff.1 s4
 refine ⟨by show _ ≤ m.d0 ∧ m.d0 ≤ m.d1 ∧ m.d1 ≤ _; omega, by show _ ≤ m.v0 ∧ m.v0 ≤ m.v1 ∧ m.v1 ≤ _; omega, by show m.rn ≤ 8; omega, fun i hi => ?_⟩
 have := Mach.reads h i hi
 show 0 ≤ m.RB i ∧ m.RB i ≤ 12 ∧ -110 ≤ m.RY i - m.RE i ∧ m.RY i - m.RE i ≤ 110 ∧ -110 ≤ m.RY i + m.RE i ∧ m.RY i + m.RE i ≤ 110
 omega
/-- a studied machine's cells: the machine's, and those of two courses. -/
def Mach.cells (m : Mach) : List Value := [.slice m.sa m.sn m.sc, .int .i64 m.c0, .int .i64 m.c1, .int .i64 m.d0, .int .i64 m.d1, .int .i64 m.w0, .int .i64 m.w1, .int .i64 m.v0, .int .i64 m.v1, .slice m.ra m.rn m.rc]
def Mach.st (m : Mach) (X Y : List Value) : List Value := m.cells ++ (X ++ Y)
theorem Mach.st_length (m : Mach) {X Y : List Value} (hx : X.length = 26) (hy : Y.length = 26) : (m.st X Y).length = 62 := by
 unfold Mach.st Mach.cells
 simp [hx, hy]
theorem Mach.st_cells (m : Mach) {X Y : List Value} (hx : X.length = 26) (hy : Y.length = 26) : SCells (m.st X Y).toArray m :=
 ⟨by rw [List.size_toArray]; exact m.st_length hx hy, rfl, rfl, rfl, rfl, rfl, rfl, rfl, rfl, rfl, rfl⟩
theorem Mach.st_one (m : Mach) {X Y : List Value} (hx : ∀ v ∈ X, v.oneCell' = true) (hy : ∀ v ∈ Y, v.oneCell' = true) : ∀ v ∈ m.st X Y, v.oneCell' = true := fun v hv => by
 unfold Mach.st Mach.cells at hv
 simp only [List.mem_append, List.mem_cons, List.not_mem_nil, or_false] at hv
 rcases hv with h | h | h
 ·rcases h with rfl | rfl | rfl | rfl | rfl | rfl | rfl | rfl | rfl | rfl <;> rfl
 ·exact hx v h
 ·exact hy v h
def zero26 : List Value := [.int .i64 0, .int .i64 0, .int .i64 0, .int .i64 0, .int .i64 0, .int .i64 0, .int .i64 0, .int .i64 0, .int .i64 0, .int .i64 0, .int .i64 0, .int .i64 0, .int .i64 0, .int .i64 0, .int .i64 0, .int .i64 0, .int .i64 0, .int .i64 0, .int .i64 0, .int .i64 0, .int .i64 0, .int .i64 0, .int .i64 0, .int .i64 0, .int .i64 0, .int .i64 0]
theorem zero26_one : ∀ v ∈ zero26, v.oneCell' = true := fun v hv => by
 unfold zero26 at hv
 simp only [List.mem_cons, List.not_mem_nil, or_false, or_self] at hv
 subst hv; rfl
set_option maxRecDepth 100000 in
set_option maxHeartbeats 4000000 in
theorem axes_any (L : List Value) (hL : L.length = 62) (w : World) :
  Calls Tryz.prog 57 #[.agg L.toArray] w fun e w' => e = .returned (.agg #[.func (.func 95) #[.agg L.toArray] #[], .func (.func 96) #[.agg L.toArray] #[]]) ∧ Below w.heap.size w w' := by
 have hmf : ∀ (fn : Fn) (first cap : Array Value) (w : World), (Instr.makeFunc fn first cap).run Tryz.prog w = .ok (.func fn first cap) w := fun _ _ _ _ => rfl
 have hi0 : (Tryz.prog.info? 93).map (·.size) = some 62 := by kernel_rfl
 have hi : (Tryz.prog.info? 93).map (·.size) = some L.length := by rw [hL]; exact hi0
 obtain ⟨W0, hW0⟩ : ∃ W0, (w.alloc (Obj.cells L.toArray 93)).alloc (Obj.cells #[.nilFunc, .nilFunc] 110) = W0 := ⟨_, rfl⟩
 have hrg : W0.rangeAt w.heap.size 0 L := by
  rw [← hW0]
  refine World.rangeAt_alloc (fun j v hj => ?_) _
  rw [Nat.zero_add]; exact cells_new w _ _ (by rw [List.getElem?_toArray]; exact hj)
 have hb0 : Below w.heap.size w W0 := by rw [← hW0]; exact ((Below.refl _ _).alloc (Nat.le_refl _) _).alloc (by rw [World.size_alloc]; omega) _
 have k0 : W0.cell? ⟨w.heap.size + 1, 0, none⟩ = some .nilFunc := by
  have h := cells_new (w.alloc (Obj.cells L.toArray 93)) #[.nilFunc, .nilFunc] 110 (j := 0) rfl
  rw [World.size_alloc, hW0] at h; exact h
 have k1 : W0.cell? ⟨w.heap.size + 1, 1, none⟩ = some .nilFunc := by
  have h := cells_new (w.alloc (Obj.cells L.toArray 93)) #[.nilFunc, .nilFunc] 110 (j := 1) rfl
  rw [World.size_alloc, hW0] at h; exact h
 have z0 : W0.frozen? ⟨w.heap.size + 1, 0, none⟩ = false := by
  rw [← hW0]; simp [go_sem]
 have z1 : W0.frozen? ⟨w.heap.size + 1, 1, none⟩ = false := by
  rw [← hW0]; simp [go_sem]
 clear hi0 hL
 go_enter Tryz.func57, Tryz.ntmps57
 go_wp2_with (first
  | (refine wpList_load_mid rfl 93 _ rfl w.heap.size 0 rfl L _ (by first | exact hrg | (rw [hW0]; exact hrg)) Tryz.underlying93 rfl hi ?_))
 refine bodyPost_ret (v := .agg #[.func (.func 95) #[.agg L.toArray] #[], .func (.func 96) #[.agg L.toArray] #[]]) (by simp [results, Tryz.results57, go_sem, k0, k1]) rfl ⟨rfl, (hb0.setCell (p := ⟨w.heap.size + 1, 0, none⟩) (Nat.le_succ _) _).setCell (p := ⟨w.heap.size + 1, 1, none⟩) (Nat.le_succ _) _⟩
end Go.Proofs.YtjhpklolpmaopaaGreatDoor
