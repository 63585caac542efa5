/- A part of the proof: see the last file. -/
import Derived.Test.YtjhpklolpmaopaaGreatDoorPac
set_option linter.unusedVariables false
set_option linter.unusedSimpArgs false
set_option linter.unusedSectionVars false
namespace Go.Proofs.YtjhpklolpmaopaaGreatDoor
open Go.RowKit Go.Shelf
attribute [local go_sem] Oper.semAt_some
def scanP (f : Nat → Option (List Nat)) : Nat → Nat → Option (Nat × List Nat)
  | _, 0 => none
  | j, m+1 => match f j with
    | some q => some (j, q)
    | none => scanP f (j+1) m
theorem scanP_no {f : Nat → Option (List Nat)} {j n : Nat} (h : j < n) (hf : f j = none) : scanP f j (n - j) = scanP f (j+1) (n - (j+1)) := by
  obtain ⟨m, hm⟩ : ∃ m, n - j = m + 1 := ⟨n - j - 1, by omega⟩
  rw [hm, show n - (j+1) = m by omega]; conv => lhs; unfold scanP
  rw [hf]
theorem scanP_yes {f : Nat → Option (List Nat)} {j n : Nat} {q : List Nat} (h : j < n) (hf : f j = some q) : scanP f j (n - j) = some (j, q) := by
  obtain ⟨m, hm⟩ : ∃ m, n - j = m + 1 := ⟨n - j - 1, by omega⟩
  rw [hm]; unfold scanP
  rw [hf]
def fitB (HX HY PX PY : Nat → Int) (r : Int) (t i j : Nat) : Bool := nearB (HX i) (HY i) (trn t (PX j, PY j)).1 (trn t (PX j, PY j)).2 r
/-- the first turn and order with which the points are of the holes. -/
def matchS (many : Nat) (HX HY PX PY : Nat → Int) (r : Int) : Option (Nat × List Nat) := scanP (fun t => firstC (fitB HX HY PX PY r t) many many []) 0 8
def mark (D : Nat) : Deferred := { target := .collected D, args := #[] }
/-- the marks of the ranges that are over: each one's block, all of them different. -/
def Marks (lo : Nat) : List Nat → World → Nat → Prop
  | [], _, _ => True
  | D :: Ds, W, hi => lo ≤ D ∧ D < hi ∧ W.heap[D]? = some (.deferred (some [])) ∧ Marks lo Ds W D
theorem Marks.below {lo : Nat} {W W' : World} : ∀ {Ds : List Nat} {hi : Nat}, Marks lo Ds W hi → (∀ k, lo ≤ k → k < hi → W'.heap[k]? = W.heap[k]?) → Marks lo Ds W' hi
  | [], _, _, _ => trivial
  | D :: Ds, hi, ⟨h1, h2, h3, h4⟩, h => ⟨h1, h2, (h D h1 h2).trans h3, Marks.below h4 fun k hl hk => h k hl (by omega)⟩
theorem Marks.mono {lo : Nat} {W : World} : ∀ {Ds : List Nat} {hi hi' : Nat}, hi ≤ hi' → Marks lo Ds W hi → Marks lo Ds W hi'
  | [], _, _, _, _ => trivial
  | _ :: _, _, _, hh, ⟨h1, h2, h3, h4⟩ => ⟨h1, by omega, h3, h4⟩
theorem ownsRow_pos {w : World} {B : Nat} {e : TypeId} {size : Nat} {v : Value} {n : Nat} {xs : List Value} (hn : 1 ≤ n) (h : w.ownsRow B e size v n xs) : ∃ g c, v = .slice (some ⟨g, 0, none⟩) n c := by
  obtain ⟨h1, ⟨h2, h3⟩ | ⟨g, cap, cur, a1, a2⟩⟩ := h
  · omega
  · exact ⟨g, cap, a1⟩
theorem ownsRow_base {w : World} {B B' : Nat} {e : TypeId} {size : Nat} {v : Value} {n : Nat} {xs : List Value} (hB : B' ≤ B) (h : w.ownsRow B e size v n xs) : w.ownsRow B' e size v n xs := by
  obtain ⟨h1, h2 | ⟨g, cap, cur, a1, a2, a3⟩⟩ := h
  · exact ⟨h1, .inl h2⟩
  · exact ⟨h1, .inr ⟨g, cap, cur, a1, by omega, a3⟩⟩
/-- nothing that is cells has changed, and nothing that lay below lo. -/
def SameCells (lo : Nat) (W W' : World) : Prop := Below lo W W' ∧ ∀ (k : Nat) (o : Obj), W.heap[k]? = some o → o.isCells = true → W'.heap[k]? = some o
theorem leaves_marks {F : Fence} {n : Nat} {P : Program} {fn : Func} {tmps : Array Value} {R : Ending → World → Prop} {lo : Nat} : ∀ {Ds : List Nat} {W : World} {hi : Nat}, Marks lo Ds W hi →
    (∀ W', SameCells lo W W' → LeavesIn F n P fn tmps R [] .returning W') → LeavesInM F n P fn tmps R (Ds.map mark) .returning W
  | [], W, hi, _, h => h W ⟨Below.refl _ _, fun _ _ h _ => h⟩
  | D :: Ds, W, hi, ⟨h1, h2, h3, h4⟩, h => by
    refine ⟨by simp, .inl ⟨D, _, rfl, run_takeDeferred h3, ?_⟩⟩
    refine leaves_marks (hi := D) (h4.below fun k _ hk => World.putObj_heap_other (by omega)) fun W' hW => h W' ⟨(below_put h1 h3).trans hW.1, fun k o ho hc => hW.2 k o ?_ hc⟩
    exact (World.putObj_heap_other (fun e => by subst e; rw [h3] at ho; cases ho; cases hc)).trans ho
theorem held_same {W : World} {a : Addr} {v : Value} (h : W.cell? a = some v) : (W.setCell a v).cell? a = some v := World.cell?_setCell_same' _ _ _ (by rw [h]; rfl)
theorem held_far {W : World} {b c : Nat} {u v : Value} (h : W.cell? ⟨b, 0, none⟩ = some u) (hn : b ≠ c) : (W.setCell ⟨c, 0, none⟩ v).cell? ⟨b, 0, none⟩ = some u :=
  (World.cell?_of_block (Below.heap_setCell W _ v b hn)).trans h
theorem held_fro {W : World} {a b : Addr} {v : Value} (h : W.frozen? a = false) : (W.setCell b v).frozen? a = false := by rw [World.frozen?_setCell]; exact h
abbrev HeldS (a b c : Nat) (x y z : Value) (W : World) : Prop := W.cell? ⟨a, 0, none⟩ = some x ∧ W.cell? ⟨b, 0, none⟩ = some y ∧ W.cell? ⟨c, 0, none⟩ = some z
  ∧ W.frozen? ⟨a, 0, none⟩ = false ∧ W.frozen? ⟨b, 0, none⟩ = false ∧ W.frozen? ⟨c, 0, none⟩ = false
theorem held3 {a b c : Nat} {x y z : Value} {W : World} (hab : a ≠ b) (hac : a ≠ c) (h : HeldS a b c x y z W.drew) : HeldS a b c x y z (W.setCell ⟨a, 0, none⟩ x).drew :=
  ⟨held_same (W := W) h.1, held_far (W := W) h.2.1 hab.symm, held_far (W := W) h.2.2.1 hac.symm, held_fro (W := W) h.2.2.2.1, held_fro (W := W) h.2.2.2.2.1, held_fro (W := W) h.2.2.2.2.2⟩
theorem held4 {a b c : Nat} {x y z : Value} {W : World} (hab : a ≠ b) (hbc : b ≠ c) (h : HeldS a b c x y z W.drew) : HeldS a b c x y z (W.setCell ⟨b, 0, none⟩ y).drew :=
  ⟨held_far (W := W) h.1 hab, held_same (W := W) h.2.1, held_far (W := W) h.2.2.1 hbc.symm, held_fro (W := W) h.2.2.2.1, held_fro (W := W) h.2.2.2.2.1, held_fro (W := W) h.2.2.2.2.2⟩
theorem held5 {a b c : Nat} {x y z : Value} {W : World} (hac : a ≠ c) (hbc : b ≠ c) (h : HeldS a b c x y z W.drew) : HeldS a b c x y z (W.setCell ⟨c, 0, none⟩ z).drew :=
  ⟨held_far (W := W) h.1 hac, held_far (W := W) h.2.1 hbc, held_same (W := W) h.2.2.1, held_fro (W := W) h.2.2.2.1, held_fro (W := W) h.2.2.2.2.1, held_fro (W := W) h.2.2.2.2.2⟩
/-- match's boxes. -/
structure MBox (w : World) (v1 v2 : Value) (r : Int) (W : World) (num ord ok : Value) : Prop where
  c0 : W.cell? ⟨w.heap.size, 0, none⟩ = some v1
  c1 : W.cell? ⟨w.heap.size + 1, 0, none⟩ = some (.int .i64 r)
  c2 : W.cell? ⟨w.heap.size + 1 + 1, 0, none⟩ = some v2
  c3 : W.cell? ⟨w.heap.size + 1 + 1 + 1, 0, none⟩ = some num
  c4 : W.cell? ⟨w.heap.size + 1 + 1 + 1 + 1, 0, none⟩ = some ord
  c5 : W.cell? ⟨w.heap.size + 1 + 1 + 1 + 1 + 1, 0, none⟩ = some ok
  f3 : W.frozen? ⟨w.heap.size + 1 + 1 + 1, 0, none⟩ = false
  f4 : W.frozen? ⟨w.heap.size + 1 + 1 + 1 + 1, 0, none⟩ = false
  f5 : W.frozen? ⟨w.heap.size + 1 + 1 + 1 + 1 + 1, 0, none⟩ = false
  sz : w.heap.size + 1 + 1 + 1 + 1 + 1 < W.heap.size
  bel : Below w.heap.size w W
theorem MBox.below {w : World} {v1 v2 : Value} {r : Int} {W W' : World} {num ord ok : Value} (h : MBox w v1 v2 r W num ord ok) (hb : Below (w.heap.size + 1 + 1 + 1 + 1 + 1 + 1) W W') : MBox w v1 v2 r W' num ord ok := by
  have c : ∀ k, k < w.heap.size + 1 + 1 + 1 + 1 + 1 + 1 → W'.cell? ⟨k, 0, none⟩ = W.cell? ⟨k, 0, none⟩ := fun k hk => hb.cell (p := ⟨k, 0, none⟩) hk
  have f : ∀ k, k < w.heap.size + 1 + 1 + 1 + 1 + 1 + 1 → W'.frozen? ⟨k, 0, none⟩ = W.frozen? ⟨k, 0, none⟩ := fun k hk => hb.frozen (p := ⟨k, 0, none⟩) hk
  exact ⟨(c _ (by omega)).trans h.c0, (c _ (by omega)).trans h.c1, (c _ (by omega)).trans h.c2, (c _ (by omega)).trans h.c3, (c _ (by omega)).trans h.c4, (c _ (by omega)).trans h.c5, (f _ (by omega)).trans h.f3, (f _ (by omega)).trans h.f4, (f _ (by omega)).trans h.f5, Nat.lt_of_lt_of_le h.sz hb.size, h.bel.trans (hb.mono (by omega))⟩
theorem KeptFrom.trans {B : Nat} {A W W' : World} (h : KeptFrom B A W) (k : KeptFrom B W W') : KeptFrom B A W' := ⟨Nat.le_trans h.1 k.1, fun j h1 h2 => (k.2 j h1 (Nat.lt_of_lt_of_le h2 h.1)).trans (h.2 j h1 h2)⟩
theorem kept_set3 {B a b c : Nat} {W : World} {x y z : Value} (ha : a < B) (hb : b < B) (hc : c < B) : KeptFrom B W (((W.setCell ⟨a, 0, none⟩ x).setCell ⟨b, 0, none⟩ y).setCell ⟨c, 0, none⟩ z) :=
  ((KeptFrom.set (a := ⟨a, 0, none⟩) ha x).trans (KeptFrom.set (a := ⟨b, 0, none⟩) hb y)).trans (KeptFrom.set (a := ⟨c, 0, none⟩) hc z)
theorem held_new {W : World} {a : Addr} {u v : Value} (h : W.cell? a = some u) : (W.setCell a v).cell? a = some v := World.cell?_setCell_same' _ _ _ (by rw [h]; rfl)
theorem MBox.set3 {w : World} {v1 v2 : Value} {r : Int} {W : World} {num ord ok : Value} (h : MBox w v1 v2 r W num ord ok) (x y z : Value) :
    MBox w v1 v2 r (((W.setCell ⟨w.heap.size + 1 + 1 + 1, 0, none⟩ x).setCell ⟨w.heap.size + 1 + 1 + 1 + 1, 0, none⟩ y).setCell ⟨w.heap.size + 1 + 1 + 1 + 1 + 1, 0, none⟩ z) x y z := by
  have hk := kept_set3 (B := w.heap.size + 1 + 1 + 1 + 1 + 1 + 1) (a := w.heap.size + 1 + 1 + 1) (b := w.heap.size + 1 + 1 + 1 + 1) (c := w.heap.size + 1 + 1 + 1 + 1 + 1) (W := W) (x := x) (y := y) (z := z) (by omega) (by omega) (by omega)
  exact ⟨held_far (held_far (held_far h.c0 (by omega)) (by omega)) (by omega), held_far (held_far (held_far h.c1 (by omega)) (by omega)) (by omega), held_far (held_far (held_far h.c2 (by omega)) (by omega)) (by omega),
    held_far (held_far (held_new h.c3) (by omega)) (by omega), held_far (held_new (held_far h.c4 (by omega))) (by omega), held_new (held_far (held_far h.c5 (by omega)) (by omega)),
    held_fro (held_fro (held_fro h.f3)), held_fro (held_fro (held_fro h.f4)), held_fro (held_fro (held_fro h.f5)), Nat.lt_of_lt_of_le h.sz hk.1,
    ((h.bel.setCell (p := ⟨w.heap.size + 1 + 1 + 1, 0, none⟩) (by show _ ≤ w.heap.size + 1 + 1 + 1; omega) _).setCell (p := ⟨w.heap.size + 1 + 1 + 1 + 1, 0, none⟩) (by show _ ≤ w.heap.size + 1 + 1 + 1 + 1; omega) _).setCell (p := ⟨w.heap.size + 1 + 1 + 1 + 1 + 1, 0, none⟩) (by show _ ≤ w.heap.size + 1 + 1 + 1 + 1 + 1; omega) _⟩
theorem mbox_start (w : World) (v1 v2 : Value) (r : Int) : MBox w v1 v2 r ((((((w.alloc (Obj.cells #[v1] 22)).alloc (Obj.cells #[.int .i64 r] 3)).alloc (Obj.cells #[v2] 22)).alloc (Obj.cells #[.int .i64 0] 3)).alloc (Obj.cells #[.slice none 0 0] 28)).alloc (Obj.cells #[.bool false] 4)) (.int .i64 0) (.slice none 0 0) (.bool false) := by
  obtain ⟨A1, hA1⟩ : ∃ A, w.alloc (Obj.cells #[v1] 22) = A := ⟨_, rfl⟩
  obtain ⟨A2, hA2⟩ : ∃ A, A1.alloc (Obj.cells #[.int .i64 r] 3) = A := ⟨_, rfl⟩
  obtain ⟨A3, hA3⟩ : ∃ A, A2.alloc (Obj.cells #[v2] 22) = A := ⟨_, rfl⟩
  obtain ⟨A4, hA4⟩ : ∃ A, A3.alloc (Obj.cells #[.int .i64 0] 3) = A := ⟨_, rfl⟩
  obtain ⟨A5, hA5⟩ : ∃ A, A4.alloc (Obj.cells #[.slice none 0 0] 28) = A := ⟨_, rfl⟩
  obtain ⟨A6, hA6⟩ : ∃ A, A5.alloc (Obj.cells #[.bool false] 4) = A := ⟨_, rfl⟩
  rw [hA1, hA2, hA3, hA4, hA5, hA6]
  have s1 : A1.heap.size = w.heap.size + 1 := by rw [← hA1, World.size_alloc]
  have s2 : A2.heap.size = w.heap.size + 1 + 1 := by rw [← hA2, World.size_alloc, s1]
  have s3 : A3.heap.size = w.heap.size + 1 + 1 + 1 := by rw [← hA3, World.size_alloc, s2]
  have s4 : A4.heap.size = w.heap.size + 1 + 1 + 1 + 1 := by rw [← hA4, World.size_alloc, s3]
  have s5 : A5.heap.size = w.heap.size + 1 + 1 + 1 + 1 + 1 := by rw [← hA5, World.size_alloc, s4]
  have s6 : A6.heap.size = w.heap.size + 1 + 1 + 1 + 1 + 1 + 1 := by rw [← hA6, World.size_alloc, s5]
  have e1 := new_cell w v1 22
  have e2 := new_cell A1 (.int .i64 r) 3
  have e3 := new_cell A2 v2 22
  have e4 := new_cell A3 (.int .i64 0) 3
  have e5 := new_cell A4 (.slice none 0 0) 28
  have e6 := new_cell A5 (.bool false) 4
  rw [hA1] at e1; rw [hA2, s1] at e2; rw [hA3, s2] at e3; rw [hA4, s3] at e4; rw [hA5, s4] at e5; rw [hA6, s5] at e6
  have b1 : Below w.heap.size w A1 := by rw [← hA1]; exact (Below.refl _ _).alloc (Nat.le_refl _) _
  have b2 : Below A1.heap.size A1 A2 := by rw [← hA2]; exact (Below.refl _ _).alloc (Nat.le_refl _) _
  have b3 : Below A2.heap.size A2 A3 := by rw [← hA3]; exact (Below.refl _ _).alloc (Nat.le_refl _) _
  have b4 : Below A3.heap.size A3 A4 := by rw [← hA4]; exact (Below.refl _ _).alloc (Nat.le_refl _) _
  have b5 : Below A4.heap.size A4 A5 := by rw [← hA5]; exact (Below.refl _ _).alloc (Nat.le_refl _) _
  have b6 : Below A5.heap.size A5 A6 := by rw [← hA6]; exact (Below.refl _ _).alloc (Nat.le_refl _) _
  have b56 := b5.trans (b6.mono b5.size)
  have b46 := b4.trans (b56.mono b4.size)
  have b36 := b3.trans (b46.mono b3.size)
  have b26 := b2.trans (b36.mono b2.size)
  have b16 := b1.trans (b26.mono b1.size)
  exact ⟨(b26.cell (p := ⟨_, 0, none⟩) (by show w.heap.size < _; omega)).trans e1.1, (b36.cell (p := ⟨_, 0, none⟩) (by show w.heap.size + 1 < _; omega)).trans e2.1, (b46.cell (p := ⟨_, 0, none⟩) (by show w.heap.size + 1 + 1 < _; omega)).trans e3.1,
    (b56.cell (p := ⟨_, 0, none⟩) (by show w.heap.size + 1 + 1 + 1 < _; omega)).trans e4.1, (b6.cell (p := ⟨_, 0, none⟩) (by show w.heap.size + 1 + 1 + 1 + 1 < _; omega)).trans e5.1, e6.1,
    (b56.frozen (p := ⟨_, 0, none⟩) (by show w.heap.size + 1 + 1 + 1 < _; omega)).trans e4.2, (b6.frozen (p := ⟨_, 0, none⟩) (by show w.heap.size + 1 + 1 + 1 + 1 < _; omega)).trans e5.2, e6.2, by omega, b16⟩
set_option maxRecDepth 100000 in
set_option maxHeartbeats 2000000 in
theorem match_in (many b1 o1 k1 b2 o2 k2 n : Nat) (HX HY PX PY : Nat → Int) (r : Int) (w : World) (hr0 : 0 ≤ r) (hr1 : r ≤ 500) (hm0 : 1 ≤ many) (hm1 : many ≤ 4)
    (hp1 : Pts w b1 o1 many HX HY) (hp2 : Pts w b2 o2 many PX PY) (m1 : b1 < w.heap.size) (m2 : b2 < w.heap.size) (hsm1 : ∀ i, i < many → small (HX i, HY i)) (hsm2 : ∀ i, i < many → small (PX i, PY i)) :
    CallsIn Fence.wide n Tryz.prog 68 #[.slice (some ⟨b1, o1, none⟩) many k1, .int .i64 r, .slice (some ⟨b2, o2, none⟩) many k2] w fun e w' => Below w.heap.size w w' ∧
      ((matchS many HX HY PX PY r = none ∧ e = .returned (.tuple #[.int .i64 0, .slice none 0 0, .bool false])) ∨
       (∃ t q v, matchS many HX HY PX PY r = some (t, q) ∧ t < 8 ∧ e = .returned (.tuple #[.int .i64 t, v, .bool true]) ∧ w'.ownsRow w.heap.size 3 1 v many (cellsN q))) := by
  refine callsIn_of_wp_marks Tryz.func68 rfl trivial ?_ rfl
  simp only [Tryz.ntmps68, List.size_toArray, List.length_cons, List.length_nil, Nat.reduceAdd, Nat.reduceSub, Array.replicate_succ, Array.replicate_zero, List.push_toArray, List.append_toArray, List.nil_append, List.cons_append]
  gi_wp2
  refine wpIn_scope_straight ?_
  refine wpIn_seq_k fun K hK => ?_
  refine wpIn_label ?_
  refine hK _ _ ?_
  gi_wp2
  rename_i K2 hK2
  have hst := mbox_start w (.slice (some ⟨b1, o1, none⟩) many k1) (.slice (some ⟨b2, o2, none⟩) many k2) r
  generalize ((((((w.alloc (Obj.cells #[Value.slice (some ⟨b1, o1, none⟩) many k1] 22)).alloc (Obj.cells #[Value.int .i64 r] 3)).alloc (Obj.cells #[Value.slice (some ⟨b2, o2, none⟩) many k2] 22)).alloc (Obj.cells #[Value.int .i64 0] 3)).alloc (Obj.cells #[Value.slice none 0 0] 28)).alloc (Obj.cells #[Value.bool false] 4)) = W0 at hst ⊢
  have fin : ∀ (u9 u10 u11 u12 u13 u14 u15 u16 u17 u18 u19 u20 u21 u22 u23 u24 u25 u26 u27 u28 u29 u30 : Value) (Ds : List Nat) (W : World) (hi : Nat) (num : Int) (oa : Option Addr) (ol oc : Nat) (ok : Bool),
      Marks (w.heap.size + 1 + 1 + 1 + 1 + 1 + 1) Ds W hi → hi ≤ W.heap.size → MBox w (.slice (some ⟨b1, o1, none⟩) many k1) (.slice (some ⟨b2, o2, none⟩) many k2) r W (.int .i64 num) (.slice oa ol oc) (.bool ok) →
      ((matchS many HX HY PX PY r = none ∧ num = 0 ∧ (Value.slice oa ol oc) = .slice none 0 0 ∧ ok = false) ∨
       (∃ t q, matchS many HX HY PX PY r = some (t, q) ∧ t < 8 ∧ num = t ∧ ok = true ∧ W.ownsRow (w.heap.size + 1 + 1 + 1 + 1 + 1 + 1) 3 1 (.slice oa ol oc) many (cellsN q))) →
      K2 { tmps := #[.slice (some ⟨b1, o1, none⟩) many k1, .int .i64 r, .slice (some ⟨b2, o2, none⟩) many k2, .pointer (some ⟨w.heap.size, 0, none⟩), .pointer (some ⟨w.heap.size + 1, 0, none⟩), .pointer (some ⟨w.heap.size + 1 + 1, 0, none⟩), .pointer (some ⟨w.heap.size + 1 + 1 + 1, 0, none⟩), .pointer (some ⟨w.heap.size + 1 + 1 + 1 + 1, 0, none⟩), .pointer (some ⟨w.heap.size + 1 + 1 + 1 + 1 + 1, 0, none⟩),
        u9, u10, u11, u12, u13, u14, u15, u16, u17, u18, u19, u20, u21, u22, u23, u24, u25, u26, u27, u28, u29, u30], defers := Ds.map mark } W := by
    intro u9 u10 u11 u12 u13 u14 u15 u16 u17 u18 u19 u20 u21 u22 u23 u24 u25 u26 u27 u28 u29 u30 Ds W hi num oa ol oc ok hM hhi hB hres
    refine hK2 _ _ ?_
    have hc3 := hB.c3; have hc4 := hB.c4; have hc5 := hB.c5; have hf3 := hB.f3; have hf4 := hB.f4; have hf5 := hB.f5
    gi_wp2
    rename_i K3 hK3
    refine wpIn_wide.2 ?_
    refine Code.wp_mono (Q := Exit.then K3 (fun _ _ _ => False)) (fun e a w h => by cases e <;> first | exact h | exact h.elim) ?_
    obtain ⟨n3, hn3⟩ : ∃ n3, w.heap.size + 1 + 1 + 1 = n3 := ⟨_, rfl⟩
    obtain ⟨n4, hn4⟩ : ∃ n4, n3 + 1 = n4 := ⟨_, rfl⟩
    obtain ⟨n5, hn5⟩ : ∃ n5, n4 + 1 = n5 := ⟨_, rfl⟩
    rw [hn3] at hc3 hc4 hc5 hf3 hf4 hf5 ⊢
    rw [hn4] at hc4 hc5 hf4 hf5 ⊢
    rw [hn5] at hc5 hf5 ⊢
    have h34 : n3 ≠ n4 := by omega
    have h35 : n3 ≠ n5 := by omega
    have h45 : n4 ≠ n5 := by omega
    have hS0 : HeldS n3 n4 n5 (.int .i64 num) (.slice oa ol oc) (.bool ok) W.drew := ⟨hc3, hc4, hc5, hf3, hf4, hf5⟩
    go_region_held3 (fun w' => w'.cell? ⟨n3, 0, none⟩ = some (.int .i64 num) ∧ w'.cell? ⟨n4, 0, none⟩ = some (.slice oa ol oc) ∧ w'.cell? ⟨n5, 0, none⟩ = some (.bool ok)
        ∧ w'.frozen? ⟨n3, 0, none⟩ = false ∧ w'.frozen? ⟨n4, 0, none⟩ = false ∧ w'.frozen? ⟨n5, 0, none⟩ = false)
      (first | with_reducible exact hS0 | with_reducible exact held3 h34 h35 (by assumption) | with_reducible exact held4 h34 h45 (by assumption) | with_reducible exact held5 h35 h45 (by assumption)) (fail)
    clear hS0
    refine hK3 _ _ ?_
    obtain ⟨W3, hW3⟩ : ∃ W3, (((W.setCell ⟨n3, 0, none⟩ (.int .i64 num)).setCell ⟨n4, 0, none⟩ (.slice oa ol oc)).setCell ⟨n5, 0, none⟩ (.bool ok)).drew = W3 := ⟨_, rfl⟩
    have hk3 : KeptFrom (w.heap.size + 1 + 1 + 1 + 1 + 1 + 1) W W3 := by
      rw [← hW3]
      have e1 := KeptFrom.set (B := w.heap.size + 1 + 1 + 1 + 1 + 1 + 1) (W := W) (a := ⟨n3, 0, none⟩) (by show n3 < _; omega) (.int .i64 num)
      have e2 := KeptFrom.set (B := w.heap.size + 1 + 1 + 1 + 1 + 1 + 1) (W := W.setCell ⟨n3, 0, none⟩ (.int .i64 num)) (a := ⟨n4, 0, none⟩) (by show n4 < _; omega) (.slice oa ol oc)
      have e3 := KeptFrom.set (B := w.heap.size + 1 + 1 + 1 + 1 + 1 + 1) (W := (W.setCell ⟨n3, 0, none⟩ (.int .i64 num)).setCell ⟨n4, 0, none⟩ (.slice oa ol oc)) (a := ⟨n5, 0, none⟩) (by show n5 < _; omega) (.bool ok)
      exact ⟨Nat.le_trans e1.1 (Nat.le_trans e2.1 e3.1), fun k h1 h2 => ((e3.2 k h1 (Nat.lt_of_lt_of_le h2 (Nat.le_trans e1.1 e2.1))).trans (e2.2 k h1 (Nat.lt_of_lt_of_le h2 e1.1))).trans (e1.2 k h1 h2)⟩
    have hb3 : Below w.heap.size w W3 := by
      rw [← hW3]
      exact (((hB.bel.setCell (p := ⟨n3, 0, none⟩) (by show _ ≤ n3; omega) _).setCell (p := ⟨n4, 0, none⟩) (by show _ ≤ n4; omega) _).setCell (p := ⟨n5, 0, none⟩) (by show _ ≤ n5; omega) _).drew
    have hS3 : HeldS n3 n4 n5 (.int .i64 num) (.slice oa ol oc) (.bool ok) W3 := by rw [← hW3]; assumption
    rw [hW3]
    gi_wp2
    refine leaves_marks (lo := w.heap.size + 1 + 1 + 1 + 1 + 1 + 1) (hi := hi) (hM.below fun k h1 h2 => ?_) fun W' hW => ?_
    · exact hk3.2 k h1 (by omega)
    have r3 := (hW.1.cell (p := ⟨n3, 0, none⟩) (by show n3 < _; omega)).trans hS3.1
    have r4 := (hW.1.cell (p := ⟨n4, 0, none⟩) (by show n4 < _; omega)).trans hS3.2.1
    have r5 := (hW.1.cell (p := ⟨n5, 0, none⟩) (by show n5 < _; omega)).trans hS3.2.2.1
    refine ⟨.tuple #[.int .i64 num, .slice oa ol oc, .bool ok], ?_, hb3.trans (hW.1.mono (by omega)), ?_⟩
    · simp [results, Tryz.results68, go_sem, r3, r4, r5]
    · rcases hres with ⟨h1, rfl, h2, rfl⟩ | ⟨t, q, h1, h2, rfl, rfl, h3⟩
      · exact .inl ⟨h1, by rw [h2]⟩
      · refine .inr ⟨t, q, _, h1, h2, rfl, ?_⟩
        obtain ⟨x1, x2⟩ := ownsRow_kept h3 hk3
        refine ⟨x1, ?_⟩
        rcases x2 with x2 | ⟨g, cap, cur, a1, a2, a3, a4⟩
        · exact .inl x2
        · exact .inr ⟨g, cap, cur, a1, by omega, hW.2 g _ a3 rfl, a4⟩
  refine wpIn_loop (fun a W => ∃ (t : Nat) (Ds : List Nat) (u9 u10 u11 u12 u14 u15 u16 u17 u18 u19 u20 u21 u22 u23 u24 u25 u26 u27 u28 u29 u30 : Value), t ≤ 8 ∧ a = { tmps := #[.slice (some ⟨b1, o1, none⟩) many k1, .int .i64 r, .slice (some ⟨b2, o2, none⟩) many k2, .pointer (some ⟨w.heap.size, 0, none⟩), .pointer (some ⟨w.heap.size + 1, 0, none⟩), .pointer (some ⟨w.heap.size + 1 + 1, 0, none⟩), .pointer (some ⟨w.heap.size + 1 + 1 + 1, 0, none⟩), .pointer (some ⟨w.heap.size + 1 + 1 + 1 + 1, 0, none⟩), .pointer (some ⟨w.heap.size + 1 + 1 + 1 + 1 + 1, 0, none⟩), u9, u10, u11, u12, .int .i64 (t : Int), u14, u15, u16, u17, u18, u19, u20, u21, u22, u23, u24, u25, u26, u27, u28, u29, u30], defers := Ds.map mark }
      ∧ Marks (w.heap.size + 1 + 1 + 1 + 1 + 1 + 1) Ds W W.heap.size ∧ MBox w (.slice (some ⟨b1, o1, none⟩) many k1) (.slice (some ⟨b2, o2, none⟩) many k2) r W (.int .i64 0) (.slice none 0 0) (.bool false)
      ∧ matchS many HX HY PX PY r = scanP (fun t => firstC (fitB HX HY PX PY r t) many many []) t (8 - t)) (fun a _ => 8 - (intOf (a.tmps.getD 13 undef)).toNat) ?_ ?_
  · exact ⟨0, [], undef, undef, undef, undef, undef, undef, undef, undef, undef, undef, undef, undef, undef, undef, undef, undef, undef, undef, undef, undef, undef, by omega, rfl, trivial, hst, rfl⟩
  · rintro a W ⟨t, Ds, u9, u10, u11, u12, u14, u15, u16, u17, u18, u19, u20, u21, u22, u23, u24, u25, u26, u27, u28, u29, u30, ht, rfl, hM, hB, hsc⟩
    by_cases hlt : t < 8
    · obtain ⟨ty, x, hx⟩ : ∃ ty x, tval t = .iface ty x := by unfold tval; split <;> exact ⟨_, _, rfl⟩
      have hto := turnOf_any t hlt
      rw [hx] at hto
      have hsz := hB.sz
      have hb2 : Below W.heap.size W ((W.alloc (Obj.cells #[.int .i64 (t : Int)] 3)).alloc (Obj.cells #[.iface ty x] 129)) := ((Below.refl _ _).alloc (Nat.le_refl _) _).alloc (by rw [World.size_alloc]; omega) _
      have hc0 := (hb2.cell (p := ⟨w.heap.size, 0, none⟩) (by show w.heap.size < _; omega)).trans hB.c0
      gi_wp2_with (first
        | (refine ⟨trivial, fun h => (by cases h), ?_⟩; gi_at_call 65; refine (callsIn_wide.2 (hto _)).mono ?_; rintro e w2 ⟨rfl, rfl⟩)
        | (refine ⟨trivial, fun h => (by cases h), ?_⟩; gi_at_call 109; refine (callsIn_wide.2 (orders_any many _ _ _ _ _)).mono ?_; rintro e w3 ⟨rfl, rfl⟩))
      obtain ⟨A1, hA1⟩ : ∃ A, W.alloc (Obj.cells #[.int .i64 (t : Int)] 3) = A := ⟨_, rfl⟩
      obtain ⟨A2, hA2⟩ : ∃ A, A1.alloc (Obj.cells #[.iface ty x] 129) = A := ⟨_, rfl⟩
      obtain ⟨A3, hA3⟩ : ∃ A, A2.alloc (Obj.cells #[.int .i64 (many : Int)] 3) = A := ⟨_, rfl⟩
      obtain ⟨A4, hA4⟩ : ∃ A, A3.alloc (Obj.cells #[(.func (.func 107) #[] #[.pointer (some ⟨w.heap.size, 0, none⟩), .pointer (some ⟨w.heap.size + 1 + 1, 0, none⟩), .pointer (some ⟨W.heap.size + 1, 0, none⟩), .pointer (some ⟨w.heap.size + 1, 0, none⟩)])] 33) = A := ⟨_, rfl⟩
      have s1 : A1.heap.size = W.heap.size + 1 := by rw [← hA1, World.size_alloc]
      have s2 : A2.heap.size = W.heap.size + 1 + 1 := by rw [← hA2, World.size_alloc, s1]
      have s3 : A3.heap.size = W.heap.size + 1 + 1 + 1 := by rw [← hA3, World.size_alloc, s2]
      have s4 : A4.heap.size = W.heap.size + 1 + 1 + 1 + 1 := by rw [← hA4, World.size_alloc, s3]
      have e1 := (new_cell W (.int .i64 (t : Int)) 3).1
      have e2 := (new_cell A1 (.iface ty x) 129).1
      have e3 := (new_cell A2 (.int .i64 (many : Int)) 3).1
      have e4 := (new_cell A3 (.func (.func 107) #[] #[.pointer (some ⟨w.heap.size, 0, none⟩), .pointer (some ⟨w.heap.size + 1 + 1, 0, none⟩), .pointer (some ⟨W.heap.size + 1, 0, none⟩), .pointer (some ⟨w.heap.size + 1, 0, none⟩)]) 33).1
      rw [hA1] at e1; rw [hA2, s1] at e2; rw [hA3, s2] at e3; rw [hA4, s3] at e4
      have b0 : Below W.heap.size W A1 := by rw [← hA1]; exact (Below.refl _ _).alloc (Nat.le_refl _) _
      have b12 : Below A1.heap.size A1 A2 := by rw [← hA2]; exact (Below.refl _ _).alloc (Nat.le_refl _) _
      have b23 : Below A2.heap.size A2 A3 := by rw [← hA3]; exact (Below.refl _ _).alloc (Nat.le_refl _) _
      have b34 : Below A3.heap.size A3 A4 := by rw [← hA4]; exact (Below.refl _ _).alloc (Nat.le_refl _) _
      have b24 := b23.trans (b34.mono b23.size)
      have b14 := b12.trans (b24.mono b12.size)
      have b04 := b0.trans (b14.mono b0.size)
      rw [hA1, hA2, hA3, hA4]
      have ci := (b14.cell (p := ⟨W.heap.size, 0, none⟩) (by show W.heap.size < _; omega)).trans e1
      have ct := (b24.cell (p := ⟨W.heap.size + 1, 0, none⟩) (by show W.heap.size + 1 < _; omega)).trans e2
      have cm := (b34.cell (p := ⟨W.heap.size + 1 + 1, 0, none⟩) (by show W.heap.size + 1 + 1 < _; omega)).trans e3
      have hB4 := hB.below (b04.mono (by omega))
      have hM4 : Marks (w.heap.size + 1 + 1 + 1 + 1 + 1 + 1) Ds A4 W.heap.size := hM.below fun k _ hk => b04.block k hk
      have hbw : Below w.heap.size w A4 := hB4.bel
      refine wpIn_rangeFunc_once (β := List Nat) rfl rfl (gf := 137) (lb := #[.pointer (some ⟨W.heap.size + 1 + 1, 0, none⟩), .pointer (some ⟨W.heap.size + 1 + 1 + 1, 0, none⟩)]) rfl trivial (enters_of Tryz.func137 (by kernel_rfl) rfl)
        (fun q v W' => q.length = many ∧ ∃ b0, A4.heap.size + 2 ≤ b0 ∧ b0 ≤ W'.heap.size ∧ W'.ownsRow b0 3 1 v many (cellsN q))
        (fun o => firstC (fitB HX HY PX PY r t) many many [] = o)
        (fun id q s W' => id = 0 ∧ A4.heap.size + 2 ≤ s ∧ (∃ oa ol oc, MBox w (.slice (some ⟨b1, o1, none⟩) many k1) (.slice (some ⟨b2, o2, none⟩) many k2) r W' (.int .i64 (t : Int)) (.slice oa ol oc) (.bool true) ∧ W'.ownsRow s 3 1 (.slice oa ol oc) many (cellsN q)) ∧ Marks (w.heap.size + 1 + 1 + 1 + 1 + 1 + 1) Ds W' W.heap.size)
        ?iter ?keepC ?keepI
        (fun v => { tmps := #[.slice (some ⟨b1, o1, none⟩) many k1, .int .i64 r, .slice (some ⟨b2, o2, none⟩) many k2, .pointer (some ⟨w.heap.size, 0, none⟩), .pointer (some ⟨w.heap.size + 1, 0, none⟩), .pointer (some ⟨w.heap.size + 1 + 1, 0, none⟩), .pointer (some ⟨w.heap.size + 1 + 1 + 1, 0, none⟩), .pointer (some ⟨w.heap.size + 1 + 1 + 1 + 1, 0, none⟩), .pointer (some ⟨w.heap.size + 1 + 1 + 1 + 1 + 1, 0, none⟩), .pointer (some ⟨W.heap.size, 0, none⟩), .pointer (some ⟨W.heap.size + 1, 0, none⟩), (.func (.func 107) #[] #[.pointer (some ⟨w.heap.size, 0, none⟩), .pointer (some ⟨w.heap.size + 1 + 1, 0, none⟩), .pointer (some ⟨W.heap.size + 1, 0, none⟩), .pointer (some ⟨w.heap.size + 1, 0, none⟩)]), v, .int .i64 (t : Int), .bool true, .int .i64 (t : Int), .int .i64 (t : Int), .iface ty x, (.func (.func 107) #[] #[.pointer (some ⟨w.heap.size, 0, none⟩), .pointer (some ⟨w.heap.size + 1 + 1, 0, none⟩), .pointer (some ⟨W.heap.size + 1, 0, none⟩), .pointer (some ⟨w.heap.size + 1, 0, none⟩)]), .slice (some ⟨b1, o1, none⟩) many k1, .int .i64 (many : Int), (.func (.func 107) #[] #[.pointer (some ⟨w.heap.size, 0, none⟩), .pointer (some ⟨w.heap.size + 1 + 1, 0, none⟩), .pointer (some ⟨W.heap.size + 1, 0, none⟩), .pointer (some ⟨w.heap.size + 1, 0, none⟩)]), .func (.func 137) #[] #[.pointer (some ⟨W.heap.size + 1 + 1, 0, none⟩), .pointer (some ⟨W.heap.size + 1 + 1 + 1, 0, none⟩)], v, u24, u25, u26, u27, u28, u29, u30], defers := [] }) ?assign ?body ?done ?stop
      case iter =>
        intro l W1 R hb hsz hR hY
        have cm1 := (hb.cell (p := ⟨W.heap.size + 1 + 1, 0, none⟩) (by show W.heap.size + 1 + 1 < _; omega)).trans cm
        have cf1 := (hb.cell (p := ⟨W.heap.size + 1 + 1 + 1, 0, none⟩) (by show W.heap.size + 1 + 1 + 1 < _; omega)).trans e4
        refine seq_in many l _ _ (n - 1) _ _ _ _ (fitB HX HY PX PY r t) W1 R cm1 (by omega) cf1 (by omega) (by omega) ?_ ?_ hR
        · intro i j W' hi hj hb'
          have h4' : Below A4.heap.size A4 W' := hb.trans (hb'.mono (by omega))
          have h0' : Below W.heap.size W W' := b04.trans (h4'.mono (by omega))
          have hB' := hB4.below (h4'.mono (by omega))
          have hz' := hB'.sz
          have hzw := h4'.size
          obtain ⟨⟨p1, p2⟩, p3, p4⟩ := hsm2 j hj
          dsimp only at p1 p2 p3 p4
          have hT := fun W => turned_any t hlt (PX j) (PY j) p1 p2 p3 p4 W
          rw [hx] at hT
          have hbz := hB'.bel.size
          exact fits_any i j t _ _ _ _ b1 o1 many k1 b2 o2 many k2 (.iface ty x) HX HY PX PY r W' hr0 hr1 hi hj (by omega) (by omega) hT hB'.c0 hB'.c2 ((h4'.cell (p := ⟨W.heap.size + 1, 0, none⟩) (by show W.heap.size + 1 < _; omega)).trans ct) hB'.c1
            (by omega) (by omega) (by omega) (by omega) (hp1.below hB'.bel m1) (hp2.below hB'.bel m2) (by omega) (by omega) (hsm1 i hi)
        · intro m q v W' b0 hb' hq h1 h2 hrow
          exact hY m q v W' hb' ⟨hq, b0, by omega, h2, hrow⟩
      case keepC =>
        rintro q v W1 W2 ⟨h1, b0, h2, h3, h4⟩ hk
        exact ⟨h1, b0, h2, Nat.le_trans h3 hk.1, ownsRow_kept h4 ⟨hk.1, fun k a b => hk.2 k (by omega) b⟩⟩
      case keepI =>
        rintro id q s W1 W2 hs ⟨h1, h2, ⟨oa, ol, oc, h3, h4⟩, h5⟩ hA
        have hbA : Below A4.heap.size W1 W2 := ⟨hA.1.os, hA.1.tape, hA.1.output, hA.1.size, fun k hk => hA.2 k (.inl hk)⟩
        exact ⟨h1, h2, ⟨oa, ol, oc, h3.below (hbA.mono (by omega)), ownsRow_kept h4 ⟨hA.1.size, fun k a _ => hA.2 k (.inr a)⟩⟩, h5.below fun k _ hk => hbA.block k (by omega)⟩
      case assign =>
        intro l m v W' K hK
        gi_wp2
        exact hK
      case body =>
        rintro l m q v W' hb hs ⟨hq, b0, h1, h2, hrow⟩
        have hBW := hB4.below (hb.mono (by omega))
        have ciW := (hb.cell (p := ⟨W.heap.size, 0, none⟩) (by show W.heap.size < _; omega)).trans ci
        have hzW := hb.size
        obtain ⟨g, cap, rfl⟩ := ownsRow_pos hm0 hrow
        have q3 := hBW.c3; have q4 := hBW.c4; have q5 := hBW.c5; have f3 := hBW.f3; have f4 := hBW.f4; have f5 := hBW.f5
        have hzz := hBW.sz
        have hrowd : W'.drew.ownsRow b0 3 1 (.slice (some ⟨g, 0, none⟩) many cap) many (cellsN q) := hrow
        gi_wp2
        gi_region_with ((first
          | (refine ⟨trivial, fun h => (by cases h), ?_⟩; gi_at_call 110; refine (CallsIn.inRound l (callsIn_wide.2 (clone_any g many cap b0 q _ (by omega) hrowd))).mono ?_; rintro e w3 ⟨v', rfl, hrow3, hb3d⟩; have hb3 : Below W'.heap.size W' w3 := (Below.refl _ _).drew.trans hb3d; obtain ⟨gg3, cap3, rfl⟩ := ownsRow_pos hm0 hrow3; have ci3 := (hb3.cell (p := ⟨W.heap.size, 0, none⟩) (by show W.heap.size < W'.heap.size; omega)).trans ciW; have r3 := (hb3.cell (p := ⟨w.heap.size + 1 + 1 + 1, 0, none⟩) (by show w.heap.size + 1 + 1 + 1 < W'.heap.size; omega)).trans q3; have g3 := (hb3.frozen (p := ⟨w.heap.size + 1 + 1 + 1, 0, none⟩) (by show w.heap.size + 1 + 1 + 1 < W'.heap.size; omega)).trans f3; have r4 := (hb3.cell (p := ⟨w.heap.size + 1 + 1 + 1 + 1, 0, none⟩) (by show w.heap.size + 1 + 1 + 1 + 1 < W'.heap.size; omega)).trans q4; have g4 := (hb3.frozen (p := ⟨w.heap.size + 1 + 1 + 1 + 1, 0, none⟩) (by show w.heap.size + 1 + 1 + 1 + 1 < W'.heap.size; omega)).trans f4; have r5 := (hb3.cell (p := ⟨w.heap.size + 1 + 1 + 1 + 1 + 1, 0, none⟩) (by show w.heap.size + 1 + 1 + 1 + 1 + 1 < W'.heap.size; omega)).trans q5; have g5 := (hb3.frozen (p := ⟨w.heap.size + 1 + 1 + 1 + 1 + 1, 0, none⟩) (by show w.heap.size + 1 + 1 + 1 + 1 + 1 < W'.heap.size; omega)).trans f5)))
        all_goals
          have hk3 := kept_set3 (B := w.heap.size + 1 + 1 + 1 + 1 + 1 + 1) (a := w.heap.size + 1 + 1 + 1) (b := w.heap.size + 1 + 1 + 1 + 1) (c := w.heap.size + 1 + 1 + 1 + 1 + 1) (W := w3) (x := .int .i64 (t : Int)) (y := .slice (some ⟨gg3, 0, none⟩) many cap3) (z := .bool true) (by omega) (by omega) (by omega)
          have hB3 := (hBW.below (hb3.mono (by omega))).set3 (.int .i64 (t : Int)) (.slice (some ⟨gg3, 0, none⟩) many cap3) (.bool true)
          have hkw := (KeptFrom.of_below (B := w.heap.size + 1 + 1 + 1 + 1 + 1 + 1) hb3).trans hk3
          gi_wp2
          refine ⟨0, rfl, ⟨hkw.1, fun k h1 h2 => hkw.2 k (by omega) h2⟩, rfl, hs, ⟨_, _, _, hB3, ownsRow_kept hrow3 ⟨hk3.1, fun k h1 h2 => hk3.2 k (Nat.le_trans (by omega) h1) h2⟩⟩, hM4.below fun k h1 h2 => (hkw.2 k h1 (by omega)).trans (hb.block k (by omega))⟩
      case done =>
        intro D W' hD hS hb hK
        have hDl := (Array.getElem?_eq_some_iff.1 hK).1
        gi_wp2
        refine ⟨⟨t + 1, D :: Ds, _, _, _, _, _, _, _, _, _, _, _, _, _, _, _, _, _, _, _, _, _, by omega, rfl, ⟨by omega, hDl, hK, (hM4.below fun k _ hk => hb.block k (by omega)).mono (by omega)⟩, hB4.below (hb.mono (by omega)), hsc.trans (scanP_no hlt hS)⟩, ?_⟩
        simp [intOf]; omega
      case stop =>
        rintro D id q s W' hD hS hDs ⟨rfl, h2, ⟨oa, ol, oc, h3, h4⟩, h5⟩ hK
        have hDl := (Array.getElem?_eq_some_iff.1 hK).1
        gi_wp2
        exact fin _ _ _ _ _ _ _ _ _ _ _ _ _ _ _ _ _ _ _ _ _ _ (D :: Ds) W' W'.heap.size t oa ol oc true ⟨by omega, hDl, hK, h5.mono (by omega)⟩ (Nat.le_refl _) h3 (.inr ⟨t, q, hsc.trans (scanP_yes hlt hS), hlt, rfl, rfl, ownsRow_base (by omega) h4⟩)
    · obtain rfl : t = 8 := by omega
      gi_wp2
      exact fin _ _ _ _ _ _ _ _ _ _ _ _ _ _ _ _ _ _ _ _ _ _ Ds W W.heap.size 0 none 0 0 false hM (Nat.le_refl _) hB (.inl ⟨by rw [hsc]; rfl, rfl, rfl, rfl⟩)
end Go.Proofs.YtjhpklolpmaopaaGreatDoor
