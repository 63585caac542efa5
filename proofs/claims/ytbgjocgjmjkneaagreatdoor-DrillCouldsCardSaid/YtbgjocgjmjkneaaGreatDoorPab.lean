/- A part of the proof: see the last file. -/
import Derived.Test.YtbgjocgjmjkneaaGreatDoorPaa
import Derived.Maps.OwnSet
import Derived.Below
import Derived.DeepKeys4
import Derived.StillTactics
import Derived.OwnWalk
import Derived.Laws.Pointers
import Derived.Deep.RegionHeld3
import Derived.Deep.RegionWith
import Derived.Deep.QuietTactic
import Derived.BigQuiet
set_option linter.unusedVariables false
set_option linter.unusedSimpArgs false
set_option linter.unusedSectionVars false
namespace Go.Proofs.YtbgjocgjmjkneaaGreatDoor
open Go.RowKit
/-- a point turned by the turn of that number -/
def trn (t : Nat) (p : Int × Int) : Int × Int := if t < 4 then rot t p else rot (t - 4) (-p.1, p.2)
set_option maxRecDepth 100000 in
set_option maxHeartbeats 400000 in
theorem rturn0 (x y : Int) (hx1 : -80 ≤ x) (hx2 : x ≤ 80) (hy1 : -80 ≤ y) (hy2 : y ≤ 80) (w : World) :
    Calls Tryz.prog 24 #[.agg #[.int .i64 x, .int .i64 y], .int .i64 0] w fun e w' => e = .returned (.agg #[.int .i64 (trn 0 (x, y)).1, .int .i64 (trn 0 (x, y)).2]) ∧ Below w.heap.size w w' := by
  go_enter Tryz.func24, Tryz.ntmps24
  go_wp2
  refine wp_loop_rounds 1 ?_
  rw [rounds_succ]
  go_wp2
  refine bodyPost_ret (v := .agg #[.int .i64 (x), .int .i64 (y)]) (by simp [results, Tryz.results24, go_sem]) rfl ⟨ret_agg (by simp [trn, rot]) (by simp [trn, rot]), ?_⟩
  exact ((Below.refl _ _).alloc (Nat.le_refl _) _).alloc (by simp) _
set_option maxRecDepth 100000 in
set_option maxHeartbeats 400000 in
theorem rturn1 (x y : Int) (hx1 : -80 ≤ x) (hx2 : x ≤ 80) (hy1 : -80 ≤ y) (hy2 : y ≤ 80) (w : World) :
    Calls Tryz.prog 24 #[.agg #[.int .i64 x, .int .i64 y], .int .i64 1] w fun e w' => e = .returned (.agg #[.int .i64 (trn 1 (x, y)).1, .int .i64 (trn 1 (x, y)).2]) ∧ Below w.heap.size w w' := by
  go_enter Tryz.func24, Tryz.ntmps24
  go_wp2
  refine wp_loop_rounds 2 ?_
  rw [rounds_succ]
  go_wp2
  rw [rounds_succ]
  go_wp2
  refine bodyPost_ret (v := .agg #[.int .i64 (-y), .int .i64 (x)]) (by simp [results, Tryz.results24, go_sem]) rfl ⟨ret_agg (by simp [trn, rot]) (by simp [trn, rot]), ?_⟩
  exact ((Below.refl _ _).alloc (Nat.le_refl _) _).alloc (by simp) _
set_option maxRecDepth 100000 in
set_option maxHeartbeats 400000 in
theorem rturn2 (x y : Int) (hx1 : -80 ≤ x) (hx2 : x ≤ 80) (hy1 : -80 ≤ y) (hy2 : y ≤ 80) (w : World) :
    Calls Tryz.prog 24 #[.agg #[.int .i64 x, .int .i64 y], .int .i64 2] w fun e w' => e = .returned (.agg #[.int .i64 (trn 2 (x, y)).1, .int .i64 (trn 2 (x, y)).2]) ∧ Below w.heap.size w w' := by
  go_enter Tryz.func24, Tryz.ntmps24
  go_wp2
  refine wp_loop_rounds 3 ?_
  rw [rounds_succ]
  go_wp2
  rw [rounds_succ]
  go_wp2
  rw [rounds_succ]
  go_wp2
  refine bodyPost_ret (v := .agg #[.int .i64 (-x), .int .i64 (-y)]) (by simp [results, Tryz.results24, go_sem]) rfl ⟨ret_agg (by simp [trn, rot]) (by simp [trn, rot]), ?_⟩
  exact ((Below.refl _ _).alloc (Nat.le_refl _) _).alloc (by simp) _
set_option maxRecDepth 100000 in
set_option maxHeartbeats 400000 in
theorem rturn3 (x y : Int) (hx1 : -80 ≤ x) (hx2 : x ≤ 80) (hy1 : -80 ≤ y) (hy2 : y ≤ 80) (w : World) :
    Calls Tryz.prog 24 #[.agg #[.int .i64 x, .int .i64 y], .int .i64 3] w fun e w' => e = .returned (.agg #[.int .i64 (trn 3 (x, y)).1, .int .i64 (trn 3 (x, y)).2]) ∧ Below w.heap.size w w' := by
  go_enter Tryz.func24, Tryz.ntmps24
  go_wp2
  refine wp_loop_rounds 4 ?_
  rw [rounds_succ]
  go_wp2
  rw [rounds_succ]
  go_wp2
  rw [rounds_succ]
  go_wp2
  rw [rounds_succ]
  go_wp2
  refine bodyPost_ret (v := .agg #[.int .i64 (y), .int .i64 (-x)]) (by simp [results, Tryz.results24, go_sem]) rfl ⟨ret_agg (by simp [trn, rot]) (by simp [trn, rot]), ?_⟩
  exact ((Below.refl _ _).alloc (Nat.le_refl _) _).alloc (by simp) _
set_option maxRecDepth 100000 in
set_option maxHeartbeats 400000 in
theorem rturn4 (x y : Int) (hx1 : -80 ≤ x) (hx2 : x ≤ 80) (hy1 : -80 ≤ y) (hy2 : y ≤ 80) (w : World) :
    Calls Tryz.prog 24 #[.agg #[.int .i64 x, .int .i64 y], .int .i64 4] w fun e w' => e = .returned (.agg #[.int .i64 (trn 4 (x, y)).1, .int .i64 (trn 4 (x, y)).2]) ∧ Below w.heap.size w w' := by
  go_enter Tryz.func24, Tryz.ntmps24
  go_wp2
  refine wp_loop_rounds 1 ?_
  rw [rounds_succ]
  go_wp2
  refine bodyPost_ret (v := .agg #[.int .i64 (-x), .int .i64 (y)]) (by simp [results, Tryz.results24, go_sem]) rfl ⟨ret_agg (by simp [trn, rot]) (by simp [trn, rot]), ?_⟩
  exact ((Below.refl _ _).alloc (Nat.le_refl _) _).alloc (by simp) _
set_option maxRecDepth 100000 in
set_option maxHeartbeats 400000 in
theorem rturn5 (x y : Int) (hx1 : -80 ≤ x) (hx2 : x ≤ 80) (hy1 : -80 ≤ y) (hy2 : y ≤ 80) (w : World) :
    Calls Tryz.prog 24 #[.agg #[.int .i64 x, .int .i64 y], .int .i64 5] w fun e w' => e = .returned (.agg #[.int .i64 (trn 5 (x, y)).1, .int .i64 (trn 5 (x, y)).2]) ∧ Below w.heap.size w w' := by
  go_enter Tryz.func24, Tryz.ntmps24
  go_wp2
  refine wp_loop_rounds 2 ?_
  rw [rounds_succ]
  go_wp2
  rw [rounds_succ]
  go_wp2
  refine bodyPost_ret (v := .agg #[.int .i64 (-y), .int .i64 (-x)]) (by simp [results, Tryz.results24, go_sem]) rfl ⟨ret_agg (by simp [trn, rot]) (by simp [trn, rot]), ?_⟩
  exact ((Below.refl _ _).alloc (Nat.le_refl _) _).alloc (by simp) _
set_option maxRecDepth 100000 in
set_option maxHeartbeats 400000 in
theorem rturn6 (x y : Int) (hx1 : -80 ≤ x) (hx2 : x ≤ 80) (hy1 : -80 ≤ y) (hy2 : y ≤ 80) (w : World) :
    Calls Tryz.prog 24 #[.agg #[.int .i64 x, .int .i64 y], .int .i64 6] w fun e w' => e = .returned (.agg #[.int .i64 (trn 6 (x, y)).1, .int .i64 (trn 6 (x, y)).2]) ∧ Below w.heap.size w w' := by
  go_enter Tryz.func24, Tryz.ntmps24
  go_wp2
  refine wp_loop_rounds 3 ?_
  rw [rounds_succ]
  go_wp2
  rw [rounds_succ]
  go_wp2
  rw [rounds_succ]
  go_wp2
  refine bodyPost_ret (v := .agg #[.int .i64 (x), .int .i64 (-y)]) (by simp [results, Tryz.results24, go_sem]) rfl ⟨ret_agg (by simp [trn, rot]) (by simp [trn, rot]), ?_⟩
  exact ((Below.refl _ _).alloc (Nat.le_refl _) _).alloc (by simp) _
set_option maxRecDepth 100000 in
set_option maxHeartbeats 400000 in
theorem rturn7 (x y : Int) (hx1 : -80 ≤ x) (hx2 : x ≤ 80) (hy1 : -80 ≤ y) (hy2 : y ≤ 80) (w : World) :
    Calls Tryz.prog 24 #[.agg #[.int .i64 x, .int .i64 y], .int .i64 7] w fun e w' => e = .returned (.agg #[.int .i64 (trn 7 (x, y)).1, .int .i64 (trn 7 (x, y)).2]) ∧ Below w.heap.size w w' := by
  go_enter Tryz.func24, Tryz.ntmps24
  go_wp2
  refine wp_loop_rounds 4 ?_
  rw [rounds_succ]
  go_wp2
  rw [rounds_succ]
  go_wp2
  rw [rounds_succ]
  go_wp2
  rw [rounds_succ]
  go_wp2
  refine bodyPost_ret (v := .agg #[.int .i64 (y), .int .i64 (x)]) (by simp [results, Tryz.results24, go_sem]) rfl ⟨ret_agg (by simp [trn, rot]) (by simp [trn, rot]), ?_⟩
  exact ((Below.refl _ _).alloc (Nat.le_refl _) _).alloc (by simp) _
theorem rturn_any (t : Nat) (ht : t < 8) (x y : Int) (hx1 : -80 ≤ x) (hx2 : x ≤ 80) (hy1 : -80 ≤ y) (hy2 : y ≤ 80) (w : World) :
    Calls Tryz.prog 24 #[.agg #[.int .i64 x, .int .i64 y], .int .i64 t] w fun e w' => e = .returned (.agg #[.int .i64 (trn t (x, y)).1, .int .i64 (trn t (x, y)).2]) ∧ Below w.heap.size w w' := by
  match t, ht with
  | 0, _ => exact rturn0 x y hx1 hx2 hy1 hy2 w
  | 1, _ => exact rturn1 x y hx1 hx2 hy1 hy2 w
  | 2, _ => exact rturn2 x y hx1 hx2 hy1 hy2 w
  | 3, _ => exact rturn3 x y hx1 hx2 hy1 hy2 w
  | 4, _ => exact rturn4 x y hx1 hx2 hy1 hy2 w
  | 5, _ => exact rturn5 x y hx1 hx2 hy1 hy2 w
  | 6, _ => exact rturn6 x y hx1 hx2 hy1 hy2 w
  | 7, _ => exact rturn7 x y hx1 hx2 hy1 hy2 w
  | n+8, h => omega
/-- the value of the turn of that number -/
def tval (t : Nat) : Value := if t < 4 then .iface 193 (.int .i64 t) else .iface 194 (.int .i64 (t - 4))
theorem turned_any (t : Nat) (ht : t < 8) (x y : Int) (hx1 : -80 ≤ x) (hx2 : x ≤ 80) (hy1 : -80 ≤ y) (hy2 : y ≤ 80) (w : World) :
    Calls Tryz.prog 77 #[.agg #[.int .i64 x, .int .i64 y], tval t] w fun e w' => e = .returned (.agg #[.int .i64 (trn t (x, y)).1, .int .i64 (trn t (x, y)).2]) ∧ Below w.heap.size w w' := by
  match t, ht with
  | 0, _ => exact turned_plain0 x y hx1 hx2 hy1 hy2 w
  | 1, _ => exact turned_plain1 x y hx1 hx2 hy1 hy2 w
  | 2, _ => exact turned_plain2 x y hx1 hx2 hy1 hy2 w
  | 3, _ => exact turned_plain3 x y hx1 hx2 hy1 hy2 w
  | 4, _ => exact turned_mirrored0 x y hx1 hx2 hy1 hy2 w
  | 5, _ => exact turned_mirrored1 x y hx1 hx2 hy1 hy2 w
  | 6, _ => exact turned_mirrored2 x y hx1 hx2 hy1 hy2 w
  | 7, _ => exact turned_mirrored3 x y hx1 hx2 hy1 hy2 w
  | n+8, h => omega
theorem turnOf_any (t : Nat) (ht : t < 8) (w : World) :
    Calls Tryz.prog 76 #[.int .i64 t] w fun e w' => e = .returned (tval t) ∧ w = w' := by
  by_cases h : t < 4
  · unfold tval; rw [if_pos h]; exact turnOf_lo _ (by omega) (by omega) w
  · unfold tval; rw [if_neg h]; exact turnOf_hi _ (by omega) (by omega) w
theorem trn_small {t : Nat} {p : Int × Int} (h : small p) : small (trn t p) := by
  unfold trn
  split
  · exact rot_small _ h
  · refine rot_small _ ?_
    obtain ⟨⟨h1, h2⟩, h3, h4⟩ := h
    simp only [small]; omega
end Go.Proofs.YtbgjocgjmjkneaaGreatDoor
namespace Go.Proofs.YtbgjocgjmjkneaaGreatDoor
open Go.RowKit
def ptsCells (f : Nat → Int × Int) : Nat → List Value
  | 0 => []
  | k+1 => ptsCells f k ++ [.int .i64 (f k).1, .int .i64 (f k).2]
theorem ownsRow_below {w w' : World} {B : Nat} {e : TypeId} {size : Nat} {v : Value} {n : Nat} {xs : List Value} (h : w.ownsRow B e size v n xs) (hb : Below w.heap.size w w') : w'.ownsRow B e size v n xs := by
  obtain ⟨h1, h2⟩ := h
  refine ⟨h1, ?_⟩
  rcases h2 with h2 | ⟨g, cap, cur, a1, a2, a3, a4⟩
  · exact .inl h2
  · have hg : g < w.heap.size := (Array.getElem?_eq_some_iff.1 a3).1
    exact .inr ⟨g, cap, cur, a1, a2, by rw [hb.block g hg]; exact a3, a4⟩
theorem cells_two (w : World) (a b : Value) (e : TypeId) : ∀ (j : Nat) (u : Value), [a, b][j]? = some u → (w.alloc (Obj.cells #[a, b] e)).cell? ((⟨w.heap.size, 0, none⟩ : Addr).add j) = some u := by
  intro j u h
  match j, h with
  | 0, h => simp at h; subst h; simp [go_sem, Addr.add]
  | 1, h => simp at h; subst h; simp [go_sem, Addr.add]
  | n+2, h => simp at h
theorem Tryz.info53 : (Tryz.prog.info? 53).map (fun i => (i.zero, i.size, i.bytes)) = some (some (.agg #[.int .i64 0, .int .i64 0]), 2, 16) := by kernel_rfl
end Go.Proofs.YtbgjocgjmjkneaaGreatDoor
namespace Go.Proofs
open Go.Maps Go.WideElems Go.ChangeMaps Go.MapKept Go.RowKit
/-- a point as a map's key. -/
abbrev ptV (x y : Int) : Value := .agg #[.int .i64 x, .int .i64 y]
/-- what a type of maps from points to bools has. -/
structure PtMap (P : Program) (t k e : TypeId) : Prop where
  K : Keyed P k
  ht : P.underlying t = some (.map k e)
  he : P.underlying e = some .bool
  hz : ∀ w, (zeroValue e).run P w = .ok (.bool false) w
  key : ∀ x y : Int, (Lit.int .i64 x).wf = true → (Lit.int .i64 y).wf = true → ∃ kl, keyOf P k (ptV x y) = some kl
/-- a map of at most so many entries, each of which says of a point what Q says. -/
def GoodMap (P : Program) (k e : TypeId) (w : World) (b n : Nat) (Q : Int → Int → Bool) : Prop :=
  ∃ es clock, w.heap[b]? = some (.map es clock) ∧ Fit P k (plainElem (H := Unit) P e) es clock ∧ es.size ≤ n ∧ ∀ x ∈ es.toList, ∃ a c : Int, x.key = ptV a c ∧ x.val = .bool (Q a c)
variable {P : Program} {t k e : TypeId} {w : World} {b n : Nat} {Q : Int → Int → Bool}
theorem GoodMap.made (P : Program) (k e : TypeId) (Q : Int → Int → Bool) (w : World) : GoodMap P k e (w.alloc (.map #[] 0)) w.heap.size 0 Q :=
  ⟨#[], 0, (MapKept.heap_alloc w _).1, ⟨by simp, stamped_empty 0, by simp⟩, Nat.le_refl _, by simp⟩
theorem GoodMap.lt (h : GoodMap P k e w b n Q) : b < w.heap.size := by
  obtain ⟨es, clock, hb, _⟩ := h
  exact (Array.getElem?_eq_some_iff.1 hb).1
theorem GoodMap.far {w' : World} (h : GoodMap P k e w b n Q) (hh : w'.heap[b]? = w.heap[b]?) : GoodMap P k e w' b n Q := by
  obtain ⟨es, clock, hb, r⟩ := h
  exact ⟨es, clock, hh.trans hb, r⟩
theorem GoodMap.kept {w' : World} {row : Option Nat} (h : GoodMap P k e w b n Q) (hg : w.grownBy w' row) (hne : some b ≠ row) : GoodMap P k e w' b n Q := h.far (hg.block b h.lt hne)
theorem GoodMap.below {w' : World} {B : Nat} (h : GoodMap P k e w b n Q) (hb : Below B w w') (hl : b < B) : GoodMap P k e w' b n Q := h.far (hb.block b hl)
theorem GoodMap.mono {m : Nat} (h : GoodMap P k e w b n Q) (hm : n ≤ m) : GoodMap P k e w b m Q := by
  obtain ⟨es, clock, h1, h2, h3, h4⟩ := h
  exact ⟨es, clock, h1, h2, Nat.le_trans h3 hm, h4⟩
theorem GoodMap.look (hp : PtMap P t k e) (h : GoodMap P k e w b n Q) {x y : Int} (hx : (Lit.int .i64 x).wf = true) (hy : (Lit.int .i64 y).wf = true) :
    ∃ f : Bool, (Instr.lookup t (.map (some b)) (ptV x y) true).run P w = .ok (.tuple #[.bool (f && Q x y), .bool f]) w := by
  obtain ⟨es, clock, hb, F, _, hall⟩ := h
  obtain ⟨kl, hkey⟩ := hp.key x y hx hy
  rcases Maps.fit_look true hp.K hp.ht (hp.hz w) hb F hkey with ⟨hrun, _⟩ | ⟨e0, y0, hm, hk0, hrun, _⟩
  · exact ⟨false, hrun⟩
  · obtain ⟨a, c, h1, h2⟩ := hall e0 hm
    rw [hk0] at h1
    cases h1
    exact ⟨true, by rw [hrun, h2]; rfl⟩
theorem GoodMap.store (hp : PtMap P t k e) (h : GoodMap P k e w b n Q) (hn : n < maxLen) {x y : Int} (hx : (Lit.int .i64 x).wf = true) (hy : (Lit.int .i64 y).wf = true) :
    ∃ w', (Instr.mapUpdate t (.map (some b)) (ptV x y) (.bool (Q x y))).run P w = .ok () w' ∧ GoodMap P k e w' b (n + 1) Q ∧ w.grownBy w' (some b) := by
  obtain ⟨es, clock, hb, F, hs, hall⟩ := h
  obtain ⟨kl, hkey⟩ := hp.key x y hx hy
  obtain ⟨es', clock', hrun, F', hput, _, _, hwho⟩ := Maps.fit_store (R' := plainElem (H := Unit) P e) hp.K hp.ht hb F (Nat.lt_of_le_of_lt hs hn) (fun _ _ _ _ hz => hz) hkey (plainElem_bool hp.he (Q x y))
  refine ⟨_, hrun, ⟨es', clock', heap_setBlock_same hb _, F', ?_, ?_⟩, ⟨rfl, rfl, rfl, by simp [setBlock], fun i _ hi => heap_setBlock_other hb _ (fun e => hi (by rw [e]))⟩⟩
  · have e1 : es'.size = ((es'.toList.map (rg P k (plainElem (H := Unit) P e))).foldr DataW.insert []).length := by rw [length_sorted]; simp
    rw [e1, hput]
    unfold putKey
    rw [length_insert]
    have e2 := List.length_filter_le (notKey kl) ((es.toList.map (rg P k (plainElem (H := Unit) P e))).foldr DataW.insert [])
    rw [length_sorted] at e2
    simp at e2
    omega
  · intro x' hx'
    rcases hwho x' hx' with ⟨h1, _⟩ | ⟨h1, h2⟩
    · exact hall x' h1
    · exact ⟨x, y, h1, h2⟩
/-- the look-up with ok at its operation. -/
theorem wpList_lookup_good {ops : Array Oper} {rest : List Oper} {o : Oper} {a : Act} {R : Exit → Act → World → Prop} (w : World)
    (hg : o.guard = none) (m x : Operand) (t : TypeId) (hop : o.op = Op.lookup t m x true) (hp : PtMap P t k e)
    (hm : a.eval m = .map (some b)) (h : GoodMap P k e w b n Q) (px py : Int) (hx : a.eval x = ptV px py) (wx : (Lit.int .i64 px).wf = true) (wy : (Lit.int .i64 py).wf = true)
    (hK : ∀ f : Bool, wpList P ops R rest (a.put o.dst (.tuple #[.bool (f && Q px py), .bool f])) w) : wpList P ops R (o :: rest) a w := by
  refine wpList_plain hg fun K' hK' => ?_
  obtain ⟨f, hrun⟩ := h.look hp wx wy
  unfold Oper.wp
  simp [execOp, hop, hm, hx, hrun, Result.andThen]
  exact hK' _ _ (hK f)
/-- the store at its operation. -/
theorem wpList_mapUpdate_good {ops : Array Oper} {rest : List Oper} {o : Oper} {a : Act} {R : Exit → Act → World → Prop} (w : World)
    (hg : o.guard = none) (m x v : Operand) (t : TypeId) (hop : o.op = Op.mapUpdate t m x v) (hp : PtMap P t k e)
    (hm : a.eval m = .map (some b)) (h : GoodMap P k e w b n Q) (hn : n < maxLen) (px py : Int) (hx : a.eval x = ptV px py) (hv : a.eval v = .bool (Q px py)) (wx : (Lit.int .i64 px).wf = true) (wy : (Lit.int .i64 py).wf = true)
    (hK : ∀ w', GoodMap P k e w' b (n + 1) Q → w.grownBy w' (some b) → wpList P ops R rest (a.put o.dst undef) w') : wpList P ops R (o :: rest) a w := by
  refine wpList_plain hg fun K' hK' => ?_
  obtain ⟨w', hrun, r1, r2⟩ := h.store hp hn wx wy
  unfold Oper.wp
  simp [execOp, hop, hm, hx, hv, hrun, Result.andThen]
  exact hK' _ _ (hK w' r1 r2)
end Go.Proofs
namespace Go.Proofs
open Go.Maps
/-- what a point reads as, as a key. -/
theorem ptKey_gen {P : Program} {k i : TypeId} {n0 n1 t0 t1 : String} {e0 e1 : Bool} {x0 x1 : String} {z0 z1 : Nat} (hu : P.underlying k = some (.struct #[⟨n0, i, 0, e0, t0, x0, z0⟩, ⟨n1, i, 1, e1, t1, x1, z1⟩])) (hi : P.underlying i = some (.int .i64)) (hn0 : n0 ≠ "_") (hn1 : n1 ≠ "_")
    (hc : P.cellsOf k = 2) (hc1 : P.cellsOf i = 1) (hk : P.keyType k = true) (hz : 0 < P.types.size) {x y : Int} (hx : (Lit.int .i64 x).wf = true) (hy : (Lit.int .i64 y).wf = true) :
    ∃ kl, keyOf P k (ptV x y) = some kl := by
  obtain ⟨d, hd⟩ : ∃ d, P.types.size = d + 1 := ⟨P.types.size - 1, by omega⟩
  refine ⟨.string (keyBytes [.int .i64 x, .int .i64 y]), ?_⟩
  simp [keyOf, hd, hk, hc, hc1, Program.keyLits, hu, hi, Value.formed, Value.cells, hx, hy, hn0, hn1]
end Go.Proofs
namespace Go.Proofs.YtbgjocgjmjkneaaGreatDoor
open Go.RowKit Go.Maps
theorem laidOutM : laidOutB Tryz.prog = true := by kernel_rfl
theorem ptkU : (Tryz.prog.underlying 53) = some (.struct #[⟨"X", 3, 0, false, "", "", 0⟩, ⟨"Y", 3, 1, false, "", "", 8⟩]) := by kernel_rfl
theorem ptkS : 0 < Tryz.prog.types.size := of_decide_eq_true (by kernel_rfl)
theorem ptkK : Tryz.prog.keyType 53 = true := by kernel_rfl
theorem ptkC : Tryz.prog.cellsOf 53 = 2 := by kernel_rfl
theorem ptkI : Tryz.prog.cellsOf 3 = 1 := by kernel_rfl
theorem ptkR : (53 : TypeId) < Tryz.prog.types.size := of_decide_eq_true (by kernel_rfl)
theorem ptkA : Tryz.prog.keyTypeAt 2 53 = true := by kernel_rfl
theorem ptkZ (w : World) : (zeroValue 4).run Tryz.prog w = .ok (.bool false) w := by kernel_rfl
theorem ptm : PtMap Tryz.prog 118 53 4 where
  K := Keyed.of_law (deep_law_laid laidOutM (m := 2) (by omega) ptkR ptkA (by rw [ptkU]))
  ht := Tryz.underlying118
  he := Tryz.underlying4
  hz := ptkZ
  key := fun _ _ hx hy => ptKey_gen ptkU Tryz.underlying3 (by decide) (by decide) ptkC ptkI ptkK ptkS hx hy
end Go.Proofs.YtbgjocgjmjkneaaGreatDoor
namespace Go.Proofs.YtbgjocgjmjkneaaGreatDoor
open Go.RowKit
set_option maxRecDepth 100000 in
set_option maxHeartbeats 400000 in
theorem around_any (n by_ : Int) (h1 : -1000 ≤ n) (h2 : n ≤ 1000) (h3 : 0 ≤ by_) (h4 : by_ ≤ 1000) (w : World) :
    Calls Tryz.prog 66 #[.int .i64 n, .int .i64 by_] w fun e w' => e = .returned (.agg #[.int .i64 (n - by_), .int .i64 (n + by_)]) ∧ Below w.heap.size w w' := by
  go_enter Tryz.func66, Tryz.ntmps66
  go_wp2
  refine bodyPost_ret (v := .agg #[.int .i64 (n - by_), .int .i64 (n + by_)]) (by simp [results, Tryz.results66, go_sem]) rfl ⟨rfl, ?_⟩
  exact (Below.refl _ _).alloc (Nat.le_refl _) _
set_option maxRecDepth 100000 in
set_option maxHeartbeats 400000 in
theorem lies_any (n lo hi : Int) (w : World) :
    Calls Tryz.prog 138 #[.int .i64 n, .agg #[.int .i64 lo, .int .i64 hi]] w fun e w' => e = .returned (.bool (inB n lo hi)) ∧ Below w.heap.size w w' := by
  go_enter Tryz.func138, Tryz.ntmps138
  go_wp2_with (go_at_call 47; refine (within_any _ _ _ _).mono ?_; rintro e w' ⟨rfl, rfl⟩)
  go_ret
  exact ⟨rfl, (Below.refl _ _).alloc (Nat.le_refl _) _⟩
def nearB (px py qx qy b : Int) : Bool := inB qx (px - b) (px + b) && inB qy (py - b) (py + b)
theorem nearB_no {px py qx qy b : Int} (h : inB qx (px - b) (px + b) = false) : nearB px py qx qy b = false := by unfold nearB; rw [h]; rfl
theorem nearB_yes {px py qx qy b : Int} (h : inB qx (px - b) (px + b) = true) : nearB px py qx qy b = inB qy (py - b) (py + b) := by unfold nearB; rw [h]; rfl
set_option maxRecDepth 100000 in
set_option maxHeartbeats 1000000 in
theorem near_yes (px py qx qy b : Int) (h1 : -500 ≤ px) (h2 : px ≤ 500) (h3 : -500 ≤ py) (h4 : py ≤ 500) (h5 : 0 ≤ b) (h6 : b ≤ 500) (w : World) (hx : inB qx (px - b) (px + b) = true) :
    Calls Tryz.prog 120 #[.agg #[.int .i64 px, .int .i64 py], .agg #[.int .i64 qx, .int .i64 qy], .int .i64 b] w fun e w' => e = .returned (.bool (nearB px py qx qy b)) ∧ Below w.heap.size w w' := by
  go_enter Tryz.func120, Tryz.ntmps120
  go_wp2_with fail
  go_region_held3 (fun w' => w'.cell? ⟨w.heap.size, 0, none⟩ = some (.int .i64 px) ∧ w'.cell? ⟨w.heap.size, 1, none⟩ = some (.int .i64 py) ∧ w'.cell? ⟨w.heap.size + 1, 0, none⟩ = some (.int .i64 qx) ∧ w'.cell? ⟨w.heap.size + 1, 1, none⟩ = some (.int .i64 qy))
    (first
      | go_keep
      | (go_split_ands
         refine ⟨?_, ?_, ?_, ?_⟩ <;> (rw [hb.cell (by first | omega | (simp; omega) | simp)]; assumption)))
    (first
      | (go_at_call 66; refine (around_any _ _ (by omega) (by omega) (by omega) (by omega) _).mono ?_; rintro e w' ⟨rfl, hb⟩; have hs := hb.size; try simp only [World.size_alloc, World.size_drew] at hs)
      | (go_at_call 138; refine (lies_any _ _ _ _).mono ?_; rintro e w' ⟨rfl, hb⟩; have hs := hb.size; try simp only [World.size_alloc, World.size_drew] at hs))
  rename_i wA hA _ wB hB _ wC hC _ _
  go_wp2
  go_ret
  refine ⟨ret_bool (nearB_yes hx).symm, ?_⟩
  have k := hA.size; have k2 := hB.size; have k3 := hC.size
  simp only [World.size_alloc, World.size_drew] at k
  have h0 : Below w.heap.size w ((w.alloc (Obj.cells #[Value.int IntKind.i64 px, Value.int IntKind.i64 py] 53)).alloc (Obj.cells #[Value.int IntKind.i64 qx, Value.int IntKind.i64 qy] 53)).drew := (((Below.refl _ _).alloc (Nat.le_refl _) _).alloc (by rw [World.size_alloc]; omega) _).drew
  exact h0.trans ((hA.mono (by simp only [World.size_alloc, World.size_drew]; omega)).trans ((hB.mono (by omega)).trans ((hC.mono (by omega)).trans (hb.mono (by omega)))))
set_option maxRecDepth 100000 in
set_option maxHeartbeats 1000000 in
theorem near_no (px py qx qy b : Int) (h1 : -500 ≤ px) (h2 : px ≤ 500) (h5 : 0 ≤ b) (h6 : b ≤ 500) (w : World) (hx : inB qx (px - b) (px + b) = false) :
    Calls Tryz.prog 120 #[.agg #[.int .i64 px, .int .i64 py], .agg #[.int .i64 qx, .int .i64 qy], .int .i64 b] w fun e w' => e = .returned (.bool (nearB px py qx qy b)) ∧ Below w.heap.size w w' := by
  go_enter Tryz.func120, Tryz.ntmps120
  go_wp2_with fail
  refine wp_region_held_drew (S := (fun w' => w'.cell? ⟨w.heap.size, 0, none⟩ = some (.int .i64 px) ∧ w'.cell? ⟨w.heap.size, 1, none⟩ = some (.int .i64 py) ∧ w'.cell? ⟨w.heap.size + 1, 0, none⟩ = some (.int .i64 qx) ∧ w'.cell? ⟨w.heap.size + 1, 1, none⟩ = some (.int .i64 qy))) (by kernel_rfl) ?_ (fun hHeld => ?_)
  · (try dsimp only); (first | (go_keep; done) | fail)
  refine wpAnyH_take (i := 0) (v := ?_) rfl (by kernel_rfl) (by kernel_rfl) (by kernel_rfl) (fun _ _ _ h => h) (Or.inl ⟨by rfl, ?_⟩) (by assumption) ?_
  rotate_left 1
  · ((intro w hSw; (try dsimp only at hSw); go_simp) <;> with_reducible rfl)
  (try simp only [Act.put, List.setIfInBounds_toArray, List.set_cons_zero, List.set_cons_succ])
  refine wpAnyH_take (i := 1) (v := ?_) rfl (by kernel_rfl) (by kernel_rfl) (by kernel_rfl) (fun _ _ _ h => h) (Or.inl ⟨by rfl, ?_⟩) (by assumption) ?_
  rotate_left 1
  · ((intro w hSw; (try dsimp only at hSw); go_simp) <;> with_reducible rfl)
  (try simp only [Act.put, List.setIfInBounds_toArray, List.set_cons_zero, List.set_cons_succ])
  refine wpAnyH_take (i := 2) (v := ?_) rfl (by kernel_rfl) (by kernel_rfl) (by kernel_rfl) (fun _ _ _ h => h) (Or.inl ⟨by rfl, ?_⟩) (by assumption) ?_
  rotate_left 1
  · ((intro w hSw; (try dsimp only at hSw); go_simp) <;> with_reducible rfl)
  (try simp only [Act.put, List.setIfInBounds_toArray, List.set_cons_zero, List.set_cons_succ])
  refine wpAnyH_take (i := 3) (v := ?_) rfl (by kernel_rfl) (by kernel_rfl) (by kernel_rfl) (fun _ _ _ h => h) (Or.inl ⟨by rfl, ?_⟩) (by assumption) ?_
  rotate_left 1
  · ((intro w hSw; (try dsimp only at hSw); go_simp) <;> with_reducible rfl)
  (try simp only [Act.put, List.setIfInBounds_toArray, List.set_cons_zero, List.set_cons_succ])
  refine wpAnyH_take (i := 4) (v := ?_) rfl (by kernel_rfl) (by kernel_rfl) (by kernel_rfl) (fun _ _ _ h => h) (Or.inl ⟨by rfl, ?_⟩) (by assumption) ?_
  rotate_left 1
  · ((intro w hSw; (try dsimp only at hSw); go_simp) <;> with_reducible rfl)
  (try simp only [Act.put, List.setIfInBounds_toArray, List.set_cons_zero, List.set_cons_succ])
  refine wpAnyH_ready (rs := [5]) (by kernel_rfl) (by simp) ?_
  refine AllReadyH.cons (o := _) rfl (fun K hK => ?_) AllReadyH.nil
  go_simp
  (go_at_call 66; refine (around_any _ _ (by omega) (by omega) (by omega) (by omega) _).mono ?_; rintro e w1 ⟨rfl, hb⟩; have hA := hb; have hs := hb.size; try simp only [World.size_alloc, World.size_drew] at hs)
  refine hK.out _ _ ?_ (fun hHeld => ?_)
  · (first | (go_keep; done) | (go_split_ands; refine ⟨?_, ?_, ?_, ?_⟩ <;> (rw [hb.cell (by first | omega | (simp; omega) | simp)]; assumption)) | assumption)
  clear hK K
  (try simp only [Act.put, List.setIfInBounds_toArray, List.set_cons_zero, List.set_cons_succ])
  refine wpAnyH_ready (rs := [6]) (by kernel_rfl) (by simp) ?_
  refine AllReadyH.cons (o := _) rfl (fun K hK => ?_) AllReadyH.nil
  go_simp
  (go_at_call 138; refine (lies_any _ _ _ _).mono ?_; rw [hx]; rintro e w' ⟨rfl, hb⟩; have hs := hb.size; try simp only [World.size_alloc, World.size_drew] at hs)
  refine hK.out _ _ ?_ (fun hHeld => ?_)
  · (first | (go_keep; done) | (go_split_ands; refine ⟨?_, ?_, ?_, ?_⟩ <;> (rw [hb.cell (by first | omega | (simp; omega) | simp)]; assumption)) | assumption)
  clear hK K
  (try simp only [Act.put, List.setIfInBounds_toArray, List.set_cons_zero, List.set_cons_succ])
  refine wpAnyH_take (i := 7) (v := ?_) rfl (by kernel_rfl) (by kernel_rfl) (by kernel_rfl) (fun _ _ _ h => h) (Or.inl ⟨by rfl, ?_⟩) (by assumption) ?_
  rotate_left 1
  · ((intro w hSw; (try dsimp only at hSw); go_simp) <;> with_reducible rfl)
  (try simp only [Act.put, List.setIfInBounds_toArray, List.set_cons_zero, List.set_cons_succ])
  refine wpAnyH_take (i := 8) (v := undef) rfl (by kernel_rfl) (by kernel_rfl) (by kernel_rfl) (fun _ _ _ h => h) (Or.inr ⟨by rfl, rfl⟩) (by assumption) ?_
  (try simp only [Act.put, List.setIfInBounds_toArray, List.set_cons_zero, List.set_cons_succ])
  refine wpAnyH_take (i := 9) (v := undef) rfl (by kernel_rfl) (by kernel_rfl) (by kernel_rfl) (fun _ _ _ h => h) (Or.inr ⟨by rfl, rfl⟩) (by assumption) ?_
  (try simp only [Act.put, List.setIfInBounds_toArray, List.set_cons_zero, List.set_cons_succ])
  refine wpAnyH_take (i := 10) (v := undef) rfl (by kernel_rfl) (by kernel_rfl) (by kernel_rfl) (fun _ _ _ h => h) (Or.inr ⟨by rfl, rfl⟩) (by assumption) ?_
  (try simp only [Act.put, List.setIfInBounds_toArray, List.set_cons_zero, List.set_cons_succ])
  refine wpAnyH_take (i := 11) (v := undef) rfl (by kernel_rfl) (by kernel_rfl) (by kernel_rfl) (fun _ _ _ h => h) (Or.inr ⟨by rfl, rfl⟩) (by assumption) ?_
  (try simp only [Act.put, List.setIfInBounds_toArray, List.set_cons_zero, List.set_cons_succ])
  refine wpAnyH_take (i := 12) (v := undef) rfl (by kernel_rfl) (by kernel_rfl) (by kernel_rfl) (fun _ _ _ h => h) (Or.inr ⟨by rfl, rfl⟩) (by assumption) ?_
  (try simp only [Act.put, List.setIfInBounds_toArray, List.set_cons_zero, List.set_cons_succ])
  refine wpAnyH_ready (rs := [13]) (by kernel_rfl) (by simp) ?_
  refine AllReadyH.cons (o := _) rfl (fun K hK => ?_) AllReadyH.nil
  go_simp
  refine hK.out _ _ ?_ (fun hHeld => ?_)
  · (first | (go_keep; done) | (go_split_ands; refine ⟨?_, ?_, ?_, ?_⟩ <;> (rw [hb.cell (by first | omega | (simp; omega) | simp)]; assumption)) | assumption)
  clear hK K
  (try simp only [Act.put, List.setIfInBounds_toArray, List.set_cons_zero, List.set_cons_succ])
  refine wpAnyH_ready (rs := [14]) (by kernel_rfl) (by simp) ?_
  refine AllReadyH.cons (o := _) rfl (fun K hK => ?_) AllReadyH.nil
  go_simp
  refine hK.out _ _ ?_ (fun hHeld => ?_)
  · (first | (go_keep; done) | (go_split_ands; refine ⟨?_, ?_, ?_, ?_⟩ <;> (rw [hb.cell (by first | omega | (simp; omega) | simp)]; assumption)) | assumption)
  clear hK K
  (try simp only [Act.put, List.setIfInBounds_toArray, List.set_cons_zero, List.set_cons_succ])
  refine wpAnyH_take (i := 15) (v := ?_) rfl (by kernel_rfl) (by kernel_rfl) (by kernel_rfl) (fun _ _ _ h => h) (Or.inl ⟨by rfl, ?_⟩) (by assumption) ?_
  rotate_left 1
  · ((intro w hSw; (try dsimp only at hSw); go_simp) <;> with_reducible rfl)
  (try simp only [Act.put, List.setIfInBounds_toArray, List.set_cons_zero, List.set_cons_succ])
  refine wpAnyH_take (i := 16) (v := ?_) rfl (by kernel_rfl) (by kernel_rfl) (by kernel_rfl) (fun _ _ _ h => h) (Or.inl ⟨by rfl, ?_⟩) (by assumption) ?_
  rotate_left 1
  · ((intro w hSw; (try dsimp only at hSw); go_simp) <;> with_reducible rfl)
  (try simp only [Act.put, List.setIfInBounds_toArray, List.set_cons_zero, List.set_cons_succ])
  refine wpAnyH_done (by kernel_rfl) ?_ _
  simp only [Act.put, List.getElem_toArray, List.getElem_cons_zero, List.getElem_cons_succ, List.setIfInBounds_toArray, List.set_cons_zero, List.set_cons_succ]
  go_wp2
  go_ret
  refine ⟨ret_bool (nearB_no hx).symm, ?_⟩
  have k := hA.size
  simp only [World.size_alloc, World.size_drew] at k
  have h0 : Below w.heap.size w ((w.alloc (Obj.cells #[Value.int IntKind.i64 px, Value.int IntKind.i64 py] 53)).alloc (Obj.cells #[Value.int IntKind.i64 qx, Value.int IntKind.i64 qy] 53)).drew := (((Below.refl _ _).alloc (Nat.le_refl _) _).alloc (by rw [World.size_alloc]; omega) _).drew
  exact h0.trans ((hA.mono (by simp only [World.size_alloc, World.size_drew]; omega)).trans (hb.mono (by omega)))
theorem near_any (px py qx qy b : Int) (h1 : -500 ≤ px) (h2 : px ≤ 500) (h3 : -500 ≤ py) (h4 : py ≤ 500) (h5 : 0 ≤ b) (h6 : b ≤ 500) (w : World) :
    Calls Tryz.prog 120 #[.agg #[.int .i64 px, .int .i64 py], .agg #[.int .i64 qx, .int .i64 qy], .int .i64 b] w fun e w' => e = .returned (.bool (nearB px py qx qy b)) ∧ Below w.heap.size w w' := by
  cases hx : inB qx (px - b) (px + b) with
  | true => exact near_yes px py qx qy b h1 h2 h3 h4 h5 h6 w hx
  | false => exact near_no px py qx qy b h1 h2 h5 h6 w hx
end Go.Proofs.YtbgjocgjmjkneaaGreatDoor
namespace Go.Proofs.YtbgjocgjmjkneaaGreatDoor
open Go.RowKit
set_option maxRecDepth 100000 in
set_option maxHeartbeats 2000000 in
theorem fits_any (i j t hb pb tb yb b1 o1 n1 k1 b2 o2 n2 k2 : Nat) (tv : Value) (HX HY PX PY : Nat → Int) (r : Int) (w : World) (hr0 : 0 ≤ r) (hr1 : r ≤ 500) (hi : i < n1) (hj : j < n2) (hn1 : n1 ≤ 1000) (hn2 : n2 ≤ 1000)
    (hT : ∀ W, Calls Tryz.prog 77 #[.agg #[.int .i64 (PX j), .int .i64 (PY j)], tv] W fun e w' => e = .returned (.agg #[.int .i64 (trn t (PX j, PY j)).1, .int .i64 (trn t (PX j, PY j)).2]) ∧ Below W.heap.size W w')
    (c1 : w.cell? ⟨hb, 0, none⟩ = some (.slice (some ⟨b1, o1, none⟩) n1 k1)) (c2 : w.cell? ⟨pb, 0, none⟩ = some (.slice (some ⟨b2, o2, none⟩) n2 k2)) (c3 : w.cell? ⟨tb, 0, none⟩ = some tv) (c4 : w.cell? ⟨yb, 0, none⟩ = some (.int .i64 r))
    (l1 : hb < w.heap.size) (l2 : pb < w.heap.size) (l3 : tb < w.heap.size) (l4 : yb < w.heap.size) (hp1 : Pts w b1 o1 n1 HX HY) (hp2 : Pts w b2 o2 n2 PX PY) (m1 : b1 < w.heap.size) (m2 : b2 < w.heap.size) (s1 : small (HX i, HY i)) :
    Calls Tryz.prog 119 #[.int .i64 i, .int .i64 j, .pointer (some ⟨hb, 0, none⟩), .pointer (some ⟨pb, 0, none⟩), .pointer (some ⟨tb, 0, none⟩), .pointer (some ⟨yb, 0, none⟩)] w
      fun e w' => e = .returned (.bool (nearB (HX i) (HY i) (trn t (PX j, PY j)).1 (trn t (PX j, PY j)).2 r)) ∧ Below w.heap.size w w' := by
  obtain ⟨d1, d2⟩ := hp1 i hi
  obtain ⟨d3, d4⟩ := hp2 j hj
  obtain ⟨⟨s2, s3⟩, s4, s5⟩ := s1
  dsimp only at s2 s3 s4 s5
  have hi0 : (0 : Int) ≤ (i : Int) := Int.natCast_nonneg _
  have hi1 : (i : Int) < (n1 : Int) := by omega
  have hj0 : (0 : Int) ≤ (j : Int) := Int.natCast_nonneg _
  have hj1 : (j : Int) < (n2 : Int) := by omega
  generalize (trn t (PX j, PY j)).1 = qx at hT ⊢
  generalize (trn t (PX j, PY j)).2 = qy at hT ⊢
  go_enter Tryz.func119, Tryz.ntmps119
  go_wp2_with fail
  go_region_held3 (fun w' => w'.cell? ⟨hb, 0, none⟩ = some (.slice (some ⟨b1, o1, none⟩) n1 k1) ∧ w'.cell? ⟨pb, 0, none⟩ = some (.slice (some ⟨b2, o2, none⟩) n2 k2) ∧ w'.cell? ⟨tb, 0, none⟩ = some tv ∧ w'.cell? ⟨yb, 0, none⟩ = some (.int .i64 r)
      ∧ w'.cell? ⟨b1, o1 + i * 2, none⟩ = some (.int .i64 (HX i)) ∧ w'.cell? ⟨b1, o1 + i * 2 + 1, none⟩ = some (.int .i64 (HY i)) ∧ w'.cell? ⟨b2, o2 + j * 2, none⟩ = some (.int .i64 (PX j)) ∧ w'.cell? ⟨b2, o2 + j * 2 + 1, none⟩ = some (.int .i64 (PY j)))
    (first
      | go_keep
      | (go_split_ands
         refine ⟨?_, ?_, ?_, ?_, ?_, ?_, ?_, ?_⟩ <;> (rw [hbb.cell (by first | omega | (simp; omega) | simp)]; assumption)))
    (first
      | (go_at_call 77; refine (hT _).mono ?_; rintro e w' ⟨rfl, hbb⟩; have hs := hbb.size; try simp only [World.size_alloc, World.size_drew] at hs)
      | (go_at_call 120; refine (near_any _ _ _ _ _ (by omega) (by omega) (by omega) (by omega) (by omega) (by omega) _).mono ?_; rintro e w' ⟨rfl, hbb⟩; have hs := hbb.size; try simp only [World.size_alloc, World.size_drew] at hs))
  rename_i wA hA hsA _
  go_wp2
  go_ret
  exact ⟨rfl, (Below.refl _ _).drew.trans ((hA.mono (by simp)).trans (hbb.mono (by simpa using hsA)))⟩
end Go.Proofs.YtbgjocgjmjkneaaGreatDoor
namespace Go.Proofs.YtbgjocgjmjkneaaGreatDoor
end Go.Proofs.YtbgjocgjmjkneaaGreatDoor
namespace Go.Proofs.YtbgjocgjmjkneaaGreatDoor
open Go.RowKit
end Go.Proofs.YtbgjocgjmjkneaaGreatDoor
