/- A part of the proof: see the last file. -/
import Derived.Test.YtlhgkepdoinlnaaGreatDoorPag
import Derived.Maps.AppendAt
import Derived.RangeFuncBox
import Derived.Lib.OwnKind
import Derived.Test.YtlhgkepdoinlnaaGreatDoorPae
set_option linter.unusedVariables false
set_option linter.unusedSimpArgs false
set_option linter.unusedSectionVars false
namespace Go.Proofs.YtlhgkepdoinlnaaGreatDoor
open Go.RowKit Go.Gen Go.Drum Go.Shelf
attribute [local go_sem] Oper.semAt_some
@[reducible] def Ch.cells (d : Drm) (x : Ch) : List Value := [.slice d.aa d.an d.ac, .int .i64 d.known, .int .i64 d.hours, .slice d.da d.dn d.dc, .slice d.sa d.sn d.sc, .slice d.ba d.bn d.bc, .int .i64 x.acid, .slice (some ⟨x.r, 0, none⟩) d.dn x.cap]
def chL (d : Drm) : List Ch → List Value
 | [] => []
 | x :: l => x.cells d ++ chL d l
theorem chL_append (d : Drm) : ∀ (l m : List Ch), chL d (l ++ m) = chL d l ++ chL d m
 | [], _ => rfl
 | x :: l, m => by show x.cells d ++ chL d (l ++ m) = (x.cells d ++ chL d l) ++ chL d m; rw [chL_append d l m, List.append_assoc]
theorem chL_push (d : Drm) (l : List Ch) (x : Ch) : chL d (l ++ [x]) = chL d l ++ x.cells d := by rw [chL_append]; show _ ++ (x.cells d ++ []) = _; rw [List.append_nil]
theorem Tryz.info97 : (Tryz.prog.info? 97).map (fun i => (i.zero, i.size, i.bytes)) = some (some (.agg #[.slice none 0 0, .int .i64 0, .int .i64 0, .slice none 0 0, .slice none 0 0, .slice none 0 0, .int .i64 0, .slice none 0 0]), 8, 144) := by kernel_rfl
theorem row_keep {w w' : World} {B : Nat} {e : TypeId} {size : Nat} {v : Value} {n : Nat} {xs : List Value} (h : w.ownsRow B e size v n xs) (hb : ∀ g, v.ownBlock = some g → w'.heap[g]? = w.heap[g]?) : w'.ownsRow B e size v n xs := by
 obtain ⟨h1, h2⟩ := h
 refine ⟨h1, ?_⟩
 rcases h2 with h2 | ⟨g, cap, cur, a1, a2, a3, a4⟩
 ·exact .inl h2
 ·exact .inr ⟨g, cap, cur, a1, a2, by rw [hb g (by rw [a1]; rfl)]; exact a3, a4⟩
theorem cat_kept {W W' : World} {C n : Nat} {f : Nat → Int × Int} {row : Option Nat} (hn : 1 ≤ n) (h : CAt W C n f) (hg : W.grownBy W' row) (hr : ∀ r, row = some r → ∃ o : Obj, W.heap[r]? = some o ∧ o.isCells = false) : CAt W' C n f := by
 obtain ⟨o, ho, hc⟩ := cells_of_cell (h.c 0 hn).1
 exact h.far (grownBy_keeps_cells hg hr ho hc)
/-- AppendSeq's own: the box of the list, the list, and what its elements own. -/
structure AI (d : Drm) (w : World) (pre : List Ch) (s : Nat) (W : World) : Prop where
 box : ∃ v, W.cell? ⟨w.heap.size, 0, none⟩ = some v ∧ W.ownsRow (w.heap.size + 1) 97 8 v pre.length (chL d pre) ∧ (∀ g, v.ownBlock = some g → g < s) ∧ ∀ x ∈ pre, v.ownBlock ≠ some x.r
 fro : W.frozen? ⟨w.heap.size, 0, none⟩ = false
 rows : ∀ x ∈ pre, x.r < s ∧ w.heap.size < x.r ∧ x.acid < d.an ∧ CAt W x.r d.dn ((d.acid x.acid).ends d.dn)
 lt : w.heap.size < s
 bel : Below w.heap.size w W
theorem AI.below {d : Drm} {w : World} {pre : List Ch} {s : Nat} {W W' : World} (h : AI d w pre s W) (hb : Below s W W') : AI d w pre s W' := by
 obtain ⟨v, h1, h2, h3, h4⟩ := h.box
 exact ⟨⟨v, (hb.cell (p := ⟨w.heap.size, 0, none⟩) h.lt).trans h1, row_keep h2 fun g hg => hb.block g (h3 g hg), h3, h4⟩, (hb.frozen (p := ⟨w.heap.size, 0, none⟩) h.lt).trans h.fro, fun x hx => by
  obtain ⟨a, b, c, e⟩ := h.rows x hx
  exact ⟨a, b, c, e.below hb a⟩, h.lt, h.bel.trans (hb.mono (by have := h.lt; omega))⟩
theorem AI.mono {d : Drm} {w : World} {pre : List Ch} {s s' : Nat} {W : World} (h : AI d w pre s W) (hs : s ≤ s') : AI d w pre s' W := by
 obtain ⟨v, h1, h2, h3, h4⟩ := h.box
 exact ⟨⟨v, h1, h2, fun g hg => Nat.lt_of_lt_of_le (h3 g hg) hs, h4⟩, h.fro, fun x hx => by
  obtain ⟨a, b, c, e⟩ := h.rows x hx
  exact ⟨Nat.lt_of_lt_of_le a hs, b, c, e⟩, Nat.lt_of_lt_of_le h.lt hs, h.bel⟩
theorem AI.put {d : Drm} {w : World} {pre : List Ch} {s : Nat} {W : World} {l : Nat} {o o' : Obj} (hn : 1 ≤ d.dn) (hl : W.heap[l]? = some o) (ho : o.isCells = false) (hlw : w.heap.size ≤ l) (h : AI d w pre s W) : AI d w pre s (W.putObj l o') := by
 obtain ⟨v, h1, h2, h3, h4⟩ := h.box
 have hg := grownBy_putObj' W l o'
 have hr : ∀ r, some l = some r → ∃ o : Obj, W.heap[r]? = some o ∧ o.isCells = false := fun r e => by cases e; exact ⟨o, hl, ho⟩
 exact ⟨⟨v, cell_kept h1 hg hr, ownsRow_putObj h2 o' hl ho, h3, h4⟩, (frozen_kept h1 hg hr).trans h.fro, fun x hx => by
  obtain ⟨a, b, c, e⟩ := h.rows x hx
  exact ⟨a, b, c, cat_kept hn e hg hr⟩, h.lt, h.bel.trans (below_putO' hlw hl)⟩
/-- what AppendSeq hands back. -/
def Got (d : Drm) (w : World) (e : Ending) (w' : World) : Prop := ∃ (xs : List Ch) (v : Value), e = .returned v ∧ CouldTo d d.an (xs.map Ch.acid) ∧ w'.ownsRow (w.heap.size + 1) 97 8 v xs.length (chL d xs) ∧ (∀ x ∈ xs, x.r < w'.heap.size ∧ w.heap.size < x.r ∧ x.acid < d.an ∧ CAt w' x.r d.dn ((d.acid x.acid).ends d.dn) ∧ v.ownBlock ≠ some x.r) ∧ Below w.heap.size w w'
set_option maxRecDepth 100000 in
set_option maxHeartbeats 4000000 in
theorem appendSeq_any (d : Drm) (bd : Nat) (w : World) (hok : d.Ok) (hd : DIn w d) (hD : DAt w bd d) (hbl : bd < w.heap.size) :
  Calls Tryz.prog 138 #[.slice none 0 0, .func (.func 139) #[] #[.pointer (some ⟨bd, 0, none⟩)]] w (Got d w) := by
 have hdn1 : 1 ≤ d.dn := by have := hok.hours; have := hok.adds; omega
 obtain ⟨i0, hinf, hz0, hz1, hz2⟩ := info_parts Tryz.info97
 refine (callsIn_wide (n := 3)).1 ?_
 obtain ⟨W0, hW0⟩ : ∃ W, w.alloc (.cells #[.slice none 0 0] 99) = W := ⟨_, rfl⟩
 have hz : W0.heap.size = w.heap.size + 1 := by rw [← hW0, World.size_alloc]
 have hb0 : Below w.heap.size w W0 := by rw [← hW0]; exact (Below.refl _ _).alloc (Nat.le_refl _) _
 have hI0 : AI d w [] W0.heap.size W0 := ⟨⟨.slice none 0 0, by rw [← hW0]; exact cells_new w _ _ rfl, World.ownsRow_nil _ _ _ _, fun g hg => (by cases hg), fun x hx => (by cases hx)⟩, by rw [← hW0]; simp [go_sem], fun x hx => (by cases hx), by omega, hb0⟩
 refine callsIn_of_wp_marks Tryz.func138 rfl trivial ?_ rfl
 simp only [Tryz.ntmps138, List.size_toArray, List.length_cons, List.length_nil, Nat.reduceAdd, Nat.reduceSub, Array.replicate_succ, Array.replicate_zero, List.push_toArray, List.append_toArray, List.nil_append, List.cons_append]
 gi_wp2
 rename_i K hKK
 refine wpIn_rangeFunc_boxed (α := Ch) w.heap.size (by omega) rfl rfl (gf := 139) (lb := #[.pointer (some ⟨bd, 0, none⟩)]) rfl trivial (enters_of Tryz.func139 (by kernel_rfl) rfl)
  (ChC d) (fun xs => CouldTo d d.an (xs.map Ch.acid)) 4 (fun pre s W => AI d w pre s W ∧ W0.heap.size ≤ s) ?iter ?hI ?hIm ?hIp ?hCp ?h0 ?hCb
  (fun x b => { tmps := #[.slice none 0 0, .func (.func 139) #[] #[.pointer (some ⟨bd, 0, none⟩)], .pointer (some ⟨w.heap.size, 0, none⟩), undef, .slice none 0 0, .pointer (some ⟨b, 0, none⟩), .func (.func 139) #[] #[.pointer (some ⟨bd, 0, none⟩)], x.val d, undef, undef, undef, undef, undef], defers := [] })
  (fun x => .cells (x.cells d).toArray 97 (0, 0)) ?assign ?body ?done
 case iter =>
  intro l W1 J hB hsz hst hY h0
  exact poss_iter _ d bd W0.heap.size w hok hd hD hbl l W1 J (hb0.trans hB) (by omega) hsz hst hY h0
 case hI => exact fun pre s W W' h hb => ⟨h.1.below hb, h.2⟩
 case hIm => exact fun pre s s' W hs h => ⟨h.1.mono hs, by have := h.2; omega⟩
 case hIp => exact fun pre s W l o o' hlw ho hc hc' h => ⟨AI.put hdn1 ho hc (by omega) h.1, h.2⟩
 case hCp => exact fun x v s W l o o' ho hc hc' h => ⟨h.v, h.lo, by rw [World.putObj_size]; exact h.hi, cat_kept hdn1 h.row (grownBy_putObj' W l o') (fun r e => by cases e; exact ⟨o, ho, hc⟩), h.lt⟩
 case h0 => exact ⟨hI0, Nat.le_refl _⟩
 case hCb => exact fun x v s W W' h hb => h.below hb
 case assign =>
  rintro l m x v s W K2 ⟨rfl, _, _, _, _⟩ hK2
  gi_wp2
  exact hK2
 case body =>
  rintro l m pre x v s b W ⟨hI, hs0⟩ hsb hbW hob hs2 hbw hC hlen
  obtain ⟨u, hu1, hu2, hu3, hu4⟩ := hI.box
  have huf := hI.fro
  have e0 : W.cell? ⟨b, 0, none⟩ = some (.slice d.aa d.an d.ac) := by unfold World.cell?; rw [hob]; rfl
  have e1 : W.cell? ⟨b, 1, none⟩ = some (.int .i64 d.known) := by unfold World.cell?; rw [hob]; rfl
  have e2 : W.cell? ⟨b, 2, none⟩ = some (.int .i64 d.hours) := by unfold World.cell?; rw [hob]; rfl
  have e3 : W.cell? ⟨b, 3, none⟩ = some (.slice d.da d.dn d.dc) := by unfold World.cell?; rw [hob]; rfl
  have e4 : W.cell? ⟨b, 4, none⟩ = some (.slice d.sa d.sn d.sc) := by unfold World.cell?; rw [hob]; rfl
  have e5 : W.cell? ⟨b, 5, none⟩ = some (.slice d.ba d.bn d.bc) := by unfold World.cell?; rw [hob]; rfl
  have e6 : W.cell? ⟨b, 6, none⟩ = some (.int .i64 x.acid) := by unfold World.cell?; rw [hob]; rfl
  have e7 : W.cell? ⟨b, 7, none⟩ = some (.slice (some ⟨x.r, 0, none⟩) d.dn x.cap) := by unfold World.cell?; rw [hob]; rfl
  have hlt := hI.lt
  clear hob
  gi_wp2_with (gi_at_builtin; refine wpListIn_append_own _ rfl _ _ 99 rfl (w.heap.size + 1) 97 i0 (.agg #[.slice none 0 0, .int .i64 0, .int .i64 0, .slice none 0 0, .slice none 0 0, .slice none 0 0, .int .i64 0, .slice none 0 0]) 8 144 Tryz.underlying99 hinf hz0 hz1 hz2 rfl (by decide) _ _ _ rfl (hu2.alloc _) ⟨W.heap.size, 0, none⟩ 1 1 (x.cells d) rfl rfl ?c1 ?c2 ?c3 ?c4 ?c5 ?_)
  case c1 => exact fun j u' h => by rw [add_at, Nat.zero_add]; exact cells_new W (x.cells d).toArray _ (by simpa using h)
  case c2 =>
   intro u' hu
   simp only [Ch.cells, List.mem_cons, List.not_mem_nil, or_false] at hu
   rcases hu with rfl | rfl | rfl | rfl | rfl | rfl | rfl | rfl <;> rfl
  case c3 => unfold maxLen; omega
  case c4 => omega
  case c5 => rw [World.size_alloc]; omega
  intro v' W' hown' hgrow _
  obtain ⟨g', cap', rfl⟩ := ownsRow_succ hown'
  have hbA : Below (w.heap.size + 1) W W' := ((Below.refl _ W).alloc (by omega) _).grown hgrow (by rw [World.size_alloc]; omega) (fun k hk => (hu2.lt k hk).1)
  have c1 := (hbA.cell (p := ⟨w.heap.size, 0, none⟩) (Nat.lt_succ_self _)).trans hu1
  have f1 := (hbA.frozen (p := ⟨w.heap.size, 0, none⟩) (Nat.lt_succ_self _)).trans huf
  have hkeep : ∀ y : Ch, y.r < W.heap.size → u.ownBlock ≠ some y.r → W'.heap[y.r]? = W.heap[y.r]? := fun y h1 h2 => (hgrow.block y.r (by rw [World.size_alloc]; omega) (fun e => h2 e.symm)).trans (Below.heap_alloc W _ y.r h1)
  have hne : ∀ y : Ch, y.r < W.heap.size → u.ownBlock ≠ some y.r → CAt W y.r d.dn ((d.acid y.acid).ends d.dn) → g' ≠ y.r := fun y h1 h2 h3 e => by
   have h4 := ((h3.far (hkeep y h1 h2)).c 0 hdn1).1
   have h5 := hown'.cellAt 0 (by omega)
   rw [e] at h5
   rw [Nat.zero_mul] at h4
   rw [h5, ← chL_push] at h4
   cases pre with
   | nil => rw [List.nil_append] at h4; cases h4
   | cons y0 l => rw [List.cons_append] at h4; cases h4
  have hux : u.ownBlock ≠ some x.r := fun e => by have := hu3 x.r e; have := hC.lo; omega
  have hall : ∀ y ∈ pre ++ [x], y.r < W.heap.size ∧ w.heap.size < y.r ∧ y.acid < d.an ∧ CAt W y.r d.dn ((d.acid y.acid).ends d.dn) ∧ u.ownBlock ≠ some y.r := fun y hy => by
   rcases List.mem_append.1 hy with hy | hy
   ·obtain ⟨h1, h2, h3, h4⟩ := hI.rows y hy
    exact ⟨by omega, h2, h3, h4, hu4 y hy⟩
   ·obtain rfl := List.mem_singleton.1 hy
    have h1 := hC.lo
    exact ⟨hC.hi, by omega, hC.lt, hC.row, hux⟩
  have hko : KeepsOthers W W' := (KeepsOthers.alloc W _).trans (KeepsOthers.of_grownBy hgrow fun j o hj ho => by
   obtain ⟨c, fz, hc⟩ := Lib.ownsRow_kind (hu2.alloc _) j hj
   rw [hc] at ho; cases ho; rfl)
  have hlen2 : (pre ++ [x]).length = pre.length + 1 := by simp
  have hlen3 : Hdn ((pre ++ [x]).length = pre.length + 1) := ⟨hlen2⟩
  have hszA := hbA.size
  clear hlen2 e0 e1 e2 e3 e4 e5 e6 e7
  gi_wp2
  refine ⟨(hbA.mono (Nat.le_succ _)).setCell (p := ⟨w.heap.size, 0, none⟩) (Nat.le_refl _) _, hko.trans (KeepsOthers.setCell _ _ _), ⟨⟨_, World.cell?_setCell_same' _ _ _ (by rw [c1]; rfl), ?_, fun g hg => ?_, fun y hy => ?_⟩, by rw [World.frozen?_setCell]; exact f1, fun y hy => ?_, by (try rw [World.size_setCell]); omega, ((hb0.trans hbw).trans (hbA.mono (by omega))).setCell (p := ⟨w.heap.size, 0, none⟩) (Nat.le_refl _) _⟩, by (try rw [World.size_setCell]); omega⟩
  ·rw [hlen3.out, chL_push]
   exact ownsRow_setCell_below hown' (a := ⟨w.heap.size, 0, none⟩) (Nat.lt_succ_self _) _
  ·(try rw [World.size_setCell]); exact (hown'.lt g hg).2
  ·obtain ⟨h1, h2, h3, h4, h5⟩ := hall y hy
   intro e
   exact hne y h1 h5 h4 (Option.some.inj e)
  ·obtain ⟨h1, h2, h3, h4, h5⟩ := hall y hy
   exact ⟨by (try rw [World.size_setCell]); omega, h2, h3, (h4.far (hkeep y h1 h5)).far (Below.heap_setCell _ ⟨w.heap.size, 0, none⟩ _ y.r (by show y.r ≠ w.heap.size; omega))⟩
 case done =>
  rintro D xs s W hD hS hs ⟨hI, _⟩ hB hK
  obtain ⟨u, hu1, hu2, hu3, hu4⟩ := hI.box
  have hF : AI d w xs s (W.putObj D (.deferred none)) := AI.put hdn1 hK rfl (by omega) hI
  have hz3 : (W.putObj D (.deferred none)).heap.size = W.heap.size := World.putObj_size
  gi_wp2
  refine ⟨by simp, .inl ⟨_, _, rfl, run_takeDeferred hK, ?_⟩⟩
  refine ⟨u, by simp [results, Tryz.results138, go_sem], ?_⟩
  have hrow2 := ownsRow_putObj hu2 (.deferred none) hK rfl
  refine ⟨xs, u, rfl, hS, hrow2, fun x hx => ?_, hF.bel⟩
  obtain ⟨h1, h2, h3, h4⟩ := hF.rows x hx
  exact ⟨by omega, h2, h3, h4, hu4 x hx⟩
set_option maxRecDepth 100000 in
set_option maxHeartbeats 4000000 in
theorem collect_any (d : Drm) (bd : Nat) (w : World) (hok : d.Ok) (hd : DIn w d) (hD : DAt w bd d) (hbl : bd < w.heap.size) :
  Calls Tryz.prog 115 #[.func (.func 139) #[] #[.pointer (some ⟨bd, 0, none⟩)]] w (Got d w) := by
 have ha := appendSeq_any d bd w hok hd hD hbl
 go_enter Tryz.func115, Tryz.ntmps115
 go_wp2_with (go_at_call 138; (with_reducible refine ha.mono ?_); rintro e w1 ⟨xs, v, rfl, h1, h2, h3, h4⟩)
 refine bodyPost_ret (v := v) (by simp [results, Tryz.results115, go_sem]) rfl ?_
 exact ⟨xs, v, rfl, h1, h2, h3, h4⟩
set_option maxRecDepth 100000 in
set_option maxHeartbeats 4000000 in
theorem possible_make (d : Drm) (w : World) :
  Calls Tryz.prog 116 #[d.val] w fun e w' => e = .returned (.func (.func 139) #[] #[.pointer (some ⟨w.heap.size, 0, none⟩)]) ∧ PoD w d w' := by
 obtain ⟨W0, hW⟩ : ∃ W0, w.alloc (.cells #[.slice d.aa d.an d.ac, .int .i64 d.known, .int .i64 d.hours, .slice d.da d.dn d.dc, .slice d.sa d.sn d.sc, .slice d.ba d.bn d.bc] 27) = W0 := ⟨_, rfl⟩
 have hX : PoD w d W0 := by rw [← hW]; exact PoD.new w d
 have hmf : ∀ (fn : Fn) (first cap : Array Value) (w : World), (Instr.makeFunc fn first cap).run Tryz.prog w = .ok (.func fn first cap) w := fun _ _ _ _ => rfl
 go_enter Tryz.func116, Tryz.ntmps116
 go_wp2
 go_ret
 exact ⟨rfl, hX⟩
end Go.Proofs.YtlhgkepdoinlnaaGreatDoor
namespace Go.Proofs.YtlhgkepdoinlnaaGreatDoor
open Go.RowKit Go.Gen Go.Drum
/-- lists of a drum that are no longer than memory. -/
structure Drm.Len (d : Drm) : Prop where
 la : d.an ≤ 9223372036854775807
 ld : d.dn ≤ 9223372036854775807
 ls : d.sn ≤ 9223372036854775807
 lb : d.bn ≤ 9223372036854775807
/-- an acid's cells at a place. -/
structure FilAt (W : World) (g o : Nat) (d : Drm) (x : Ch) : Prop where
 k0 : W.cell? ⟨g, o, none⟩ = some (.slice d.aa d.an d.ac)
 k1 : W.cell? ⟨g, o + 1, none⟩ = some (.int .i64 d.known)
 k2 : W.cell? ⟨g, o + 2, none⟩ = some (.int .i64 d.hours)
 k3 : W.cell? ⟨g, o + 3, none⟩ = some (.slice d.da d.dn d.dc)
 k4 : W.cell? ⟨g, o + 4, none⟩ = some (.slice d.sa d.sn d.sc)
 k5 : W.cell? ⟨g, o + 5, none⟩ = some (.slice d.ba d.bn d.bc)
 k6 : W.cell? ⟨g, o + 6, none⟩ = some (.int .i64 x.acid)
 k7 : W.cell? ⟨g, o + 7, none⟩ = some (.slice (some ⟨x.r, 0, none⟩) d.dn x.cap)
theorem FilAt.far {W W' : World} {g o : Nat} {d : Drm} {x : Ch} (h : FilAt W g o d x) (hh : W'.heap[g]? = W.heap[g]?) : FilAt W' g o d x :=
 have c : ∀ j, W'.cell? ⟨g, j, none⟩ = W.cell? ⟨g, j, none⟩ := fun j => World.cell?_of_block hh
 ⟨(c _).trans h.k0, (c _).trans h.k1, (c _).trans h.k2, (c _).trans h.k3, (c _).trans h.k4, (c _).trans h.k5, (c _).trans h.k6, (c _).trans h.k7⟩
/-- the acids that are possible, in memory. -/
structure ChIn (d : Drm) (B : Nat) (xs : List Ch) (g : Nat) (W : World) : Prop where
 could : CouldTo d d.an (xs.map Ch.acid)
 cells : ∀ i x, xs[i]? = some x → FilAt W g (i * 8) d x
 rows : ∀ x ∈ xs, (B ≤ x.r ∧ x.r < W.heap.size) ∧ x.acid < d.an ∧ CAt W x.r d.dn ((d.acid x.acid).ends d.dn)
 lo : B ≤ g
 hi : g < W.heap.size
theorem ChIn.below {d : Drm} {B : Nat} {xs : List Ch} {g : Nat} {W W' : World} (h : ChIn d B xs g W) (hb : Below W.heap.size W W') : ChIn d B xs g W' :=
 ⟨h.could, fun i x hx => (h.cells i x hx).far (hb.block g h.hi), fun x hx => by
  obtain ⟨⟨a, b⟩, c, e⟩ := h.rows x hx
  exact ⟨⟨a, Nat.lt_of_lt_of_le b hb.size⟩, c, e.below hb b⟩, h.lo, Nat.lt_of_lt_of_le h.hi hb.size⟩
theorem chL_at (d : Drm) : ∀ (xs : List Ch) (i j : Nat) (x : Ch), xs[i]? = some x → j < 8 → (chL d xs)[i * 8 + j]? = (x.cells d)[j]?
 | [], i, j, x, h, _ => by simp at h
 | y :: l, 0, j, x, h, hj => by
  simp at h; subst h
  show (y.cells d ++ chL d l)[0 * 8 + j]? = _
  rw [List.getElem?_append_left (by simp; omega)]; simp
 | y :: l, i+1, j, x, h, hj => by
  show (y.cells d ++ chL d l)[(i + 1) * 8 + j]? = _
  rw [List.getElem?_append_right (by simp; omega)]
  rw [show (i + 1) * 8 + j - (y.cells d).length = i * 8 + j by simp; omega]
  exact chL_at d l i j x (by simpa using h) hj
/-- what examine returns. -/
def ExRule (w : World) (er : Int) (e : Ending) (w' : World) : Prop := e = .returned (.tuple #[.slice none 0 0, .int .i64 er]) ∧ Below w.heap.size w w'
def ExOk (d : Drm) (w : World) (e : Ending) (w' : World) : Prop := ∃ (xs : List Ch) (g cap : Nat), e = .returned (.tuple #[.slice (some ⟨g, 0, none⟩) xs.length cap, .int .i64 0]) ∧ 1 ≤ xs.length ∧ xs.length ≤ cap ∧ ChIn d w.heap.size xs g w' ∧ Below w.heap.size w w'
theorem isDrum_yes (d : Drm) (w : World) (hd : DIn w d) (hl : d.Len) (h : d.Ok) : Calls Tryz.prog 60 #[d.val] w fun e w' => e = .returned (.bool true) ∧ Below w.heap.size w w' :=
 (isDrum_says d w hd hl.la hl.ld hl.ls hl.lb).mono fun _ _ hs => SaysB.of_yes h hs
theorem CouldTo.ex (d : Drm) : ∀ k, ∃ l, CouldTo d k l
 | 0 => ⟨[], rfl⟩
 | k+1 => by
  obtain ⟨l, hl⟩ := CouldTo.ex d k
  by_cases h : d.poss k
  ·exact ⟨l ++ [k], .inl ⟨h, l, hl, rfl⟩⟩
  ·exact ⟨l, .inr ⟨h, hl⟩⟩
def ColNo (w : World) (e : Ending) (w' : World) : Prop := ∃ (a : Option Addr) (c : Nat), e = .returned (.slice a 0 c) ∧ Below w.heap.size w w'
def ColYes (d : Drm) (w : World) (e : Ending) (w' : World) : Prop := ∃ (xs : List Ch) (g cap : Nat), e = .returned (.slice (some ⟨g, 0, none⟩) xs.length cap) ∧ (1 ≤ xs.length ∧ xs.length ≤ 4) ∧ xs.length ≤ cap ∧ ChIn d w.heap.size xs g w' ∧ Below w.heap.size w w'
theorem collect_none (d : Drm) (bd : Nat) (w : World) (hok : d.Ok) (hd : DIn w d) (hD : DAt w bd d) (hbl : bd < w.heap.size) (hl : CouldTo d d.an []) :
  Calls Tryz.prog 115 #[.func (.func 139) #[] #[.pointer (some ⟨bd, 0, none⟩)]] w (ColNo w) := by
 refine (collect_any d bd w hok hd hD hbl).mono ?_
 rintro e w' ⟨xs, v, rfl, h1, h2, h3, h4⟩
 have h5 := CouldTo.same h1 hl
 have h6 : xs = [] := List.map_eq_nil_iff.1 h5
 subst h6
 obtain ⟨_, ⟨rfl, _⟩ | ⟨g, cap, cur, rfl, _⟩⟩ := h2
 ·exact ⟨none, 0, rfl, h4⟩
 ·exact ⟨_, cap, rfl, h4⟩
theorem collect_some (d : Drm) (bd : Nat) (w : World) (hok : d.Ok) (hd : DIn w d) (hD : DAt w bd d) (hbl : bd < w.heap.size) (l : List Nat) (hl : CouldTo d d.an l) (hne : l ≠ []) :
  Calls Tryz.prog 115 #[.func (.func 139) #[] #[.pointer (some ⟨bd, 0, none⟩)]] w (ColYes d w) := by
 refine (collect_any d bd w hok hd hD hbl).mono ?_
 rintro e w' ⟨xs, v, rfl, h1, h2, h3, h4⟩
 have h5 := CouldTo.same h1 hl
 have h6 : 1 ≤ xs.length := by
  cases xs with
  | nil => exact absurd h5.symm hne
  | cons y l => simp
 have h7 : xs.length ≤ 4 := by have := CouldTo.length_le h1; rw [List.length_map] at this; have := hok.acids; omega
 have hrow := h2
 obtain ⟨_, ⟨_, h8⟩ | ⟨g, cap, cur, rfl, hg1, hg2, hg3, _⟩⟩ := h2
 ·omega
 ·refine ⟨xs, g, cap, rfl, ⟨h6, h7⟩, hg3, ⟨h1, fun i x hx => ?_, fun x hx => ?_, by omega, (Array.getElem?_eq_some_iff.1 hg2).1⟩, h4⟩
  ·have hil : i < xs.length := (List.getElem?_eq_some_iff.1 hx).1
   have c : ∀ j, j < 8 → w'.cell? ⟨g, i * 8 + j, none⟩ = (x.cells d)[j]? := fun j hj => (hrow.cellAt (i * 8 + j) (by omega)).trans (chL_at d xs i j x hx hj)
   exact ⟨c 0 (by decide), c 1 (by decide), c 2 (by decide), c 3 (by decide), c 4 (by decide), c 5 (by decide), c 6 (by decide), c 7 (by decide)⟩
  ·obtain ⟨a, b, c, e, _⟩ := h3 x hx
   exact ⟨⟨by omega, a⟩, c, e⟩
set_option maxRecDepth 100000 in
set_option maxHeartbeats 4000000 in
theorem examine_rule (d : Drm) (w : World) (hd : DIn w d) (hl : d.Len) (hok : d.Ok) (hc : CouldTo d d.an []) :
  Calls Tryz.prog 64 #[d.val, .bool true] w (ExRule w 7) := by
 obtain ⟨W0, hW⟩ : ∃ W0, w.alloc (.cells #[.slice d.aa d.an d.ac, .int .i64 d.known, .int .i64 d.hours, .slice d.da d.dn d.dc, .slice d.sa d.sn d.sc, .slice d.ba d.bn d.bc] 27) = W0 := ⟨_, rfl⟩
 have hX : PoD w d W0 := by rw [← hW]; exact PoD.new w d
 obtain ⟨q0, q1, q2, q3, q4, q5⟩ := id hX.at'
 have hi := isDrum_yes d W0 (hd.below hX.old) hl hok
 have hpm := fun W => possible_make d W
 have hco := fun (bd : Nat) (W : World) (hB : Below w.heap.size w W) (hD : DAt W bd d) (hbl : bd < W.heap.size) => collect_none d bd W hok (hd.below hB) hD hbl hc
 clear hok hc
 go_enter Tryz.func64, Tryz.ntmps64
 go_wp2_with (first
  | (go_at_call 60; (with_reducible refine hi.mono ?_); rintro e w1 ⟨rfl, hb⟩; replace hX := hX.below hb; obtain ⟨q0, q1, q2, q3, q4, q5⟩ := id hX.at')
  | (go_at_call 116; (with_reducible refine (hpm _).mono ?_); rintro e w2 ⟨rfl, hP⟩; have hB2 := hX.old.trans (hP.old.mono hX.old.size))
  | (go_at_call 115; (with_reducible refine (hco _ _ hB2 hP.at' hP.lt).mono ?_); rintro e w3 ⟨va, vc, rfl, hb3⟩))
 go_ret2
 exact ⟨rfl, hB2.trans (hb3.mono hB2.size)⟩
set_option maxRecDepth 100000 in
set_option maxHeartbeats 4000000 in
theorem examine_ok (d : Drm) (w : World) (hd : DIn w d) (hl : d.Len) (hok : d.Ok) (l : List Nat) (hc : CouldTo d d.an l) (hne : l ≠ []) :
  Calls Tryz.prog 64 #[d.val, .bool true] w (ExOk d w) := by
 obtain ⟨W0, hW⟩ : ∃ W0, w.alloc (.cells #[.slice d.aa d.an d.ac, .int .i64 d.known, .int .i64 d.hours, .slice d.da d.dn d.dc, .slice d.sa d.sn d.sc, .slice d.ba d.bn d.bc] 27) = W0 := ⟨_, rfl⟩
 have hX : PoD w d W0 := by rw [← hW]; exact PoD.new w d
 obtain ⟨q0, q1, q2, q3, q4, q5⟩ := id hX.at'
 have hi := isDrum_yes d W0 (hd.below hX.old) hl hok
 have hpm := fun W => possible_make d W
 have hco := fun (bd : Nat) (W : World) (hB : Below w.heap.size w W) (hD : DAt W bd d) (hbl : bd < W.heap.size) => collect_some d bd W hok (hd.below hB) hD hbl l hc hne
 clear hok hc hne
 go_enter Tryz.func64, Tryz.ntmps64
 go_wp2_with (first
  | (go_at_call 60; (with_reducible refine hi.mono ?_); rintro e w1 ⟨rfl, hb⟩; replace hX := hX.below hb; obtain ⟨q0, q1, q2, q3, q4, q5⟩ := id hX.at')
  | (go_at_call 116; (with_reducible refine (hpm _).mono ?_); rintro e w2 ⟨rfl, hP⟩; have hB2 := hX.old.trans (hP.old.mono hX.old.size))
  | (go_at_call 115; (with_reducible refine (hco _ _ hB2 hP.at' hP.lt).mono ?_); rintro e w3 ⟨xs, g, cap, rfl, ⟨h1, h2⟩, h3, h4, h5⟩; have hnz : (((xs.length : Nat) : Int) == 0) = false := (beq_eq_false_iff_ne.2 (by omega))))
 go_ret2
 exact ⟨xs, g, cap, rfl, h1, h3, ⟨h4.could, h4.cells, fun x hx => by
  obtain ⟨⟨a, b⟩, c⟩ := h4.rows x hx
  exact ⟨⟨by have := hB2.size; omega, b⟩, c⟩, by have := hB2.size; have := h4.lo; omega, h4.hi⟩, hB2.trans (h5.mono hB2.size)⟩
end Go.Proofs.YtlhgkepdoinlnaaGreatDoor
namespace Go.Proofs.YtlhgkepdoinlnaaGreatDoor
open Go.RowKit Go.Gen Go.Drum
/-- a proposed truth. -/
structure Tru where
 acid : Int
 ta : Option Addr
 tn : Nat
 tc : Nat
 F : Nat → Nat → Int
@[reducible] def Tru.val (t : Tru) : Value := .agg #[.int .i64 t.acid, .slice t.ta t.tn t.tc]
def Tru.sized (t : Tru) (d : Drm) : Prop := (0 ≤ t.acid ∧ t.acid ≤ (d.an : Int) - 1) ∧ (t.tn : Int) = d.hours
/-- something is a truth. -/
def Drm.fits (d : Drm) (i : Nat) (F : Nat → Nat → Int) : Prop := bitB d.known i = true ∧ (d.acid i).holds d.dn fun k => F k 0
def FitR (P : Prop) (w : World) (e : Ending) (w' : World) : Prop := ∃ b : Bool, (b = true ↔ P) ∧ e = .returned (.tuple #[.bool b, .int .i64 0]) ∧ Below w.heap.size w w'
/-- the drum's block and the truth's. -/
structure PoT (w : World) (d : Drm) (t : Tru) (W : World) : Prop where
 d : PoD w d W
 k0 : W.cell? ⟨w.heap.size + 1, 0, none⟩ = some (.int .i64 t.acid)
 k1 : W.cell? ⟨w.heap.size + 1, 1, none⟩ = some (.slice t.ta t.tn t.tc)
 lt : w.heap.size + 1 < W.heap.size
theorem PoT.below {w W W' : World} {d : Drm} {t : Tru} (h : PoT w d t W) (hb : Below W.heap.size W W') : PoT w d t W' :=
 ⟨h.d.below hb, (hb.cell (p := ⟨w.heap.size + 1, 0, none⟩) h.lt).trans h.k0, (hb.cell (p := ⟨w.heap.size + 1, 1, none⟩) h.lt).trans h.k1, Nat.lt_of_lt_of_le h.lt hb.size⟩
theorem PoT.new (w : World) (d : Drm) (t : Tru) {W : World} (h : PoD w d W) (hz : W.heap.size = w.heap.size + 1) : PoT w d t (W.alloc (.cells #[.int .i64 t.acid, .slice t.ta t.tn t.tc] 29)) := by
 refine ⟨h.alloc _, ?_, ?_, by rw [World.size_alloc]; omega⟩
 ·rw [← hz]; exact cells_new W _ _ rfl
 ·rw [← hz]; exact cells_new W _ _ rfl
theorem first_below {w W w' : World} (h : Below w.heap.size w W) (hb : Below W.heap.size W w') : Below w.heap.size w w' := h.trans (hb.mono h.size)
theorem first_fat {W w' : World} {g : Nat} {d : Drm} {i : Int} {v : Value} (h : FAt W g d i v) (hb : Below W.heap.size W w') (hg : g < W.heap.size) : FAt w' g d i v := h.far (hb.block g hg)
theorem first_pot {w W w' : World} {d : Drm} {t : Tru} (h : PoT w d t W) (hb : Below W.heap.size W w') : PoT w d t w' := h.below hb
set_option maxRecDepth 100000 in
set_option maxHeartbeats 4000000 in
theorem fits_ok (d : Drm) (i : Nat) (ta : Option Addr) (tc : Nat) (F : Nat → Nat → Int) (w : World) (hd : DIn w d) (hl : d.Len) (hok : d.Ok) (hi : i < d.an) (hF : KSl 1 w (.slice ta d.dn tc) d.dn F) :
  Calls Tryz.prog 18 #[d.val, .agg #[.int .i64 i, .slice ta d.dn tc]] w (FitR (d.fits i F) w) := by
 obtain ⟨W0, hW⟩ : ∃ W0, w.alloc (.cells #[.slice d.aa d.an d.ac, .int .i64 d.known, .int .i64 d.hours, .slice d.da d.dn d.dc, .slice d.sa d.sn d.sc, .slice d.ba d.bn d.bc] 27) = W0 := ⟨_, rfl⟩
 have hX0 : PoD w d W0 := by rw [← hW]; exact PoD.new w d
 have hz : W0.heap.size = w.heap.size + 1 := by rw [← hW, World.size_alloc]
 obtain ⟨W1, hW1⟩ : ∃ W, W0.alloc (.cells #[.int .i64 i, .slice ta d.dn tc] 29) = W := ⟨_, rfl⟩
 have hX : PoT w d ⟨i, ta, d.dn, tc, F⟩ W1 := by rw [← hW1]; exact PoT.new w d ⟨i, ta, d.dn, tc, F⟩ hX0 hz
 clear hX0
 obtain ⟨⟨⟨q0, q1, q2, q3, q4, q5⟩, _, _⟩, r0, r1, _⟩ := id hX
 (try dsimp only at r0 r1)
 have han := hok.acids
 obtain ⟨han1, han2⟩ := han
 have hin := fun W => within_any (i : Int) 0 ((d.an : Int) - 1) W
 rw [inB_yes (n := (i : Int)) (by omega) (by omega)] at hin
 have hkn : 1 ≤ d.known ∧ d.known < 16 := by
  have h1 := hok.known
  have h2 : d.an = 1 ∨ d.an = 2 ∨ d.an = 3 ∨ d.an = 4 := by omega
  rcases h2 with h | h | h | h <;> rw [h] at h1 <;> omega
 have hdr := isDrum_yes d W1 (hd.below hX.d.old) hl hok
 have heq : ((d.dn : Int) == d.hours) = true := by rw [hok.adds]; simp
 have hkw := fun (W : World) => isKnown_any d i (.slice none 0 0) W hkn (by omega)
 have hho := fun (W : World) (hB : Below w.heap.size w W) => holds_any d i (.slice none 0 0) ta tc F W hok (hd.below hB) hi (hF.below hB)
 have hi0 : (0 : Int) ≤ (i : Int) := Int.natCast_nonneg _
 cases hbit : bitB d.known i with
 | false =>
  rw [hbit] at hkw
  have hno : Hdn (¬ d.fits i F) := ⟨fun h => by have := h.1; rw [hbit] at this; cases this⟩
  clear hok hkn hho hbit
  go_enter Tryz.func18, Tryz.ntmps18
  go_wp2_with (first
   | (go_at_call 60; (with_reducible refine hdr.mono ?_); rintro e w1 ⟨rfl, hb⟩; replace hX := hX.below hb; obtain ⟨⟨⟨q0, q1, q2, q3, q4, q5⟩, _, _⟩, r0, r1, _⟩ := id hX; (try dsimp only at r0 r1))
   | (go_at_call 61; (with_reducible refine (hin _).mono ?_); rintro e w2 ⟨rfl, rfl⟩; obtain ⟨W9, hW9⟩ : (∃ W, w1.alloc (.cells #[.slice d.aa d.an d.ac, .int .i64 d.known, .int .i64 d.hours, .slice d.da d.dn d.dc, .slice d.sa d.sn d.sc, .slice d.ba d.bn d.bc, .int .i64 i, .slice none 0 0] 97) = W) := ⟨_, rfl⟩; obtain ⟨W2, hW2⟩ : (∃ W, W9.setCell ⟨w1.heap.size, 7, none⟩ (.slice none 0 0) = W) := ⟨_, rfl⟩; obtain ⟨_, _, c70, z70⟩ : FAt W9 w1.heap.size d i (.slice none 0 0) := (by rw [← hW9]; exact FAt.new w1 d i _); have hF2 : FAt W2 w1.heap.size d i (.slice none 0 0) := (by rw [← hW2, ← hW9]; exact (FAt.new w1 d i _).set7 _); have hB2 : Below w1.heap.size w1 W2 := (by rw [← hW2, ← hW9]; exact ((Below.refl _ _).alloc (Nat.le_refl _) _).setCell (p := ⟨w1.heap.size, 7, none⟩) (Nat.le_refl _) _); have hz2 : w1.heap.size < W2.heap.size := (by rw [← hW2, ← hW9, World.size_setCell, World.size_alloc]; omega); obtain ⟨⟨p0, p1, p2, p3, p4, p5⟩, p6, p7, z7⟩ := id hF2; have hX2 := hX.below hB2)
   | (go_at_call 62; (with_reducible refine (hkw _).mono ?_); rintro e w3 ⟨rfl, hb3⟩))
  go_ret2
  exact ⟨false, by simp [hno.out], rfl, first_below hX2.d.old hb3⟩
 | true =>
  rw [hbit] at hkw
  by_cases hhl : (d.acid i).holds d.dn fun k => F k 0
  ·have hho2 := fun (W : World) (hB : Below w.heap.size w W) => (hho W hB).mono fun _ _ hs => SaysB.of_yes hhl hs
   have hyes : Hdn (d.fits i F) := ⟨⟨hbit, hhl⟩⟩
   clear hok hkn hho hbit hhl

   go_enter Tryz.func18, Tryz.ntmps18
   go_wp2_with (first
    | (go_at_call 60; (with_reducible refine hdr.mono ?_); rintro e w1 ⟨rfl, hb⟩; replace hX := hX.below hb; obtain ⟨⟨⟨q0, q1, q2, q3, q4, q5⟩, _, _⟩, r0, r1, _⟩ := id hX; (try dsimp only at r0 r1))
    | (go_at_call 61; (with_reducible refine (hin _).mono ?_); rintro e w2 ⟨rfl, rfl⟩; obtain ⟨W9, hW9⟩ : (∃ W, w1.alloc (.cells #[.slice d.aa d.an d.ac, .int .i64 d.known, .int .i64 d.hours, .slice d.da d.dn d.dc, .slice d.sa d.sn d.sc, .slice d.ba d.bn d.bc, .int .i64 i, .slice none 0 0] 97) = W) := ⟨_, rfl⟩; obtain ⟨W2, hW2⟩ : (∃ W, W9.setCell ⟨w1.heap.size, 7, none⟩ (.slice none 0 0) = W) := ⟨_, rfl⟩; obtain ⟨_, _, c70, z70⟩ : FAt W9 w1.heap.size d i (.slice none 0 0) := (by rw [← hW9]; exact FAt.new w1 d i _); have hF2 : FAt W2 w1.heap.size d i (.slice none 0 0) := (by rw [← hW2, ← hW9]; exact (FAt.new w1 d i _).set7 _); have hB2 : Below w1.heap.size w1 W2 := (by rw [← hW2, ← hW9]; exact ((Below.refl _ _).alloc (Nat.le_refl _) _).setCell (p := ⟨w1.heap.size, 7, none⟩) (Nat.le_refl _) _); have hz2 : w1.heap.size < W2.heap.size := (by rw [← hW2, ← hW9, World.size_setCell, World.size_alloc]; omega); obtain ⟨⟨p0, p1, p2, p3, p4, p5⟩, p6, p7, z7⟩ := id hF2; have hX2 := hX.below hB2)
    | (go_at_call 62; (with_reducible refine (hkw _).mono ?_); rintro e w3 ⟨rfl, hb3⟩; have hB3 := first_below hX2.d.old hb3; have hF3 := first_fat hF2 hb3 hz2; obtain ⟨⟨p0, p1, p2, p3, p4, p5⟩, p6, p7, z7⟩ := id hF3; have hX3 := first_pot hX2 hb3; obtain ⟨_, y0, y1, _⟩ := id hX3; (try dsimp only at y0 y1))
    | (go_at_call 63; (with_reducible refine (hho2 _ hB3).mono ?_); rintro e w4 ⟨rfl, hb4⟩))
   go_ret2
   exact ⟨true, by simp [hyes.out], rfl, hB3.trans (hb4.mono hB3.size)⟩
  ·have hho2 := fun (W : World) (hB : Below w.heap.size w W) => (hho W hB).mono fun _ _ hs => SaysB.of_no hhl hs
   have hno : Hdn (¬ d.fits i F) := ⟨fun h => hhl h.2⟩
   clear hok hkn hho hbit hhl

   go_enter Tryz.func18, Tryz.ntmps18
   go_wp2_with (first
    | (go_at_call 60; (with_reducible refine hdr.mono ?_); rintro e w1 ⟨rfl, hb⟩; replace hX := hX.below hb; obtain ⟨⟨⟨q0, q1, q2, q3, q4, q5⟩, _, _⟩, r0, r1, _⟩ := id hX; (try dsimp only at r0 r1))
    | (go_at_call 61; (with_reducible refine (hin _).mono ?_); rintro e w2 ⟨rfl, rfl⟩; obtain ⟨W9, hW9⟩ : (∃ W, w1.alloc (.cells #[.slice d.aa d.an d.ac, .int .i64 d.known, .int .i64 d.hours, .slice d.da d.dn d.dc, .slice d.sa d.sn d.sc, .slice d.ba d.bn d.bc, .int .i64 i, .slice none 0 0] 97) = W) := ⟨_, rfl⟩; obtain ⟨W2, hW2⟩ : (∃ W, W9.setCell ⟨w1.heap.size, 7, none⟩ (.slice none 0 0) = W) := ⟨_, rfl⟩; obtain ⟨_, _, c70, z70⟩ : FAt W9 w1.heap.size d i (.slice none 0 0) := (by rw [← hW9]; exact FAt.new w1 d i _); have hF2 : FAt W2 w1.heap.size d i (.slice none 0 0) := (by rw [← hW2, ← hW9]; exact (FAt.new w1 d i _).set7 _); have hB2 : Below w1.heap.size w1 W2 := (by rw [← hW2, ← hW9]; exact ((Below.refl _ _).alloc (Nat.le_refl _) _).setCell (p := ⟨w1.heap.size, 7, none⟩) (Nat.le_refl _) _); have hz2 : w1.heap.size < W2.heap.size := (by rw [← hW2, ← hW9, World.size_setCell, World.size_alloc]; omega); obtain ⟨⟨p0, p1, p2, p3, p4, p5⟩, p6, p7, z7⟩ := id hF2; have hX2 := hX.below hB2)
    | (go_at_call 62; (with_reducible refine (hkw _).mono ?_); rintro e w3 ⟨rfl, hb3⟩; have hB3 := first_below hX2.d.old hb3; have hF3 := first_fat hF2 hb3 hz2; obtain ⟨⟨p0, p1, p2, p3, p4, p5⟩, p6, p7, z7⟩ := id hF3; have hX3 := first_pot hX2 hb3; obtain ⟨_, y0, y1, _⟩ := id hX3; (try dsimp only at y0 y1))
    | (go_at_call 63; (with_reducible refine (hho2 _ hB3).mono ?_); rintro e w4 ⟨rfl, hb4⟩))
   go_ret2
   exact ⟨false, by simp [hno.out], rfl, hB3.trans (hb4.mono hB3.size)⟩
end Go.Proofs.YtlhgkepdoinlnaaGreatDoor
namespace Go.Proofs.YtlhgkepdoinlnaaGreatDoor
open Go.RowKit Go.Gen
theorem two_pow_le {k n : Nat} (h : k ≤ n) : (2 : Int) ^ k ≤ 2 ^ n := by
 have := Nat.pow_le_pow_right (n := 2) (by decide) h
 exact_mod_cast this
theorem two_pow_20 : (2 : Int) ^ 20 = 1048576 := by decide
set_option maxRecDepth 100000 in
set_option maxHeartbeats 1000000 in
theorem power_any (n : Nat) (hn : n ≤ 20) (w : World) :
  Calls Tryz.prog 66 #[.int .i64 n] w fun e w' => e = .returned (.int .i64 (2 ^ n)) ∧ w' = w := by
 go_enter Tryz.func66, Tryz.ntmps66
 go_wp2_with fail
 go_loopw [3, 4] (fun p i wr => ∃ k : Nat, k ≤ n ∧ p = .int .i64 (2 ^ k) ∧ i = .int .i64 k ∧ wr = w) (fun _ i _ => n - (intOf i).toNat)
 case atStart => exact ⟨0, Nat.zero_le _, rfl, rfl, rfl⟩
 case round =>
  obtain ⟨k, hk, rfl, rfl, rfl⟩ := hrel
  have hk0 : (0 : Int) ≤ (k : Int) := Int.natCast_nonneg _
  by_cases hlt : k < n
  ·have hk1 : (k : Int) < (n : Int) := by omega
   have hk3 : (k : Int) < 20 := by omega
   have hp : Hdn ((2 : Int) ^ k * 2 = 2 ^ (k + 1)) := ⟨(Int.pow_succ 2 k).symm⟩
   have hb : (2 : Int) ^ k ≤ 2 ^ 20 := two_pow_le (by omega)
   rw [two_pow_20] at hb
   have hb0 : (0 : Int) < 2 ^ k := Int.pow_pos (by decide)
   generalize (2 : Int) ^ k = P at hb hb0 hp ⊢
   go_wp2
   go_roundw
   case rel => exact ⟨k + 1, by omega, by rw [← hp.out, Int.mul_comm], by go_num, trivial⟩
   case measure => simp [intOf]; omega
  ·have hk2 : ¬ (k : Int) < (n : Int) := by omega
   have hkn : k = n := by omega
   subst hkn
   go_wp2
   go_ret
   exact ⟨rfl, rfl⟩
end Go.Proofs.YtlhgkepdoinlnaaGreatDoor
namespace Go.Proofs.YtlhgkepdoinlnaaGreatDoor
open Go.RowKit Go.Gen
set_option maxRecDepth 100000 in
set_option maxHeartbeats 4000000 in
theorem short_says (d : Drm) (w : World) :
  Calls Tryz.prog 15 #[d.val] w (SaysB (d.an ≤ 6 ∧ d.dn ≤ 15 ∧ d.sn ≤ 9 ∧ d.bn ≤ 7) w) := by
 obtain ⟨W0, hW⟩ : ∃ W0, w.alloc (.cells #[.slice d.aa d.an d.ac, .int .i64 d.known, .int .i64 d.hours, .slice d.da d.dn d.dc, .slice d.sa d.sn d.sc, .slice d.ba d.bn d.bc] 27) = W0 := ⟨_, rfl⟩
 have hX : PoD w d W0 := by rw [← hW]; exact PoD.new w d
 obtain ⟨q0, q1, q2, q3, q4, q5⟩ := id hX.at'
 by_cases c1 : (d.an : Int) ≤ 6
 ·by_cases c2 : (d.dn : Int) ≤ 15
  ·by_cases c3 : (d.sn : Int) ≤ 9
   ·by_cases c4 : (d.bn : Int) ≤ 7
    ·have hyes : Hdn (d.an ≤ 6 ∧ d.dn ≤ 15 ∧ d.sn ≤ 9 ∧ d.bn ≤ 7) := ⟨by omega, by omega, by omega, by omega⟩
     go_enter Tryz.func15, Tryz.ntmps15
     go_wp2
     go_ret
     exact SaysB.yes hyes.out hX.old
    ·have hno : Hdn (¬ (d.an ≤ 6 ∧ d.dn ≤ 15 ∧ d.sn ≤ 9 ∧ d.bn ≤ 7)) := ⟨by omega⟩
     go_enter Tryz.func15, Tryz.ntmps15
     go_wp2
     go_ret
     exact SaysB.no hno.out hX.old
   ·have hno : Hdn (¬ (d.an ≤ 6 ∧ d.dn ≤ 15 ∧ d.sn ≤ 9 ∧ d.bn ≤ 7)) := ⟨by omega⟩
    go_enter Tryz.func15, Tryz.ntmps15
    go_wp2
    go_ret
    exact SaysB.no hno.out hX.old
  ·have hno : Hdn (¬ (d.an ≤ 6 ∧ d.dn ≤ 15 ∧ d.sn ≤ 9 ∧ d.bn ≤ 7)) := ⟨by omega⟩
   go_enter Tryz.func15, Tryz.ntmps15
   go_wp2
   go_ret
   exact SaysB.no hno.out hX.old
 ·have hno : Hdn (¬ (d.an ≤ 6 ∧ d.dn ≤ 15 ∧ d.sn ≤ 9 ∧ d.bn ≤ 7)) := ⟨by omega⟩
  go_enter Tryz.func15, Tryz.ntmps15
  go_wp2
  go_ret
  exact SaysB.no hno.out hX.old
end Go.Proofs.YtlhgkepdoinlnaaGreatDoor
namespace Go.Proofs.YtlhgkepdoinlnaaGreatDoor
open Go.RowKit Go.Gen
@[reducible] def acV (a0 a1 a2 a3 : Int) : Value := .agg #[.int .i64 a0, .int .i64 a1, .int .i64 a2, .int .i64 a3]
@[reducible] def spV (x y : Int) : Value := .agg #[.int .i64 x, .int .i64 y]
set_option maxRecDepth 100000 in
set_option maxHeartbeats 4000000 in
theorem rsized_says (d : Drm) (t : Tru) (w : World) (h1 : d.an ≤ 9223372036854775807) (ht : t.tn ≤ 9223372036854775807) :
  Calls Tryz.prog 21 #[d.val, t.val] w (SaysB (t.sized d) w) := by
 obtain ⟨W0, hW⟩ : ∃ W0, w.alloc (.cells #[.slice d.aa d.an d.ac, .int .i64 d.known, .int .i64 d.hours, .slice d.da d.dn d.dc, .slice d.sa d.sn d.sc, .slice d.ba d.bn d.bc] 27) = W0 := ⟨_, rfl⟩
 have hX0 : PoD w d W0 := by rw [← hW]; exact PoD.new w d
 have hz : W0.heap.size = w.heap.size + 1 := by rw [← hW, World.size_alloc]
 obtain ⟨W1, hW1⟩ : ∃ W, W0.alloc (.cells #[.int .i64 t.acid, .slice t.ta t.tn t.tc] 29) = W := ⟨_, rfl⟩
 have hX : PoT w d t W1 := by rw [← hW1]; exact PoT.new w d t hX0 hz
 clear hX0
 obtain ⟨⟨⟨q0, q1, q2, q3, q4, q5⟩, _, _⟩, r0, r1, _⟩ := id hX
 have hin := fun W => in_any t.acid 0 ((d.an : Int) - 1) W
 cases ha : inB t.acid 0 ((d.an : Int) - 1) with
 | false =>
  rw [ha] at hin
  have hno : Hdn (¬ t.sized d) := ⟨fun h => by rw [inB_yes h.1.1 h.1.2] at ha; cases ha⟩
  clear ha
  go_enter Tryz.func21, Tryz.ntmps21
  go_wp2_with (go_at_call 65; (with_reducible refine (hin _).mono ?_); rintro e w1 ⟨rfl, rfl⟩)
  go_ret
  exact SaysB.no hno.out hX.d.old
 | true =>
  rw [ha] at hin
  have hac := inB_iff.1 ha
  clear ha
  by_cases htn : (t.tn : Int) = d.hours
  ·have hyes : Hdn (t.sized d) := ⟨⟨hac, htn⟩⟩
   go_enter Tryz.func21, Tryz.ntmps21
   go_wp2_with (go_at_call 65; (with_reducible refine (hin _).mono ?_); rintro e w1 ⟨rfl, rfl⟩)
   go_ret
   exact SaysB.yes hyes.out hX.d.old
  ·have hno : Hdn (¬ t.sized d) := ⟨fun h => htn h.2⟩
   have hne : Hdn (((t.tn : Int) == d.hours) = false) := ⟨beq_false_of_ne htn⟩
   go_enter Tryz.func21, Tryz.ntmps21
   go_wp2_with (go_at_call 65; (with_reducible refine (hin _).mono ?_); rintro e w1 ⟨rfl, rfl⟩)
   go_ret
   refine cast (congrArg (fun x => SaysB (t.sized d) w (Ending.returned (Value.bool x)) W1) hne.out.symm) (SaysB.no hno.out hX.d.old)
end Go.Proofs.YtlhgkepdoinlnaaGreatDoor
/-! Layer 3's math: an acid's truth, hour by hour, strips behind (no program text is mentioned) -/
namespace Go.Drum
/-- between which ends an hour is, by the hour before. -/
def Acid.lim (a : Acid) (x : Nat → Int) (j : Nat) : Int × Int := if j = 0 then (a.s0 + a.add 0, a.s1 + a.add 0) else a.fall j (x (j - 1), x (j - 1))
end Go.Drum
