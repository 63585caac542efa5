/- A part of the proof: see the last file. -/
import Derived.Test.YtdilcbocnndkmaaGreatDoorX4
import Derived.RangeFuncFrom
set_option linter.unusedVariables false
set_option linter.unusedSimpArgs false
set_option linter.unusedSectionVars false
namespace Go.Proofs.YtdilcbocnndkmaaGreatDoor
open Go.RowKit Go.Shelf
theorem below_put {n₀ l : Nat} {W : World} {o o' : Obj} (h : n₀ ≤ l) (ho : W.heap[l]? = some o) : Below n₀ W (W.putObj l o') :=
  (Below.refl n₀ W).grown (grownBy_putObj' W l o') (by have := (Array.getElem?_eq_some_iff.1 ho).1; omega) (fun k e => by cases e; omega)
/-- what lies from lo up to s may have changed, nothing else that was there. -/
def Apart (lo s : Nat) (W W' : World) : Prop := Below 0 W W' ∧ ∀ k, (k < lo ∨ s ≤ k) → W'.heap[k]? = W.heap[k]?
theorem Apart.putObj {lo s l : Nat} {W : World} {o o' : Obj} (h1 : lo ≤ l) (h2 : l < s) (ho : W.heap[l]? = some o) : Apart lo s W (W.putObj l o') :=
  ⟨below_put (Nat.zero_le _) ho, fun k hk => World.putObj_heap_other (by omega)⟩
theorem Apart.setCell {lo s bo : Nat} {W : World} {v : Value} (h1 : lo ≤ bo) (h2 : bo < s) : Apart lo s W (W.setCell ⟨bo, 0, none⟩ v) :=
  ⟨(Below.refl 0 W).setCell (Nat.zero_le _) _, fun k hk => Below.heap_setCell W _ v k (by show k ≠ bo; omega)⟩
set_option maxHeartbeats 1000000 in
/-- a range over a function whose body leaves it in its first round, and reads what lies in memory at what it is handed. -/
theorem wpIn_rangeFunc_once {β : Type} {F : Fence} {n : Nat} {P : Program} {g : Operand} {p : Tmp} {assign body : Code} {Q : Exit → Act → World → Prop} {a : Act} {w : World}
    (hro : F.round = none) (hd : F.depth = none) {gf : Nat} {lb : Array Value} (hg : a.eval g = .func (.func gf) #[] lb) (hFg : F.fn gf) (eg : ∀ args w, (callFunc gf args).run P w = .ok (.enter gf args) w)
    (C : β → Value → World → Prop) (S : Option β → Prop) (Ix : Nat → β → Nat → World → Prop)
    (hiter : ∀ (l : Nat) (W1 : World) (R : β → Nat → World → Prop), Below w.heap.size w W1 → w.heap.size + 2 ≤ W1.heap.size →
      (∀ bo s x W v, W1.heap.size ≤ bo → bo < s → R x s W → R x s (W.setCell ⟨bo, 0, none⟩ v)) →
      (∀ m x v W, Below W1.heap.size W1 W → C x v W → YieldAt F m P l #[v] W fun e W' => e = .returned (.bool false) ∧ R x W.heap.size W' ∧ KeptFrom W1.heap.size W W') →
      CallsIn F (n - 1) P gf (#[.func (.yield l) #[] #[]] ++ lb) W1 fun e W' => (∃ v, e = .returned v) ∧ ((S none ∧ Below W1.heap.size W1 W') ∨ ∃ x s, S (some x) ∧ W1.heap.size ≤ s ∧ R x s W'))
    (hC : ∀ x v W W', C x v W → KeptFrom (w.heap.size + 2) W W' → C x v W')
    (hIx : ∀ id x s W W', w.heap.size + 2 ≤ s → Ix id x s W → Apart w.heap.size s W W' → Ix id x s W')
    (a₁ : Value → Act)
    (hassign : ∀ (l m : Nat) (v : Value) (W : World) (K : Act → World → Prop), K (a₁ v) W →
      assign.wpIn (F.inRound l) m P (Exit.then K (fun _ _ _ => False)) { tmps := a.tmps.setIfInBounds p v, defers := [] } W)
    (hbody : ∀ (l m : Nat) (x : β) (v : Value) (W : World), Below w.heap.size w W → w.heap.size + 2 ≤ W.heap.size → C x v W →
      body.wpIn (F.inRound l) m P (fun e _ W3 => ∃ id, e = .exit id ∧ KeptFrom w.heap.size W W3 ∧ Ix id x W.heap.size W3) (a₁ v) W)
    (hdone : ∀ (D : Nat) (W : World), w.heap.size ≤ D → S none → Below w.heap.size w W → W.heap[D]? = some (.deferred (some [])) → Q .normal { a with defers := { target := .collected D, args := #[] } :: a.defers } W)
    (hstop : ∀ (D id : Nat) (x : β) (s : Nat) (W : World), w.heap.size ≤ D → S (some x) → D < s → Ix id x s W → W.heap[D]? = some (.deferred (some [])) → (Code.exit id).wpIn F n P Q { a with defers := { target := .collected D, args := #[] } :: a.defers } W) :
    (Code.rangeFunc g #[p] assign body).wpIn F n P Q a w := by
  refine wpIn_rangeFunc ?_
  intro fn hfn
  rw [hro]
  obtain ⟨rec, hrec⟩ : ∃ rec : LoopState → Option Code → Loop, rec = fun st pe => { state := st, pending := pe, fn, tmps := a.tmps, params := #[p], assign, body, defers := w.heap.size } := ⟨_, rfl⟩
  obtain ⟨W1, hW1⟩ : ∃ W1, (w.alloc (.deferred (some []))).alloc (.loop (rec .ready none)) = W1 := ⟨_, rfl⟩
  have hz1 : W1.heap.size = w.heap.size + 2 := by rw [← hW1, World.size_alloc, World.size_alloc]
  have hL1 : W1.heap[w.heap.size + 1]? = some (.loop (rec .ready none)) := by
    rw [← hW1]; have := World.alloc_heap_new (w.alloc (.deferred (some []))) (.loop (rec .ready none)); rwa [World.size_alloc] at this
  have hK1 : W1.heap[w.heap.size]? = some (.deferred (some [])) := by
    rw [← hW1]; exact (Below.heap_alloc _ _ _ (by simp)).trans (World.alloc_heap_new w _)
  have hb1 : Below w.heap.size w W1 := by
    rw [← hW1]; exact ((Below.refl _ w).alloc (Nat.le_refl _) _).alloc (by simp) _
  refine ⟨w.heap.size + 1, [{ target := .collected w.heap.size, args := #[] }], W1, { target := .fn (.func gf) lb, args := #[.func (.yield (w.heap.size + 1)) #[] #[]] }, W1, gf,
    #[.func (.yield (w.heap.size + 1)) #[] #[]] ++ lb, W1, ?_, ?_, ?_, ?_, (fun h => by rw [hd] at h; cases h), ?_⟩
  · rw [← hW1, hrec]; exact run_enterLoop_outer _ _ _ _ _
  · simp only [resolve, hg]
    simp [go_sem]
  · intro f' hf'; simp [Target.leads] at hf'; subst hf'; exact hFg
  · simp [invoke, go_sem, eg]
  · refine (hiter (w.heap.size + 1) W1 (fun x s W => w.heap.size + 2 ≤ s ∧ ∃ id, Ix id x s W ∧ W.heap[w.heap.size + 1]? = some (.loop (rec .done (some (.exit id)))) ∧ W.heap[w.heap.size]? = some (.deferred (some [])))
      hb1 (by omega) ?_ ?_).mono ?_
    · rintro bo s x W v h1 h2 ⟨h3, id, h4, h5, h6⟩
      exact ⟨h3, id, hIx id x s W _ h3 h4 (Apart.setCell (by omega) h2), (Below.heap_setCell W _ v _ (by show w.heap.size + 1 ≠ bo; omega)).trans h5, (Below.heap_setCell W _ v _ (by show w.heap.size ≠ bo; omega)).trans h6⟩
    · intro m x v W hB hc
      have hl : W.heap[w.heap.size + 1]? = some (.loop (rec .ready none)) := (hB.block _ (by omega)).trans hL1
      have hk : W.heap[w.heap.size]? = some (.deferred (some [])) := (hB.block _ (by omega)).trans hK1
      have hlt : w.heap.size + 1 < W.heap.size := (Array.getElem?_eq_some_iff.1 hl).1
      have hy := run_yield (P := P) (args := #[v]) hl (by rw [hrec]; rfl)
      rw [hrec] at hy
      have hz : ((#[p] : Array Tmp).zip #[v]).foldl (fun (tmps : Array Value) (x : Tmp × Value) => tmps.setIfInBounds x.1 x.2) a.tmps = a.tmps.setIfInBounds p v := by simp
      refine ⟨fn, a.tmps.setIfInBounds p v, assign, body, hy.trans (by rw [← hz]), roundIn_of_wpIn hfn ?_⟩
      refine hassign _ m v W _ ?_
      refine ⟨_, run_beginRound hl (by rw [hrec]), ?_⟩
      obtain ⟨W2, hW2⟩ : ∃ W2, W.putObj (w.heap.size + 1) (.loop { rec .ready none with state := .busy }) = W2 := ⟨_, rfl⟩
      rw [hW2]
      have hz2 : W2.heap.size = W.heap.size := by rw [← hW2]; exact World.putObj_size
      have hl2 : W2.heap[w.heap.size + 1]? = some (.loop { rec .ready none with state := .busy }) := by rw [← hW2]; exact World.putObj_heap_same hlt
      have ho2 : ∀ k, k ≠ w.heap.size + 1 → W2.heap[k]? = W.heap[k]? := fun k hk => by rw [← hW2]; exact World.putObj_heap_other hk
      have hb2 : Below w.heap.size W W2 := by rw [← hW2]; exact below_put (by omega) hl
      refine wpIn_mono (hbody _ m x v W2 ((hb1.trans (hB.mono (by omega))).trans hb2) (by omega) (hC x v W W2 hc ⟨by omega, fun k hk _ => ho2 k (by omega)⟩)) ?_
      rintro e a3 W3 ⟨id, rfl, hk3, hi3⟩
      have hl3 : W3.heap[w.heap.size + 1]? = some (.loop { rec .ready none with state := .busy }) := (hk3.2 _ (by omega) (by omega)).trans hl2
      have hd3 : W3.heap[w.heap.size]? = some (.deferred (some [])) := ((hk3.2 _ (by omega) (by omega)).trans (ho2 _ (by omega))).trans hk
      have hr := run_endRound (P := P) (some (.exit id)) hl3
      refine ⟨_, _, hr, rfl, ⟨by omega, id, ?_, ?_, (World.putObj_heap_other (by omega)).trans hd3⟩, ?_⟩
      · rw [hz2] at hi3
        exact hIx id x W.heap.size W3 _ (by omega) hi3 (Apart.putObj (by omega) hlt hl3)
      · rw [hrec]; exact World.putObj_heap_same (Array.getElem?_eq_some_iff.1 hl3).1
      · have := hk3.1
        exact ⟨by rw [World.putObj_size]; omega, fun k h1 h2 => ((World.putObj_heap_other (by omega)).trans (hk3.2 k (by omega) (by omega))).trans (ho2 k (by omega))⟩
    · rintro e W2 ⟨⟨v, rfl⟩, (⟨hS, hB⟩ | ⟨x, s, hS, hs, _, id, hi, hl, hk⟩)⟩
      · have hl : W2.heap[w.heap.size + 1]? = some (.loop (rec .ready none)) := (hB.block _ (by omega)).trans hL1
        have hk : W2.heap[w.heap.size]? = some (.deferred (some [])) := (hB.block _ (by omega)).trans hK1
        refine ⟨none, _, by have := run_endLoop (P := P) hl (by rw [hrec]; simp); rw [hrec] at this; exact this, hdone _ _ (Nat.le_refl _) hS ((hb1.trans (hB.mono (by omega))).trans (below_put (by omega) hl)) ((World.putObj_heap_other (by omega)).trans hk)⟩
      · exact ⟨some (.exit id), _, by have := run_endLoop (P := P) hl (by rw [hrec]; simp); rw [hrec] at this; exact this, hstop _ id x s _ (Nat.le_refl _) hS (by omega) (hIx id x s W2 _ (by omega) hi (Apart.putObj (by omega) (by omega) hl)) ((World.putObj_heap_other (by omega)).trans hk)⟩
end Go.Proofs.YtdilcbocnndkmaaGreatDoor
