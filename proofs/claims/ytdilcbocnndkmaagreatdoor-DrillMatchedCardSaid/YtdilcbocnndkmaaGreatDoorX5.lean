/- A part of the proof: see the last file. -/
import Derived.Test.YtdilcbocnndkmaaGreatDoorX4
import Derived.Laws.EntriesVeiled
set_option linter.unusedVariables false
set_option linter.unusedSimpArgs false
set_option linter.unusedSectionVars false
namespace Go.Proofs.YtdilcbocnndkmaaGreatDoor
open Go.RowKit Go.Shelf
attribute [local go_sem] Oper.semAt_some
theorem cell_of_box {W : World} {B : Nat} {v : Value} {t : TypeId} (h : W.heap[B]? = some (.cells #[v] t (0, 0))) : W.cell? ⟨B, 0, none⟩ = some v ∧ W.frozen? ⟨B, 0, none⟩ = false := by
  constructor <;> simp [World.cell?, World.frozen?, h]
theorem new_cell (W : World) (v : Value) (t : TypeId) : (W.alloc (.cells #[v] t)).cell? ⟨W.heap.size, 0, none⟩ = some v ∧ (W.alloc (.cells #[v] t)).frozen? ⟨W.heap.size, 0, none⟩ = false := cell_of_box (World.alloc_heap_new W _)
set_option maxRecDepth 100000 in
set_option maxHeartbeats 2000000 in
theorem seq_in (many l bm bf n : Nat) (c1 c2 c3 c4 : Value) (fit : Nat → Nat → Bool) (W1 : World) (R : List Nat → Nat → World → Prop)
    (hm : W1.cell? ⟨bm, 0, none⟩ = some (.int .i64 many)) (hbm : bm < W1.heap.size) (hf : W1.cell? ⟨bf, 0, none⟩ = some (.func (.func 98) #[] #[c1, c2, c3, c4])) (hbf : bf < W1.heap.size) (hmany : many ≤ 6)
    (hfit : ∀ (i j : Nat) (W : World), i < many → j < many → Below W1.heap.size W1 W → Calls Tryz.prog 98 #[.int .i64 i, .int .i64 j, c1, c2, c3, c4] W fun e W' => e = .returned (.bool (fit i j)) ∧ Below W.heap.size W W')
    (hY : ∀ m q v W b0, Below W1.heap.size W1 W → q.length = many → W1.heap.size < b0 → b0 ≤ W.heap.size → W.ownsRow b0 3 1 v many (cellsN q) → YieldAt Fence.wide m Tryz.prog l #[v] W fun e W' => e = .returned (.bool false) ∧ R q W.heap.size W' ∧ KeptFrom W1.heap.size W W')
    (hR : ∀ bo s q W v, W1.heap.size ≤ bo → bo < s → R q s W → R q s (W.setCell ⟨bo, 0, none⟩ v)) :
    CallsIn Fence.wide n Tryz.prog 143 #[.func (.yield l) #[] #[], .pointer (some ⟨bm, 0, none⟩), .pointer (some ⟨bf, 0, none⟩)] W1 fun e W' => (∃ v, e = .returned v) ∧
      ((firstC fit many many [] = none ∧ Below W1.heap.size W1 W') ∨ (∃ q s, firstC fit many many [] = some q ∧ W1.heap.size ≤ s ∧ R q s W')) := by
  refine callsIn_of_wp Tryz.func143 rfl trivial ?_ rfl
  simp only [Tryz.ntmps143, List.size_toArray, List.length_cons, List.length_nil, Nat.reduceAdd, Nat.reduceSub, Array.replicate_succ, Array.replicate_zero, List.push_toArray, List.append_toArray, List.nil_append, List.cons_append]
  obtain ⟨A1, hA1⟩ : ∃ A, A = W1.alloc (.cells #[.func (.yield l) #[] #[]] 106) := ⟨_, rfl⟩
  obtain ⟨A2, hA2⟩ : ∃ A, A = A1.alloc (.cells #[.slice none 0 0] 34) := ⟨_, rfl⟩
  obtain ⟨A3, hA3⟩ : ∃ A, A = A2.alloc (.cells #[(.func (.func 144) #[] #[.pointer (some ⟨W1.heap.size + 1, 0, none⟩), .pointer (some ⟨bm, 0, none⟩), .pointer (some ⟨W1.heap.size, 0, none⟩), .pointer (some ⟨bf, 0, none⟩), .pointer (some ⟨W1.heap.size + 1 + 1, 0, none⟩)])] 28) := ⟨_, rfl⟩
  have s1 : A1.heap.size = W1.heap.size + 1 := by rw [hA1, World.size_alloc]
  have s2 : A2.heap.size = W1.heap.size + 1 + 1 := by rw [hA2, World.size_alloc, s1]
  have s3 : A3.heap.size = W1.heap.size + 1 + 1 + 1 := by rw [hA3, World.size_alloc, s2]
  have e1 := new_cell W1 (.func (.yield l) #[] #[]) 106
  have e2 := new_cell A1 (.slice none 0 0) 34
  have e3 := new_cell A2 (.func (.func 144) #[] #[.pointer (some ⟨W1.heap.size + 1, 0, none⟩), .pointer (some ⟨bm, 0, none⟩), .pointer (some ⟨W1.heap.size, 0, none⟩), .pointer (some ⟨bf, 0, none⟩), .pointer (some ⟨W1.heap.size + 1 + 1, 0, none⟩)]) 28
  rw [← hA1] at e1
  rw [← hA2, s1] at e2
  rw [← hA3, s2] at e3
  have b12 : Below A1.heap.size A1 A2 := by rw [hA2]; exact (Below.refl _ _).alloc (Nat.le_refl _) _
  have b23 : Below A2.heap.size A2 A3 := by rw [hA3]; exact (Below.refl _ _).alloc (Nat.le_refl _) _
  have b13 := b12.trans (b23.mono b12.size)
  have b01 : Below W1.heap.size W1 A1 := by rw [hA1]; exact (Below.refl _ _).alloc (Nat.le_refl _) _
  have b03 : Below W1.heap.size W1 A3 := b01.trans (b13.mono (by omega))
  have y3 := (b13.cell (p := ⟨W1.heap.size, 0, none⟩) (by show W1.heap.size < _; omega)).trans e1.1
  have o3 := (b23.cell (p := ⟨W1.heap.size + 1, 0, none⟩) (by show W1.heap.size + 1 < _; omega)).trans e2.1
  have f3 := (b23.frozen (p := ⟨W1.heap.size + 1, 0, none⟩) (by show W1.heap.size + 1 < _; omega)).trans e2.2
  have hO : Own4 W1.heap.size l (W1.heap.size + 1) bm W1.heap.size bf (W1.heap.size + 1 + 1) [] A3 :=
    ⟨⟨_, o3, rfl, .inl ⟨rfl, rfl⟩⟩, f3, y3, e3.1, ⟨by omega, by omega⟩, ⟨by omega, by omega⟩, by omega, by omega⟩
  have hx := extend_in many W1.heap.size l (W1.heap.size + 1) bm W1.heap.size bf (W1.heap.size + 1 + 1) c1 c2 c3 c4 fit W1 (fun q W' => ∃ s, W1.heap.size + 1 + 1 < s ∧ R q s W') hm hbm hf hbf hmany hfit
    (fun m q v W hB hq hlt hrow => (hY m q v W (W1.heap.size + 1 + 1 + 1) hB hq (by omega) (by omega) hrow).mono fun e W' ⟨h1, h2, h3⟩ => ⟨h1, ⟨_, hlt, h2⟩, h3⟩)
    (fun q W v ⟨s, h1, h2⟩ => ⟨s, h1, hR _ s q W v (by omega) (by omega) h2⟩) many (n - 1) [] A3 (by simp) b03 hO
  rw [hA3, hA2, hA1] at hx
  gi_wp2_with (refine ⟨trivial, fun h => (by cases h), ?_⟩; gi_at_call 144; refine hx.mono ?_; rintro e W' (⟨rfl, h1, h2, _⟩ | ⟨rfl, q, h1, ⟨s, h2, h3⟩, _⟩))
  · go_end0
    exact ⟨⟨_, rfl⟩, .inl ⟨h1, h2⟩⟩
  · go_end0
    exact ⟨⟨_, rfl⟩, .inr ⟨q, s, h1, by omega, h3⟩⟩
end Go.Proofs.YtdilcbocnndkmaaGreatDoor
