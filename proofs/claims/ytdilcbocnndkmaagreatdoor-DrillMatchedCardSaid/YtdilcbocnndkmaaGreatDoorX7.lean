/- A part of the proof: see the last file. -/
import Derived.Test.YtdilcbocnndkmaaGreatDoorX6
import Derived.Test.YtdilcbocnndkmaaGreatDoorX5
import Derived.Lib.LazyBuf
set_option linter.unusedVariables false
set_option linter.unusedSimpArgs false
set_option linter.unusedSectionVars false
namespace Go.Proofs.YtdilcbocnndkmaaGreatDoor
open Go.RowKit
set_option maxRecDepth 100000 in
set_option maxHeartbeats 1000000 in
theorem orders_any (many : Nat) (c1 c2 c3 c4 : Value) (w : World) :
    Calls Tryz.prog 100 #[.int .i64 many, .func (.func 98) #[] #[c1, c2, c3, c4]] w fun e w' => e = .returned (.func (.func 143) #[] #[.pointer (some ⟨w.heap.size, 0, none⟩), .pointer (some ⟨w.heap.size + 1, 0, none⟩)]) ∧ w' = (w.alloc (.cells #[.int .i64 many] 3)).alloc (.cells #[.func (.func 98) #[] #[c1, c2, c3, c4]] 62) := by
  go_enter Tryz.func100, Tryz.ntmps100
  go_wp2
  go_ret
  exact ⟨rfl, rfl⟩
set_option maxRecDepth 100000 in
set_option maxHeartbeats 1000000 in
theorem clone_any (g n cap b0 : Nat) (q : List Nat) (w : World) (hn : n ≤ 1000) (hrow : w.ownsRow b0 3 1 (.slice (some ⟨g, 0, none⟩) n cap) n (cellsN q)) :
    Calls Tryz.prog 101 #[.slice (some ⟨g, 0, none⟩) n cap] w fun e w' => ∃ v', e = .returned v' ∧ w'.ownsRow w.heap.size 3 1 v' n (cellsN q) ∧ Below w.heap.size w w' := by
  obtain ⟨i0, hi, hz0, hz1, hz2⟩ := info_parts Tryz.info3
  have he : ∀ w, (binOp .eql 34 (.slice (some ⟨g, 0, none⟩) n cap) (.slice none 0 0)).run Tryz.prog w = .ok (.bool false) w := fun w => run_eql_slice_nil w 34 3 _ n cap Tryz.underlying34
  have hl : (cellsN q).length = n * 1 := hrow.1
  have hk : ∀ j x, (cellsN q)[j]? = some x → w.cell? ⟨g, j, none⟩ = some x := by
    rcases ownsRow_lt hrow with ⟨h1, h2⟩ | ⟨g', c', h1, h2, h3⟩
    · cases h1
    · cases h1; exact h3
  have hg : g < w.heap.size := by
    rcases ownsRow_lt hrow with ⟨h1, h2⟩ | ⟨g', c', h1, h2, h3⟩
    · cases h1
    · cases h1; exact h2
  have hb1 : Below w.heap.size w (w.alloc (.cells #[] 3)) := (Below.refl _ _).alloc (Nat.le_refl _) _
  have hown : (w.alloc (.cells #[] 3)).ownsRow w.heap.size 3 1 (.slice (some ⟨w.heap.size, 0, none⟩) 0 0) 0 [] :=
    ⟨rfl, .inr ⟨w.heap.size, 0, #[], rfl, Nat.le_refl _, World.alloc_heap_new w _, Nat.le_refl _, by unfold maxLen; omega, rfl, rfl⟩⟩
  go_enter Tryz.func101, Tryz.ntmps101
  go_wp2_with (at_builtin; refine wpList_append_own _ rfl _ _ 34 rfl w.heap.size 3 i0 (.int .i64 0) 1 8 Tryz.underlying34 hi hz0 hz1 hz2 rfl (by decide) _ 0 [] rfl hown ⟨g, 0, none⟩ n cap (cellsN q) rfl hl ?c1 ?c2 ?c3 ?c4 ?c5 ?_)
  case c1 =>
    intro j u hu
    have : (⟨g, 0, none⟩ : Addr).add j = ⟨g, j, none⟩ := by simp [Addr.add]; omega
    rw [this, hb1.cell (p := ⟨g, j, none⟩) hg]
    exact hk j u hu
  case c2 =>
    intro u hu
    unfold cellsN at hu
    obtain ⟨j, _, rfl⟩ := List.mem_map.1 hu
    rfl
  case c3 => unfold maxLen; omega
  case c4 => omega
  case c5 => simp
  intro v3 w3 hown3 hgrow _
  have hb3 : Below w.heap.size w w3 := hb1.grown hgrow hb1.size fun k hk => by
    have := (hown.lt k hk).1; exact this
  go_wp2
  go_ret
  exact ⟨_, rfl, hown3, hb3⟩
end Go.Proofs.YtdilcbocnndkmaaGreatDoor
