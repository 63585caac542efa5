/- A part of the proof: see the last file. -/
import Derived.Test.YtjhpklolpmaopaaGreatDoorPbe
set_option linter.unusedVariables false
set_option linter.unusedSimpArgs false
set_option linter.unusedSectionVars false
namespace Go.Proofs.YtjhpklolpmaopaaGreatDoor
open Go.RowKit
theorem step_store_mid {P : Program} {ops : Array Oper} {o : Oper} {a : Act} {w : World} {K : Act → World → Prop} {Q : Exit → Act → World → Prop} {E : Prop} (hgd : o.guard = none) (ty : TypeId) (x y : Operand) (ho : o.op = .store ty x y)
  (b off : Nat) (cells : Array Value) (hx : a.eval x = .pointer (some ⟨b, off, none⟩)) (hy : a.eval y = .agg cells) (ht : w.there b off cells.size) (hi : (P.info? ty).map (·.size) = some cells.size) (h1 : cells.all (·.oneCell') = true)
  (h : K (a.put o.dst undef) (w.setCells b off cells.toList)) : if Region.wanted o (yielded ops a.tmps) = true then Oper.wp P o a w K Q else E := by
 have hw : Region.wanted o (yielded ops a.tmps) = true := by simp [Region.wanted, hgd]
 rw [if_pos hw]
 exact wp_store_mid ty x y ho b off cells hx hy ht hi h1 h
/-- what stays while Known works: the machine's cells, and the two results. -/
structure KS (w W : World) (m : Mach) : Prop where
 mat : MAt W w.heap.size m
 p : Two W (w.heap.size + 1) 0 0
 q : Two W (w.heap.size + 1 + 1) 0 0
 old : Below w.heap.size w W
 lt : w.heap.size + 3 ≤ W.heap.size
theorem KS.below {w W W' : World} {m : Mach} (h : KS w W m) (hb : Below W.heap.size W W') : KS w W' m := by
 have := h.lt
 exact ⟨h.mat.below hb (by omega), h.p.below hb (by omega), h.q.below hb (by omega), h.old.trans (hb.mono (by omega)), Nat.le_trans h.lt hb.size⟩
theorem KS.alloc {w W : World} {m : Mach} (h : KS w W m) (o : Obj) : KS w (W.alloc o) m := h.below ((Below.refl _ _).alloc (Nat.le_refl _) o)
theorem KS.drew {w W : World} {m : Mach} (h : KS w W m) : KS w W.drew m := h.below (Below.refl _ _).drew
theorem KS.put {w W : World} {m : Mach} (h : KS w W m) {g : Nat} (hg : w.heap.size + 3 ≤ g) (L : List Value) : KS w (W.setCells g 0 L) m := by
 have hl := h.lt
 have hk : ∀ b, b < w.heap.size + 3 → (W.setCells g 0 L).heap[b]? = W.heap[b]? := fun b hb => World.heap_setCells_other W g 0 L (by omega) (by omega)
 have hbl : Below (w.heap.size + 3) W (W.setCells g 0 L) := below_setCells hg L 0 W (Below.refl _ _)
 exact ⟨h.mat.below hbl (by omega), h.p.below hbl (by omega), h.q.below hbl (by omega), below_setCells (by omega) L 0 W h.old, by rw [size_setCells]; exact hl⟩
theorem KS.new (w : World) (m : Mach) : KS w (((w.alloc (.cells #[.slice m.sa m.sn m.sc, .int .i64 m.c0, .int .i64 m.c1, .int .i64 m.d0, .int .i64 m.d1, .int .i64 m.w0, .int .i64 m.w1, .int .i64 m.v0, .int .i64 m.v1, .slice m.ra m.rn m.rc] 27)).alloc (Obj.cells #[.int .i64 0, .int .i64 0] 24)).alloc (Obj.cells #[.int .i64 0, .int .i64 0] 24)) m := by
 have h1 : Below w.heap.size w (w.alloc (.cells #[.slice m.sa m.sn m.sc, .int .i64 m.c0, .int .i64 m.c1, .int .i64 m.d0, .int .i64 m.d1, .int .i64 m.w0, .int .i64 m.w1, .int .i64 m.v0, .int .i64 m.v1, .slice m.ra m.rn m.rc] 27)) := (Below.refl _ _).alloc (Nat.le_refl _) _
 have hm := MAt.new w m
 have hz : (w.alloc (.cells #[.slice m.sa m.sn m.sc, .int .i64 m.c0, .int .i64 m.c1, .int .i64 m.d0, .int .i64 m.d1, .int .i64 m.w0, .int .i64 m.w1, .int .i64 m.v0, .int .i64 m.v1, .slice m.ra m.rn m.rc] 27)).heap.size = w.heap.size + 1 := World.size_alloc _ _
 generalize w.alloc (.cells #[.slice m.sa m.sn m.sc, .int .i64 m.c0, .int .i64 m.c1, .int .i64 m.d0, .int .i64 m.d1, .int .i64 m.w0, .int .i64 m.w1, .int .i64 m.v0, .int .i64 m.v1, .slice m.ra m.rn m.rc] 27) = W1 at *
 have hp := Two.new W1 24 0 0
 have h2 : Below W1.heap.size W1 (W1.alloc (Obj.cells #[.int .i64 0, .int .i64 0] 24)) := (Below.refl _ _).alloc (Nat.le_refl _) _
 have hz2 : (W1.alloc (Obj.cells #[.int .i64 0, .int .i64 0] 24)).heap.size = W1.heap.size + 1 := World.size_alloc _ _
 generalize W1.alloc (Obj.cells #[.int .i64 0, .int .i64 0] 24) = W2 at *
 have hq := Two.new W2 24 0 0
 have h3 : Below W2.heap.size W2 (W2.alloc (Obj.cells #[.int .i64 0, .int .i64 0] 24)) := (Below.refl _ _).alloc (Nat.le_refl _) _
 have hz3 : (W2.alloc (Obj.cells #[.int .i64 0, .int .i64 0] 24)).heap.size = W2.heap.size + 1 := World.size_alloc _ _
 rw [hz] at hp
 rw [hz2, hz] at hq
 exact ⟨(hm.below h2 (by omega)).below h3 (by omega), hp.below h3 (by omega), hq, (h1.trans (h2.mono (by omega))).trans (h3.mono (by omega)), by omega⟩
end Go.Proofs.YtjhpklolpmaopaaGreatDoor
