/- A part of the proof: see the last file. -/
import Derived.Test.YtlhgkepdoinlnaaGreatDoorPaa
import Derived.WalkKit
set_option linter.unusedVariables false
set_option linter.unusedSimpArgs false
set_option linter.unusedSectionVars false
namespace Go
variable {P : Program} {md : Region.Mode} {ops : Array Oper} {Q : Exit → Act → World → Prop} {L : List Nat} {S0 S : World → Prop}
theorem pA {α : Type _} (l : List α) (i : Nat) (a : α) : l.toArray.setIfInBounds i a = (l.set i a).toArray := List.setIfInBounds_toArray ..
theorem pZ {α : Type _} (x : α) (l : List α) (a : α) : (x :: l).set 0 a = a :: l := List.set_cons_zero ..
theorem pS {α : Type _} (x : α) (l : List α) (n : Nat) (a : α) : (x :: l).set (n + 1) a = x :: l.set n a := List.set_cons_succ ..
theorem xpA {α : Type _} (l : List α) (i : Nat) (a : α) : l.toArray.setIfInBounds i a = (l.set i a).toArray := List.setIfInBounds_toArray ..
theorem xpZ {α : Type _} (x : α) (l : List α) (a : α) : (x :: l).set 0 a = a :: l := List.set_cons_zero ..
theorem xpS {α : Type _} (x : α) (l : List α) (n : Nat) (a : α) : (x :: l).set (n + 1) a = x :: l.set n a := List.set_cons_succ ..
theorem tk0 (i : Nat) {oi : Oper} (v : Value) {fuel : Nat} {listed : Array Bool} {a : Act} {w : World} (hi : ops[i]? = some oi)
  (hy : YieldsIf P ops S0 oi v a) (hI : S0 w ∧ S w) (h : wpAnyP P md ops Q L S0 S fuel (listed.setIfInBounds i true) (a.put oi.dst v) w)
  (hs : Region.noSelect ops = true := by kernel_rfl) (hf : Region.free md ops listed i = true := by kernel_rfl) (hr : (Region.ready md ops listed).contains i = true := by kernel_rfl)
  (hc : closedPB md ops listed = true := by kernel_rfl) (hiL : L.contains i = false := by rfl)
  (hQ : ∀ c a w, Q (.panic c) (a.put oi.dst v) w → Q (.panic c) a w := by exact fun _ _ _ h => h) : wpAnyP P md ops Q L S0 S (fuel + 1) listed a w :=
 wpAnyP_take0 hi hs hf hr hc hiL hQ hy hI h
theorem tk1 (i : Nat) {oi : Oper} {v : Value} {fuel : Nat} {listed : Array Bool} {a a' : Act} {w : World} (hi : ops[i]? = some oi)
  (hI : S0 w ∧ S w) (h : wpAnyP P md ops Q L S0 S fuel (listed.setIfInBounds i true) a' w)
  (hy : YieldsIf P ops S0 oi v a := by exact Or.inl ⟨by rfl, by (intro w9 hSw; clear hSw; go_simp) <;> with_reducible rfl⟩)
  (ha : a.put oi.dst v = a' := by (try simp only [Act.put, xpA, xpZ, xpS]) <;> rfl)
  (hs : Region.noSelect ops = true := by kernel_rfl) (hf : Region.free md ops listed i = true := by kernel_rfl) (hr : (Region.ready md ops listed).contains i = true := by kernel_rfl)
  (hc : closedPB md ops listed = true := by kernel_rfl) (hiL : L.contains i = false := by rfl)
  (hQ : ∀ c a w, Q (.panic c) (a.put oi.dst v) w → Q (.panic c) a w := by exact fun _ _ _ h => h) : wpAnyP P md ops Q L S0 S (fuel + 1) listed a w :=
 wpAnyP_take0 hi hs hf hr hc hiL hQ hy hI (ha ▸ h)
theorem tk2 (i : Nat) {oi : Oper} {v : Value} {fuel : Nat} {listed : Array Bool} {a a' : Act} {w : World} (hi : ops[i]? = some oi)
  (hy : ∀ w, S0 w → (execOp a.eval oi).run P w = .ok (.value v) w) (hI : S0 w ∧ S w) (h : wpAnyP P md ops Q L S0 S fuel (listed.setIfInBounds i true) a' w)
  (hwa : Region.wanted oi (yielded ops a.tmps) = true := by rfl)
  (ha : a.put oi.dst v = a' := by (try simp only [Act.put, xpA, xpZ, xpS]) <;> rfl)
  (hs : Region.noSelect ops = true := by kernel_rfl) (hf : Region.free md ops listed i = true := by kernel_rfl) (hr : (Region.ready md ops listed).contains i = true := by kernel_rfl)
  (hc : closedPB md ops listed = true := by kernel_rfl) (hiL : L.contains i = false := by rfl)
  (hQ : ∀ c a w, Q (.panic c) (a.put oi.dst v) w → Q (.panic c) a w := by exact fun _ _ _ h => h) : wpAnyP P md ops Q L S0 S (fuel + 1) listed a w :=
 wpAnyP_take0 hi hs hf hr hc hiL hQ (Or.inl ⟨hwa, hy⟩) hI (ha ▸ h)
theorem tk3 (i : Nat) {oi : Oper} {v : Value} {fuel : Nat} {listed : Array Bool} {a a' : Act} {w : World} (hi : ops[i]? = some oi)
  (hy : ∀ w, S0 w → (execOp a.eval oi).run P w = .ok (.value v) w) (hI : S0 w ∧ S w) (h : wpAnyP P md ops Q L S0 S fuel (listed.setIfInBounds i true) a' w)
  (hwa : Region.wanted oi (yielded ops a.tmps) = true := by kernel_rfl)
  (ha : a.put oi.dst v = a' := by (try simp only [Act.put, xpA, xpZ, xpS]) <;> rfl)
  (hs : Region.noSelect ops = true := by kernel_rfl) (hf : Region.free md ops listed i = true := by kernel_rfl) (hr : (Region.ready md ops listed).contains i = true := by kernel_rfl)
  (hc : closedPB md ops listed = true := by kernel_rfl) (hiL : L.contains i = false := by rfl)
  (hQ : ∀ c a w, Q (.panic c) (a.put oi.dst v) w → Q (.panic c) a w := by exact fun _ _ _ h => h) : wpAnyP P md ops Q L S0 S (fuel + 1) listed a w :=
 wpAnyP_take0 hi hs hf hr hc hiL hQ (Or.inl ⟨hwa, hy⟩) hI (ha ▸ h)
theorem rd1 (i : Nat) {o : Oper} {fuel : Nat} {listed : Array Bool} {a : Act} {w : World} (ho : ops[i]? = some o)
  (h : ∀ K' : Act → World → Prop, Shut (∀ a w, S0 w ∧ S w → (S0 w ∧ S w → wpAnyP P md ops Q L S0 S fuel (listed.setIfInBounds i true) a w) → K' a w) → if Region.wanted o (yielded ops a.tmps) = true then Oper.wp P o a w K' Q else K' (a.put o.dst undef) w)
  (hr : Region.ready md ops listed = [i] := by kernel_rfl) : wpAnyP P md ops Q L S0 S (fuel + 1) listed a w :=
 wpAnyP_ready hr (List.cons_ne_nil _ _) (AllReadyP.cons ho h AllReadyP.nil)
end Go
