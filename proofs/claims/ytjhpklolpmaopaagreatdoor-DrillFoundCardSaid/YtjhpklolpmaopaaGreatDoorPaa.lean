/- A part of the proof: see the last file. -/
import Derived.Deep.RegionHeld
import Derived.WalkKit
import Derived.Test.YtjhpklolpmaopaaGreatDoorRows
import Derived.WalkSpells
import Derived.WalkLawsBesides
set_option linter.unusedVariables false
set_option linter.unusedSimpArgs false
set_option linter.unusedSectionVars false
/-! A region in which late operations (L: the stores of an assignment) break the condition S by which loads are taken first: S is asked only while none of them has come up; S0 is asked throughout. No seat. -/
namespace Go
section
variable {P : Program} {ops : Array Oper} {Q : Exit → Act → World → Prop} {md : Region.Mode} {S0 S : World → Prop} {L : List Nat}

/-- none of the late ones has come up. -/
def aliveB (L : List Nat) (l : Array Bool) : Bool := L.all fun j => !(l.getD j false)
def InvP (L : List Nat) (S0 S : World → Prop) (l : Array Bool) (w : World) : Prop := S0 w ∧ (aliveB L l = true → S w)
theorem aliveB_set {l : Array Bool} {i : Nat} (hi : L.contains i = false) : aliveB L (l.setIfInBounds i true) = aliveB L l := by
 unfold aliveB
 rw [Bool.eq_iff_iff, List.all_eq_true, List.all_eq_true]
 have key : ∀ j ∈ L, (l.setIfInBounds i true).getD j false = l.getD j false := fun j hj =>
  getD_set_ne false (fun h => by subst h; rw [List.contains_iff_mem.2 hj] at hi; cases hi)
 exact ⟨fun h j hj => by rw [← key j hj]; exact h j hj, fun h j hj => by rw [key j hj]; exact h j hj⟩
/-- Whatever order is picked from here on, and the condition holds behind each operation. -/
def wpAnyP (P : Program) (md : Region.Mode) (ops : Array Oper) (Q : Exit → Act → World → Prop) (L : List Nat) (S0 S : World → Prop) : Nat → Array Bool → Act → World → Prop
 | 0, l, a, w => Region.ready md ops l = [] ∧ Q .normal a w
 | n + 1, l, a, w => (Region.ready md ops l = [] → Q .normal a w) ∧ ∀ i ∈ Region.ready md ops l, wpOp P ops Q i (fun a' w' => InvP L S0 S (l.setIfInBounds i true) w' ∧ wpAnyP P md ops Q L S0 S n (l.setIfInBounds i true) a' w') a w
theorem wpAny_of_late : ∀ (n : Nat) (l : Array Bool) (a : Act) (w : World), wpAnyP P md ops Q L S0 S n l a w → wpAny P md ops Q n l a w
 | 0, _, _, _, h => h
 | n + 1, _, _, _, h => ⟨h.1, fun i hi => wpOp_mono (fun a' w' h' => wpAny_of_late n _ a' w' h'.2) (h.2 i hi)⟩
/-- what has come up is closed: each has those that it waits for. -/
def ClosedP (md : Region.Mode) (ops : Array Oper) (l : Array Bool) : Prop :=
 ∀ k o, ops[k]? = some o → l.getD k false = true → ∀ e ∈ o.after, Region.binds md e = true → l.getD e.on false = true
def closedPB (md : Region.Mode) (ops : Array Oper) (l : Array Bool) : Bool :=
 (List.range ops.size).all fun k => !(l.getD k false) || ((ops[k]?).map fun o => o.after.toList.all fun e => !(Region.binds md e) || l.getD e.on false).getD true
theorem closedPB_ok {l : Array Bool} (h : closedPB md ops l = true) : ClosedP md ops l := fun k o ho hk e he hb => by
 have hlt : k < ops.size := (Array.getElem?_eq_some_iff.1 ho).1
 have h1 := List.all_eq_true.1 h k (List.mem_range.2 hlt)
 rw [hk, ho] at h1
 simp only [Bool.not_true, Bool.false_or, Option.map_some, Option.getD_some, List.all_eq_true] at h1
 have h2 := h1 e (by simpa using he)
 rw [hb] at h2
 simpa using h2
theorem ClosedP.set {l : Array Bool} {j : Nat} (h : ClosedP md ops l) (hj : j ∈ Region.ready md ops l) : ClosedP md ops (l.setIfInBounds j true) := fun k o ho hk e he hb => by
 obtain ⟨_, oj, hoj, hall⟩ := mem_ready.1 hj
 refine getD_set_true ?_
 by_cases hjk : j = k
 ·subst hjk
  rw [hoj] at ho
  cases ho
  exact hall e he hb
 ·rw [getD_set_ne false hjk] at hk
  exact h k o ho hk e he hb
/-- j waits for i, at most so many steps back. -/
def waitsB (md : Region.Mode) (ops : Array Oper) (i : Nat) : Nat → Nat → Bool
 | 0, _ => false
 | n + 1, j => ((ops[j]?).map fun o => o.after.toList.any fun e => Region.binds md e && (e.on == i || waitsB md ops i n e.on)).getD false
theorem waitsB_listed {i : Nat} {l : Array Bool} (h : ClosedP md ops l) : ∀ (n j : Nat), waitsB md ops i n j = true → l.getD j false = true → l.getD i false = true
 | 0, _, hw, _ => by cases hw
 | n + 1, j, hw, hj => by
  unfold waitsB at hw
  cases ho : ops[j]? with
  | none => rw [ho] at hw; cases hw
  | some o =>
   rw [ho] at hw
   simp only [Option.map_some, Option.getD_some, List.any_eq_true, Bool.and_eq_true, Bool.or_eq_true, beq_iff_eq] at hw
   obtain ⟨e, he, hb, hi⟩ := hw
   have he' : e ∈ o.after := by simpa using he
   have hl := h j o ho hj e he' hb
   rcases hi with rfl | hi
   ·exact hl
   ·exact waitsB_listed h n e.on hi hl
theorem aliveB_of {i d : Nat} {l : Array Bool} (h : ClosedP md ops l) (hw : (L.all fun j => waitsB md ops i d j) = true) (hi : l.getD i false = false) : aliveB L l = true := by
 unfold aliveB
 rw [List.all_eq_true] at hw ⊢
 intro j hj
 cases hl : l.getD j false with
 | false => rfl
 | true => rw [waitsB_listed h d j (hw j hj) hl] at hi; cases hi
theorem wpAnyP_first {SS : World → Prop} {i : Nat} {oi : Oper} {v : Value} (hi : ops[i]? = some oi) (hsel : ∀ (j : Nat) (o : Oper) cs b, ops[j]? = some o → o.op ≠ .select cs b)
  (hQ : ∀ c a w, Q (.panic c) (a.put oi.dst v) w → Q (.panic c) a w) (hiL : L.contains i = false)
  (hSS : ∀ (l : Array Bool) (w : World), ClosedP md ops l → l.getD i false = false → InvP L S0 S l w → SS w) :
  ∀ (fuel : Nat) (listed : Array Bool) (a : Act) (w : World), ClosedP md ops listed →
   (∀ j oj, ops[j]? = some oj → j ≠ i → listed.getD j true = false → (∀ e ∈ oj.after, Region.binds md e = true → e.on ≠ i) → oi.apart ops oj = true) →
   i ∈ Region.ready md ops listed → YieldsIf P ops SS oi v a → InvP L S0 S listed w →
   wpAnyP P md ops Q L S0 S fuel (listed.setIfInBounds i true) (a.put oi.dst v) w → wpAnyP P md ops Q L S0 S (fuel + 1) listed a w := by
 have hun : ∀ {l : Array Bool}, i ∈ Region.ready md ops l → l.getD i false = false := fun {l} hr => by
  have h0 := (mem_ready.1 hr).1
  rcases Nat.lt_or_ge i l.size with h' | h'
  ·simp [h'] at h0 ⊢; exact h0
  ·simp [Array.getElem?_eq_none h'] at h0
 have hself : ∀ {l : Array Bool} {w : World}, InvP L S0 S l w → InvP L S0 S (l.setIfInBounds i true) w := fun {l w} hI => ⟨hI.1, fun h => hI.2 (by rw [aliveB_set hiL] at h; exact h)⟩
 intro fuel
 induction fuel with
 | zero =>
  intro listed a w hcl _ hr hy hI H
  refine ⟨fun h => (by rw [h] at hr; cases hr), fun j hj => ?_⟩
  by_cases hji : j = i
  ·subst hji; exact hy.wpOp hi (hSS listed w hcl (hun hr) hI) ⟨hself hI, H⟩
  ·have := ready_mono hj hji
   rw [H.1] at this
   cases this
 | succ fuel ih =>
  intro listed a w hcl hfree hr hy hI H
  refine ⟨fun h => (by rw [h] at hr; cases hr), fun j hj => ?_⟩
  by_cases hji : j = i
  ·subst hji; exact hy.wpOp hi (hSS listed w hcl (hun hr) hI) ⟨hself hI, H⟩
  ·have h1 := H.2 j (ready_mono hj hji)
   obtain ⟨hjun, oj, hoj, hall⟩ := mem_ready.1 hj
   have hiun := hun hr
   have hnot : ∀ e ∈ oj.after, Region.binds md e = true → e.on ≠ i := fun e he hb heq => by
    have h1 := hall e he hb
    rw [heq, hiun] at h1
    cases h1
   have h2 := wpOp_putIf hoj (hfree j oj hoj hji hjun hnot) (fun cs b => hsel i oi cs b hi) (fun cs b => hsel j oj cs b hoj) hQ hy h1
   have hfree' : ∀ k ok, ops[k]? = some ok → k ≠ i → (listed.setIfInBounds j true).getD k true = false →
     (∀ e ∈ ok.after, Region.binds md e = true → e.on ≠ i) → oi.apart ops ok = true := fun k ok hk hki hun hno => by
    refine hfree k ok hk hki ?_ hno
    by_cases hjk : j = k
    ·subst hjk; exact hjun
    ·rw [getD_set_ne true hjk] at hun; exact hun
   refine wpOp_mono (fun a' w' h3 => ?_) h2
   have h4 := h3.2.1
   have h5 := h3.2.2
   rw [Array.setIfInBounds_comm _ _ (Ne.symm hji)] at h4 h5
   have hI' : InvP L S0 S (listed.setIfInBounds j true) w' := ⟨h4.1, fun h => h4.2 (by rw [aliveB_set hiL]; exact h)⟩
   exact ⟨hI', ih (listed.setIfInBounds j true) a' w' (hcl.set hj) hfree' (ready_mono hr (Ne.symm hji)) h3.1 hI' h5⟩
/-- take number i first, by what holds throughout. -/
theorem wpAnyP_take0 {i : Nat} {oi : Oper} {v : Value} {fuel : Nat} {listed : Array Bool} {a : Act} {w : World} (hi : ops[i]? = some oi)
  (hs : Region.noSelect ops = true) (hf : Region.free md ops listed i = true) (hr : (Region.ready md ops listed).contains i = true)
  (hc : closedPB md ops listed = true) (hiL : L.contains i = false)
  (hQ : ∀ c a w, Q (.panic c) (a.put oi.dst v) w → Q (.panic c) a w) (hy : YieldsIf P ops S0 oi v a) (hI : S0 w ∧ S w)
  (h : wpAnyP P md ops Q L S0 S fuel (listed.setIfInBounds i true) (a.put oi.dst v) w) : wpAnyP P md ops Q L S0 S (fuel + 1) listed a w :=
 wpAnyP_first hi (Region.noSelect_spec hs) hQ hiL (fun _ _ _ _ h => h.1) fuel listed a w (closedPB_ok hc) (Region.free_spec hi hf) (by simpa using hr) hy ⟨hI.1, fun _ => hI.2⟩ h
/-- the same, behind a late one. -/
theorem wpAnyP_takeB {i : Nat} {oi : Oper} {v : Value} {fuel : Nat} {listed : Array Bool} {a : Act} {w : World} (hi : ops[i]? = some oi)
  (hs : Region.noSelect ops = true) (hf : Region.free md ops listed i = true) (hr : (Region.ready md ops listed).contains i = true)
  (hc : closedPB md ops listed = true) (hiL : L.contains i = false) (hd : aliveB L listed = false)
  (hQ : ∀ c a w, Q (.panic c) (a.put oi.dst v) w → Q (.panic c) a w) (hy : YieldsIf P ops S0 oi v a) (hI : S0 w)
  (h : wpAnyP P md ops Q L S0 S fuel (listed.setIfInBounds i true) (a.put oi.dst v) w) : wpAnyP P md ops Q L S0 S (fuel + 1) listed a w :=
 wpAnyP_first hi (Region.noSelect_spec hs) hQ hiL (fun _ _ _ _ h => h.1) fuel listed a w (closedPB_ok hc) (Region.free_spec hi hf) (by simpa using hr) hy ⟨hI, fun h => by rw [hd] at h; cases h⟩ h
/-- take number i first, by what holds till a late one comes up; each of these waits for it. -/
theorem wpAnyP_take {i : Nat} {oi : Oper} {v : Value} {fuel : Nat} {listed : Array Bool} {a : Act} {w : World} (d : Nat) (hi : ops[i]? = some oi)
  (hs : Region.noSelect ops = true) (hf : Region.free md ops listed i = true) (hr : (Region.ready md ops listed).contains i = true)
  (hc : closedPB md ops listed = true) (hiL : L.contains i = false) (hw : (L.all fun j => waitsB md ops i d j) = true)
  (hQ : ∀ c a w, Q (.panic c) (a.put oi.dst v) w → Q (.panic c) a w) (hy : YieldsIf P ops (fun w => S0 w ∧ S w) oi v a) (hI : S0 w ∧ S w)
  (h : wpAnyP P md ops Q L S0 S fuel (listed.setIfInBounds i true) (a.put oi.dst v) w) : wpAnyP P md ops Q L S0 S (fuel + 1) listed a w :=
 wpAnyP_first hi (Region.noSelect_spec hs) hQ hiL (fun _ _ hcl hun h => ⟨h.1, h.2 (aliveB_of hcl hw hun)⟩) fuel listed a w (closedPB_ok hc) (Region.free_spec hi hf) (by simpa using hr) hy ⟨hI.1, fun _ => hI.2⟩ h
theorem wpAnyP_done {listed : Array Bool} {a : Act} {w : World} (hr : Region.ready md ops listed = []) (h : Q .normal a w) : ∀ fuel, wpAnyP P md ops Q L S0 S fuel listed a w
 | 0 => ⟨hr, h⟩
 | _ + 1 => ⟨fun _ => h, by rw [hr]; simp⟩
def AllReadyP (P : Program) (md : Region.Mode) (ops : Array Oper) (Q : Exit → Act → World → Prop) (L : List Nat) (S0 S : World → Prop) (fuel : Nat) (listed : Array Bool) (a : Act) (w : World) (rs : List Nat) : Prop :=
 ∀ i ∈ rs, wpOp P ops Q i (fun a' w' => InvP L S0 S (listed.setIfInBounds i true) w' ∧ wpAnyP P md ops Q L S0 S fuel (listed.setIfInBounds i true) a' w') a w
theorem AllReadyP.nil {fuel : Nat} {listed : Array Bool} {a : Act} {w : World} : AllReadyP P md ops Q L S0 S fuel listed a w [] := fun _ h => by cases h
/-- an operation before which none of the late ones has come up: both conditions are shown. -/
theorem AllReadyP.cons {fuel : Nat} {listed : Array Bool} {a : Act} {w : World} {i : Nat} {o : Oper} {rs : List Nat} (ho : ops[i]? = some o)
  (h : ∀ K' : Act → World → Prop, Shut (∀ a w, S0 w ∧ S w → (S0 w ∧ S w → wpAnyP P md ops Q L S0 S fuel (listed.setIfInBounds i true) a w) → K' a w) → if Region.wanted o (yielded ops a.tmps) = true then Oper.wp P o a w K' Q else K' (a.put o.dst undef) w)
  (hs : AllReadyP P md ops Q L S0 S fuel listed a w rs) : AllReadyP P md ops Q L S0 S fuel listed a w (i :: rs) := fun j hj => by
 rcases List.mem_cons.1 hj with rfl | hj
 ·exact wpOp_step ho (fun K' hK => h K' (fun a w hS hW => hK a w ⟨⟨hS.1, fun _ => hS.2⟩, hW hS⟩))
 ·exact hs j hj
/-- a late one, or one behind a late one. -/
theorem AllReadyP.behind {fuel : Nat} {listed : Array Bool} {a : Act} {w : World} {i : Nat} {o : Oper} {rs : List Nat} (ho : ops[i]? = some o) (hl : aliveB L (listed.setIfInBounds i true) = false)
  (h : ∀ K' : Act → World → Prop, Shut (∀ a w, S0 w → (S0 w → wpAnyP P md ops Q L S0 S fuel (listed.setIfInBounds i true) a w) → K' a w) → if Region.wanted o (yielded ops a.tmps) = true then Oper.wp P o a w K' Q else K' (a.put o.dst undef) w)
  (hs : AllReadyP P md ops Q L S0 S fuel listed a w rs) : AllReadyP P md ops Q L S0 S fuel listed a w (i :: rs) := fun j hj => by
 rcases List.mem_cons.1 hj with rfl | hj
 ·have hI : ∀ {w : World}, S0 w → InvP L S0 S (listed.setIfInBounds j true) w := fun hS => ⟨hS, fun h => by rw [hl] at h; cases h⟩
  exact wpOp_step ho (fun K' hK => h K' (fun a w hS hW => hK a w ⟨hI hS, hW hS⟩))
 ·exact hs j hj
theorem wpAnyP_ready {rs : List Nat} {fuel : Nat} {listed : Array Bool} {a : Act} {w : World} (hr : Region.ready md ops listed = rs) (hne : rs ≠ [])
  (h : AllReadyP P md ops Q L S0 S fuel listed a w rs) : wpAnyP P md ops Q L S0 S (fuel + 1) listed a w := ⟨fun h0 => absurd (hr ▸ h0) hne, hr ▸ h⟩
theorem wp_region_late (L : List Nat) (S0 S : World → Prop) {id : Nat} {a : Act} {w : World} (hm : P.follows .mixedOrders = true) (hS : S0 w.drew ∧ S w.drew)
  (h : S0 w.drew ∧ S w.drew → wpAnyP P .any ops Q L S0 S ops.size (Array.replicate ops.size false) a w.drew) : (Code.region id ops true).wp P Q a w :=
 wp_region_any hm (wpAny_of_late _ _ _ _ (h hS))
end
end Go
/-! A late operation waits for another one: shown by a path of edges. No seat. -/
namespace Go
section
variable {P : Program} {ops : Array Oper} {md : Region.Mode}
def edgeB (md : Region.Mode) (ops : Array Oper) (j k : Nat) : Bool := ((ops[j]?).map fun o => o.after.toList.any fun e => Region.binds md e && e.on == k).getD false
def pathB (md : Region.Mode) (ops : Array Oper) : Nat → List Nat → Bool
 | _, [] => true
 | j, k :: r => edgeB md ops j k && pathB md ops k r
theorem waitsB_of_path {i : Nat} : ∀ (p : List Nat) (j : Nat), pathB md ops j (p ++ [i]) = true → waitsB md ops i (p.length + 1) j = true
 | [], j, h => by
  rw [List.nil_append, pathB, Bool.and_eq_true] at h
  have h1 := h.1
  unfold edgeB at h1
  unfold waitsB
  cases ho : ops[j]? with
  | none => rw [ho] at h1; cases h1
  | some o =>
   rw [ho] at h1
   simp only [Option.map_some, Option.getD_some, List.any_eq_true, Bool.and_eq_true, beq_iff_eq] at h1
   obtain ⟨e, he, hb, hi⟩ := h1
   simp only [Option.map_some, Option.getD_some, List.any_eq_true, Bool.and_eq_true, Bool.or_eq_true, beq_iff_eq]
   exact ⟨e, he, hb, .inl hi⟩
 | k :: r, j, h => by
  rw [List.cons_append, pathB, Bool.and_eq_true] at h
  have h2 := waitsB_of_path r k h.2
  have h1 := h.1
  unfold edgeB at h1
  unfold waitsB
  cases ho : ops[j]? with
  | none => rw [ho] at h1; cases h1
  | some o =>
   rw [ho] at h1
   simp only [Option.map_some, Option.getD_some, List.any_eq_true, Bool.and_eq_true, beq_iff_eq] at h1
   obtain ⟨e, he, hb, hi⟩ := h1
   simp only [Option.map_some, Option.getD_some, List.any_eq_true, Bool.and_eq_true, Bool.or_eq_true, beq_iff_eq]
   refine ⟨e, he, hb, .inr ?_⟩
   rw [hi]
   exact h2
theorem waits_one {i j : Nat} (p : List Nat) (h : pathB md ops j (p ++ [i]) = true) : ([j].all fun j => waitsB md ops i (p.length + 1) j) = true := by
 rw [List.all_cons, List.all_nil, Bool.and_true]; exact waitsB_of_path p j h
end
end Go
namespace Go
variable {P : Program} {md : Region.Mode} {ops : Array Oper} {Q : Exit → Act → World → Prop} {L : List Nat} {S0 S : World → Prop}
theorem pA {α : Type _} (l : List α) (i : Nat) (a : α) : l.toArray.setIfInBounds i a = (l.set i a).toArray := List.setIfInBounds_toArray ..
theorem pZ {α : Type _} (x : α) (l : List α) (a : α) : (x :: l).set 0 a = a :: l := List.set_cons_zero ..
theorem pS {α : Type _} (x : α) (l : List α) (n : Nat) (a : α) : (x :: l).set (n + 1) a = x :: l.set n a := List.set_cons_succ ..
theorem xpA {α : Type _} (l : List α) (i : Nat) (a : α) : l.toArray.setIfInBounds i a = (l.set i a).toArray := List.setIfInBounds_toArray ..
theorem xpZ {α : Type _} (x : α) (l : List α) (a : α) : (x :: l).set 0 a = a :: l := List.set_cons_zero ..
theorem xpS {α : Type _} (x : α) (l : List α) (n : Nat) (a : α) : (x :: l).set (n + 1) a = x :: l.set n a := List.set_cons_succ ..
theorem tk0 (i : Nat) {oi : Oper} (v : Value) {fuel : Nat} {listed : Array Bool} {a : Act} {w : World} (hi : ops[i]? = some oi)
  (hy : YieldsIf P ops S0 oi v a) (hI : S0 w ∧ S w) (h : wpAnyP P md ops Q L S0 S fuel (listed.setIfInBounds i true) (a.put oi.dst v) w)
  (hs : Region.noSelect ops = true := by kernel_rfl) (hf : Region.free md ops listed i = true := by kernel_rfl) (hr : (Region.ready md ops listed).contains i = true := by kernel_rfl)
  (hc : closedPB md ops listed = true := by kernel_rfl) (hiL : L.contains i = false := by rfl)
  (hQ : ∀ c a w, Q (.panic c) (a.put oi.dst v) w → Q (.panic c) a w := by exact fun _ _ _ h => h) : wpAnyP P md ops Q L S0 S (fuel + 1) listed a w :=
 wpAnyP_take0 hi hs hf hr hc hiL hQ hy hI h
theorem tk1 (i : Nat) {oi : Oper} {v : Value} {fuel : Nat} {listed : Array Bool} {a a' : Act} {w : World} (hi : ops[i]? = some oi)
  (hI : S0 w ∧ S w) (h : wpAnyP P md ops Q L S0 S fuel (listed.setIfInBounds i true) a' w)
  (hy : YieldsIf P ops S0 oi v a := by exact Or.inl ⟨by rfl, by (intro w9 hSw; clear hSw; go_simp) <;> with_reducible rfl⟩)
  (ha : a.put oi.dst v = a' := by (try simp only [Act.put, xpA, xpZ, xpS]) <;> rfl)
  (hs : Region.noSelect ops = true := by kernel_rfl) (hf : Region.free md ops listed i = true := by kernel_rfl) (hr : (Region.ready md ops listed).contains i = true := by kernel_rfl)
  (hc : closedPB md ops listed = true := by kernel_rfl) (hiL : L.contains i = false := by rfl)
  (hQ : ∀ c a w, Q (.panic c) (a.put oi.dst v) w → Q (.panic c) a w := by exact fun _ _ _ h => h) : wpAnyP P md ops Q L S0 S (fuel + 1) listed a w :=
 wpAnyP_take0 hi hs hf hr hc hiL hQ hy hI (ha ▸ h)
theorem tk2 (i : Nat) {oi : Oper} {v : Value} {fuel : Nat} {listed : Array Bool} {a a' : Act} {w : World} (hi : ops[i]? = some oi)
  (hy : ∀ w, S0 w → (execOp a.eval oi).run P w = .ok (.value v) w) (hI : S0 w ∧ S w) (h : wpAnyP P md ops Q L S0 S fuel (listed.setIfInBounds i true) a' w)
  (hwa : Region.wanted oi (yielded ops a.tmps) = true := by rfl)
  (ha : a.put oi.dst v = a' := by (try simp only [Act.put, xpA, xpZ, xpS]) <;> rfl)
  (hs : Region.noSelect ops = true := by kernel_rfl) (hf : Region.free md ops listed i = true := by kernel_rfl) (hr : (Region.ready md ops listed).contains i = true := by kernel_rfl)
  (hc : closedPB md ops listed = true := by kernel_rfl) (hiL : L.contains i = false := by rfl)
  (hQ : ∀ c a w, Q (.panic c) (a.put oi.dst v) w → Q (.panic c) a w := by exact fun _ _ _ h => h) : wpAnyP P md ops Q L S0 S (fuel + 1) listed a w :=
 wpAnyP_take0 hi hs hf hr hc hiL hQ (Or.inl ⟨hwa, hy⟩) hI (ha ▸ h)
theorem tk3 (i : Nat) {oi : Oper} {v : Value} {fuel : Nat} {listed : Array Bool} {a a' : Act} {w : World} (hi : ops[i]? = some oi)
  (hy : ∀ w, S0 w → (execOp a.eval oi).run P w = .ok (.value v) w) (hI : S0 w ∧ S w) (h : wpAnyP P md ops Q L S0 S fuel (listed.setIfInBounds i true) a' w)
  (hwa : Region.wanted oi (yielded ops a.tmps) = true := by kernel_rfl)
  (ha : a.put oi.dst v = a' := by (try simp only [Act.put, xpA, xpZ, xpS]) <;> rfl)
  (hs : Region.noSelect ops = true := by kernel_rfl) (hf : Region.free md ops listed i = true := by kernel_rfl) (hr : (Region.ready md ops listed).contains i = true := by kernel_rfl)
  (hc : closedPB md ops listed = true := by kernel_rfl) (hiL : L.contains i = false := by rfl)
  (hQ : ∀ c a w, Q (.panic c) (a.put oi.dst v) w → Q (.panic c) a w := by exact fun _ _ _ h => h) : wpAnyP P md ops Q L S0 S (fuel + 1) listed a w :=
 wpAnyP_take0 hi hs hf hr hc hiL hQ (Or.inl ⟨hwa, hy⟩) hI (ha ▸ h)
theorem rd1 (i : Nat) {o : Oper} {fuel : Nat} {listed : Array Bool} {a : Act} {w : World} (ho : ops[i]? = some o)
  (h : ∀ K' : Act → World → Prop, Shut (∀ a w, S0 w ∧ S w → (S0 w ∧ S w → wpAnyP P md ops Q L S0 S fuel (listed.setIfInBounds i true) a w) → K' a w) → if Region.wanted o (yielded ops a.tmps) = true then Oper.wp P o a w K' Q else K' (a.put o.dst undef) w)
  (hr : Region.ready md ops listed = [i] := by kernel_rfl) : wpAnyP P md ops Q L S0 S (fuel + 1) listed a w :=
 wpAnyP_ready hr (List.cons_ne_nil _ _) (AllReadyP.cons ho h AllReadyP.nil)
end Go
namespace Go.Proofs.YtjhpklolpmaopaaGreatDoor
open Go.RowKit
def inB (n lo hi : Int) : Bool := decide (lo ≤ n ∧ n ≤ hi)
theorem ret_bool {a b : Bool} (h : a = b) : Ending.returned (.bool a) = .returned (.bool b) := by rw [h]
theorem inB_yes {n lo hi : Int} (h1 : lo ≤ n) (h2 : n ≤ hi) : inB n lo hi = true := by unfold inB; exact decide_eq_true ⟨h1, h2⟩
theorem inB_no1 {n lo hi : Int} (h1 : ¬ lo ≤ n) : inB n lo hi = false := by unfold inB; exact decide_eq_false (fun h => h1 h.1)
theorem inB_no2 {n lo hi : Int} (h2 : ¬ n ≤ hi) : inB n lo hi = false := by unfold inB; exact decide_eq_false (fun h => h2 h.2)
theorem inB_iff {n lo hi : Int} : inB n lo hi = true ↔ lo ≤ n ∧ n ≤ hi := by unfold inB; exact decide_eq_true_iff
set_option maxHeartbeats 400000 in
theorem within_any (n lo hi : Int) (w : World) :
  Calls Tryz.prog 49 #[.int .i64 n, .int .i64 lo, .int .i64 hi] w fun e w' => e = .returned (.bool (inB n lo hi)) ∧ w = w' := by
 by_cases h1 : lo ≤ n
 ·by_cases h2 : n ≤ hi
  ·go_enter Tryz.func49, Tryz.ntmps49
   go_wp2
   go_ret
   exact ⟨ret_bool (by first | exact (inB_yes h1 h2).symm | exact (inB_no2 (by omega)).symm), rfl⟩
  ·go_enter Tryz.func49, Tryz.ntmps49
   go_wp2
   go_ret
   exact ⟨ret_bool (by first | exact (inB_yes h1 h2).symm | exact (inB_no2 (by omega)).symm), rfl⟩
 ·go_enter Tryz.func49, Tryz.ntmps49
  go_wp2
  go_ret
  exact ⟨ret_bool (inB_no1 (by omega)).symm, rfl⟩
set_option maxHeartbeats 400000 in
theorem in_any (n lo hi : Int) (w : World) :
  Calls Tryz.prog 25 #[.int .i64 n, .int .i64 lo, .int .i64 hi] w fun e w' => e = .returned (.bool (inB n lo hi)) ∧ w = w' := by
 by_cases h1 : lo ≤ n
 ·by_cases h2 : n ≤ hi
  ·go_enter Tryz.func25, Tryz.ntmps25
   go_wp2
   go_ret
   exact ⟨ret_bool (by first | exact (inB_yes h1 h2).symm | exact (inB_no2 (by omega)).symm), rfl⟩
  ·go_enter Tryz.func25, Tryz.ntmps25
   go_wp2
   go_ret
   exact ⟨ret_bool (by first | exact (inB_yes h1 h2).symm | exact (inB_no2 (by omega)).symm), rfl⟩
 ·go_enter Tryz.func25, Tryz.ntmps25
  go_wp2
  go_ret
  exact ⟨ret_bool (inB_no1 (by omega)).symm, rfl⟩
set_option maxHeartbeats 400000 in
theorem turnOf_lo (n : Int) (h0 : 0 ≤ n) (h : n < 4) (w : World) :
  Calls Tryz.prog 65 #[.int .i64 n] w fun e w' => e = .returned (.iface 182 (.int .i64 n)) ∧ w = w' := by
 go_enter Tryz.func65, Tryz.ntmps65
 go_wp2
 go_ret
 exact ⟨rfl, rfl⟩
set_option maxHeartbeats 400000 in
theorem turnOf_hi (n : Int) (h0 : 4 ≤ n) (h : n < 8) (w : World) :
  Calls Tryz.prog 65 #[.int .i64 n] w fun e w' => e = .returned (.iface 183 (.int .i64 (n - 4))) ∧ w = w' := by
 go_enter Tryz.func65, Tryz.ntmps65
 go_wp2
 go_ret
 exact ⟨rfl, rfl⟩
set_option maxHeartbeats 400000 in
theorem plain_any (n : Int) (w : World) :
  Calls Tryz.prog 205 #[.int .i64 n] w fun e w' => e = .returned (.int .i64 n) ∧ w = w' := by
 go_enter Tryz.func205, Tryz.ntmps205
 go_wp2
 go_ret
 exact ⟨rfl, rfl⟩
set_option maxHeartbeats 400000 in
theorem mirrored_any (n : Int) (w : World) :
  Calls Tryz.prog 206 #[.int .i64 n] w fun e w' => e = .returned (.int .i64 n) ∧ w = w' := by
 go_enter Tryz.func206, Tryz.ntmps206
 go_wp2
 go_ret
 exact ⟨rfl, rfl⟩
end Go.Proofs.YtjhpklolpmaopaaGreatDoor
namespace Go.Proofs.YtjhpklolpmaopaaGreatDoor
open Go.RowKit
def ptB (x y r : Int) : Bool := inB x (-r) r && inB y (-r) r
theorem ptB_yes {x y r : Int} (h1 : inB x (-r) r = true) : ptB x y r = inB y (-r) r := by unfold ptB; rw [h1]; rfl
theorem ptB_no {x y r : Int} (h1 : inB x (-r) r = false) : ptB x y r = false := by unfold ptB; rw [h1]; rfl
theorem bcell {W w1 : World} (hb : Below W.heap.size W w1) : (∀ b o, b < W.heap.size → w1.cell? ⟨b, o, none⟩ = W.cell? ⟨b, o, none⟩) ∧ (∀ b o, b < W.heap.size → w1.frozen? ⟨b, o, none⟩ = W.frozen? ⟨b, o, none⟩) :=
 ⟨fun b o h => hb.cell (p := ⟨b, o, none⟩) h, fun b o h => hb.frozen (p := ⟨b, o, none⟩) h⟩
set_option maxHeartbeats 400000 in
theorem isPoint_any (x y r : Int) (h0 : 0 ≤ r) (h1 : r ≤ 1000) (w : World) :
  Calls Tryz.prog 105 #[.agg #[.int .i64 x, .int .i64 y], .int .i64 r] w fun e w' => e = .returned (.bool (ptB x y r)) ∧ Below w.heap.size w w' := by
 cases hx : inB x (-r) r with
 | true =>
  go_enter Tryz.func105, Tryz.ntmps105
  go_wp2_with (go_at_call 49; refine (within_any _ _ _ _).mono ?_; rintro e w' ⟨rfl, rfl⟩)
  go_ret
  exact ⟨ret_bool (ptB_yes hx).symm, (Below.refl _ _).alloc (Nat.le_refl _) _⟩
 | false =>
  go_enter Tryz.func105, Tryz.ntmps105
  go_wp2_with (go_at_call 49; refine (within_any _ _ _ _).mono ?_; rintro e w' ⟨rfl, rfl⟩)
  go_ret
  exact ⟨ret_bool (ptB_no hx).symm, (Below.refl _ _).alloc (Nat.le_refl _) _⟩
set_option maxHeartbeats 400000 in
theorem arePoints1_any (x y r : Int) (h0 : 0 ≤ r) (h1 : r ≤ 1000) (a : Addr) (w : World) (hc : w.cell? a = some (.int .i64 r)) (ha : a.block < w.heap.size) :
  Calls Tryz.prog 104 #[.agg #[.int .i64 x, .int .i64 y], .pointer (some a)] w fun e w' => e = .returned (.bool (!ptB x y r)) ∧ Below w.heap.size w w' := by
 go_enter Tryz.func104, Tryz.ntmps104
 go_wp2_with (go_at_call 105; refine (isPoint_any _ _ _ (by omega) (by omega) _).mono ?_; rintro e w' ⟨rfl, hb⟩)
 go_ret
 exact ⟨rfl, ((Below.refl _ _).alloc (Nat.le_refl _) _).trans (hb.mono (by simp))⟩
end Go.Proofs.YtjhpklolpmaopaaGreatDoor
namespace Go.Proofs.YtjhpklolpmaopaaGreatDoor
open Go.RowKit
/-- n points at a place in memory -/
def Pts (w : World) (b off n : Nat) (X Y : Nat → Int) : Prop := ∀ i, i < n → w.cell? ⟨b, off + i * 2, none⟩ = some (.int .i64 (X i)) ∧ w.cell? ⟨b, off + i * 2 + 1, none⟩ = some (.int .i64 (Y i))
theorem Pts.below {w w' : World} {b off n : Nat} {X Y : Nat → Int} (h : Pts w b off n X Y) (hb : Below w.heap.size w w') (hl : b < w.heap.size) : Pts w' b off n X Y := fun i hi => by
 obtain ⟨h1, h2⟩ := h i hi
 have e := (bcell hb).1
 exact ⟨by rw [e _ _ hl]; exact h1, by rw [e _ _ hl]; exact h2⟩
theorem all_succ {p : Nat → Prop} {k : Nat} (h : ∀ m, m < k → p m) (hk : p k) : ∀ m, m < k + 1 → p m := fun m hm => by
 rcases Nat.lt_succ_iff_lt_or_eq.1 hm with e | rfl
 ·exact h m e
 ·exact hk
def Found (n : Nat) (X Y : Nat → Int) (r : Int) (w : World) (e : Ending) (w' : World) : Prop :=
 ((e = .returned (.int .i64 (-1)) ∧ ∀ i, i < n → ptB (X i) (Y i) r = true) ∨ ∃ i : Nat, i < n ∧ e = .returned (.int .i64 i) ∧ ptB (X i) (Y i) r = false) ∧ Below w.heap.size w w'
set_option maxHeartbeats 400000 in
theorem index_any (b off n cap : Nat) (X Y : Nat → Int) (r : Int) (h0 : 0 ≤ r) (h1 : r ≤ 1000) (a : Addr) (w : World) (hn : n ≤ 1000) (hc : w.cell? a = some (.int .i64 r)) (ha : a.block < w.heap.size) (hp : Pts w b off n X Y) (hb : b < w.heap.size) :
  Calls Tryz.prog 135 #[.slice (some ⟨b, off, none⟩) n cap, .func (.func 104) #[] #[.pointer (some a)]] w (Found n X Y r w) := by
 go_enter Tryz.func135, Tryz.ntmps135
 go_wp2
 go_loopw [8] (fun i wr => ∃ k : Nat, k ≤ n ∧ i = .int .i64 k ∧ (∀ m, m < k → ptB (X m) (Y m) r = true) ∧ Below w.heap.size w wr) (fun i _ => n - (intOf i).toNat)
 case atStart => exact ⟨0, Nat.zero_le _, rfl, fun _ h => absurd h (Nat.not_lt_zero _), Below.refl _ _⟩
 case round =>
  obtain ⟨k, hk, rfl, hall, hbl⟩ := hrel
  by_cases hlt : k < n
  ·obtain ⟨hx, hy⟩ := hp.below hbl hb k hlt
   have hc' : wr.cell? a = some (.int .i64 r) := by rw [hbl.cell ha]; exact hc
   cases hpt : ptB (X k) (Y k) r with
   | true =>
    go_wp2_with (go_at_call 104; refine (arePoints1_any _ _ _ (by omega) (by omega) _ _ (by assumption) (by have := hbl.size; omega)).mono ?_; rintro e w' ⟨rfl, hb2⟩)
    go_roundw
    case rel => exact ⟨k + 1, by omega, by go_num, all_succ hall hpt, hbl.trans (hb2.mono hbl.size)⟩
    case measure => simp [intOf]; omega
   | false =>
    go_wp2_with (go_at_call 104; refine (arePoints1_any _ _ _ (by omega) (by omega) _ _ (by assumption) (by have := hbl.size; omega)).mono ?_; rintro e w' ⟨rfl, hb2⟩)
    go_ret
    exact ⟨.inr ⟨k, hlt, rfl, hpt⟩, hbl.trans (hb2.mono hbl.size)⟩
  ·go_wp2
   go_ret
   exact ⟨.inl ⟨rfl, fun i hi => hall i (by omega)⟩, hbl⟩
end Go.Proofs.YtjhpklolpmaopaaGreatDoor
namespace Go.Proofs.YtjhpklolpmaopaaGreatDoor
open Go.RowKit
def allB (n : Nat) (X Y : Nat → Int) (r : Int) : Bool := decide (∀ i, i < n → ptB (X i) (Y i) r = true)
theorem allB_yes {n : Nat} {X Y : Nat → Int} {r : Int} (h : ∀ i, i < n → ptB (X i) (Y i) r = true) : allB n X Y r = true := by unfold allB; exact decide_eq_true h
theorem allB_no {n i : Nat} {X Y : Nat → Int} {r : Int} (hi : i < n) (h : ptB (X i) (Y i) r = false) : allB n X Y r = false := by
 unfold allB; exact decide_eq_false fun hh => by have := hh i hi; rw [h] at this; cases this
theorem allB_iff {n : Nat} {X Y : Nat → Int} {r : Int} : allB n X Y r = true ↔ ∀ i, i < n → ptB (X i) (Y i) r = true := by unfold allB; exact decide_eq_true_iff
set_option maxHeartbeats 400000 in
theorem contains_any (b off n cap : Nat) (X Y : Nat → Int) (r : Int) (h0 : 0 ≤ r) (h1 : r ≤ 1000) (a : Addr) (w : World) (hn : n ≤ 1000) (hc : w.cell? a = some (.int .i64 r)) (ha : a.block < w.heap.size) (hp : Pts w b off n X Y) (hb : b < w.heap.size) :
  Calls Tryz.prog 103 #[.slice (some ⟨b, off, none⟩) n cap, .func (.func 104) #[] #[.pointer (some a)]] w fun e w' => e = .returned (.bool (!allB n X Y r)) ∧ Below w.heap.size w w' := by
 go_enter Tryz.func103, Tryz.ntmps103
 go_wp2_with (go_at_call 135; refine (index_any _ _ _ _ _ _ _ h0 h1 _ _ hn hc ha hp hb).mono ?_; rintro e w' ⟨⟨rfl, hall⟩ | ⟨i, hi, rfl, hf⟩, hb2⟩)
 ·go_ret
  exact ⟨ret_bool (by rw [allB_yes hall]; rfl), hb2⟩
 ·go_wp2
  go_ret
  exact ⟨ret_bool (by rw [allB_no hi hf]; rfl), hb2⟩
set_option maxHeartbeats 400000 in
theorem index_nil (a : Option Addr) (c : Nat) (v : Value) (w : World) :
  Calls Tryz.prog 135 #[.slice a 0 c, v] w fun e w' => e = .returned (.int .i64 (-1)) ∧ w' = w := by
 go_enter Tryz.func135, Tryz.ntmps135
 go_wp2
 refine wp_loop_rounds 1 ?_
 rw [rounds_succ]
 go_wp2
 go_ret
 exact ⟨rfl, rfl⟩
set_option maxHeartbeats 400000 in
theorem contains_nil (a : Option Addr) (c : Nat) (v : Value) (w : World) :
  Calls Tryz.prog 103 #[.slice a 0 c, v] w fun e w' => e = .returned (.bool false) ∧ w' = w := by
 go_enter Tryz.func103, Tryz.ntmps103
 go_wp2_with (go_at_call 135; refine (index_nil _ _ _ _).mono ?_; rintro e w' ⟨rfl, rfl⟩)
 go_ret
 exact ⟨rfl, rfl⟩
end Go.Proofs.YtjhpklolpmaopaaGreatDoor
namespace Go.Proofs.YtjhpklolpmaopaaGreatDoor
open Go.RowKit
/-- a slice of n points -/
def PSl (w : World) (v : Value) (n : Nat) (X Y : Nat → Int) : Prop := (∃ a c, v = .slice a 0 c ∧ n = 0) ∨ ∃ b off cap, v = .slice (some ⟨b, off, none⟩) n cap ∧ b < w.heap.size ∧ Pts w b off n X Y
theorem PSl.below {w w' : World} {v : Value} {n : Nat} {X Y : Nat → Int} (h : PSl w v n X Y) (hb : Below w.heap.size w w') : PSl w' v n X Y := by
 rcases h with h | ⟨b, off, cap, h1, h2, h3⟩
 ·exact .inl h
 ·exact .inr ⟨b, off, cap, h1, Nat.lt_of_lt_of_le h2 hb.size, h3.below hb h2⟩
def arB (n : Nat) (least : Int) (X Y : Nat → Int) (r : Int) : Bool := inB n least 4 && allB n X Y r
theorem arB_no {n : Nat} {least : Int} {X Y : Nat → Int} {r : Int} (h : inB n least 4 = false) : arB n least X Y r = false := by unfold arB; rw [h]; rfl
theorem arB_yes {n : Nat} {least : Int} {X Y : Nat → Int} {r : Int} (h : inB n least 4 = true) : arB n least X Y r = allB n X Y r := by unfold arB; rw [h]; rfl
set_option maxHeartbeats 400000 in
theorem are_some (b off n cap : Nat) (least : Int) (X Y : Nat → Int) (r : Int) (h0 : 0 ≤ r) (h1 : r ≤ 1000) (w : World) (hn : n ≤ 1000) (hp : Pts w b off n X Y) (hb : b < w.heap.size) :
  Calls Tryz.prog 64 #[.slice (some ⟨b, off, none⟩) n cap, .int .i64 least, .int .i64 r] w fun e w' => e = .returned (.bool (arB n least X Y r)) ∧ Below w.heap.size w w' := by
 cases hi : inB n least 4 with
 | true =>
  go_enter Tryz.func64, Tryz.ntmps64
  go_wp2_with (first | (go_at_call 49; refine (within_any _ _ _ _).mono ?_; rintro e w' ⟨rfl, rfl⟩) | (go_at_call 103; refine (contains_any _ _ _ _ X Y r h0 h1 ⟨w.heap.size, 0, none⟩ _ hn (by simp [go_sem]) (by simp) (hp.below ((Below.refl _ _).alloc (Nat.le_refl _) _) hb) (by simp; omega)).mono ?_; rintro e w' ⟨rfl, hb2⟩))
  go_ret
  exact ⟨ret_bool (arB_yes hi).symm, ((Below.refl _ _).alloc (Nat.le_refl _) _).trans (hb2.mono (by simp))⟩
 | false =>
  go_enter Tryz.func64, Tryz.ntmps64
  go_wp2_with (first | (go_at_call 49; refine (within_any _ _ _ _).mono ?_; rintro e w' ⟨rfl, rfl⟩))
  go_ret
  exact ⟨ret_bool (arB_no hi).symm, (Below.refl _ _).alloc (Nat.le_refl _) _⟩
set_option maxHeartbeats 400000 in
theorem are_nil (a : Option Addr) (c : Nat) (least : Int) (X Y : Nat → Int) (r : Int) (w : World) :
  Calls Tryz.prog 64 #[.slice a 0 c, .int .i64 least, .int .i64 r] w fun e w' => e = .returned (.bool (arB 0 least X Y r)) ∧ Below w.heap.size w w' := by
 have h0 : allB 0 X Y r = true := allB_yes fun i hi => absurd hi (Nat.not_lt_zero i)
 cases hi : inB ((0 : Nat) : Int) least 4 with
 | true =>
  have hi' : inB 0 least 4 = true := hi
  go_enter Tryz.func64, Tryz.ntmps64
  go_wp2_with (first | (go_at_call 49; refine (within_any _ _ _ _).mono ?_; rintro e w' ⟨rfl, rfl⟩) | (go_at_call 103; refine (contains_nil _ _ _ _).mono ?_; rintro e w' ⟨rfl, rfl⟩))
  go_ret
  exact ⟨ret_bool (by rw [arB_yes hi, h0]), (Below.refl _ _).alloc (Nat.le_refl _) _⟩
 | false =>
  have hi' : inB 0 least 4 = false := hi
  go_enter Tryz.func64, Tryz.ntmps64
  go_wp2_with (first | (go_at_call 49; refine (within_any _ _ _ _).mono ?_; rintro e w' ⟨rfl, rfl⟩))
  go_ret
  exact ⟨ret_bool (arB_no hi).symm, (Below.refl _ _).alloc (Nat.le_refl _) _⟩
theorem are_any (v : Value) (n : Nat) (least : Int) (X Y : Nat → Int) (r : Int) (h0 : 0 ≤ r) (h1 : r ≤ 1000) (w : World) (hn : n ≤ 1000) (hp : PSl w v n X Y) :
  Calls Tryz.prog 64 #[v, .int .i64 least, .int .i64 r] w fun e w' => e = .returned (.bool (arB n least X Y r)) ∧ Below w.heap.size w w' := by
 rcases hp with ⟨a, c, rfl, rfl⟩ | ⟨b, off, cap, rfl, hb, hp⟩
 ·exact are_nil a c least X Y r w
 ·exact are_some b off n cap least X Y r h0 h1 w hn hp hb
end Go.Proofs.YtjhpklolpmaopaaGreatDoor
namespace Go.Proofs.YtjhpklolpmaopaaGreatDoor
open Go.RowKit
/-- a point turned k quarters -/
def rot : Nat → Int × Int → Int × Int
 | 0, p => p
 | k+1, p => (-(rot k p).2, (rot k p).1)
def small (p : Int × Int) : Prop := (-80 ≤ p.1 ∧ p.1 ≤ 80) ∧ -80 ≤ p.2 ∧ p.2 ≤ 80
theorem rot_small : ∀ (k : Nat) {p : Int × Int}, small p → small (rot k p)
 | 0, _, h => h
 | k+1, p, h => by
  obtain ⟨⟨h1, h2⟩, h3, h4⟩ := rot_small k h
  simp only [rot, small]
  omega
theorem assert_plain (n : Int) (w : World) : (Instr.typeAssert (.iface 182 (.int .i64 n)) 129 183 true).run Tryz.prog w = .ok (.tuple #[.int .i64 0, .bool false]) w := by kernel_rfl
theorem assert_mirrored (n : Int) (w : World) : (Instr.typeAssert (.iface 183 (.int .i64 n)) 129 183 true).run Tryz.prog w = .ok (.tuple #[.int .i64 n, .bool true]) w := by kernel_rfl
theorem method_plain (n : Int) (w : World) : (method 395 182 (.int .i64 n) "nacre/drill.quarters").run Tryz.prog w = .ok (205, .int .i64 n) w := by kernel_rfl
theorem method_mirrored (n : Int) (w : World) : (method 395 183 (.int .i64 n) "nacre/drill.quarters").run Tryz.prog w = .ok (206, .int .i64 n) w := by kernel_rfl
theorem ret_agg {a b c d : Int} (h1 : a = c) (h2 : b = d) : Ending.returned (.agg #[.int .i64 a, .int .i64 b]) = .returned (.agg #[.int .i64 c, .int .i64 d]) := by rw [h1, h2]
set_option maxRecDepth 100000 in
set_option maxHeartbeats 400000 in
theorem turned_plain0 (x y : Int) (hx1 : -80 ≤ x) (hx2 : x ≤ 80) (hy1 : -80 ≤ y) (hy2 : y ≤ 80) (w : World) :
  Calls Tryz.prog 66 #[.agg #[.int .i64 x, .int .i64 y], .iface 182 (.int .i64 0)] w fun e w' => e = .returned (.agg #[.int .i64 (rot 0 (x, y)).1, .int .i64 (rot 0 (x, y)).2]) ∧ Below w.heap.size w w' := by
 have ha := assert_plain
 have hm := method_plain
 go_enter Tryz.func66, Tryz.ntmps66
 go_wp2_with (go_at_call 205; refine (plain_any _ _).mono ?_; rintro e w' ⟨rfl, rfl⟩)
 refine wp_loop_rounds 1 ?_
 rw [rounds_succ]
 go_wp2
 refine bodyPost_ret (v := .agg #[.int .i64 (x), .int .i64 (y)]) (by simp [results, Tryz.results66, go_sem]) rfl ⟨ret_agg (by simp [rot]) (by simp [rot]), ?_⟩
 exact ((Below.refl _ _).alloc (Nat.le_refl _) _).alloc (by simp) _
set_option maxRecDepth 100000 in
set_option maxHeartbeats 400000 in
theorem turned_plain1 (x y : Int) (hx1 : -80 ≤ x) (hx2 : x ≤ 80) (hy1 : -80 ≤ y) (hy2 : y ≤ 80) (w : World) :
  Calls Tryz.prog 66 #[.agg #[.int .i64 x, .int .i64 y], .iface 182 (.int .i64 1)] w fun e w' => e = .returned (.agg #[.int .i64 (rot 1 (x, y)).1, .int .i64 (rot 1 (x, y)).2]) ∧ Below w.heap.size w w' := by
 have ha := assert_plain
 have hm := method_plain
 go_enter Tryz.func66, Tryz.ntmps66
 go_wp2_with (go_at_call 205; refine (plain_any _ _).mono ?_; rintro e w' ⟨rfl, rfl⟩)
 refine wp_loop_rounds 2 ?_
 rw [rounds_succ]
 go_wp2
 rw [rounds_succ]
 go_wp2
 refine bodyPost_ret (v := .agg #[.int .i64 (-y), .int .i64 (x)]) (by simp [results, Tryz.results66, go_sem]) rfl ⟨ret_agg (by simp [rot]) (by simp [rot]), ?_⟩
 exact ((Below.refl _ _).alloc (Nat.le_refl _) _).alloc (by simp) _
set_option maxRecDepth 100000 in
set_option maxHeartbeats 400000 in
theorem turned_plain2 (x y : Int) (hx1 : -80 ≤ x) (hx2 : x ≤ 80) (hy1 : -80 ≤ y) (hy2 : y ≤ 80) (w : World) :
  Calls Tryz.prog 66 #[.agg #[.int .i64 x, .int .i64 y], .iface 182 (.int .i64 2)] w fun e w' => e = .returned (.agg #[.int .i64 (rot 2 (x, y)).1, .int .i64 (rot 2 (x, y)).2]) ∧ Below w.heap.size w w' := by
 have ha := assert_plain
 have hm := method_plain
 go_enter Tryz.func66, Tryz.ntmps66
 go_wp2_with (go_at_call 205; refine (plain_any _ _).mono ?_; rintro e w' ⟨rfl, rfl⟩)
 refine wp_loop_rounds 3 ?_
 rw [rounds_succ]
 go_wp2
 rw [rounds_succ]
 go_wp2
 rw [rounds_succ]
 go_wp2
 refine bodyPost_ret (v := .agg #[.int .i64 (-x), .int .i64 (-y)]) (by simp [results, Tryz.results66, go_sem]) rfl ⟨ret_agg (by simp [rot]) (by simp [rot]), ?_⟩
 exact ((Below.refl _ _).alloc (Nat.le_refl _) _).alloc (by simp) _
set_option maxRecDepth 100000 in
set_option maxHeartbeats 400000 in
theorem turned_plain3 (x y : Int) (hx1 : -80 ≤ x) (hx2 : x ≤ 80) (hy1 : -80 ≤ y) (hy2 : y ≤ 80) (w : World) :
  Calls Tryz.prog 66 #[.agg #[.int .i64 x, .int .i64 y], .iface 182 (.int .i64 3)] w fun e w' => e = .returned (.agg #[.int .i64 (rot 3 (x, y)).1, .int .i64 (rot 3 (x, y)).2]) ∧ Below w.heap.size w w' := by
 have ha := assert_plain
 have hm := method_plain
 go_enter Tryz.func66, Tryz.ntmps66
 go_wp2_with (go_at_call 205; refine (plain_any _ _).mono ?_; rintro e w' ⟨rfl, rfl⟩)
 refine wp_loop_rounds 4 ?_
 rw [rounds_succ]
 go_wp2
 rw [rounds_succ]
 go_wp2
 rw [rounds_succ]
 go_wp2
 rw [rounds_succ]
 go_wp2
 refine bodyPost_ret (v := .agg #[.int .i64 (y), .int .i64 (-x)]) (by simp [results, Tryz.results66, go_sem]) rfl ⟨ret_agg (by simp [rot]) (by simp [rot]), ?_⟩
 exact ((Below.refl _ _).alloc (Nat.le_refl _) _).alloc (by simp) _
set_option maxRecDepth 100000 in
set_option maxHeartbeats 400000 in
theorem turned_mirrored0 (x y : Int) (hx1 : -80 ≤ x) (hx2 : x ≤ 80) (hy1 : -80 ≤ y) (hy2 : y ≤ 80) (w : World) :
  Calls Tryz.prog 66 #[.agg #[.int .i64 x, .int .i64 y], .iface 183 (.int .i64 0)] w fun e w' => e = .returned (.agg #[.int .i64 (rot 0 (-x, y)).1, .int .i64 (rot 0 (-x, y)).2]) ∧ Below w.heap.size w w' := by
 have ha := assert_mirrored
 have hm := method_mirrored
 go_enter Tryz.func66, Tryz.ntmps66
 go_wp2_with (go_at_call 206; refine (mirrored_any _ _).mono ?_; rintro e w' ⟨rfl, rfl⟩)
 refine wp_loop_rounds 1 ?_
 rw [rounds_succ]
 go_wp2
 refine bodyPost_ret (v := .agg #[.int .i64 (-x), .int .i64 (y)]) (by simp [results, Tryz.results66, go_sem]) rfl ⟨ret_agg (by simp [rot]) (by simp [rot]), ?_⟩
 exact ((Below.refl _ _).alloc (Nat.le_refl _) _).alloc (by simp) _
set_option maxRecDepth 100000 in
set_option maxHeartbeats 400000 in
theorem turned_mirrored1 (x y : Int) (hx1 : -80 ≤ x) (hx2 : x ≤ 80) (hy1 : -80 ≤ y) (hy2 : y ≤ 80) (w : World) :
  Calls Tryz.prog 66 #[.agg #[.int .i64 x, .int .i64 y], .iface 183 (.int .i64 1)] w fun e w' => e = .returned (.agg #[.int .i64 (rot 1 (-x, y)).1, .int .i64 (rot 1 (-x, y)).2]) ∧ Below w.heap.size w w' := by
 have ha := assert_mirrored
 have hm := method_mirrored
 go_enter Tryz.func66, Tryz.ntmps66
 go_wp2_with (go_at_call 206; refine (mirrored_any _ _).mono ?_; rintro e w' ⟨rfl, rfl⟩)
 refine wp_loop_rounds 2 ?_
 rw [rounds_succ]
 go_wp2
 rw [rounds_succ]
 go_wp2
 refine bodyPost_ret (v := .agg #[.int .i64 (-y), .int .i64 (-x)]) (by simp [results, Tryz.results66, go_sem]) rfl ⟨ret_agg (by simp [rot]) (by simp [rot]), ?_⟩
 exact ((Below.refl _ _).alloc (Nat.le_refl _) _).alloc (by simp) _
set_option maxRecDepth 100000 in
set_option maxHeartbeats 400000 in
theorem turned_mirrored2 (x y : Int) (hx1 : -80 ≤ x) (hx2 : x ≤ 80) (hy1 : -80 ≤ y) (hy2 : y ≤ 80) (w : World) :
  Calls Tryz.prog 66 #[.agg #[.int .i64 x, .int .i64 y], .iface 183 (.int .i64 2)] w fun e w' => e = .returned (.agg #[.int .i64 (rot 2 (-x, y)).1, .int .i64 (rot 2 (-x, y)).2]) ∧ Below w.heap.size w w' := by
 have ha := assert_mirrored
 have hm := method_mirrored
 go_enter Tryz.func66, Tryz.ntmps66
 go_wp2_with (go_at_call 206; refine (mirrored_any _ _).mono ?_; rintro e w' ⟨rfl, rfl⟩)
 refine wp_loop_rounds 3 ?_
 rw [rounds_succ]
 go_wp2
 rw [rounds_succ]
 go_wp2
 rw [rounds_succ]
 go_wp2
 refine bodyPost_ret (v := .agg #[.int .i64 (x), .int .i64 (-y)]) (by simp [results, Tryz.results66, go_sem]) rfl ⟨ret_agg (by simp [rot]) (by simp [rot]), ?_⟩
 exact ((Below.refl _ _).alloc (Nat.le_refl _) _).alloc (by simp) _
set_option maxRecDepth 100000 in
set_option maxHeartbeats 400000 in
theorem turned_mirrored3 (x y : Int) (hx1 : -80 ≤ x) (hx2 : x ≤ 80) (hy1 : -80 ≤ y) (hy2 : y ≤ 80) (w : World) :
  Calls Tryz.prog 66 #[.agg #[.int .i64 x, .int .i64 y], .iface 183 (.int .i64 3)] w fun e w' => e = .returned (.agg #[.int .i64 (rot 3 (-x, y)).1, .int .i64 (rot 3 (-x, y)).2]) ∧ Below w.heap.size w w' := by
 have ha := assert_mirrored
 have hm := method_mirrored
 go_enter Tryz.func66, Tryz.ntmps66
 go_wp2_with (go_at_call 206; refine (mirrored_any _ _).mono ?_; rintro e w' ⟨rfl, rfl⟩)
 refine wp_loop_rounds 4 ?_
 rw [rounds_succ]
 go_wp2
 rw [rounds_succ]
 go_wp2
 rw [rounds_succ]
 go_wp2
 rw [rounds_succ]
 go_wp2
 refine bodyPost_ret (v := .agg #[.int .i64 (y), .int .i64 (x)]) (by simp [results, Tryz.results66, go_sem]) rfl ⟨ret_agg (by simp [rot]) (by simp [rot]), ?_⟩
 exact ((Below.refl _ _).alloc (Nat.le_refl _) _).alloc (by simp) _
end Go.Proofs.YtjhpklolpmaopaaGreatDoor
