/- A part of the proof: see the last file. -/
import Derived.Test.YtlhgkepdoinlnaaGreatDoorPaq
set_option linter.unusedVariables false
set_option linter.unusedSimpArgs false
set_option linter.unusedSectionVars false
namespace Go.Can
open Go
variable [Glob]
set_option linter.unusedSectionVars false

theorem At.cons_iff {L : List St} {s t : St} {i : Nat} : At (s :: L) i t ↔ (i = L.length ∧ t = s) ∨ At L i t := by
 constructor
 ·rintro ⟨L2, L1, h, rfl⟩
  cases L2 with
  | nil => simp at h; exact .inl ⟨by rw [h.2], h.1.symm⟩
  | cons x L2 => simp at h; exact .inr ⟨L2, L1, h.2, rfl⟩
 ·rintro (⟨rfl, rfl⟩ | ⟨L2, L1, rfl, rfl⟩)
  ·exact ⟨[], L, rfl, rfl⟩
  ·exact ⟨s :: L2, L1, rfl, rfl⟩
theorem At.mem {L : List St} {i : Nat} {t : St} (h : At L i t) : t ∈ L := by obtain ⟨L2, L1, rfl, _⟩ := h; simp
/-- Chain, as it grows -/
structure Links (P : Program) (ops : Array Oper) (base : CW) (tm0 : T Value) (nt : Nat) (bef : Nat → Nat → Bool) (L : List St) : Prop where
 op : ∀ i s, At L i s → ops[i]? = some s.o
 want : ∀ i s, At L i s → s.wanted = wantedB ops.toList s.o s.tm
 tmr1 : ∀ i s, At L i s → s.wanted = true → ∀ t, Operand.tmp t ∈ s.o.op.operands → undefd (s.tmr.get t) = undefd (s.tm.get t)
 tmr2 : ∀ i s, At L i s → s.wanted = true → ∀ t, Operand.tmp t ∉ s.o.op.operands → undefd (s.tmr.get t) = undef
 run : ∀ i s, At L i s → s.wanted = true → Jop P s.o s.tmr s.pre s.v s.post
 idle : ∀ i s, At L i s → s.wanted = false → s.v = undef ∧ s.post = s.pre ∧ ∀ b, s.pre.get b = none
 nx : ∀ i s, At L i s → base.next ≤ s.pre.next
 lim : ∀ i s, At L i s → base.next ≤ s.lim ∧ s.lim ≤ s.pre.next
 live : ∀ i s, At L i s → (∀ j t, At L j t → j < i → bef i j = true → DK t) → ∀ b, (s.pre.get b).isSome = true → b < s.pre.next
 order : ∀ L2 s L1, L = L2 ++ s :: L1 → ∀ t ∈ L1, t.post.next ≤ s.pre.next
 frag : ∀ L2 s L1, L = L2 ++ s :: L1 → ∀ S : Nat → Bool, (∀ j, bef L1.length j = true → S j = true) → (∀ j t, At L1 j t → bef L1.length j = true → DK t) → ∀ b o, s.pre.get b = some o → CS base S L1 b = some o
 apt : ∀ i s j t, At L i s → At L j t → i < j → (∀ k u, At L k u → k < j → bef i k = true ∨ bef j k = true → DK u) → ∀ b, s.has b → t.tch base.next b → bef j i = true
 tms : ∀ L2 s L1, L = L2 ++ s :: L1 → ∀ t, undefd (s.tm.get t) = CV tm0 (fun _ => true) L1 t
 pairs : ∀ i s j t, At L i s → At L j t → i < j → bef j i = true ∨ s.o.apart ops t.o = true
 dst : ∀ i s, At L i s → ∀ d, s.o.dst = some d → d < nt
 full : ∀ i s, At L i s → s.full = false → s.lim ≤ s.post.low

section
variable {P : Program} {ops : Array Oper} {base : CW} {tm0 : T Value} {nt : Nat} {bef : Nat → Nat → Bool} {L : List St}

theorem Links.nil : Links P ops base tm0 nt bef [] := by
 have no : ∀ {i s}, ¬ At ([] : List St) i s := fun ⟨L2, L1, h, _⟩ => by simp at h
 have no2 : ∀ {L2 s L1}, ¬ ([] : List St) = L2 ++ s :: L1 := fun h => by simp at h
 exact ⟨fun _ _ h => (no h).elim, fun _ _ h => (no h).elim, fun _ _ h => (no h).elim, fun _ _ h => (no h).elim, fun _ _ h => (no h).elim, fun _ _ h => (no h).elim, fun _ _ h => (no h).elim, fun _ _ h => (no h).elim,
  fun _ _ h => (no h).elim, fun _ _ _ h => (no2 h).elim, fun _ _ _ h => (no2 h).elim, fun _ _ _ _ h => (no h).elim, fun _ _ _ h => (no2 h).elim, fun _ _ _ _ h => (no h).elim, fun _ _ h => (no h).elim, fun _ _ h => (no h).elim⟩

theorem Links.cons (h : Links P ops base tm0 nt bef L) {s : St} (hop : ops[L.length]? = some s.o) (hwant : s.wanted = wantedB ops.toList s.o s.tm)
  (h1 : s.wanted = true → ∀ t, Operand.tmp t ∈ s.o.op.operands → undefd (s.tmr.get t) = undefd (s.tm.get t)) (h2 : s.wanted = true → ∀ t, Operand.tmp t ∉ s.o.op.operands → undefd (s.tmr.get t) = undef)
  (hrun : s.wanted = true → Jop P s.o s.tmr s.pre s.v s.post) (hidle : s.wanted = false → s.v = undef ∧ s.post = s.pre ∧ ∀ b, s.pre.get b = none) (hnx : base.next ≤ s.lim) (hlim : s.lim ≤ s.pre.next)
  (hlive : (∀ j t, At L j t → bef L.length j = true → DK t) → ∀ b, (s.pre.get b).isSome = true → b < s.pre.next) (hord : ∀ t ∈ L, t.post.next ≤ s.pre.next)
  (hfrag : ∀ S : Nat → Bool, (∀ j, bef L.length j = true → S j = true) → (∀ j t, At L j t → bef L.length j = true → DK t) → ∀ b o, s.pre.get b = some o → CS base S L b = some o)
  (hapt : ∀ i t, At L i t → (∀ j u, At L j u → bef i j = true ∨ bef L.length j = true → DK u) → ∀ b, t.has b → s.tch base.next b → bef L.length i = true) (htms : ∀ t, undefd (s.tm.get t) = CV tm0 (fun _ => true) L t)
  (hpairs : ∀ i t, At L i t → bef L.length i = true ∨ t.o.apart ops s.o = true) (hdst : ∀ d, s.o.dst = some d → d < nt) (hfull : s.full = false → s.lim ≤ s.post.low) :
  Links P ops base tm0 nt bef (s :: L) := by
 have split : ∀ {L2 t L1}, s :: L = L2 ++ t :: L1 → (t = s ∧ L1 = L) ∨ ∃ L2', L = L2' ++ t :: L1 := fun {L2 t L1} e => by
  cases L2 with
  | nil => simp at e; exact .inl ⟨e.1.symm, e.2.symm⟩
  | cons x L2 => simp at e; exact .inr ⟨L2, e.2⟩
 refine ⟨?_, ?_, ?_, ?_, ?_, ?_, ?_, ?_, ?_, ?_, ?_, ?_, ?_, ?_, ?_, ?_⟩
 ·intro i t ha; rcases At.cons_iff.1 ha with ⟨rfl, rfl⟩ | ha <;> first | exact hop | exact h.op i t ha
 ·intro i t ha; rcases At.cons_iff.1 ha with ⟨rfl, rfl⟩ | ha <;> first | exact hwant | exact h.want i t ha
 ·intro i t ha; rcases At.cons_iff.1 ha with ⟨rfl, rfl⟩ | ha <;> first | exact h1 | exact h.tmr1 i t ha
 ·intro i t ha; rcases At.cons_iff.1 ha with ⟨rfl, rfl⟩ | ha <;> first | exact h2 | exact h.tmr2 i t ha
 ·intro i t ha; rcases At.cons_iff.1 ha with ⟨rfl, rfl⟩ | ha <;> first | exact hrun | exact h.run i t ha
 ·intro i t ha; rcases At.cons_iff.1 ha with ⟨rfl, rfl⟩ | ha <;> first | exact hidle | exact h.idle i t ha
 ·intro i t ha; rcases At.cons_iff.1 ha with ⟨rfl, rfl⟩ | ha <;> first | exact Nat.le_trans hnx hlim | exact h.nx i t ha
 ·intro i t ha; rcases At.cons_iff.1 ha with ⟨rfl, rfl⟩ | ha <;> first | exact ⟨hnx, hlim⟩ | exact h.lim i t ha
 ·intro i t ha hd
  rcases At.cons_iff.1 ha with ⟨rfl, rfl⟩ | ha
  ·exact hlive fun j u hu hb => hd j u (At.cons_iff.2 (.inr hu)) hu.get hb
  ·exact h.live i t ha fun j u hu hj hb => hd j u (At.cons_iff.2 (.inr hu)) hj hb
 ·intro L2 t L1 e
  rcases split e with ⟨rfl, rfl⟩ | ⟨L2', e⟩ <;> first | exact hord | exact h.order L2' t L1 e
 ·intro L2 t L1 e
  rcases split e with ⟨rfl, rfl⟩ | ⟨L2', e⟩ <;> first | exact hfrag | exact h.frag L2' t L1 e
 ·intro i t j u ha hu hij hd
  rcases At.cons_iff.1 hu with ⟨e1, e2⟩ | hu'
  ·rcases At.cons_iff.1 ha with ⟨e3, e4⟩ | ha'
   ·omega
   ·subst e1; subst e2; exact hapt i t ha' fun k v hv hb => hd k v (At.cons_iff.2 (.inr hv)) hv.get hb
  ·rcases At.cons_iff.1 ha with ⟨e3, e4⟩ | ha'
   ·have := hu'.get; omega
   ·exact h.apt i t j u ha' hu' hij fun k v hv hk hb => hd k v (At.cons_iff.2 (.inr hv)) hk hb
 ·intro L2 t L1 e
  rcases split e with ⟨rfl, rfl⟩ | ⟨L2', e⟩ <;> first | exact htms | exact h.tms L2' t L1 e
 ·intro i t j u ha hu hij
  rcases At.cons_iff.1 hu with ⟨e1, e2⟩ | hu'
  ·rcases At.cons_iff.1 ha with ⟨e3, e4⟩ | ha'
   ·omega
   ·subst e1; subst e2; exact hpairs i t ha'
  ·rcases At.cons_iff.1 ha with ⟨e3, e4⟩ | ha'
   ·have := hu'.get; omega
   ·exact h.pairs i t j u ha' hu' hij
 ·intro i t ha; rcases At.cons_iff.1 ha with ⟨rfl, rfl⟩ | ha <;> first | exact hdst | exact h.dst i t ha
 ·intro i t ha; rcases At.cons_iff.1 ha with ⟨rfl, rfl⟩ | ha <;> first | exact hfull | exact h.full i t ha
end
end Go.Can
namespace Go.Can
open Go
variable [Glob]
set_option linter.unusedSectionVars false

/-! ### What the plan of a region says -/
def befM (M : Nat) (i j : Nat) : Bool := Nat.testBit (maskAt M i) j

theorem maskOf_bit {M i : Nat} : ∀ {l : List Edge} {m j : Nat}, Nat.testBit (maskOf M i l m) j = true →
  Nat.testBit m j = true ∨ ∃ e ∈ l, Region.binds .any e = true ∧ e.on < i ∧ (j = e.on ∨ befM M e.on j = true)
 | [], m, j, h => .inl h
 | e :: l, m, j, h => by
  simp only [maskOf] at h
  split at h
  ·next hb =>
   simp only [Bool.and_eq_true] at hb
   have hlt : e.on < i := Nat.le_of_ble_eq_true hb.2
   rcases maskOf_bit h with h1 | ⟨e', he', h2⟩
   ·have h1' : Nat.testBit (m ||| (2 ^ e.on ||| maskAt M e.on)) j = true := h1
    rw [Nat.testBit_or, Nat.testBit_or, Bool.or_eq_true, Bool.or_eq_true] at h1'
    rcases h1' with h3 | h3 | h3
    ·exact .inl h3
    ·refine .inr ⟨e, by simp, hb.1, hlt, .inl ?_⟩
     rw [Nat.testBit_two_pow] at h3
     simpa using (by simpa using h3 : e.on = j).symm
    ·exact .inr ⟨e, by simp, hb.1, hlt, .inr h3⟩
   ·exact .inr ⟨e', by simp [he'], h2⟩
  ·rcases maskOf_bit h with h1 | ⟨e', he', h2⟩
   ·exact .inl h1
   ·exact .inr ⟨e', by simp [he'], h2⟩

theorem backB_ok {i : Nat} : ∀ {l : List Edge}, backB i l = true → ∀ e ∈ l, Region.binds .any e = true → e.on < i
 | [], _, e, he, _ => by cases he
 | x :: l, h, e, he, hb => by
  simp only [backB] at h
  split at h
  ·cases h
  ·next hn =>
   rcases List.mem_cons.1 he with rfl | he
   ·rw [hb, Bool.true_and] at hn
    have := Nat.not_le_of_not_ble_eq_true (by rw [hn]; simp)
    omega
   ·exact backB_ok h e he hb

theorem infoOk_ok {M : Nat} : ∀ {l : List Oper} {k : Nat}, infoOk M k l = true → ∀ i o, l[i]? = some o → maskAt M (k + i) = maskOf M (k + i) o.after.toList 0 ∧ backB (k + i) o.after.toList = true
 | [], k, _, i, o, ho => by simp at ho
 | x :: l, k, h, i, o, ho => by
  simp only [infoOk] at h
  split at h
  ·next hx =>
   simp only [Bool.and_eq_true] at hx
   cases i with
   | zero => simp at ho; subst ho; exact ⟨Nat.eq_of_beq_eq_true hx.1, hx.2⟩
   | succ i =>
    have := infoOk_ok h i o (by simpa using ho)
    rwa [show k + 1 + i = k + (i + 1) from by omega] at this
  ·cases h
theorem pairB_ok {ops : Array Oper} {M i : Nat} {x : Oper} : ∀ {l : List Oper} {k : Nat}, pairB ops M i x k l = true → ∀ j y, l[j]? = some y → befM M (k + j) i = true ∨ x.apart ops y = true
 | [], k, _, j, y, hy => by simp at hy
 | z :: l, k, h, j, y, hy => by
  simp only [pairB] at h
  split at h
  ·next hz =>
   simp only [Bool.or_eq_true] at hz
   cases j with
   | zero => simp at hy; subst hy; exact hz
   | succ j =>
    have := pairB_ok h j y (by simpa using hy)
    rwa [show k + 1 + j = k + (j + 1) from by omega] at this
  ·cases h
theorem pairsB_ok {ops : Array Oper} {M : Nat} : ∀ {l : List Oper} {k : Nat}, pairsB ops M k l = true → ∀ i j x y, i < j → l[i]? = some x → l[j]? = some y → befM M (k + j) (k + i) = true ∨ x.apart ops y = true
 | [], k, _, i, j, x, y, _, hx, _ => by simp at hx
 | z :: l, k, h, i, j, x, y, hij, hx, hy => by
  simp only [pairsB] at h
  split at h
  ·next hz =>
   cases j with
   | zero => omega
   | succ j =>
    cases i with
    | zero =>
     simp at hx; subst hx
     have := pairB_ok hz j y (by simpa using hy)
     rwa [show k + 1 + j = k + (j + 1) from by omega] at this
    | succ i =>
     have := pairsB_ok h i j x y (by omega) (by simpa using hx) (by simpa using hy)
     rwa [show k + 1 + j = k + (j + 1) from by omega, show k + 1 + i = k + (i + 1) from by omega] at this
  ·cases h

structure Plan (ops : Array Oper) (M : Nat) : Prop where
 mask : ∀ i o, ops[i]? = some o → maskAt M i = maskOf M i o.after.toList 0
 back : ∀ i o, ops[i]? = some o → ∀ e ∈ o.after, Region.binds .any e = true → e.on < i
 pairs : ∀ i j x y, i < j → ops[i]? = some x → ops[j]? = some y → befM M j i = true ∨ x.apart ops y = true
 noSelect : Region.noSelect ops = true
theorem planB_ok {ops : Array Oper} {M : Nat} (h : planB ops M = true) : Plan ops M := by
 simp only [planB, Bool.and_eq_true] at h
 obtain ⟨⟨h1, h2⟩, h3⟩ := h
 refine ⟨fun i o ho => ?_, fun i o ho e he hb => ?_, fun i j x y hij hx hy => ?_, h3⟩
 ·have := (infoOk_ok h1 i o (by simpa using ho)).1
  rwa [Nat.zero_add] at this
 ·have := (infoOk_ok h1 i o (by simpa using ho)).2
  rw [Nat.zero_add] at this
  exact backB_ok this e (by simpa using he) hb
 ·have := pairsB_ok h2 i j x y hij (by simpa using hx) (by simpa using hy)
  rwa [Nat.zero_add, Nat.zero_add] at this
theorem Plan.closed {ops : Array Oper} {M : Nat} (h : Plan ops M) (listed : Array Bool) (hcl : ∀ i o, ops[i]? = some o → listed.getD i false = true → ∀ e ∈ o.after, Region.binds .any e = true → listed.getD e.on false = true) :
  ∀ i, i ∈ Region.ready .any ops listed → ∀ j, befM M i j = true → listed.getD j false = true := by
 have main : ∀ i o, ops[i]? = some o → (∀ e ∈ o.after, Region.binds .any e = true → listed.getD e.on false = true) → ∀ j, befM M i j = true → listed.getD j false = true := by
  intro i
  induction i using Nat.strongRecOn with
  | _ i ih =>
   intro o ho hd j hj
   unfold befM at hj
   rw [h.mask i o ho] at hj
   rcases maskOf_bit hj with h1 | ⟨e, he, hb, hlt, hje⟩
   ·simp at h1
   ·have he' : e ∈ o.after := by simpa using he
    have hl := hd e he' hb
    rcases hje with rfl | hje
    ·exact hl
    ·have hi := (Array.getElem?_eq_some_iff.1 ho).1
     obtain ⟨o', ho'⟩ : ∃ o', ops[e.on]? = some o' := ⟨ops[e.on], by simp [show e.on < ops.size by omega]⟩
     exact ih e.on hlt o' ho' (hcl e.on o' ho' hl) j hje
 intro i hi
 obtain ⟨_, o, ho, hd⟩ := mem_ready.1 hi
 exact main i o ho hd
end Go.Can
namespace Go.Can
open Go
variable [Glob]
set_option linter.unusedSectionVars false

theorem givenB_ok {m : Nat} {x : Fr} (h : givenB m x = true) {j : Nat} (hj : Nat.testBit x.by_ j = true) : Nat.testBit m j = true := by
 unfold givenB at h
 have e : x.by_ &&& m = x.by_ := Nat.eq_of_beq_eq_true h
 rw [← e, Nat.testBit_and, Bool.and_eq_true] at hj
 exact hj.2
theorem lor_bit {a i j : Nat} : Nat.testBit (Nat.lor a (Nat.pow 2 i)) j = true ↔ Nat.testBit a j = true ∨ j = i := by
 have : Nat.testBit (a ||| 2 ^ i) j = (Nat.testBit a j || decide (i = j)) := by rw [Nat.testBit_or, Nat.testBit_two_pow]
 show Nat.testBit (a ||| 2 ^ i) j = true ↔ _
 rw [this, Bool.or_eq_true, decide_eq_true_eq]
 exact ⟨fun h => h.imp id Eq.symm, fun h => h.imp id Eq.symm⟩
theorem pow_bit {i j : Nat} : Nat.testBit (Nat.pow 2 i) j = true ↔ j = i := by
 show Nat.testBit (2 ^ i) j = true ↔ _
 rw [Nat.testBit_two_pow, decide_eq_true_eq]
 exact ⟨Eq.symm, Eq.symm⟩

theorem giveK_ok {m : Nat} : ∀ {l : List Fr} {h : T CObj} {k : T CObj → Bool}, giveK m l h k = true →
  ∃ h', k h' = true ∧ (∀ b o, h'.get b = some o → (∃ x ∈ l, givenB m x = true ∧ x.blk = b ∧ x.obj = o) ∨ h.get b = some o) ∧ (∀ x ∈ l, givenB m x = true → (h'.get x.blk).isSome = true) ∧ ∀ b, (h.get b).isSome = true → (h'.get b).isSome = true
 | [], h, k, e => ⟨h, e, fun b o e => .inr e, fun x hx => (by cases hx), fun b hb => hb⟩
 | x :: l, h, k, e => by
  simp only [giveK] at e
  split at e
  ·next hg =>
   obtain ⟨h1, e1, e2⟩ := T.put_ok e
   obtain ⟨h', g1, g2, g3, g4⟩ := giveK_ok e1
   refine ⟨h', g1, fun b o hb => ?_, fun y hy hyg => ?_, fun b hb => g4 b ?_⟩
   ·rcases g2 b o hb with ⟨y, hy, h2⟩ | h2
    ·exact .inl ⟨y, by simp [hy], h2⟩
    ·rw [e2] at h2
     by_cases hbx : b = x.blk
     ·rw [if_pos hbx] at h2; cases h2; exact .inl ⟨x, by simp, hg, hbx.symm, rfl⟩
     ·rw [if_neg hbx] at h2; exact .inr h2
   ·rcases List.mem_cons.1 hy with rfl | hy
    ·exact g4 _ (by rw [e2, if_pos rfl]; rfl)
    ·exact g3 y hy hyg
   ·rw [e2]; by_cases hbx : b = x.blk
    ·rw [if_pos hbx]; rfl
    ·rw [if_neg hbx]; exact hb
  ·next hg =>
   obtain ⟨h', g1, g2, g3, g4⟩ := giveK_ok e
   refine ⟨h', g1, fun b o hb => ?_, fun y hy hyg => ?_, g4⟩
   ·rcases g2 b o hb with ⟨y, hy, h2⟩ | h2
    ·exact .inl ⟨y, by simp [hy], h2⟩
    ·exact .inr h2
   ·rcases List.mem_cons.1 hy with rfl | hy
    ·rw [hg] at hyg; cases hyg
    ·exact g3 y hy hyg
theorem mergeK_ok : ∀ {l : List Fr} {h : T CObj} {k : T CObj → Bool}, mergeK l h k = true →
  ∃ h', k h' = true ∧ (∀ b o, h'.get b = some o → (∃ x ∈ l, x.blk = b ∧ x.obj = o) ∨ h.get b = some o) ∧ ∀ b, (∀ x ∈ l, x.blk ≠ b) → h'.get b = h.get b
 | [], h, k, e => ⟨h, e, fun b o e => .inr e, fun b _ => rfl⟩
 | x :: l, h, k, e => by
  simp only [mergeK] at e
  obtain ⟨h1, e1, e2⟩ := T.put_ok e
  obtain ⟨h', g1, g2, g3⟩ := mergeK_ok e1
  refine ⟨h', g1, fun b o hb => ?_, fun b hb => ?_⟩
  ·rcases g2 b o hb with ⟨y, hy, h2⟩ | h2
   ·exact .inl ⟨y, by simp [hy], h2⟩
   ·rw [e2] at h2
    by_cases hbx : b = x.blk
    ·rw [if_pos hbx] at h2; cases h2; exact .inl ⟨x, by simp, hbx.symm, rfl⟩
    ·rw [if_neg hbx] at h2; exact .inr h2
  ·rw [g3 b fun y hy => hb y (by simp [hy]), e2, if_neg (fun e => hb x (by simp) e.symm)]
/-- the list afterwards: each old entry, given or not; in any order -/
theorem frOld_ok {m i : Nat} {hg h : T CObj} : ∀ {l acc : List Fr} {k : List Fr → Bool}, frOld m i hg h l acc k = true →
  ∃ l', k l' = true ∧ ∀ y ∈ l', y ∈ acc ∨ ∃ x ∈ l, y.blk = x.blk ∧ ((givenB m x = false ∧ y = x ∧ hg.get x.blk = none) ∨ (givenB m x = true ∧ h.get x.blk = some y.obj ∧ y.by_ = Nat.lor x.by_ (Nat.pow 2 i)))
 | [], acc, k, e => ⟨acc, e, fun y hy => .inl hy⟩
 | x :: l, acc, k, e => by
  simp only [frOld] at e
  split at e
  ·next hg =>
   split at e
   ·next o ho =>
    rw [natK_eq] at e
    obtain ⟨l', g1, g2⟩ := frOld_ok e
    refine ⟨l', g1, fun y hy => ?_⟩
    rcases g2 y hy with h1 | ⟨z, hz, h1⟩
    ·rcases List.mem_cons.1 h1 with rfl | h1
     ·exact .inr ⟨x, by simp, rfl, .inr ⟨hg, ho, rfl⟩⟩
     ·exact .inl h1
    ·exact .inr ⟨z, by simp [hz], h1⟩
   ·obtain ⟨l', g1, g2⟩ := frOld_ok e
    refine ⟨l', g1, fun y hy => ?_⟩
    rcases g2 y hy with h1 | ⟨z, hz, h1⟩
    ·exact .inl h1
    ·exact .inr ⟨z, by simp [hz], h1⟩
  ·next hgv =>
   split at e
   ·cases e
   ·next hn =>
    obtain ⟨l', g1, g2⟩ := frOld_ok e
    refine ⟨l', g1, fun y hy => ?_⟩
    rcases g2 y hy with h1 | ⟨z, hz, h1⟩
    ·rcases List.mem_cons.1 h1 with rfl | h1
     ·exact .inr ⟨y, by simp, rfl, .inl ⟨hgv, rfl, hn⟩⟩
     ·exact .inl h1
    ·exact .inr ⟨z, by simp [hz], h1⟩
theorem frNew_ok {p : Nat} {h : T CObj} : ∀ {n b : Nat} {acc : List Fr} {k : List Fr → Bool}, frNew p h n b acc k = true →
  ∃ l', k l' = true ∧ ∀ y ∈ l', y ∈ acc ∨ (b ≤ y.blk ∧ y.blk < b + n ∧ h.get y.blk = some y.obj ∧ y.by_ = p)
 | 0, b, acc, k, e => ⟨acc, e, fun y hy => .inl hy⟩
 | n+1, b, acc, k, e => by
  simp only [frNew] at e
  split at e
  ·next o ho =>
   rw [natK_eq] at e
   obtain ⟨l', g1, g2⟩ := frNew_ok e
   refine ⟨l', g1, fun y hy => ?_⟩
   rcases g2 y hy with h1 | ⟨h1, h2, h3⟩
   ·rcases List.mem_cons.1 h1 with rfl | h1
    ·exact .inr ⟨Nat.le_refl _, by dsimp only; omega, ho, rfl⟩
    ·exact .inl h1
   ·exact .inr ⟨by omega, by omega, h3⟩
  ·rw [natK_eq] at e
   obtain ⟨l', g1, g2⟩ := frNew_ok e
   refine ⟨l', g1, fun y hy => ?_⟩
   rcases g2 y hy with h1 | ⟨h1, h2, h3⟩
   ·exact .inl h1
   ·exact .inr ⟨by omega, by omega, h3⟩
theorem restrK_ok {tm : T Value} : ∀ {l : List Operand} {acc : T Value} {k : T Value → Bool}, restrK tm l acc k = true →
  ∃ tm', k tm' = true ∧ (∀ t, Operand.tmp t ∈ l → undefd (tm'.get t) = undefd (tm.get t)) ∧ ∀ t, Operand.tmp t ∉ l → tm'.get t = acc.get t
 | [], acc, k, e => ⟨acc, e, fun t ht => (by cases ht), fun t _ => rfl⟩
 | .tmp t :: l, acc, k, e => by
  simp only [restrK] at e
  obtain ⟨a1, e1, e2⟩ := T.put_ok e
  obtain ⟨tm', g1, g2, g3⟩ := restrK_ok e1
  refine ⟨tm', g1, fun u hu => ?_, fun u hu => ?_⟩
  ·by_cases hl : Operand.tmp u ∈ l
   ·exact g2 u hl
   ·have : u = t := by
     rcases List.mem_cons.1 hu with h | h
     ·cases h; rfl
     ·exact absurd h hl
    subst this
    rw [g3 u hl, e2, if_pos rfl]; rfl
  ·rw [g3 u (fun h => hu (by simp [h])), e2, if_neg (fun h => hu (by simp [h]))]
 | .const v :: l, acc, k, e => by
  simp only [restrK] at e
  obtain ⟨tm', g1, g2, g3⟩ := restrK_ok e
  exact ⟨tm', g1, fun u hu => g2 u (by simpa using hu), fun u hu => g3 u (fun h => hu (by simp [h]))⟩
 | .global v :: l, acc, k, e => by
  simp only [restrK] at e
  obtain ⟨tm', g1, g2, g3⟩ := restrK_ok e
  exact ⟨tm', g1, fun u hu => g2 u (by simpa using hu), fun u hu => g3 u (fun h => hu (by simp [h]))⟩
 | .func v :: l, acc, k, e => by
  simp only [restrK] at e
  obtain ⟨tm', g1, g2, g3⟩ := restrK_ok e
  exact ⟨tm', g1, fun u hu => g2 u (by simpa using hu), fun u hu => g3 u (fun h => hu (by simp [h]))⟩
end Go.Can
namespace Go.Can
open Go
variable [Glob]
set_option linter.unusedSectionVars false

/-- what holds along the evaluation of a drawn region, in both of its parts -/
structure Ds (P : Program) (ops : Array Oper) (base : CW) (tm0 : T Value) (nt M : Nat) (L : List St) (tm : T Value) (nxt mk : Nat) : Prop where
 links : Links P ops base tm0 nt (befM M) L
 tms : ∀ t, undefd (tm.get t) = CV tm0 (fun _ => true) L t
 ord : ∀ t ∈ L, t.post.next ≤ nxt
 ordp : ∀ t ∈ L, t.pre.next ≤ nxt
 nx : base.next ≤ nxt
 np : ∀ i t, At L i t → ∀ b, t.has b → Nat.testBit mk i = true
 npLt : ∀ j, Nat.testBit mk j = true → j < L.length

section
variable {P : Program} {ops : Array Oper} {base : CW} {tm0 : T Value} {nt M : Nat} {L : List St} {tm tm1 : T Value} {nx np : Nat}

theorem Ds.hasLt (hD : Ds P ops base tm0 nt M L tm nx np) {i : Nat} {t : St} (ha : At L i t) (hd : ∀ k u, At L k u → befM M i k = true → DK u) {b : Nat} (hb : t.has b) : b < nx := by
 rcases hb with h | h
 ·exact Nat.lt_of_lt_of_le (hD.links.live i t ha (fun k u hu _ hk => hd k u hu hk) b h) (hD.ordp t ha.mem)
 ·exact Nat.lt_of_lt_of_le h.2 (hD.ord t ha.mem)
theorem CV_cons {s : St} {t : Tmp} : CV tm0 (fun _ => true) (s :: L) t = if s.o.dst = some t then s.v else CV tm0 (fun _ => true) L t := by
 unfold CV
 simp only [pick]
 by_cases h : s.o.dst = some t
 ·rw [if_pos ⟨trivial, h⟩, if_pos h]
 ·rw [if_neg (fun x => h x.2), if_neg h]
theorem Ds.put (hD : Ds P ops base tm0 nt M L tm nx np) {s : St} (ht : ∀ j, tm1.get j = if s.o.dst = some j then some s.v else tm.get j) : ∀ t, undefd (tm1.get t) = CV tm0 (fun _ => true) (s :: L) t := fun t => by
 rw [CV_cons, ht]
 by_cases h : s.o.dst = some t
 ·rw [if_pos h, if_pos h]; rfl
 ·rw [if_neg h, if_neg h]; exact hD.tms t
theorem Ds.pairs (hD : Ds P ops base tm0 nt M L tm nx np) (hM : Plan ops M) {o : Oper} (ho : ops[L.length]? = some o) : ∀ i t, At L i t → befM M L.length i = true ∨ t.o.apart ops o = true :=
 fun i t ha => hM.pairs i L.length t.o o ha.get (hD.links.op i t ha) ho

/-- an operation that sees no block and makes none -/
theorem Ds.light (hD : Ds P ops base tm0 nt M L tm nx np) (hM : Plan ops M) {s : St} (ho : ops[L.length]? = some s.o) (htm : s.tm = tm) (hw : s.wanted = wantedB ops.toList s.o s.tm)
  (h1 : s.wanted = true → ∀ t, Operand.tmp t ∈ s.o.op.operands → undefd (s.tmr.get t) = undefd (s.tm.get t)) (h2 : s.wanted = true → ∀ t, Operand.tmp t ∉ s.o.op.operands → undefd (s.tmr.get t) = undef)
  (hrun : s.wanted = true → Jop P s.o s.tmr s.pre s.v s.post) (hidle : s.wanted = false → s.v = undef ∧ s.post = s.pre)
  (hnil : ∀ b, s.pre.get b = none) (hpre : s.pre.next = nx) (hpost : s.post.next = nx) (hlim : s.lim = base.next) (hlow : base.next ≤ s.post.low) (hdst : ∀ d, s.o.dst = some d → d < nt)
  (ht : ∀ j, tm1.get j = if s.o.dst = some j then some s.v else tm.get j) : Ds P ops base tm0 nt M (s :: L) tm1 nx np := by
 have no : ∀ b, ¬ s.has b := fun b h => by
  rcases h with h | h
  ·rw [hnil] at h; cases h
  ·omega
 refine ⟨hD.links.cons ho hw h1 h2 hrun (fun h => ⟨(hidle h).1, (hidle h).2, hnil⟩) (by rw [hlim]; exact Nat.le_refl _) (by rw [hlim, hpre]; exact hD.nx) (fun _ b h => by rw [hnil] at h; cases h) (fun t h => by rw [hpre]; exact hD.ord t h)
  (fun _ _ _ b o h => by rw [hnil] at h; cases h) (fun _ _ _ _ b _ h => (no b h.1).elim) (fun t => by rw [htm]; exact hD.tms t) (hD.pairs hM ho) hdst (fun _ => by rw [hlim]; exact hlow), hD.put ht, ?_, ?_, hD.nx, ?_, fun j hj => by have := hD.npLt j hj; simp; omega⟩
 ·intro t h
  rcases List.mem_cons.1 h with rfl | h
  ·rw [hpost]; exact Nat.le_refl _
  ·exact hD.ord t h
 ·intro t h
  rcases List.mem_cons.1 h with rfl | h
  ·rw [hpre]; exact Nat.le_refl _
  ·exact hD.ordp t h
 ·intro i t ha b hb
  rcases At.cons_iff.1 ha with ⟨_, e⟩ | ha
  ·rw [e] at hb; exact (no b hb).elim
  ·exact hD.np i t ha b hb
end
end Go.Can
namespace Go.Can
open Go
variable [Glob]
set_option linter.unusedSectionVars false

theorem land_bit {a m j : Nat} (h : Nat.beq (Nat.land a m) a = true) (hj : Nat.testBit a j = true) : Nat.testBit m j = true := by
 have e : a &&& m = a := Nat.eq_of_beq_eq_true h
 rw [← e, Nat.testBit_and, Bool.and_eq_true] at hj
 exact hj.2

/-- what saw the whole heap is right -/
def DN (L : List St) (nq : Nat) : Prop := ∀ j t, At L j t → Nat.testBit nq j = true → DK t
/-- what holds along a drawn region -/
structure Ts (P : Program) (ops : Array Oper) (base : CW) (tm0 : T Value) (nt M : Nat) (L : List St) (tm : T Value) (c : CW) (nq mk oq nb : Nat) (fr : List Fr) (ns ws : List (Nat × Nat)) : Prop extends Ds P ops base tm0 nt M L tm c.next mk where
 cov : ∀ i t, At L i t → ∀ b, t.has b → Nat.testBit nq i = true ∨ (i, b) ∈ ns ∨ Nat.testBit oq i = true
 npm : ∀ j, Nat.testBit nq j = true → Nat.testBit mk j = true
 oqm : ∀ j, Nat.testBit oq j = true → Nat.testBit mk j = true
 nsm : ∀ j b, (j, b) ∈ ns → Nat.testBit mk j = true
 wsn : ∀ j b, (j, b) ∈ ws → (j, b) ∈ ns
 heap : ∀ b o, c.get b = some o → ∀ S : Nat → Bool, (∀ j, Nat.testBit nq j = true → S j = true) → (∀ j, (j, b) ∈ ws → S j = true) → (∀ j t, At L j t → Nat.testBit nq j = true ∨ (j, b) ∈ ws → DK t) → CS base S L b = some o
 live : DN L nq → ∀ b, (c.get b).isSome = true → b < nb
 nb1 : base.next ≤ nb
 nb2 : nb ≤ c.next
 low : (∀ j t, At L j t → DK t) → c.low ≤ base.low ∧ ∀ i t, At L i t → t.full = true → c.low ≤ t.post.low
 kept : (∀ j t, At L j t → DK t) → ∀ b, b < base.next → b < c.low → c.get b = base.get b
 dead : (∀ j t, At L j t → DK t) → ∀ b, b < base.next → base.get b = none → c.get b = none
 fr1 : ∀ x ∈ fr, ∀ S : Nat → Bool, (∀ j, Nat.testBit x.by_ j = true → S j = true) → CS base S L x.blk = some x.obj
 fr2 : ∀ x ∈ fr, ∀ j t, At L j t → (∀ k u, At L k u → befM M j k = true → DK u) → t.has x.blk → Nat.testBit x.by_ j = true
 fr3 : ∀ x ∈ fr, nb ≤ x.blk ∧ x.blk < c.next
 fr4 : ∀ x ∈ fr, ∀ j, Nat.testBit x.by_ j = true → Nat.testBit mk j = true
theorem DN.tail {L : List St} {s : St} {nq : Nat} (h : DN (s :: L) nq) : DN L nq := fun j t ha hj => h j t (At.cons_iff.2 (.inr ha)) hj

section
variable {P : Program} {ops : Array Oper} {base : CW} {tm0 : T Value} {nt M : Nat} {L : List St} {tm tm1 : T Value} {c : CW} {np mk oq nb : Nat} {fr : List Fr} {ns ws : List (Nat × Nat)}

theorem CS_light {S : Nat → Bool} {s : St} (no : ∀ b, ¬ s.has b) (b : Nat) : CS base S (s :: L) b = CS base S L b := by
 unfold CS
 simp only [pick]
 rw [if_neg (fun x => no b x.2.1)]

theorem Ts.light (hT : Ts P ops base tm0 nt M L tm c np mk oq nb fr ns ws) (hM : Plan ops M) {s : St} (ho : ops[L.length]? = some s.o) (htm : s.tm = tm) (hw : s.wanted = wantedB ops.toList s.o s.tm)
  (h1 : s.wanted = true → ∀ t, Operand.tmp t ∈ s.o.op.operands → undefd (s.tmr.get t) = undefd (s.tm.get t)) (h2 : s.wanted = true → ∀ t, Operand.tmp t ∉ s.o.op.operands → undefd (s.tmr.get t) = undef)
  (hrun : s.wanted = true → Jop P s.o s.tmr s.pre s.v s.post) (hidle : s.wanted = false → s.v = undef ∧ s.post = s.pre)
  (hnil : ∀ b, s.pre.get b = none) (hpre : s.pre.next = c.next) (hpost : s.post.next = c.next) (hlim : s.lim = base.next) (hlow : base.next ≤ s.post.low) (hnf : s.full = false) (hdst : ∀ d, s.o.dst = some d → d < nt)
  (ht : ∀ j, tm1.get j = if s.o.dst = some j then some s.v else tm.get j) : Ts P ops base tm0 nt M (s :: L) tm1 c np mk oq nb fr ns ws := by
 have no : ∀ b, ¬ s.has b := fun b h => by
  rcases h with h | h
  ·rw [hnil] at h; cases h
  ·omega
 have up : ∀ {j t}, At L j t → At (s :: L) j t := fun h => At.cons_iff.2 (.inr h)
 refine ⟨hT.toDs.light hM ho htm hw h1 h2 hrun hidle hnil hpre hpost hlim hlow hdst ht, ?_, hT.npm, hT.oqm, hT.nsm, hT.wsn, ?_, fun hd => hT.live hd.tail, hT.nb1, hT.nb2, ?_, ?_, ?_, ?_, ?_, hT.fr3, hT.fr4⟩
 ·intro i t ha b hb
  rcases At.cons_iff.1 ha with ⟨_, e⟩ | ha
  ·rw [e] at hb; exact (no b hb).elim
  ·exact hT.cov i t ha b hb
 ·intro b o hb S hS hS2 hd
  rw [CS_light no]
  exact hT.heap b o hb S hS hS2 fun j t ha => hd j t (up ha)
 ·intro hd
  obtain ⟨g1, g2⟩ := hT.low fun j t ha => hd j t (up ha)
  refine ⟨g1, fun i t ha hf => ?_⟩
  rcases At.cons_iff.1 ha with ⟨_, e⟩ | ha
  ·rw [e, hnf] at hf; cases hf
  ·exact g2 i t ha hf
 ·exact fun hd => hT.kept fun j t ha => hd j t (up ha)
 ·exact fun hd => hT.dead fun j t ha => hd j t (up ha)
 ·intro x hx S hS
  rw [CS_light no]; exact hT.fr1 x hx S hS
 ·intro x hx j t ha hd hb
  rcases At.cons_iff.1 ha with ⟨_, e⟩ | ha
  ·rw [e] at hb; exact (no _ hb).elim
  ·exact hT.fr2 x hx j t ha (fun k u hu hk => hd k u (up hu) hk) hb

/-- an operation that sees the whole heap -/
theorem Ts.whole (hT : Ts P ops base tm0 nt M L tm c np mk oq nb fr ns ws) (hM : Plan ops M) {s : St} (ho : ops[L.length]? = some s.o) (htm : s.tm = tm) (hw : s.wanted = wantedB ops.toList s.o s.tm) (hwt : s.wanted = true)
  (h1 : s.wanted = true → ∀ t, Operand.tmp t ∈ s.o.op.operands → undefd (s.tmr.get t) = undefd (s.tm.get t)) (h2 : s.wanted = true → ∀ t, Operand.tmp t ∉ s.o.op.operands → undefd (s.tmr.get t) = undef)
  (hrun : Jop P s.o s.tmr s.pre s.v s.post) (hpre : s.pre = c) (hlim : s.lim = base.next) (hf : s.full = true) (hnp : Nat.beq (Nat.land mk (maskAt M L.length)) mk = true) (hle : c.next ≤ s.post.next) (hdst : ∀ d, s.o.dst = some d → d < nt)
  (ht : ∀ j, tm1.get j = if s.o.dst = some j then some s.v else tm.get j) : Ts P ops base tm0 nt M (s :: L) tm1 s.post (Nat.lor mk (Nat.pow 2 L.length)) (Nat.lor mk (Nat.pow 2 L.length)) 0 s.post.next [] [] [] := by
 have up : ∀ {j t}, At L j t → At (s :: L) j t := fun h => At.cons_iff.2 (.inr h)
 have me : At (s :: L) L.length s := At.cons_iff.2 (.inl ⟨rfl, rfl⟩)
 have bit : ∀ j, Nat.testBit mk j = true → befM M L.length j = true := fun j hj => land_bit hnp hj
 have has' : DK s → ∀ b o, s.post.get b = some o → s.has b := fun hd b o hb => by
  by_cases hlt : b < s.pre.next
  ·cases e : s.pre.get b with
   | none => rw [hd.dead b hlt e] at hb; cases hb
   | some o' => exact .inl (by rw [e]; rfl)
  ·exact .inr ⟨by omega, hd.live b (by rw [hb]; rfl)⟩
 refine ⟨⟨hT.links.cons ho hw h1 h2 (fun _ => hrun) (fun h => by rw [hwt] at h; cases h) (by rw [hlim]; exact Nat.le_refl _) (by rw [hlim, hpre]; exact hT.nx) (fun hd b hb => ?_) (fun t h => by rw [hpre]; exact hT.ord t h)
  (fun S hS hd b o hb => ?_) (fun i t ha _ b hb _ => bit i (hT.np i t ha b hb)) (fun t => by rw [htm]; exact hT.tms t) (hT.toDs.pairs hM ho) hdst (fun h => by rw [hf] at h; cases h), hT.toDs.put ht, ?_, ?_, Nat.le_trans hT.nx hle, ?_, fun j hj => ?_⟩, ?_, fun _ h => h, fun _ h => (by simp at h), fun _ _ h => (by cases h), fun _ _ h => (by cases h), ?_, ?_, Nat.le_trans hT.nx hle, Nat.le_refl _, ?_, ?_, ?_, fun _ h => (by cases h), fun _ h => (by cases h), fun _ h => (by cases h), fun _ h => (by cases h)⟩
 ·rw [hpre] at hb ⊢
  exact Nat.lt_of_lt_of_le (hT.live (fun j t ha hj => hd j t ha (bit j (hT.npm j hj))) b hb) hT.nb2
 ·rw [hpre] at hb
  exact hT.heap b o hb S (fun j hj => hS j (bit j (hT.npm j hj))) (fun j hj => hS j (bit j (hT.nsm j b (hT.wsn j b hj)))) (fun j t ha hj => hd j t ha (bit j (hj.elim (hT.npm j) fun h => hT.nsm j b (hT.wsn j b h))))
 ·intro t h
  rcases List.mem_cons.1 h with rfl | h
  ·exact Nat.le_refl _
  ·exact Nat.le_trans (hT.ord t h) hle
 ·intro t h
  rcases List.mem_cons.1 h with rfl | h
  ·rw [hpre]; exact hle
  ·exact Nat.le_trans (hT.ordp t h) hle
 ·intro i t ha b hb
  rcases At.cons_iff.1 ha with ⟨e, _⟩ | ha
  ·exact lor_bit.2 (.inr e)
  ·exact lor_bit.2 (.inl (hT.np i t ha b hb))
 ·rcases lor_bit.1 hj with h | h
  ·have := hT.npLt j h; simp; omega
  ·simp; omega
 ·intro i t ha b hb
  rcases At.cons_iff.1 ha with ⟨e, _⟩ | ha
  ·exact .inl (lor_bit.2 (.inr e))
  ·exact .inl (lor_bit.2 (.inl (hT.np i t ha b hb)))
 ·intro b o hb S hS _ hd
  have hh := has' (hd _ s me (.inl (lor_bit.2 (.inr rfl)))) b o hb
  unfold CS
  simp only [pick]
  rw [if_pos ⟨hS _ (lor_bit.2 (.inr rfl)), hh, .inr hf⟩]
  exact hb
 ·exact fun hd b hb => (hd _ s me (lor_bit.2 (.inr rfl))).live b hb
 ·intro hd
  obtain ⟨g1, g2⟩ := hT.low fun j t ha => hd j t (up ha)
  have hl := (hd _ s me).low
  rw [hpre] at hl
  refine ⟨Nat.le_trans hl g1, fun i t ha hft => ?_⟩
  rcases At.cons_iff.1 ha with ⟨_, e⟩ | ha
  ·rw [e]; exact Nat.le_refl _
  ·exact Nat.le_trans hl (g2 i t ha hft)
 ·intro hd b hb hlow
  have hds := hd _ s me
  have hl := hds.low
  have hn := hT.nx
  rw [hds.kept b (by rw [hpre]; omega) hlow, hpre]
  rw [hpre] at hl
  exact hT.kept (fun j t ha => hd j t (up ha)) b hb (by omega)
 ·intro hd b hb hn
  have hx := hT.nx
  refine (hd _ s me).dead b (by rw [hpre]; omega) ?_
  rw [hpre]
  exact hT.dead (fun j t ha => hd j t (up ha)) b hb hn

/-- a store that sees one block alone -/
theorem Ts.store (hT : Ts P ops base tm0 nt M L tm c np mk oq nb fr ns ws) (hM : Plan ops M) {s : St} (ho : ops[L.length]? = some s.o) (htm : s.tm = tm) (hw : s.wanted = wantedB ops.toList s.o s.tm) (hwt : s.wanted = true)
  (h1 : s.wanted = true → ∀ t, Operand.tmp t ∈ s.o.op.operands → undefd (s.tmr.get t) = undefd (s.tm.get t)) (h2 : s.wanted = true → ∀ t, Operand.tmp t ∉ s.o.op.operands → undefd (s.tmr.get t) = undef)
  (hrun : Jop P s.o s.tmr s.pre s.v s.post) (hf : s.full = true) (hnp : Nat.beq (Nat.land np (maskAt M L.length)) np = true) {b : Nat} {ob ob1 : CObj} (hoq : Nat.beq (Nat.land oq (maskAt M L.length)) oq = true) (hlim : s.lim = base.next) (hns : ∀ j, (j, b) ∈ ns → befM M L.length j = true) (hbn : b < nb) (hob : c.get b = some ob)
  (hpre : s.pre.next = c.next) (hget : ∀ j, s.pre.get j = if j = b then some ob else none) (hpost : s.post.next = c.next) (hob1 : s.post.get b = some ob1) {c2 : CW} (hc2n : c2.next = c.next) (hc2l : c2.low = min c.low b) (hc2 : ∀ j, c2.get j = if j = b then some ob1 else c.get j)
  (hlow : c2.low ≤ s.post.low) (hdst : ∀ d, s.o.dst = some d → d < nt)
  (ht : ∀ j, tm1.get j = if s.o.dst = some j then some s.v else tm.get j) : Ts P ops base tm0 nt M (s :: L) tm1 c2 np (Nat.lor mk (Nat.pow 2 L.length)) oq nb fr ((L.length, b) :: ns) ((L.length, b) :: ws) := by
 have hb : b < c.next := Nat.lt_of_lt_of_le hbn hT.nb2
 have up : ∀ {j t}, At L j t → At (s :: L) j t := fun h => At.cons_iff.2 (.inr h)
 have me : At (s :: L) L.length s := At.cons_iff.2 (.inl ⟨rfl, rfl⟩)
 have bit : ∀ j, Nat.testBit np j = true → befM M L.length j = true := fun j hj => land_bit hnp hj
 have has1 : ∀ {x}, s.has x → x = b := fun {x} h => by
  rcases h with h | h
  ·rw [hget] at h
   by_cases e : x = b
   ·exact e
   ·rw [if_neg e] at h; cases h
  ·omega
 have hasb : s.has b := .inl (by rw [hget, if_pos rfl]; rfl)
 have offS : ∀ {S : Nat → Bool} {x : Nat}, x ≠ b → CS base S (s :: L) x = CS base S L x := fun hx => by
  unfold CS
  simp only [pick]
  rw [if_neg (fun h => hx (has1 h.2.1))]
 refine ⟨⟨hT.links.cons ho hw h1 h2 (fun _ => hrun) (fun h => by rw [hwt] at h; cases h) (by rw [hlim]; exact Nat.le_refl _) (by rw [hlim, hpre]; exact hT.nx) (fun _ x hx => by rw [has1 (.inl hx), hpre]; exact hb) (fun t h => by rw [hpre]; exact hT.ord t h)
  (fun S hS hd x o hx => ?_) (fun i t ha _ x hx htc => ?_) (fun t => by rw [htm]; exact hT.tms t) (hT.toDs.pairs hM ho) hdst (fun h => by rw [hf] at h; cases h), hT.toDs.put ht, ?_, ?_, by rw [hc2n]; exact hT.nx, ?_, fun j hj => ?_⟩, ?_, ?_, ?_, ?_, ?_, ?_, ?_, hT.nb1, by rw [hc2n]; exact hT.nb2, ?_, ?_, ?_, ?_, ?_, ?_, ?_⟩
 ·obtain rfl := has1 (.inl (by rw [hx]; rfl))
  rw [hget, if_pos rfl] at hx; cases hx
  exact hT.heap x _ hob S (fun j hj => hS j (bit j hj)) (fun j hj => hS j (hns j (hT.wsn j _ hj))) fun j t ha hj => hd j t ha (hj.elim (bit j) fun h => hns j (hT.wsn j _ h))
 ·obtain rfl := has1 htc.1
  rcases hT.cov i t ha x hx with h | h | h
  ·exact bit i h
  ·exact hns i h
  ·exact land_bit hoq h
 ·intro t h
  rw [hc2n]
  rcases List.mem_cons.1 h with rfl | h
  ·omega
  ·exact hT.ord t h
 ·intro t h
  rw [hc2n]
  rcases List.mem_cons.1 h with rfl | h
  ·omega
  ·exact hT.ordp t h
 ·intro i t ha x hx
  rcases At.cons_iff.1 ha with ⟨e, _⟩ | ha
  ·exact lor_bit.2 (.inr e)
  ·exact lor_bit.2 (.inl (hT.np i t ha x hx))
 ·rcases lor_bit.1 hj with h | h
  ·have := hT.npLt j h; simp; omega
  ·simp; omega
 ·intro i t ha x hx
  rcases At.cons_iff.1 ha with ⟨e, e2⟩ | ha
  ·subst e; rw [e2] at hx; rw [has1 hx]; exact .inr (.inl (by simp))
  ·rcases hT.cov i t ha x hx with h | h | h
   ·exact .inl h
   ·exact .inr (.inl (by simp [h]))
   ·exact .inr (.inr h)
 ·exact fun j hj => lor_bit.2 (.inl (hT.npm j hj))
 ·exact fun j hj => lor_bit.2 (.inl (hT.oqm j hj))
 ·intro j x hj
  rcases List.mem_cons.1 hj with h | h
  ·cases h; exact lor_bit.2 (.inr rfl)
  ·exact lor_bit.2 (.inl (hT.nsm j x h))
 ·intro j x hj
  rcases List.mem_cons.1 hj with h | h
  ·cases h; simp
  ·exact List.mem_cons_of_mem _ (hT.wsn j x h)
 ·intro x o hx S hS hS2 hd
  rw [hc2] at hx
  by_cases e : x = b
  ·subst e
   rw [if_pos rfl] at hx; cases hx
   unfold CS
   simp only [pick]
   rw [if_pos ⟨hS2 _ (by simp), hasb, .inr hf⟩]
   exact hob1
  ·rw [if_neg e] at hx
   rw [offS e]
   exact hT.heap x o hx S hS (fun j hj => hS2 j (by simp [hj])) fun j t ha hj => hd j t (up ha) (hj.elim .inl fun h => .inr (by simp [h]))
 ·intro hd x hx
  rw [hc2] at hx
  by_cases e : x = b
  ·rw [e]; exact hbn
  ·rw [if_neg e] at hx
   exact hT.live hd.tail x hx
 ·intro hd
  obtain ⟨g1, g2⟩ := hT.low fun j t ha => hd j t (up ha)
  have hm : c2.low ≤ c.low := by rw [hc2l]; exact Nat.min_le_left _ _
  refine ⟨Nat.le_trans hm g1, fun i t ha hft => ?_⟩
  rcases At.cons_iff.1 ha with ⟨_, e⟩ | ha
  ·rw [e]; exact hlow
  ·exact Nat.le_trans hm (g2 i t ha hft)
 ·intro hd x hx hl
  rw [hc2, if_neg (by rw [hc2l] at hl; omega)]
  exact hT.kept (fun j t ha => hd j t (up ha)) x hx (by rw [hc2l] at hl; omega)
 ·intro hd x hx hn
  have h3 := hT.dead (fun j t ha => hd j t (up ha)) x hx hn
  rw [hc2]
  by_cases e : x = b
  ·rw [e, hob] at h3; cases h3
  ·rw [if_neg e]; exact h3
 ·intro x hx S hS
  rw [offS (by have := (hT.fr3 x hx).1; omega)]; exact hT.fr1 x hx S hS
 ·intro x hx j t ha hd hh
  rcases At.cons_iff.1 ha with ⟨_, e⟩ | ha
  ·rw [e] at hh; have := has1 hh; have := (hT.fr3 x hx).1; omega
  ·exact hT.fr2 x hx j t ha (fun k u hu hk => hd k u (up hu) hk) hh
 ·rw [hc2n]; exact hT.fr3
 ·exact fun x hx j hj => lor_bit.2 (.inl (hT.fr4 x hx j hj))

/-- a load that sees one block alone, an old one -/
theorem Ts.load (hT : Ts P ops base tm0 nt M L tm c np mk oq nb fr ns ws) (hM : Plan ops M) {s : St} (ho : ops[L.length]? = some s.o) (htm : s.tm = tm) (hw : s.wanted = wantedB ops.toList s.o s.tm) (hwt : s.wanted = true)
  (h1 : s.wanted = true → ∀ t, Operand.tmp t ∈ s.o.op.operands → undefd (s.tmr.get t) = undefd (s.tm.get t)) (h2 : s.wanted = true → ∀ t, Operand.tmp t ∉ s.o.op.operands → undefd (s.tmr.get t) = undef)
  (hrun : Jop P s.o s.tmr s.pre s.v s.post) (hf : s.full = false) (hnp : Nat.beq (Nat.land np (maskAt M L.length)) np = true) {b : Nat} {ob : CObj} (hns : ∀ j, (j, b) ∈ ws → befM M L.length j = true) (hbn : b < nb) (hlim : s.lim = nb) (hob : c.get b = some ob)
  (hpre : s.pre.next = c.next) (hget : ∀ j, s.pre.get j = if j = b then some ob else none) (hpost : s.post.next = c.next)
  (hlow : c.next ≤ s.post.low) (hdst : ∀ d, s.o.dst = some d → d < nt)
  (ht : ∀ j, tm1.get j = if s.o.dst = some j then some s.v else tm.get j) : Ts P ops base tm0 nt M (s :: L) tm1 c np (Nat.lor mk (Nat.pow 2 L.length)) oq nb fr ((L.length, b) :: ns) ws := by
 have hb : b < c.next := Nat.lt_of_lt_of_le hbn hT.nb2
 have up : ∀ {j t}, At L j t → At (s :: L) j t := fun h => At.cons_iff.2 (.inr h)
 have bit : ∀ j, Nat.testBit np j = true → befM M L.length j = true := fun j hj => land_bit hnp hj
 have has1 : ∀ {x}, s.has x → x = b := fun {x} h => by
  rcases h with h | h
  ·rw [hget] at h
   by_cases e : x = b
   ·exact e
   ·rw [if_neg e] at h; cases h
  ·omega
 have no : ∀ {x}, ¬ s.tch base.next x := fun {x} h => by
  have := has1 h.1
  rcases h.2 with h3 | h3
  ·omega
  ·rw [hf] at h3; cases h3
 have offS : ∀ {S : Nat → Bool} {x : Nat}, CS base S (s :: L) x = CS base S L x := by
  intro S x
  unfold CS
  simp only [pick]
  rw [if_neg (fun h => no h.2)]
 have hnx := hT.nx
 refine ⟨⟨hT.links.cons ho hw h1 h2 (fun _ => hrun) (fun h => by rw [hwt] at h; cases h) (by rw [hlim]; exact hT.nb1) (by rw [hlim, hpre]; exact hT.nb2) (fun _ x hx => by rw [has1 (.inl hx), hpre]; omega) (fun t h => by rw [hpre]; exact hT.ord t h)
  (fun S hS hd x o hx => ?_) (fun i t ha _ x hx htc => (no htc).elim) (fun t => by rw [htm]; exact hT.tms t) (hT.toDs.pairs hM ho) hdst (fun _ => by have := hT.nb2; omega), hT.toDs.put ht, ?_, ?_, hT.nx, ?_, fun j hj => ?_⟩, ?_, ?_, ?_, ?_, ?_, ?_, fun hd => hT.live hd.tail, hT.nb1, hT.nb2, ?_, ?_, ?_, ?_, ?_, hT.fr3, ?_⟩
 ·obtain rfl := has1 (.inl (by rw [hx]; rfl))
  rw [hget, if_pos rfl] at hx; cases hx
  exact hT.heap x _ hob S (fun j hj => hS j (bit j hj)) (fun j hj => hS j (hns j hj)) fun j t ha hj => hd j t ha (hj.elim (bit j) (hns j))
 ·intro t h
  rcases List.mem_cons.1 h with rfl | h
  ·omega
  ·exact hT.ord t h
 ·intro t h
  rcases List.mem_cons.1 h with rfl | h
  ·omega
  ·exact hT.ordp t h
 ·intro i t ha x hx
  rcases At.cons_iff.1 ha with ⟨e, _⟩ | ha
  ·exact lor_bit.2 (.inr e)
  ·exact lor_bit.2 (.inl (hT.np i t ha x hx))
 ·rcases lor_bit.1 hj with h | h
  ·have := hT.npLt j h; simp; omega
  ·simp; omega
 ·intro i t ha x hx
  rcases At.cons_iff.1 ha with ⟨e, e2⟩ | ha
  ·subst e; rw [e2] at hx; rw [has1 hx]; exact .inr (.inl (by simp))
  ·rcases hT.cov i t ha x hx with h | h | h
   ·exact .inl h
   ·exact .inr (.inl (by simp [h]))
   ·exact .inr (.inr h)
 ·exact fun j hj => lor_bit.2 (.inl (hT.npm j hj))
 ·exact fun j hj => lor_bit.2 (.inl (hT.oqm j hj))
 ·intro j x hj
  rcases List.mem_cons.1 hj with h | h
  ·cases h; exact lor_bit.2 (.inr rfl)
  ·exact lor_bit.2 (.inl (hT.nsm j x h))
 ·exact fun j x hj => List.mem_cons_of_mem _ (hT.wsn j x hj)
 ·intro x o hx S hS hS2 hd
  rw [offS]
  exact hT.heap x o hx S hS hS2 fun j t ha hj => hd j t (up ha) hj
 ·intro hd
  obtain ⟨g1, g2⟩ := hT.low fun j t ha => hd j t (up ha)
  refine ⟨g1, fun i t ha hft => ?_⟩
  rcases At.cons_iff.1 ha with ⟨_, e⟩ | ha
  ·rw [e, hf] at hft; cases hft
  ·exact g2 i t ha hft
 ·exact fun hd => hT.kept fun j t ha => hd j t (up ha)
 ·exact fun hd => hT.dead fun j t ha => hd j t (up ha)
 ·intro x hx S hS
  rw [offS]; exact hT.fr1 x hx S hS
 ·intro x hx j t ha hd hh
  rcases At.cons_iff.1 ha with ⟨_, e⟩ | ha
  ·rw [e] at hh; have := has1 hh; have := (hT.fr3 x hx).1; omega
  ·exact hT.fr2 x hx j t ha (fun k u hu hk => hd k u (up hu) hk) hh
 ·exact fun x hx j hj => lor_bit.2 (.inl (hT.fr4 x hx j hj))

theorem Ts.ends (hT : Ts P ops base tm0 nt M L tm c np mk oq nb fr ns ws) : Ends base tm0 L tm c :=
 ⟨hT.tms, fun i t ha => hT.ord t ha.mem, hT.nx, fun S hS hd b o hb => hT.heap b o hb S (fun j hj => hS j (hT.npLt j (hT.npm j hj))) (fun j hj => hS j (hT.npLt j (hT.nsm j b (hT.wsn j b hj)))) (fun j t ha _ => hd j t ha), fun hd b hb => Nat.lt_of_lt_of_le (hT.live (fun j t ha _ => hd j t ha) b hb) hT.nb2, hT.low, hT.kept, hT.dead⟩
end
end Go.Can
namespace Go.Can
open Go
variable [Glob]
set_option linter.unusedSectionVars false
section
variable {P : Program} {ops : Array Oper} {base : CW} {tm0 : T Value} {nt M : Nat} {L : List St} {tm tm1 : T Value} {c : CW} {np mk oq nb : Nat} {fr fr1 fr' : List Fr} {ns ws : List (Nat × Nat)}

theorem Ts.start (hbl : ∀ b, (base.get b).isSome = true → b < base.next) : Ts P ops base tm0 nt M [] tm0 base 0 0 0 base.next [] [] [] := by
 have no : ∀ {i s}, ¬ At ([] : List St) i s := fun ⟨L2, L1, h, _⟩ => by simp at h
 refine ⟨⟨Links.nil, fun _ => rfl, fun _ h => (by cases h), fun _ h => (by cases h), Nat.le_refl _, fun _ _ h => (no h).elim, fun j h => by simp at h⟩, fun _ _ h => (no h).elim, fun _ h => h, fun _ h => h, fun _ _ h => (by cases h), fun _ _ h => h, fun b o h S _ _ _ => h, fun _ => hbl, Nat.le_refl _, Nat.le_refl _,
  fun _ => ⟨Nat.le_refl _, fun _ _ h => (no h).elim⟩, fun _ _ _ _ => rfl, fun _ _ _ h => h, fun _ h => (by cases h), fun _ h => (by cases h), fun _ h => (by cases h), fun _ h => (by cases h)⟩

/-- an operation that changes blocks of its own alone -/
theorem Ts.own (hT : Ts P ops base tm0 nt M L tm c np mk oq nb fr ns ws) (hM : Plan ops M) {s : St} (ho : ops[L.length]? = some s.o) (htm : s.tm = tm) (hw : s.wanted = wantedB ops.toList s.o s.tm) (hwt : s.wanted = true)
  (h1 : s.wanted = true → ∀ t, Operand.tmp t ∈ s.o.op.operands → undefd (s.tmr.get t) = undefd (s.tm.get t)) (h2 : s.wanted = true → ∀ t, Operand.tmp t ∉ s.o.op.operands → undefd (s.tmr.get t) = undef)
  (hrun : Jop P s.o s.tmr s.pre s.v s.post) (hf : s.full = false) (hlim : s.lim = nb) (hnp : Nat.beq (Nat.land np (maskAt M L.length)) np = true) (hws : ∀ j b, (j, b) ∈ ws → befM M L.length j = true)
  (hpre : s.pre.next = c.next) (hle : c.next ≤ s.post.next) (hlow : nb ≤ s.post.low) (hdst : ∀ d, s.o.dst = some d → d < nt)
  (hg2 : ∀ b o, s.pre.get b = some o → (∃ x ∈ fr, givenB (maskAt M L.length) x = true ∧ x.blk = b ∧ x.obj = o) ∨ c.get b = some o) (hg3 : ∀ x ∈ fr, givenB (maskAt M L.length) x = true → (s.pre.get x.blk).isSome = true)
  (hold : ∀ y ∈ fr1, y ∈ ([] : List Fr) ∨ ∃ x ∈ fr, y.blk = x.blk ∧ ((givenB (maskAt M L.length) x = false ∧ y = x ∧ s.pre.get x.blk = none) ∨ (givenB (maskAt M L.length) x = true ∧ s.post.get x.blk = some y.obj ∧ y.by_ = Nat.lor x.by_ (Nat.pow 2 L.length))))
  (hnew : ∀ y ∈ fr', y ∈ fr1 ∨ (c.next ≤ y.blk ∧ y.blk < c.next + (s.post.next - c.next) ∧ s.post.get y.blk = some y.obj ∧ y.by_ = Nat.pow 2 L.length))
  {c2 : CW} (hc2n : c2.next = s.post.next) (hc2l : c2.low = c.low) (hc2 : ∀ j, c2.get j = c.get j)
  (ht : ∀ j, tm1.get j = if s.o.dst = some j then some s.v else tm.get j) : Ts P ops base tm0 nt M (s :: L) tm1 c2 np (Nat.lor mk (Nat.pow 2 L.length)) (Nat.lor oq (Nat.pow 2 L.length)) nb fr' ns ws := by
 have hnx := hT.nx
 have hn1 := hT.nb1
 have hn2 := hT.nb2
 have up : ∀ {j t}, At L j t → At (s :: L) j t := fun h => At.cons_iff.2 (.inr h)
 have me : At (s :: L) L.length s := At.cons_iff.2 (.inl ⟨rfl, rfl⟩)
 have bit : ∀ j, Nat.testBit np j = true → befM M L.length j = true := fun j hj => land_bit hnp hj
 have alive : DN L np → ∀ b, (s.pre.get b).isSome = true → b < c.next := fun hd b hb => by
  obtain ⟨o, ho⟩ := Option.isSome_iff_exists.1 hb
  rcases hg2 b o ho with ⟨x, hx, _, rfl, _⟩ | h
  ·exact (hT.fr3 x hx).2
  ·have := hT.live hd b (by rw [h]; rfl); omega
 have onS : ∀ {S : Nat → Bool} {b : Nat}, S L.length = true → s.has b → nb ≤ b → CS base S (s :: L) b = s.post.get b := fun hS hb hn => by
  unfold CS
  simp only [pick]
  rw [if_pos ⟨hS, hb, .inl (by rw [hlim]; exact hn)⟩]
 have offT : ∀ {S : Nat → Bool} {b : Nat}, ¬ s.tch base.next b → CS base S (s :: L) b = CS base S L b := fun hb => by
  unfold CS
  simp only [pick]
  rw [if_neg (fun x => hb x.2)]
 have low' : ∀ {b}, b < nb → ¬ s.tch base.next b := fun {b} hb h => by
  rcases h.2 with h3 | h3
  ·rw [hlim] at h3; omega
  ·rw [hf] at h3; cases h3
 -- the entries afterwards
 have entry : ∀ y ∈ fr', (nb ≤ y.blk ∧ y.blk < s.post.next) ∧ (∀ S : Nat → Bool, (∀ j, Nat.testBit y.by_ j = true → S j = true) → CS base S (s :: L) y.blk = some y.obj) ∧
   (∀ j t, At (s :: L) j t → (∀ k u, At (s :: L) k u → befM M j k = true → DK u) → t.has y.blk → Nat.testBit y.by_ j = true) ∧ ∀ j, Nat.testBit y.by_ j = true → Nat.testBit (Nat.lor mk (Nat.pow 2 L.length)) j = true := by
  intro y hy
  rcases hnew y hy with h | ⟨n1, n2, n3, n4⟩
  ·rcases hold y h with h | ⟨x, hx, hb, ⟨q1, rfl, q3⟩ | ⟨q1, q2, q3⟩⟩
   ·cases h
   ·have hn : ¬ s.has y.blk := fun h => by
     rcases h with h | h
     ·rw [q3] at h; cases h
     ·have := (hT.fr3 y hx).2; omega
    refine ⟨⟨(hT.fr3 y hx).1, by have := (hT.fr3 y hx).2; omega⟩, fun S hS => by rw [offT (fun h => hn h.1)]; exact hT.fr1 y hx S hS, fun j t ha hd hh => ?_, fun j hj => lor_bit.2 (.inl (hT.fr4 y hx j hj))⟩
    rcases At.cons_iff.1 ha with ⟨_, e⟩ | ha
    ·rw [e] at hh; exact absurd hh hn
    ·exact hT.fr2 y hx j t ha (fun k u hu hk => hd k u (up hu) hk) hh
   ·have h3 := hT.fr3 x hx
    rw [hb, q3]
    refine ⟨⟨h3.1, by omega⟩, fun S hS => by rw [onS (hS _ (lor_bit.2 (.inr rfl))) (.inl (hg3 x hx q1)) h3.1]; exact q2, fun j t ha hd hh => ?_, fun j hj => ?_⟩
    ·rcases At.cons_iff.1 ha with ⟨e, _⟩ | ha
     ·exact lor_bit.2 (.inr e)
     ·exact lor_bit.2 (.inl (hT.fr2 x hx j t ha (fun k u hu hk => hd k u (up hu) hk) hh))
    ·rcases lor_bit.1 hj with h | h
     ·exact lor_bit.2 (.inl (hT.fr4 x hx j h))
     ·exact lor_bit.2 (.inr h)
  ·rw [n4]
   have hr : s.has y.blk := .inr ⟨by omega, by omega⟩
   refine ⟨⟨by omega, by omega⟩, fun S hS => by rw [onS (hS _ (pow_bit.2 rfl)) hr (by omega)]; exact n3, fun j t ha hd hh => ?_, fun j hj => lor_bit.2 (.inr (pow_bit.1 hj))⟩
   rcases At.cons_iff.1 ha with ⟨e, _⟩ | ha
   ·exact pow_bit.2 e
   ·have := hT.toDs.hasLt ha (fun k u hu hk => hd k u (up hu) hk) hh
    omega
 refine ⟨⟨hT.links.cons ho hw h1 h2 (fun _ => hrun) (fun h => by rw [hwt] at h; cases h) (by rw [hlim]; exact hn1) (by rw [hlim, hpre]; exact hn2) (fun hd b hb => by rw [hpre]; exact alive (fun j t ha hj => hd j t ha (bit j hj)) b hb) (fun t h => by rw [hpre]; exact hT.ord t h)
  (fun S hS hd b o hb => ?_) (fun i t ha hd b hb htc => ?_) (fun t => by rw [htm]; exact hT.tms t) (hT.toDs.pairs hM ho) hdst (fun _ => by rw [hlim]; exact hlow), hT.toDs.put ht, ?_, ?_, by rw [hc2n]; omega, ?_, fun j hj => ?_⟩, ?_, ?_, ?_, ?_, hT.wsn, ?_, ?_, hn1, by rw [hc2n]; omega, ?_, ?_, ?_,
  fun y hy => (entry y hy).2.1, fun y hy => (entry y hy).2.2.1, fun y hy => by rw [hc2n]; exact (entry y hy).1, fun y hy => (entry y hy).2.2.2⟩
 ·rcases hg2 b o hb with ⟨x, hx, hgv, rfl, rfl⟩ | h
  ·exact hT.fr1 x hx S fun j hj => hS j (givenB_ok hgv hj)
  ·exact hT.heap b o h S (fun j hj => hS j (bit j hj)) (fun j hj => hS j (hws j b hj)) fun j t ha hj => hd j t ha (hj.elim (bit j) (hws j b))
 ·have hdn : DN L np := fun j t ha hj => hd j t ha (.inr (bit j hj))
  have hn : nb ≤ b := by
   rcases htc.2 with h3 | h3
   ·rw [hlim] at h3; exact h3
   ·rw [hf] at h3; cases h3
  rcases htc.1 with h | h
  ·obtain ⟨o, ho'⟩ := Option.isSome_iff_exists.1 h
   rcases hg2 b o ho' with ⟨x, hx, hgv, rfl, _⟩ | h4
   ·exact givenB_ok hgv (hT.fr2 x hx i t ha (fun k u hu hk => hd k u hu (.inl hk)) hb)
   ·have := hT.live hdn b (by rw [h4]; rfl); omega
  ·have := hT.toDs.hasLt ha (fun k u hu hk => hd k u hu (.inl hk)) hb
   omega
 ·intro t h
  rw [hc2n]
  rcases List.mem_cons.1 h with rfl | h
  ·exact Nat.le_refl _
  ·exact Nat.le_trans (hT.ord t h) hle
 ·intro t h
  rw [hc2n]
  rcases List.mem_cons.1 h with rfl | h
  ·omega
  ·exact Nat.le_trans (hT.ordp t h) hle
 ·intro i t ha b hb
  rcases At.cons_iff.1 ha with ⟨e, _⟩ | ha
  ·exact lor_bit.2 (.inr e)
  ·exact lor_bit.2 (.inl (hT.np i t ha b hb))
 ·rcases lor_bit.1 hj with h | h
  ·have := hT.npLt j h; simp; omega
  ·simp; omega
 ·intro i t ha b hb
  rcases At.cons_iff.1 ha with ⟨e, _⟩ | ha
  ·exact .inr (.inr (lor_bit.2 (.inr e)))
  ·rcases hT.cov i t ha b hb with h | h | h
   ·exact .inl h
   ·exact .inr (.inl h)
   ·exact .inr (.inr (lor_bit.2 (.inl h)))
 ·exact fun j hj => lor_bit.2 (.inl (hT.npm j hj))
 ·intro j hj
  rcases lor_bit.1 hj with h | h
  ·exact lor_bit.2 (.inl (hT.oqm j h))
  ·exact lor_bit.2 (.inr h)
 ·exact fun j b hj => lor_bit.2 (.inl (hT.nsm j b hj))
 ·intro b o hb S hS hS2 hd
  rw [hc2] at hb
  have hlt := hT.live (fun j t ha hj => hd j t (up ha) (.inl hj)) b (by rw [hb]; rfl)
  rw [offT (low' hlt)]
  exact hT.heap b o hb S hS hS2 fun j t ha => hd j t (up ha)
 ·intro hd b hb
  rw [hc2] at hb
  exact hT.live hd.tail b hb
 ·intro hd
  rw [hc2l]
  obtain ⟨g1, g2⟩ := hT.low fun j t ha => hd j t (up ha)
  refine ⟨g1, fun i t ha hft => ?_⟩
  rcases At.cons_iff.1 ha with ⟨_, e⟩ | ha
  ·rw [e, hf] at hft; cases hft
  ·exact g2 i t ha hft
 ·intro hd b hb hl
  rw [hc2]
  exact hT.kept (fun j t ha => hd j t (up ha)) b hb (by rw [hc2l] at hl; exact hl)
 ·intro hd b hb hn
  rw [hc2]
  exact hT.dead (fun j t ha => hd j t (up ha)) b hb hn

/-- an operation that looks at no block -/
theorem Ts.blind (hT : Ts P ops base tm0 nt M L tm c np mk oq nb fr ns ws) (hM : Plan ops M) {s : St} (ho : ops[L.length]? = some s.o) (htm : s.tm = tm) (hw : s.wanted = wantedB ops.toList s.o s.tm) (hwt : s.wanted = true)
  (h1 : s.wanted = true → ∀ t, Operand.tmp t ∈ s.o.op.operands → undefd (s.tmr.get t) = undefd (s.tm.get t)) (h2 : s.wanted = true → ∀ t, Operand.tmp t ∉ s.o.op.operands → undefd (s.tmr.get t) = undef)
  (hrun : Jop P s.o s.tmr s.pre s.v s.post) (hf : s.full = false) (hlim : s.lim = nb) (hnil : ∀ b, s.pre.get b = none)
  (hpre : s.pre.next = c.next) (hle : c.next ≤ s.post.next) (hlow : nb ≤ s.post.low) (hdst : ∀ d, s.o.dst = some d → d < nt)
  (hnew : ∀ y ∈ fr', y ∈ fr ∨ (c.next ≤ y.blk ∧ y.blk < c.next + (s.post.next - c.next) ∧ s.post.get y.blk = some y.obj ∧ y.by_ = Nat.pow 2 L.length))
  {c2 : CW} (hc2n : c2.next = s.post.next) (hc2l : c2.low = c.low) (hc2 : ∀ j, c2.get j = c.get j)
  (ht : ∀ j, tm1.get j = if s.o.dst = some j then some s.v else tm.get j) : Ts P ops base tm0 nt M (s :: L) tm1 c2 np (Nat.lor mk (Nat.pow 2 L.length)) (Nat.lor oq (Nat.pow 2 L.length)) nb fr' ns ws := by
 have hnx := hT.nx
 have hn1 := hT.nb1
 have hn2 := hT.nb2
 have up : ∀ {j t}, At L j t → At (s :: L) j t := fun h => At.cons_iff.2 (.inr h)
 have has' : ∀ {b}, s.has b → c.next ≤ b ∧ b < s.post.next := fun {b} h => by
  rcases h with h | h
  ·rw [hnil] at h; cases h
  ·omega
 have onS : ∀ {S : Nat → Bool} {b : Nat}, S L.length = true → s.has b → CS base S (s :: L) b = s.post.get b := fun hS hb => by
  unfold CS
  simp only [pick]
  rw [if_pos ⟨hS, hb, .inl (by rw [hlim]; have := (has' hb).1; omega)⟩]
 have offT : ∀ {S : Nat → Bool} {b : Nat}, ¬ s.has b → CS base S (s :: L) b = CS base S L b := fun hb => by
  unfold CS
  simp only [pick]
  rw [if_neg (fun x => hb x.2.1)]
 have entry : ∀ y ∈ fr', (nb ≤ y.blk ∧ y.blk < s.post.next) ∧ (∀ S : Nat → Bool, (∀ j, Nat.testBit y.by_ j = true → S j = true) → CS base S (s :: L) y.blk = some y.obj) ∧
   (∀ j t, At (s :: L) j t → (∀ k u, At (s :: L) k u → befM M j k = true → DK u) → t.has y.blk → Nat.testBit y.by_ j = true) ∧ ∀ j, Nat.testBit y.by_ j = true → Nat.testBit (Nat.lor mk (Nat.pow 2 L.length)) j = true := by
  intro y hy
  rcases hnew y hy with hx | ⟨n1, n2, n3, n4⟩
  ·have h3 := hT.fr3 y hx
   have hn : ¬ s.has y.blk := fun h => by have := (has' h).1; omega
   refine ⟨⟨h3.1, by omega⟩, fun S hS => by rw [offT hn]; exact hT.fr1 y hx S hS, fun j t ha hd hh => ?_, fun j hj => lor_bit.2 (.inl (hT.fr4 y hx j hj))⟩
   rcases At.cons_iff.1 ha with ⟨_, e⟩ | ha
   ·rw [e] at hh; exact absurd hh hn
   ·exact hT.fr2 y hx j t ha (fun k u hu hk => hd k u (up hu) hk) hh
  ·rw [n4]
   have hr : s.has y.blk := .inr ⟨by omega, by omega⟩
   refine ⟨⟨by omega, by omega⟩, fun S hS => by rw [onS (hS _ (pow_bit.2 rfl)) hr]; exact n3, fun j t ha hd hh => ?_, fun j hj => lor_bit.2 (.inr (pow_bit.1 hj))⟩
   rcases At.cons_iff.1 ha with ⟨e, _⟩ | ha
   ·exact pow_bit.2 e
   ·have := hT.toDs.hasLt ha (fun k u hu hk => hd k u (up hu) hk) hh
    omega
 refine ⟨⟨hT.links.cons ho hw h1 h2 (fun _ => hrun) (fun h => by rw [hwt] at h; cases h) (by rw [hlim]; exact hn1) (by rw [hlim, hpre]; exact hn2) (fun _ b hb => by rw [hnil] at hb; cases hb) (fun t h => by rw [hpre]; exact hT.ord t h)
  (fun S _ _ b o hb => by rw [hnil] at hb; cases hb) (fun i t ha hd b hb htc => ?_) (fun t => by rw [htm]; exact hT.tms t) (hT.toDs.pairs hM ho) hdst (fun _ => by rw [hlim]; exact hlow), hT.toDs.put ht, ?_, ?_, by rw [hc2n]; omega, ?_, fun j hj => ?_⟩, ?_, ?_, ?_, ?_, hT.wsn, ?_, ?_, hn1, by rw [hc2n]; omega, ?_, ?_, ?_,
  fun y hy => (entry y hy).2.1, fun y hy => (entry y hy).2.2.1, fun y hy => by rw [hc2n]; exact (entry y hy).1, fun y hy => (entry y hy).2.2.2⟩
 ·have := hT.toDs.hasLt ha (fun k u hu hk => hd k u hu (.inl hk)) hb
  have := (has' htc.1).1
  omega
 ·intro t h
  rw [hc2n]
  rcases List.mem_cons.1 h with rfl | h
  ·exact Nat.le_refl _
  ·exact Nat.le_trans (hT.ord t h) hle
 ·intro t h
  rw [hc2n]
  rcases List.mem_cons.1 h with rfl | h
  ·omega
  ·exact Nat.le_trans (hT.ordp t h) hle
 ·intro i t ha b hb
  rcases At.cons_iff.1 ha with ⟨e, _⟩ | ha
  ·exact lor_bit.2 (.inr e)
  ·exact lor_bit.2 (.inl (hT.np i t ha b hb))
 ·rcases lor_bit.1 hj with h | h
  ·have := hT.npLt j h; simp; omega
  ·simp; omega
 ·intro i t ha b hb
  rcases At.cons_iff.1 ha with ⟨e, _⟩ | ha
  ·exact .inr (.inr (lor_bit.2 (.inr e)))
  ·rcases hT.cov i t ha b hb with h | h | h
   ·exact .inl h
   ·exact .inr (.inl h)
   ·exact .inr (.inr (lor_bit.2 (.inl h)))
 ·exact fun j hj => lor_bit.2 (.inl (hT.npm j hj))
 ·intro j hj
  rcases lor_bit.1 hj with h | h
  ·exact lor_bit.2 (.inl (hT.oqm j h))
  ·exact lor_bit.2 (.inr h)
 ·exact fun j b hj => lor_bit.2 (.inl (hT.nsm j b hj))
 ·intro b o hb S hS hS2 hd
  rw [hc2] at hb
  have hlt := hT.live (fun j t ha hj => hd j t (up ha) (.inl hj)) b (by rw [hb]; rfl)
  rw [offT (fun h => by have := (has' h).1; omega)]
  exact hT.heap b o hb S hS hS2 fun j t ha => hd j t (up ha)
 ·intro hd b hb
  rw [hc2] at hb
  exact hT.live hd.tail b hb
 ·intro hd
  rw [hc2l]
  obtain ⟨g1, g2⟩ := hT.low fun j t ha => hd j t (up ha)
  refine ⟨g1, fun i t ha hft => ?_⟩
  rcases At.cons_iff.1 ha with ⟨_, e⟩ | ha
  ·rw [e, hf] at hft; cases hft
  ·exact g2 i t ha hft
 ·intro hd b hb hl
  rw [hc2]
  exact hT.kept (fun j t ha => hd j t (up ha)) b hb (by rw [hc2l] at hl; exact hl)
 ·intro hd b hb hn
  rw [hc2]
  exact hT.dead (fun j t ha => hd j t (up ha)) b hb hn
end
end Go.Can
namespace Go.Can
open Go
variable [Glob]
set_option linter.unusedSectionVars false
section
variable {P : Program} {ops : Array Oper} {base : CW} {tm0 : T Value} {nt M : Nat} {L : List St} {tm : T Value} {np mk oq nb : Nat} {fr : List Fr} {ns ws : List (Nat × Nat)}

/-- the blocks of their own put into the heap -/
theorem Ts.merge {hp : T CObj} {nx lo : Nat} (hT : Ts P ops base tm0 nt M L tm ⟨hp, nx, lo⟩ np mk oq nb fr ns ws) {h' : T CObj}
  (g1 : ∀ b o, h'.get b = some o → (∃ x ∈ fr, x.blk = b ∧ x.obj = o) ∨ hp.get b = some o) (g2 : ∀ b, (∀ x ∈ fr, x.blk ≠ b) → h'.get b = hp.get b) :
  Ts P ops base tm0 nt M L tm ⟨h', nx, lo⟩ mk mk 0 nx [] [] [] := by
 have hn1 := hT.nb1
 have hn2 : nb ≤ nx := hT.nb2
 refine ⟨hT.toDs, fun i t ha b hb => .inl (hT.np i t ha b hb), fun _ h => h, fun _ h => (by simp at h), fun _ _ h => (by cases h), fun _ _ h => h, ?_, ?_, Nat.le_trans hn1 hn2, Nat.le_refl _, hT.low, ?_, ?_,
  fun _ h => (by cases h), fun _ h => (by cases h), fun _ h => (by cases h), fun _ h => (by cases h)⟩
 ·intro b o hb S hS _ hd
  rcases g1 b o hb with ⟨x, hx, rfl, rfl⟩ | h
  ·exact hT.fr1 x hx S fun j hj => hS j (hT.fr4 x hx j hj)
  ·exact hT.heap b o h S (fun j hj => hS j (hT.npm j hj)) (fun j hj => hS j (hT.nsm j b (hT.wsn j b hj))) fun j t ha hj => hd j t ha (.inl (hj.elim (hT.npm j) fun h => hT.nsm j b (hT.wsn j b h)))
 ·intro hd b hb
  obtain ⟨o, ho⟩ := Option.isSome_iff_exists.1 hb
  rcases g1 b o ho with ⟨x, hx, rfl, rfl⟩ | h
  ·exact (hT.fr3 x hx).2
  ·exact Nat.lt_of_lt_of_le (hT.live (fun j t ha hj => hd j t ha (hT.npm j hj)) b (by show (hp.get b).isSome = true; rw [h]; rfl)) hn2
 ·intro hd b hb hl
  refine (g2 b fun x hx e => ?_).trans (hT.kept hd b hb hl)
  have := (hT.fr3 x hx).1; omega
 ·intro hd b hb hn
  refine (g2 b fun x hx e => ?_).trans (hT.dead hd b hb hn)
  have := (hT.fr3 x hx).1; omega

theorem pureK_ok (hP : Fair P) {r : Rec} (hr : Ok P r) {o : Oper} {tm : T Value} {nx : Nat} {k : Value → Bool} (h : pureK P r o tm nx k = true) :
  ∃ v tmr c1, k v = true ∧ (∀ t, Operand.tmp t ∈ o.op.operands → undefd (tmr.get t) = undefd (tm.get t)) ∧ (∀ t, Operand.tmp t ∉ o.op.operands → undefd (tmr.get t) = undef) ∧ Jop P o tmr ⟨.nil, nx, nx⟩ v c1 ∧ c1.next = nx ∧ nx ≤ c1.low := by
 unfold pureK at h
 obtain ⟨tmr, e1, e2, e3⟩ := restrK_ok h
 obtain ⟨v, c1, e4, hj⟩ := goOp_ok hP hr e1
 split at e4
 ·next hc =>
  simp only [Bool.and_eq_true] at hc
  exact ⟨v, tmr, c1, e4, fun t ht => e2 t (by simpa using ht), fun t ht => by rw [e3 t (by simpa using ht), T.get_nil]; rfl, hj, Nat.eq_of_beq_eq_true hc.1, Nat.le_of_ble_eq_true hc.2⟩
 ·cases e4
end
end Go.Can
namespace Go.Can
open Go
variable [Glob]
set_option linter.unusedSectionVars false
section
variable {P : Program} {r : Rec} {ops : Array Oper} {base : CW} {tm0 : T Value} {nt M : Nat}

theorem nsOk_ok {m b : Nat} : ∀ {l : List (Nat × Nat)}, nsOk m b l = true → ∀ j, (j, b) ∈ l → Nat.testBit m j = true
 | [], _, j, h => by cases h
 | (i, x) :: l, h, j, hj => by
  simp only [nsOk] at h
  split at h
  ·next hx =>
   split at h
   ·next hm =>
    rcases List.mem_cons.1 hj with e | e
    ·cases e; exact hm
    ·exact nsOk_ok h j e
   ·cases h
  ·next hx =>
   rcases List.mem_cons.1 hj with e | e
   ·cases e; simp at hx
   ·exact nsOk_ok h j e
theorem addrAt_ok {o : Oper} {tm : T Value} {k : Nat → Bool} (h : addrAt o tm k = true) : ∃ b, k b = true := by
 unfold addrAt at h
 split at h
 ·obtain ⟨v, h1, _⟩ := evK_ok h
  split at h1
  ·exact ⟨_, h1⟩
  ·cases h1
 ·obtain ⟨v, h1, _⟩ := evK_ok h
  split at h1
  ·exact ⟨_, h1⟩
  ·cases h1
 ·cases h
theorem oneK_ok (hP : Fair P) (hr : Ok P r) {o : Oper} {tm : T Value} {c : CW} {b : Nat} {k : Value → CW → Bool} (h : oneK P r o tm c b k = true) :
  ∃ ob h1 tmr v c1, c.get b = some ob ∧ k v c1 = true ∧ (∀ j, (⟨h1, c.next, c.next⟩ : CW).get j = if j = b then some ob else none) ∧ (∀ t, Operand.tmp t ∈ o.op.operands → undefd (tmr.get t) = undefd (tm.get t)) ∧
   (∀ t, Operand.tmp t ∉ o.op.operands → undefd (tmr.get t) = undef) ∧ Jop P o tmr ⟨h1, c.next, c.next⟩ v c1 := by
 unfold oneK at h
 split at h
 ·next ob hob =>
  obtain ⟨h1, t1, t2⟩ := T.put_ok h
  obtain ⟨tmr, q1, q2, q3⟩ := restrK_ok t1
  obtain ⟨v, c1, b1, b4⟩ := goOp_ok hP hr q1
  exact ⟨ob, h1, tmr, v, c1, hob, b1, fun j => by rw [← T.get_nil (α := CObj) j]; exact t2 j, fun t ht => q2 t (by simpa using ht), fun t ht => by rw [q3 t (by simpa using ht), T.get_nil]; rfl, b4⟩
 ·cases h

theorem wsOk_ok {m : Nat} : ∀ {l : List (Nat × Nat)}, wsOk m l = true → ∀ j b, (j, b) ∈ l → Nat.testBit m j = true
 | [], _, j, b, h => by cases h
 | (i, x) :: l, h, j, b, hj => by
  simp only [wsOk] at h
  split at h
  ·next hm =>
   rcases List.mem_cons.1 hj with e | e
   ·cases e; exact hm
   ·exact wsOk_ok h j b e
  ·cases h

theorem goTail_ok (hP : Fair P) (hr : Ok P r) (hM : Plan ops M) {W : Nat} : ∀ (todo : List Oper) (i np mk oq nb : Nat) (fr : List Fr) (ns ws : List (Nat × Nat)) (tm : T Value) (ds : List CDef) (c : CW) (k : K) (L : List St), L.length = i → L.length ≤ ops.size → ops.toList.drop i = todo →
  goTail P r nt ops M W todo i np mk oq nb fr ns ws tm ds c k = true → ∃ tm' c' v' L' np' mk' oq' nb' fr' ns' ws', k .normal v' tm' ds c' = true ∧ L'.length = ops.size ∧ (Ts P ops base tm0 nt M L tm c np mk oq nb fr ns ws → Ts P ops base tm0 nt M L' tm' c' np' mk' oq' nb' fr' ns' ws')
 | [], i, np, mk, oq, nb, fr, ns, ws, tm, ds, c, k, L, hi, hle, hd, h => by
  obtain ⟨hp, nx, lo⟩ := c
  simp only [goTail] at h
  obtain ⟨h', g1, g2, g3⟩ := mergeK_ok h
  refine ⟨tm, ⟨h', nx, lo⟩, undef, L, mk, mk, 0, nx, [], [], [], g1, ?_, fun hT => hT.merge g2 g3⟩
  have := congrArg List.length hd
  simp at this; omega
 | o :: rest, i, np, mk, oq, nb, fr, ns, ws, tm, ds, c, k, L, hi, hle, hd, h => by
  subst hi
  obtain ⟨e1, e2⟩ := drop_cons hd
  have ho : ops[L.length]? = some o := by rw [← Array.getElem?_toList]; exact e1
  have hlt : L.length < ops.size := (Array.getElem?_eq_some_iff.1 ho).1
  have whole : true = wantedB ops.toList o tm → subB mk M L.length = true → (wholeK P r nt L.length mk o fr tm c fun np tm c1 => goTail P r nt ops M W rest (L.length+1) np np 0 c1.next [] [] [] tm ds c1 k) = true →
    ∃ tm' c' v' L' np' mk' oq' nb' fr' ns' ws', k .normal v' tm' ds c' = true ∧ L'.length = ops.size ∧ (Ts P ops base tm0 nt M L tm c np mk oq nb fr ns ws → Ts P ops base tm0 nt M L' tm' c' np' mk' oq' nb' fr' ns' ws') := fun hw hnp h => by
   obtain ⟨hp, nx, lo⟩ := c
   unfold wholeK at h
   dsimp only at h
   obtain ⟨h', m1, m2, m3⟩ := mergeK_ok h
   obtain ⟨tmr, q1, q2, q3⟩ := restrK_ok m1
   obtain ⟨v, c1, b1, b4⟩ := goOp_ok hP hr q1
   split at b1
   ·next hn =>
    obtain ⟨tm1, g1, g2, g3, _⟩ := putK_ok b1
    rw [natK_eq] at g1
    have hnn := Nat.le_of_ble_eq_true hn
    obtain ⟨tm', c', v', L', np', mk', oq', nb', fr', ns', ws', a1, a2, a3⟩ := goTail_ok hP hr hM rest _ _ _ _ _ _ _ _ _ _ _ _ (⟨o, true, tm, tmr, ⟨h', nx, lo⟩, c1, v, true, base.next⟩ :: L) (by simp) (by simp; omega) e2 g1
    refine ⟨tm', c', v', L', np', mk', oq', nb', fr', ns', ws', a1, a2, fun hT => a3 ((hT.merge m2 m3).whole hM ho rfl hw rfl (fun _ t ht => q2 t (by simpa using ht)) (fun _ t ht => by rw [q3 t (by simpa using ht), T.get_nil]; rfl) b4 rfl rfl rfl hnp hnn g3 g2)⟩
   ·cases b1
  have own : true = wantedB ops.toList o tm → (ownK P r nt M L.length np mk oq nb o fr ws tm c fun mk oq fr tm c => goTail P r nt ops M W rest (L.length+1) np mk oq nb fr ns ws tm ds c k) = true →
    ∃ tm' c' v' L' np' mk' oq' nb' fr' ns' ws', k .normal v' tm' ds c' = true ∧ L'.length = ops.size ∧ (Ts P ops base tm0 nt M L tm c np mk oq nb fr ns ws → Ts P ops base tm0 nt M L' tm' c' np' mk' oq' nb' fr' ns' ws') := fun hw h => by
   obtain ⟨hp, nx, lo⟩ := c
   unfold ownK at h
   dsimp only at h
   rw [natK_eq] at h
   split at h
   ·next hnp =>
    simp only [Bool.and_eq_true] at hnp
    unfold drawK at h
    obtain ⟨tmr, q1, q2, q3⟩ := restrK_ok h
    obtain ⟨hg, w1, w2, w3, _⟩ := giveK_ok q1
    obtain ⟨v, c1, b1, b4⟩ := goOp_ok hP hr w1
    obtain ⟨h1, nx1, lo1⟩ := c1
    dsimp only at b1
    split at b1
    ·next hc =>
     simp only [Bool.and_eq_true] at hc
     obtain ⟨fr1, y1, y2⟩ := frOld_ok b1
     rw [natK_eq] at y1
     obtain ⟨fr2, z1, z2⟩ := frNew_ok y1
     obtain ⟨tm1, g1, g2, g3, _⟩ := putK_ok z1
     rw [natK_eq, natK_eq] at g1
     have hnn := Nat.le_of_ble_eq_true hc.2
     obtain ⟨tm', c', v', L', np', mk', oq', nb', fr', ns', ws', a1, a2, a3⟩ := goTail_ok hP hr hM rest _ _ _ _ _ _ _ _ _ _ _ _ (⟨o, true, tm, tmr, ⟨hg, nx, nx⟩, ⟨h1, nx1, lo1⟩, v, false, nb⟩ :: L) (by simp) (by simp; omega) e2 g1
     refine ⟨tm', c', v', L', np', mk', oq', nb', fr', ns', ws', a1, a2, fun hT => a3 (hT.own (s := ⟨o, true, tm, tmr, ⟨hg, nx, nx⟩, ⟨h1, nx1, lo1⟩, v, false, nb⟩) (c2 := ⟨hp, nx1, lo⟩) hM ho rfl hw rfl (fun _ t ht => q2 t (by simpa using ht)) (fun _ t ht => by rw [q3 t (by simpa using ht), T.get_nil]; rfl) b4 rfl rfl hnp.1
      (fun j b hj => wsOk_ok hnp.2 j b hj) rfl hnn (Nat.le_of_ble_eq_true hc.1) g3 w2 w3 y2 z2 rfl rfl (fun _ => rfl) g2)⟩
    ·cases b1
   ·cases h
  have blind : true = wantedB ops.toList o tm → (blindK P r nt L.length mk oq o fr tm c fun mk oq fr tm c => goTail P r nt ops M W rest (L.length+1) np mk oq nb fr ns ws tm ds c k) = true →
    ∃ tm' c' v' L' np' mk' oq' nb' fr' ns' ws', k .normal v' tm' ds c' = true ∧ L'.length = ops.size ∧ (Ts P ops base tm0 nt M L tm c np mk oq nb fr ns ws → Ts P ops base tm0 nt M L' tm' c' np' mk' oq' nb' fr' ns' ws') := fun hw h => by
   obtain ⟨hp, nx, lo⟩ := c
   unfold blindK at h
   dsimp only at h
   obtain ⟨tmr, q1, q2, q3⟩ := restrK_ok h
   obtain ⟨v, c1, b1, b4⟩ := goOp_ok hP hr q1
   obtain ⟨h1, nx1, lo1⟩ := c1
   dsimp only at b1
   split at b1
   ·next hc =>
    simp only [Bool.and_eq_true] at hc
    rw [natK_eq] at b1
    obtain ⟨fr2, z1, z2⟩ := frNew_ok b1
    obtain ⟨tm1, g1, g2, g3, _⟩ := putK_ok z1
    rw [natK_eq, natK_eq] at g1
    have hnn := Nat.le_of_ble_eq_true hc.2
    obtain ⟨tm', c', v', L', np', mk', oq', nb', fr', ns', ws', a1, a2, a3⟩ := goTail_ok hP hr hM rest _ _ _ _ _ _ _ _ _ _ _ _ (⟨o, true, tm, tmr, ⟨.nil, nx, nx⟩, ⟨h1, nx1, lo1⟩, v, false, nb⟩ :: L) (by simp) (by simp; omega) e2 g1
    refine ⟨tm', c', v', L', np', mk', oq', nb', fr', ns', ws', a1, a2, fun hT => a3 (hT.blind (s := ⟨o, true, tm, tmr, ⟨.nil, nx, nx⟩, ⟨h1, nx1, lo1⟩, v, false, nb⟩) (c2 := ⟨hp, nx1, lo⟩) hM ho rfl hw rfl (fun _ t ht => q2 t (by simpa using ht)) (fun _ t ht => by rw [q3 t (by simpa using ht), T.get_nil]; rfl) b4 rfl rfl
     (fun b => T.get_nil b) rfl hnn (Nat.le_trans hT.nb2 (Nat.le_of_ble_eq_true hc.1)) g3 z2 rfl rfl (fun _ => rfl) g2)⟩
   ·cases b1
  simp only [goTail, natK_eq] at h
  split at h
  ·next hw =>
   obtain ⟨tm1, g1, g2, g3, _⟩ := putK_ok h
   obtain ⟨tm', c', v', L', np', mk', oq', nb', fr', ns', ws', a1, a2, a3⟩ := goTail_ok hP hr hM rest _ _ _ _ _ _ _ _ _ _ _ _ (⟨o, false, tm, tm, ⟨.nil, c.next, c.next⟩, ⟨.nil, c.next, c.next⟩, undef, false, base.next⟩ :: L) (by simp) (by simp; omega) e2 g1
   refine ⟨tm', c', v', L', np', mk', oq', nb', fr', ns', ws', a1, a2, fun hT => a3 (hT.light hM ho rfl hw.symm (fun e => by cases e) (fun e => by cases e) (fun e => by cases e) (fun _ => ⟨rfl, rfl⟩) (fun b => T.get_nil b) rfl rfl rfl hT.nx rfl g3 g2)⟩
  ·next hw =>
   split at h
   ·obtain ⟨v, tmr, c1, b1, b2, b3, b4, b5, b6⟩ := pureK_ok hP hr h
    obtain ⟨tm1, g1, g2, g3, _⟩ := putK_ok b1
    obtain ⟨tm', c', v', L', np', mk', oq', nb', fr', ns', ws', a1, a2, a3⟩ := goTail_ok hP hr hM rest _ _ _ _ _ _ _ _ _ _ _ _ (⟨o, true, tm, tmr, ⟨.nil, c.next, c.next⟩, c1, v, false, base.next⟩ :: L) (by simp) (by simp; omega) e2 g1
    refine ⟨tm', c', v', L', np', mk', oq', nb', fr', ns', ws', a1, a2, fun hT => a3 (hT.light hM ho rfl hw.symm (fun _ => b2) (fun _ => b3) (fun _ => b4) (fun e => by cases e) (fun b => T.get_nil b) rfl b5 rfl (Nat.le_trans hT.nx b6) rfl g3 g2)⟩
   ·split at h
    ·exact blind hw.symm h
    split at h
    ·next hlb =>
     simp only [Bool.and_eq_true] at hlb
     obtain ⟨b, s1⟩ := addrAt_ok h
     split at s1
     ·next hb =>
      simp only [Bool.and_eq_true] at hb
      obtain ⟨ob, h1, tmr, v, c1, hob, b1, hget, q2, q3, b4⟩ := oneK_ok hP hr s1
      split at b1
      ·next hc =>
       simp only [Bool.and_eq_true] at hc
       obtain ⟨tm1, g1, g2, g3, _⟩ := putK_ok b1
       obtain ⟨tm', c', v', L', np', mk', oq', nb', fr', ns', ws', a1, a2, a3⟩ := goTail_ok hP hr hM rest _ _ _ _ _ _ _ _ _ _ _ _ (⟨o, true, tm, tmr, ⟨h1, c.next, c.next⟩, c1, v, false, nb⟩ :: L) (by simp) (by simp; omega) e2 g1
       refine ⟨tm', c', v', L', np', mk', oq', nb', fr', ns', ws', a1, a2, fun hT => a3 (hT.load (ob := ob) hM ho rfl hw.symm rfl (fun _ => q2) (fun _ => q3) b4 rfl hlb.2
        (fun j hj => nsOk_ok hb.1 j hj) (Nat.le_of_ble_eq_true hb.2) rfl hob rfl hget (Nat.eq_of_beq_eq_true hc.1) (Nat.le_of_ble_eq_true hc.2) g3 g2)⟩
      ·cases b1
     ·split at s1
      ·next hnp =>
       simp only [Bool.and_eq_true] at hnp
       exact whole hw.symm hnp.1 s1
      ·exact own hw.symm s1
    ·split at h
     ·next hnp =>
      simp only [Bool.and_eq_true] at hnp
      exact whole hw.symm hnp.1 h
     ·split at h
      ·exact own hw.symm h
      ·obtain ⟨b, s1⟩ := addrAt_ok h
       split at s1
       ·exact own hw.symm s1
       ·next hb =>
        split at s1
        ·next hnp =>
         simp only [Bool.and_eq_true] at hnp
         obtain ⟨ob, h1, tmr, v, c1, hob, b1, hget, q2, q3, b4⟩ := oneK_ok hP hr s1
         split at b1
         ·next ob1 hob1 =>
          obtain ⟨c2, d1, d2, d3, d4⟩ := CW.set_ok b1
          split at d1
          ·next hc =>
           simp only [Bool.and_eq_true] at hc
           obtain ⟨tm1, g1, g2, g3, _⟩ := putK_ok d1
           obtain ⟨tm', c', v', L', np', mk', oq', nb', fr', ns', ws', a1, a2, a3⟩ := goTail_ok hP hr hM rest _ _ _ _ _ _ _ _ _ _ _ _ (⟨o, true, tm, tmr, ⟨h1, c.next, c.next⟩, c1, v, true, base.next⟩ :: L) (by simp) (by simp; omega) e2 g1
           refine ⟨tm', c', v', L', np', mk', oq', nb', fr', ns', ws', a1, a2, fun hT => a3 (hT.store (ob := ob) (ob1 := ob1) hM ho rfl hw.symm rfl (fun _ => q2) (fun _ => q3) b4 rfl hnp.1.1 hnp.1.2 rfl
            (fun j hj => nsOk_ok hnp.2 j hj) (Nat.le_of_ble_eq_true hb) hob rfl hget (Nat.eq_of_beq_eq_true hc.1) hob1 d2 d3 d4 (Nat.le_of_ble_eq_true hc.2) g3 g2)⟩
          ·cases d1
         ·cases b1
        ·cases s1
end
end Go.Can
namespace Go.Can
open Go
variable [Glob]
set_option linter.unusedSectionVars false
section
variable {P : Program} {r : Rec} {ops : Array Oper} {base : CW} {tm0 : T Value} {nt M : Nat}

theorem joinK_ok {M : Nat} : ∀ {l : List Oper} {i : Nat} {k : Nat → Nat → Bool}, joinK M i l k = true → ∃ a W, k a W = true
 | [], i, k, h => ⟨_, _, h⟩
 | o :: l, i, k, h => by
  simp only [joinK, natK_eq] at h
  obtain ⟨a, W, h⟩ := joinK_ok h
  split at h
  ·exact ⟨_, _, h⟩
  ·exact ⟨_, _, h⟩

theorem drawOk (hP : Fair P) {r : Rec} (hr : Ok P r) : DrawOk P r := by
 intro nt ops tm ds c k h
 unfold goDraw at h
 rw [natK_eq] at h
 obtain ⟨acc, W, h⟩ := joinK_ok h
 split at h
 ·next hpl =>
  have hM := planB_ok hpl
  obtain ⟨hp, nx, lo⟩ := c
  obtain ⟨tm', c', v', L', np', mk', oq', nb', fr', ns', ws', a1, a2, a3⟩ := goTail_ok (base := ⟨hp, nx, lo⟩) (tm0 := tm) hP hr hM ops.toList 0 0 0 0 nx [] [] [] tm ds ⟨hp, nx, lo⟩ k [] rfl (by simp) rfl h
  refine ⟨tm', c', v', a1, fun id rd f a w rd' hrd ht hd hh Q hQ => ?_⟩
  have hT := a3 (Ts.start hh.live)
  have hl := hT.links
  have hC : Chain P ops ⟨hp, nx, lo⟩ tm nt (befM (infoGo 0 ops.toList 0)) L' :=
   ⟨a2, hl.op, hl.want, hl.tmr1, hl.tmr2, hl.run, hl.idle, hl.nx, hl.lim, fun i s ha hdk => hl.live i s ha fun j t hj _ hb => hdk j t hj hb, hl.order,
    fun L2 s L1 e S hS hdk => hl.frag L2 s L1 e S hS fun j t hj hb => hdk j t (by obtain ⟨M2, M1, rfl, rfl⟩ := hj; exact ⟨L2 ++ s :: M2, M1, by rw [e]; simp, rfl⟩) hb,
    fun i s j t ha hb hij hdk => hl.apt i s j t ha hb hij fun k u hu _ hk => hdk k u hu hk, hl.tms, hl.pairs, hl.dst, hl.full, hM.closed, hM.back⟩
  exact drawn_code hP hC hM.noSelect hT.ends id rd ds f a w rd' hrd ht hd hh Q hQ
 ·cases h

/-- **A function without arguments that the evaluator runs to a result which 'chk' takes does so at every world, and leaves what was there as it was.** -/
theorem runs_sound (hP : Fair P) {n : Nat} {g : FuncId} {gl : List (Nat × CObj)} {chk : Value → Bool} (h : runs P n g gl chk = true) (w : World) (hw : GW gl w) :
  ∃ v, chk v = true ∧ CallsIn (FW none) 0 P g #[] w (retK fun v' w' => (∃ f', VR f' v v') ∧ w.heap.size ≤ w'.heap.size ∧ (∀ i, i < w.heap.size → w'.heap[i]? = w.heap[i]?) ∧ w'.tape = w.tape ∧ w'.os = w.os ∧ w'.output = w.output) :=
 runs_ok hP (fun _ hr => drawOk hP hr) h w hw
end
end Go.Can
