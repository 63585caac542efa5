/- A part of the proof: see the last file. -/
import Derived.Test.YtdilcbocnndkmaaGreatDoorCf
set_option linter.unusedVariables false
set_option linter.unusedSimpArgs false
set_option linter.unusedSectionVars false
namespace Go.Can
open Go
variable [Glob]
set_option linter.unusedSectionVars false

theorem At.cons_iff {L : List St} {s t : St} {i : Nat} : At (s :: L) i t ↔ (i = L.length ∧ t = s) ∨ At L i t := by
  constructor
  · rintro ⟨L2, L1, h, rfl⟩
    cases L2 with
    | nil => simp at h; exact .inl ⟨by rw [h.2], h.1.symm⟩
    | cons x L2 => simp at h; exact .inr ⟨L2, L1, h.2, rfl⟩
  · rintro (⟨rfl, rfl⟩ | ⟨L2, L1, rfl, rfl⟩)
    · exact ⟨[], L, rfl, rfl⟩
    · exact ⟨s :: L2, L1, rfl, rfl⟩
theorem At.mem {L : List St} {i : Nat} {t : St} (h : At L i t) : t ∈ L := by obtain ⟨L2, L1, rfl, _⟩ := h; simp
theorem At.of_mem {L : List St} {t : St} (h : t ∈ L) : ∃ i, At L i t := by
  obtain ⟨L2, L1, rfl⟩ := List.append_of_mem h
  exact ⟨L1.length, L2, L1, rfl, rfl⟩

/-- Chain, as it grows -/
structure Links (P : Program) (ops : Array Oper) (base : CW) (tm0 : T Value) (nt : Nat) (bef : Nat → Nat → Bool) (L : List St) : Prop where
  op : ∀ i s, At L i s → ops[i]? = some s.o
  want : ∀ i s, At L i s → s.wanted = wantedB ops.toList s.o s.tm
  tmr1 : ∀ i s, At L i s → s.wanted = true → ∀ t, Operand.tmp t ∈ s.o.op.operands → undefd (s.tmr.get t) = undefd (s.tm.get t)
  tmr2 : ∀ i s, At L i s → s.wanted = true → ∀ t, Operand.tmp t ∉ s.o.op.operands → undefd (s.tmr.get t) = undef
  run : ∀ i s, At L i s → s.wanted = true → Jop P s.o s.tmr s.pre s.v s.post
  idle : ∀ i s, At L i s → s.wanted = false → s.v = undef ∧ s.post = s.pre ∧ ∀ b, s.pre.get b = none
  nx : ∀ i s, At L i s → base.next ≤ s.pre.next
  live : ∀ i s, At L i s → (∀ j t, At L j t → j < i → bef i j = true → DK t) → ∀ b, (s.pre.get b).isSome = true → b < s.pre.next
  order : ∀ L2 s L1, L = L2 ++ s :: L1 → ∀ t ∈ L1, t.post.next ≤ s.pre.next
  frag : ∀ L2 s L1, L = L2 ++ s :: L1 → ∀ S : Nat → Bool, (∀ j, bef L1.length j = true → S j = true) → (∀ j t, At L1 j t → bef L1.length j = true → DK t) → ∀ b o, s.pre.get b = some o → CS base S L1 b = some o
  apt : ∀ i s j t, At L i s → At L j t → i < j → ∀ b, s.has b → t.tch base.next b → bef j i = true
  tms : ∀ L2 s L1, L = L2 ++ s :: L1 → ∀ t, undefd (s.tm.get t) = CV tm0 (fun _ => true) L1 t
  pairs : ∀ i s j t, At L i s → At L j t → i < j → bef j i = true ∨ s.o.apart ops t.o = true
  dst : ∀ i s, At L i s → ∀ d, s.o.dst = some d → d < nt
  full : ∀ i s, At L i s → s.full = false → base.next ≤ s.post.low

section
variable {P : Program} {ops : Array Oper} {base : CW} {tm0 : T Value} {nt : Nat} {bef : Nat → Nat → Bool} {L : List St}

theorem Links.nil : Links P ops base tm0 nt bef [] := by
  have no : ∀ {i s}, ¬ At ([] : List St) i s := fun ⟨L2, L1, h, _⟩ => by simp at h
  have no2 : ∀ {L2 s L1}, ¬ ([] : List St) = L2 ++ s :: L1 := fun h => by simp at h
  exact ⟨fun _ _ h => (no h).elim, fun _ _ h => (no h).elim, fun _ _ h => (no h).elim, fun _ _ h => (no h).elim, fun _ _ h => (no h).elim, fun _ _ h => (no h).elim, fun _ _ h => (no h).elim,
    fun _ _ h => (no h).elim, fun _ _ _ h => (no2 h).elim, fun _ _ _ h => (no2 h).elim, fun _ _ _ _ h => (no h).elim, fun _ _ _ h => (no2 h).elim, fun _ _ _ _ h => (no h).elim, fun _ _ h => (no h).elim, fun _ _ h => (no h).elim⟩

theorem Links.cons (h : Links P ops base tm0 nt bef L) {s : St} (hop : ops[L.length]? = some s.o) (hwant : s.wanted = wantedB ops.toList s.o s.tm)
    (h1 : s.wanted = true → ∀ t, Operand.tmp t ∈ s.o.op.operands → undefd (s.tmr.get t) = undefd (s.tm.get t)) (h2 : s.wanted = true → ∀ t, Operand.tmp t ∉ s.o.op.operands → undefd (s.tmr.get t) = undef)
    (hrun : s.wanted = true → Jop P s.o s.tmr s.pre s.v s.post) (hidle : s.wanted = false → s.v = undef ∧ s.post = s.pre ∧ ∀ b, s.pre.get b = none) (hnx : base.next ≤ s.pre.next)
    (hlive : (∀ j t, At L j t → bef L.length j = true → DK t) → ∀ b, (s.pre.get b).isSome = true → b < s.pre.next) (hord : ∀ t ∈ L, t.post.next ≤ s.pre.next)
    (hfrag : ∀ S : Nat → Bool, (∀ j, bef L.length j = true → S j = true) → (∀ j t, At L j t → bef L.length j = true → DK t) → ∀ b o, s.pre.get b = some o → CS base S L b = some o)
    (hapt : ∀ i t, At L i t → ∀ b, t.has b → s.tch base.next b → bef L.length i = true) (htms : ∀ t, undefd (s.tm.get t) = CV tm0 (fun _ => true) L t)
    (hpairs : ∀ i t, At L i t → bef L.length i = true ∨ t.o.apart ops s.o = true) (hdst : ∀ d, s.o.dst = some d → d < nt) (hfull : s.full = false → base.next ≤ s.post.low) :
    Links P ops base tm0 nt bef (s :: L) := by
  have split : ∀ {L2 t L1}, s :: L = L2 ++ t :: L1 → (t = s ∧ L1 = L) ∨ ∃ L2', L = L2' ++ t :: L1 := fun {L2 t L1} e => by
    cases L2 with
    | nil => simp at e; exact .inl ⟨e.1.symm, e.2.symm⟩
    | cons x L2 => simp at e; exact .inr ⟨L2, e.2⟩
  refine ⟨?_, ?_, ?_, ?_, ?_, ?_, ?_, ?_, ?_, ?_, ?_, ?_, ?_, ?_, ?_⟩
  · intro i t ha; rcases At.cons_iff.1 ha with ⟨rfl, rfl⟩ | ha <;> first | exact hop | exact h.op i t ha
  · intro i t ha; rcases At.cons_iff.1 ha with ⟨rfl, rfl⟩ | ha <;> first | exact hwant | exact h.want i t ha
  · intro i t ha; rcases At.cons_iff.1 ha with ⟨rfl, rfl⟩ | ha <;> first | exact h1 | exact h.tmr1 i t ha
  · intro i t ha; rcases At.cons_iff.1 ha with ⟨rfl, rfl⟩ | ha <;> first | exact h2 | exact h.tmr2 i t ha
  · intro i t ha; rcases At.cons_iff.1 ha with ⟨rfl, rfl⟩ | ha <;> first | exact hrun | exact h.run i t ha
  · intro i t ha; rcases At.cons_iff.1 ha with ⟨rfl, rfl⟩ | ha <;> first | exact hidle | exact h.idle i t ha
  · intro i t ha; rcases At.cons_iff.1 ha with ⟨rfl, rfl⟩ | ha <;> first | exact hnx | exact h.nx i t ha
  · intro i t ha hd
    rcases At.cons_iff.1 ha with ⟨rfl, rfl⟩ | ha
    · exact hlive fun j u hu hb => hd j u (At.cons_iff.2 (.inr hu)) hu.get hb
    · exact h.live i t ha fun j u hu hj hb => hd j u (At.cons_iff.2 (.inr hu)) hj hb
  · intro L2 t L1 e
    rcases split e with ⟨rfl, rfl⟩ | ⟨L2', e⟩ <;> first | exact hord | exact h.order L2' t L1 e
  · intro L2 t L1 e
    rcases split e with ⟨rfl, rfl⟩ | ⟨L2', e⟩ <;> first | exact hfrag | exact h.frag L2' t L1 e
  · intro i t j u ha hu hij
    rcases At.cons_iff.1 hu with ⟨e1, e2⟩ | hu'
    · rcases At.cons_iff.1 ha with ⟨e3, e4⟩ | ha'
      · omega
      · subst e1; subst e2; exact hapt i t ha'
    · rcases At.cons_iff.1 ha with ⟨e3, e4⟩ | ha'
      · have := hu'.get; omega
      · exact h.apt i t j u ha' hu' hij
  · intro L2 t L1 e
    rcases split e with ⟨rfl, rfl⟩ | ⟨L2', e⟩ <;> first | exact htms | exact h.tms L2' t L1 e
  · intro i t j u ha hu hij
    rcases At.cons_iff.1 hu with ⟨e1, e2⟩ | hu'
    · rcases At.cons_iff.1 ha with ⟨e3, e4⟩ | ha'
      · omega
      · subst e1; subst e2; exact hpairs i t ha'
    · rcases At.cons_iff.1 ha with ⟨e3, e4⟩ | ha'
      · have := hu'.get; omega
      · exact h.pairs i t j u ha' hu' hij
  · intro i t ha; rcases At.cons_iff.1 ha with ⟨rfl, rfl⟩ | ha <;> first | exact hdst | exact h.dst i t ha
  · intro i t ha; rcases At.cons_iff.1 ha with ⟨rfl, rfl⟩ | ha <;> first | exact hfull | exact h.full i t ha
end
end Go.Can
namespace Go.Can
open Go
variable [Glob]
set_option linter.unusedSectionVars false

/-! ### What the plan of a region says -/
def befM (M : Nat) (i j : Nat) : Bool := Nat.testBit (maskAt M i) j

theorem maskOf_bit {M i : Nat} : ∀ {l : List Edge} {m j : Nat}, Nat.testBit (maskOf M i l m) j = true →
    Nat.testBit m j = true ∨ ∃ e ∈ l, Region.binds .any e = true ∧ e.on < i ∧ (j = e.on ∨ befM M e.on j = true)
  | [], m, j, h => .inl h
  | e :: l, m, j, h => by
    simp only [maskOf] at h
    split at h
    · next hb =>
      simp only [Bool.and_eq_true] at hb
      have hlt : e.on < i := Nat.le_of_ble_eq_true hb.2
      rcases maskOf_bit h with h1 | ⟨e', he', h2⟩
      · have h1' : Nat.testBit (m ||| (2 ^ e.on ||| maskAt M e.on)) j = true := h1
        rw [Nat.testBit_or, Nat.testBit_or, Bool.or_eq_true, Bool.or_eq_true] at h1'
        rcases h1' with h3 | h3 | h3
        · exact .inl h3
        · refine .inr ⟨e, by simp, hb.1, hlt, .inl ?_⟩
          rw [Nat.testBit_two_pow] at h3
          simpa using (by simpa using h3 : e.on = j).symm
        · exact .inr ⟨e, by simp, hb.1, hlt, .inr h3⟩
      · exact .inr ⟨e', by simp [he'], h2⟩
    · rcases maskOf_bit h with h1 | ⟨e', he', h2⟩
      · exact .inl h1
      · exact .inr ⟨e', by simp [he'], h2⟩

theorem backB_ok {i : Nat} : ∀ {l : List Edge}, backB i l = true → ∀ e ∈ l, Region.binds .any e = true → e.on < i
  | [], _, e, he, _ => by cases he
  | x :: l, h, e, he, hb => by
    simp only [backB] at h
    split at h
    · cases h
    · next hn =>
      rcases List.mem_cons.1 he with rfl | he
      · rw [hb, Bool.true_and] at hn
        have := Nat.not_le_of_not_ble_eq_true (by rw [hn]; simp)
        omega
      · exact backB_ok h e he hb

theorem infoOk_ok {M : Nat} : ∀ {l : List Oper} {k : Nat}, infoOk M k l = true → ∀ i o, l[i]? = some o → maskAt M (k + i) = maskOf M (k + i) o.after.toList 0 ∧ backB (k + i) o.after.toList = true
  | [], k, _, i, o, ho => by simp at ho
  | x :: l, k, h, i, o, ho => by
    simp only [infoOk] at h
    split at h
    · next hx =>
      simp only [Bool.and_eq_true] at hx
      cases i with
      | zero => simp at ho; subst ho; exact ⟨Nat.eq_of_beq_eq_true hx.1, hx.2⟩
      | succ i =>
        have := infoOk_ok h i o (by simpa using ho)
        rwa [show k + 1 + i = k + (i + 1) from by omega] at this
    · cases h
theorem pairB_ok {ops : Array Oper} {M i : Nat} {x : Oper} : ∀ {l : List Oper} {k : Nat}, pairB ops M i x k l = true → ∀ j y, l[j]? = some y → befM M (k + j) i = true ∨ x.apart ops y = true
  | [], k, _, j, y, hy => by simp at hy
  | z :: l, k, h, j, y, hy => by
    simp only [pairB] at h
    split at h
    · next hz =>
      simp only [Bool.or_eq_true] at hz
      cases j with
      | zero => simp at hy; subst hy; exact hz
      | succ j =>
        have := pairB_ok h j y (by simpa using hy)
        rwa [show k + 1 + j = k + (j + 1) from by omega] at this
    · cases h
theorem pairsB_ok {ops : Array Oper} {M : Nat} : ∀ {l : List Oper} {k : Nat}, pairsB ops M k l = true → ∀ i j x y, i < j → l[i]? = some x → l[j]? = some y → befM M (k + j) (k + i) = true ∨ x.apart ops y = true
  | [], k, _, i, j, x, y, _, hx, _ => by simp at hx
  | z :: l, k, h, i, j, x, y, hij, hx, hy => by
    simp only [pairsB] at h
    split at h
    · next hz =>
      cases j with
      | zero => omega
      | succ j =>
        cases i with
        | zero =>
          simp at hx; subst hx
          have := pairB_ok hz j y (by simpa using hy)
          rwa [show k + 1 + j = k + (j + 1) from by omega] at this
        | succ i =>
          have := pairsB_ok h i j x y (by omega) (by simpa using hx) (by simpa using hy)
          rwa [show k + 1 + j = k + (j + 1) from by omega, show k + 1 + i = k + (i + 1) from by omega] at this
    · cases h

structure Plan (ops : Array Oper) (M : Nat) : Prop where
  mask : ∀ i o, ops[i]? = some o → maskAt M i = maskOf M i o.after.toList 0
  back : ∀ i o, ops[i]? = some o → ∀ e ∈ o.after, Region.binds .any e = true → e.on < i
  pairs : ∀ i j x y, i < j → ops[i]? = some x → ops[j]? = some y → befM M j i = true ∨ x.apart ops y = true
  noSelect : Region.noSelect ops = true
theorem planB_ok {ops : Array Oper} {M : Nat} (h : planB ops M = true) : Plan ops M := by
  simp only [planB, Bool.and_eq_true] at h
  obtain ⟨⟨h1, h2⟩, h3⟩ := h
  refine ⟨fun i o ho => ?_, fun i o ho e he hb => ?_, fun i j x y hij hx hy => ?_, h3⟩
  · have := (infoOk_ok h1 i o (by simpa using ho)).1
    rwa [Nat.zero_add] at this
  · have := (infoOk_ok h1 i o (by simpa using ho)).2
    rw [Nat.zero_add] at this
    exact backB_ok this e (by simpa using he) hb
  · have := pairsB_ok h2 i j x y hij (by simpa using hx) (by simpa using hy)
    rwa [Nat.zero_add, Nat.zero_add] at this
theorem Plan.closed {ops : Array Oper} {M : Nat} (h : Plan ops M) (listed : Array Bool) (hcl : ∀ i o, ops[i]? = some o → listed.getD i false = true → ∀ e ∈ o.after, Region.binds .any e = true → listed.getD e.on false = true) :
    ∀ i, i ∈ Region.ready .any ops listed → ∀ j, befM M i j = true → listed.getD j false = true := by
  have main : ∀ i o, ops[i]? = some o → (∀ e ∈ o.after, Region.binds .any e = true → listed.getD e.on false = true) → ∀ j, befM M i j = true → listed.getD j false = true := by
    intro i
    induction i using Nat.strongRecOn with
    | _ i ih =>
      intro o ho hd j hj
      unfold befM at hj
      rw [h.mask i o ho] at hj
      rcases maskOf_bit hj with h1 | ⟨e, he, hb, hlt, hje⟩
      · simp at h1
      · have he' : e ∈ o.after := by simpa using he
        have hl := hd e he' hb
        rcases hje with rfl | hje
        · exact hl
        · have hi := (Array.getElem?_eq_some_iff.1 ho).1
          obtain ⟨o', ho'⟩ : ∃ o', ops[e.on]? = some o' := ⟨ops[e.on], by simp [show e.on < ops.size by omega]⟩
          exact ih e.on hlt o' ho' (hcl e.on o' ho' hl) j hje
  intro i hi
  obtain ⟨_, o, ho, hd⟩ := mem_ready.1 hi
  exact main i o ho hd
end Go.Can
namespace Go.Can
open Go
variable [Glob]
set_option linter.unusedSectionVars false

theorem givenB_ok {m : Nat} {x : Fr} (h : givenB m x = true) {j : Nat} (hj : Nat.testBit x.by_ j = true) : Nat.testBit m j = true := by
  unfold givenB at h
  have e : x.by_ &&& m = x.by_ := Nat.eq_of_beq_eq_true h
  rw [← e, Nat.testBit_and, Bool.and_eq_true] at hj
  exact hj.2
theorem lor_bit {a i j : Nat} : Nat.testBit (Nat.lor a (Nat.pow 2 i)) j = true ↔ Nat.testBit a j = true ∨ j = i := by
  have : Nat.testBit (a ||| 2 ^ i) j = (Nat.testBit a j || decide (i = j)) := by rw [Nat.testBit_or, Nat.testBit_two_pow]
  show Nat.testBit (a ||| 2 ^ i) j = true ↔ _
  rw [this, Bool.or_eq_true, decide_eq_true_eq]
  exact ⟨fun h => h.imp id Eq.symm, fun h => h.imp id Eq.symm⟩
theorem pow_bit {i j : Nat} : Nat.testBit (Nat.pow 2 i) j = true ↔ j = i := by
  show Nat.testBit (2 ^ i) j = true ↔ _
  rw [Nat.testBit_two_pow, decide_eq_true_eq]
  exact ⟨Eq.symm, Eq.symm⟩

theorem giveK_ok {m : Nat} : ∀ {l : List Fr} {h : T CObj} {k : T CObj → Bool}, giveK m l h k = true →
    ∃ h', k h' = true ∧ (∀ b o, h'.get b = some o → (∃ x ∈ l, givenB m x = true ∧ x.blk = b ∧ x.obj = o) ∨ h.get b = some o) ∧ (∀ x ∈ l, givenB m x = true → (h'.get x.blk).isSome = true) ∧ ∀ b, (h.get b).isSome = true → (h'.get b).isSome = true
  | [], h, k, e => ⟨h, e, fun b o e => .inr e, fun x hx => (by cases hx), fun b hb => hb⟩
  | x :: l, h, k, e => by
    simp only [giveK] at e
    split at e
    · next hg =>
      obtain ⟨h1, e1, e2⟩ := T.put_ok e
      obtain ⟨h', g1, g2, g3, g4⟩ := giveK_ok e1
      refine ⟨h', g1, fun b o hb => ?_, fun y hy hyg => ?_, fun b hb => g4 b ?_⟩
      · rcases g2 b o hb with ⟨y, hy, h2⟩ | h2
        · exact .inl ⟨y, by simp [hy], h2⟩
        · rw [e2] at h2
          by_cases hbx : b = x.blk
          · rw [if_pos hbx] at h2; cases h2; exact .inl ⟨x, by simp, hg, hbx.symm, rfl⟩
          · rw [if_neg hbx] at h2; exact .inr h2
      · rcases List.mem_cons.1 hy with rfl | hy
        · exact g4 _ (by rw [e2, if_pos rfl]; rfl)
        · exact g3 y hy hyg
      · rw [e2]; by_cases hbx : b = x.blk
        · rw [if_pos hbx]; rfl
        · rw [if_neg hbx]; exact hb
    · next hg =>
      obtain ⟨h', g1, g2, g3, g4⟩ := giveK_ok e
      refine ⟨h', g1, fun b o hb => ?_, fun y hy hyg => ?_, g4⟩
      · rcases g2 b o hb with ⟨y, hy, h2⟩ | h2
        · exact .inl ⟨y, by simp [hy], h2⟩
        · exact .inr h2
      · rcases List.mem_cons.1 hy with rfl | hy
        · rw [hg] at hyg; cases hyg
        · exact g3 y hy hyg
theorem mergeK_ok : ∀ {l : List Fr} {h : T CObj} {k : T CObj → Bool}, mergeK l h k = true →
    ∃ h', k h' = true ∧ (∀ b o, h'.get b = some o → (∃ x ∈ l, x.blk = b ∧ x.obj = o) ∨ h.get b = some o) ∧ ∀ b, (∀ x ∈ l, x.blk ≠ b) → h'.get b = h.get b
  | [], h, k, e => ⟨h, e, fun b o e => .inr e, fun b _ => rfl⟩
  | x :: l, h, k, e => by
    simp only [mergeK] at e
    obtain ⟨h1, e1, e2⟩ := T.put_ok e
    obtain ⟨h', g1, g2, g3⟩ := mergeK_ok e1
    refine ⟨h', g1, fun b o hb => ?_, fun b hb => ?_⟩
    · rcases g2 b o hb with ⟨y, hy, h2⟩ | h2
      · exact .inl ⟨y, by simp [hy], h2⟩
      · rw [e2] at h2
        by_cases hbx : b = x.blk
        · rw [if_pos hbx] at h2; cases h2; exact .inl ⟨x, by simp, hbx.symm, rfl⟩
        · rw [if_neg hbx] at h2; exact .inr h2
    · rw [g3 b fun y hy => hb y (by simp [hy]), e2, if_neg (fun e => hb x (by simp) e.symm)]
/-- the list afterwards: each old entry, given or not; in any order -/
theorem frOld_ok {m i : Nat} {hg h : T CObj} : ∀ {l acc : List Fr} {k : List Fr → Bool}, frOld m i hg h l acc k = true →
    ∃ l', k l' = true ∧ ∀ y ∈ l', y ∈ acc ∨ ∃ x ∈ l, y.blk = x.blk ∧ ((givenB m x = false ∧ y = x ∧ hg.get x.blk = none) ∨ (givenB m x = true ∧ h.get x.blk = some y.obj ∧ y.by_ = Nat.lor x.by_ (Nat.pow 2 i)))
  | [], acc, k, e => ⟨acc, e, fun y hy => .inl hy⟩
  | x :: l, acc, k, e => by
    simp only [frOld] at e
    split at e
    · next hg =>
      split at e
      · next o ho =>
        rw [natK_eq] at e
        obtain ⟨l', g1, g2⟩ := frOld_ok e
        refine ⟨l', g1, fun y hy => ?_⟩
        rcases g2 y hy with h1 | ⟨z, hz, h1⟩
        · rcases List.mem_cons.1 h1 with rfl | h1
          · exact .inr ⟨x, by simp, rfl, .inr ⟨hg, ho, rfl⟩⟩
          · exact .inl h1
        · exact .inr ⟨z, by simp [hz], h1⟩
      · cases e
    · next hgv =>
      split at e
      · cases e
      · next hn =>
        obtain ⟨l', g1, g2⟩ := frOld_ok e
        refine ⟨l', g1, fun y hy => ?_⟩
        rcases g2 y hy with h1 | ⟨z, hz, h1⟩
        · rcases List.mem_cons.1 h1 with rfl | h1
          · exact .inr ⟨y, by simp, rfl, .inl ⟨hgv, rfl, hn⟩⟩
          · exact .inl h1
        · exact .inr ⟨z, by simp [hz], h1⟩
theorem frNew_ok {i : Nat} {h : T CObj} : ∀ {n b : Nat} {acc : List Fr} {k : List Fr → Bool}, frNew i h n b acc k = true →
    ∃ l', k l' = true ∧ ∀ y ∈ l', y ∈ acc ∨ (b ≤ y.blk ∧ y.blk < b + n ∧ h.get y.blk = some y.obj ∧ y.by_ = Nat.pow 2 i)
  | 0, b, acc, k, e => ⟨acc, e, fun y hy => .inl hy⟩
  | n+1, b, acc, k, e => by
    simp only [frNew] at e
    split at e
    · next o ho =>
      rw [natK_eq] at e
      obtain ⟨l', g1, g2⟩ := frNew_ok e
      refine ⟨l', g1, fun y hy => ?_⟩
      rcases g2 y hy with h1 | ⟨h1, h2, h3⟩
      · rcases List.mem_cons.1 h1 with rfl | h1
        · exact .inr ⟨Nat.le_refl _, by dsimp only; omega, ho, rfl⟩
        · exact .inl h1
      · exact .inr ⟨by omega, by omega, h3⟩
    · rw [natK_eq] at e
      obtain ⟨l', g1, g2⟩ := frNew_ok e
      refine ⟨l', g1, fun y hy => ?_⟩
      rcases g2 y hy with h1 | ⟨h1, h2, h3⟩
      · exact .inl h1
      · exact .inr ⟨by omega, by omega, h3⟩
theorem restrK_ok {tm : T Value} : ∀ {l : List Operand} {acc : T Value} {k : T Value → Bool}, restrK tm l acc k = true →
    ∃ tm', k tm' = true ∧ (∀ t, Operand.tmp t ∈ l → undefd (tm'.get t) = undefd (tm.get t)) ∧ ∀ t, Operand.tmp t ∉ l → tm'.get t = acc.get t
  | [], acc, k, e => ⟨acc, e, fun t ht => (by cases ht), fun t _ => rfl⟩
  | .tmp t :: l, acc, k, e => by
    simp only [restrK] at e
    obtain ⟨a1, e1, e2⟩ := T.put_ok e
    obtain ⟨tm', g1, g2, g3⟩ := restrK_ok e1
    refine ⟨tm', g1, fun u hu => ?_, fun u hu => ?_⟩
    · by_cases hl : Operand.tmp u ∈ l
      · exact g2 u hl
      · have : u = t := by
          rcases List.mem_cons.1 hu with h | h
          · cases h; rfl
          · exact absurd h hl
        subst this
        rw [g3 u hl, e2, if_pos rfl]; rfl
    · rw [g3 u (fun h => hu (by simp [h])), e2, if_neg (fun h => hu (by simp [h]))]
  | .const v :: l, acc, k, e => by
    simp only [restrK] at e
    obtain ⟨tm', g1, g2, g3⟩ := restrK_ok e
    exact ⟨tm', g1, fun u hu => g2 u (by simpa using hu), fun u hu => g3 u (fun h => hu (by simp [h]))⟩
  | .global v :: l, acc, k, e => by
    simp only [restrK] at e
    obtain ⟨tm', g1, g2, g3⟩ := restrK_ok e
    exact ⟨tm', g1, fun u hu => g2 u (by simpa using hu), fun u hu => g3 u (fun h => hu (by simp [h]))⟩
  | .func v :: l, acc, k, e => by
    simp only [restrK] at e
    obtain ⟨tm', g1, g2, g3⟩ := restrK_ok e
    exact ⟨tm', g1, fun u hu => g2 u (by simpa using hu), fun u hu => g3 u (fun h => hu (by simp [h]))⟩
end Go.Can
namespace Go.Can
open Go
variable [Glob]
set_option linter.unusedSectionVars false

/-- what holds along the evaluation of a drawn region, in both of its parts -/
structure Ds (P : Program) (ops : Array Oper) (base : CW) (tm0 : T Value) (nt M : Nat) (L : List St) (tm : T Value) (nxt mk : Nat) : Prop where
  links : Links P ops base tm0 nt (befM M) L
  tms : ∀ t, undefd (tm.get t) = CV tm0 (fun _ => true) L t
  ord : ∀ t ∈ L, t.post.next ≤ nxt
  nx : base.next ≤ nxt
  np : ∀ i t, At L i t → ∀ b, t.has b → Nat.testBit mk i = true
  npLt : ∀ j, Nat.testBit mk j = true → j < L.length

section
variable {P : Program} {ops : Array Oper} {base : CW} {tm0 : T Value} {nt M : Nat} {L : List St} {tm tm1 : T Value} {nx np : Nat}

theorem CV_cons {s : St} {t : Tmp} : CV tm0 (fun _ => true) (s :: L) t = if s.o.dst = some t then s.v else CV tm0 (fun _ => true) L t := by
  unfold CV
  simp only [pick]
  by_cases h : s.o.dst = some t
  · rw [if_pos ⟨trivial, h⟩, if_pos h]
  · rw [if_neg (fun x => h x.2), if_neg h]
theorem Ds.put (hD : Ds P ops base tm0 nt M L tm nx np) {s : St} (ht : ∀ j, tm1.get j = if s.o.dst = some j then some s.v else tm.get j) : ∀ t, undefd (tm1.get t) = CV tm0 (fun _ => true) (s :: L) t := fun t => by
  rw [CV_cons, ht]
  by_cases h : s.o.dst = some t
  · rw [if_pos h, if_pos h]; rfl
  · rw [if_neg h, if_neg h]; exact hD.tms t
theorem Ds.pairs (hD : Ds P ops base tm0 nt M L tm nx np) (hM : Plan ops M) {o : Oper} (ho : ops[L.length]? = some o) : ∀ i t, At L i t → befM M L.length i = true ∨ t.o.apart ops o = true :=
  fun i t ha => hM.pairs i L.length t.o o ha.get (hD.links.op i t ha) ho

/-- an operation that sees no block and makes none -/
theorem Ds.light (hD : Ds P ops base tm0 nt M L tm nx np) (hM : Plan ops M) {s : St} (ho : ops[L.length]? = some s.o) (htm : s.tm = tm) (hw : s.wanted = wantedB ops.toList s.o s.tm)
    (h1 : s.wanted = true → ∀ t, Operand.tmp t ∈ s.o.op.operands → undefd (s.tmr.get t) = undefd (s.tm.get t)) (h2 : s.wanted = true → ∀ t, Operand.tmp t ∉ s.o.op.operands → undefd (s.tmr.get t) = undef)
    (hrun : s.wanted = true → Jop P s.o s.tmr s.pre s.v s.post) (hidle : s.wanted = false → s.v = undef ∧ s.post = s.pre)
    (hnil : ∀ b, s.pre.get b = none) (hpre : s.pre.next = nx) (hpost : s.post.next = nx) (hlow : base.next ≤ s.post.low) (hdst : ∀ d, s.o.dst = some d → d < nt)
    (ht : ∀ j, tm1.get j = if s.o.dst = some j then some s.v else tm.get j) : Ds P ops base tm0 nt M (s :: L) tm1 nx np := by
  have no : ∀ b, ¬ s.has b := fun b h => by
    rcases h with h | h
    · rw [hnil] at h; cases h
    · omega
  refine ⟨hD.links.cons ho hw h1 h2 hrun (fun h => ⟨(hidle h).1, (hidle h).2, hnil⟩) (by rw [hpre]; exact hD.nx) (fun _ b h => by rw [hnil] at h; cases h) (fun t h => by rw [hpre]; exact hD.ord t h)
    (fun _ _ _ b o h => by rw [hnil] at h; cases h) (fun _ _ _ b _ h => (no b h.1).elim) (fun t => by rw [htm]; exact hD.tms t) (hD.pairs hM ho) hdst (fun _ => hlow), hD.put ht, ?_, hD.nx, ?_, fun j hj => by have := hD.npLt j hj; simp; omega⟩
  · intro t h
    rcases List.mem_cons.1 h with rfl | h
    · rw [hpost]; exact Nat.le_refl _
    · exact hD.ord t h
  · intro i t ha b hb
    rcases At.cons_iff.1 ha with ⟨_, e⟩ | ha
    · rw [e] at hb; exact (no b hb).elim
    · exact hD.np i t ha b hb
end
end Go.Can
namespace Go.Can
open Go
variable [Glob]
set_option linter.unusedSectionVars false

theorem land_bit {a m j : Nat} (h : Nat.beq (Nat.land a m) a = true) (hj : Nat.testBit a j = true) : Nat.testBit m j = true := by
  have e : a &&& m = a := Nat.eq_of_beq_eq_true h
  rw [← e, Nat.testBit_and, Bool.and_eq_true] at hj
  exact hj.2

/-- what holds along the second part of a drawn region -/
structure Ts (P : Program) (ops : Array Oper) (base : CW) (tm0 : T Value) (nt M : Nat) (L : List St) (tm : T Value) (c : CW) (nq mk : Nat) (ns ws : List (Nat × Nat)) : Prop extends Ds P ops base tm0 nt M L tm c.next mk where
  cov : ∀ i t, At L i t → ∀ b, t.has b → Nat.testBit nq i = true ∨ (i, b) ∈ ns
  npm : ∀ j, Nat.testBit nq j = true → Nat.testBit mk j = true
  nsm : ∀ j b, (j, b) ∈ ns → Nat.testBit mk j = true
  wsn : ∀ j b, (j, b) ∈ ws → (j, b) ∈ ns
  heap : ∀ b o, c.get b = some o → ∀ S : Nat → Bool, (∀ j, Nat.testBit nq j = true → S j = true) → (∀ j, (j, b) ∈ ws → S j = true) → (∀ j t, At L j t → Nat.testBit nq j = true ∨ (j, b) ∈ ws → DK t) → CS base S L b = some o
  live : (∀ j t, At L j t → Nat.testBit mk j = true → DK t) → ∀ b, (c.get b).isSome = true → b < c.next
  low : (∀ j t, At L j t → DK t) → c.low ≤ base.low ∧ ∀ i t, At L i t → t.full = true → c.low ≤ t.post.low
  kept : (∀ j t, At L j t → DK t) → ∀ b, b < base.next → b < c.low → c.get b = base.get b
  dead : (∀ j t, At L j t → DK t) → ∀ b, b < base.next → base.get b = none → c.get b = none

section
variable {P : Program} {ops : Array Oper} {base : CW} {tm0 : T Value} {nt M : Nat} {L : List St} {tm tm1 : T Value} {c : CW} {np mk : Nat} {ns ws : List (Nat × Nat)}

theorem CS_light {S : Nat → Bool} {s : St} (no : ∀ b, ¬ s.has b) (b : Nat) : CS base S (s :: L) b = CS base S L b := by
  unfold CS
  simp only [pick]
  rw [if_neg (fun x => no b x.2.1)]

theorem Ts.light (hT : Ts P ops base tm0 nt M L tm c np mk ns ws) (hM : Plan ops M) {s : St} (ho : ops[L.length]? = some s.o) (htm : s.tm = tm) (hw : s.wanted = wantedB ops.toList s.o s.tm)
    (h1 : s.wanted = true → ∀ t, Operand.tmp t ∈ s.o.op.operands → undefd (s.tmr.get t) = undefd (s.tm.get t)) (h2 : s.wanted = true → ∀ t, Operand.tmp t ∉ s.o.op.operands → undefd (s.tmr.get t) = undef)
    (hrun : s.wanted = true → Jop P s.o s.tmr s.pre s.v s.post) (hidle : s.wanted = false → s.v = undef ∧ s.post = s.pre)
    (hnil : ∀ b, s.pre.get b = none) (hpre : s.pre.next = c.next) (hpost : s.post.next = c.next) (hlow : base.next ≤ s.post.low) (hnf : s.full = false) (hdst : ∀ d, s.o.dst = some d → d < nt)
    (ht : ∀ j, tm1.get j = if s.o.dst = some j then some s.v else tm.get j) : Ts P ops base tm0 nt M (s :: L) tm1 c np mk ns ws := by
  have no : ∀ b, ¬ s.has b := fun b h => by
    rcases h with h | h
    · rw [hnil] at h; cases h
    · omega
  have up : ∀ {j t}, At L j t → At (s :: L) j t := fun h => At.cons_iff.2 (.inr h)
  refine ⟨hT.toDs.light hM ho htm hw h1 h2 hrun hidle hnil hpre hpost hlow hdst ht, ?_, hT.npm, hT.nsm, hT.wsn, ?_, ?_, ?_, ?_, ?_⟩
  · intro i t ha b hb
    rcases At.cons_iff.1 ha with ⟨_, e⟩ | ha
    · rw [e] at hb; exact (no b hb).elim
    · exact hT.cov i t ha b hb
  · intro b o hb S hS hS2 hd
    rw [CS_light no]
    exact hT.heap b o hb S hS hS2 fun j t ha => hd j t (up ha)
  · exact fun hd => hT.live fun j t ha => hd j t (up ha)
  · intro hd
    obtain ⟨g1, g2⟩ := hT.low fun j t ha => hd j t (up ha)
    refine ⟨g1, fun i t ha hf => ?_⟩
    rcases At.cons_iff.1 ha with ⟨_, e⟩ | ha
    · rw [e, hnf] at hf; cases hf
    · exact g2 i t ha hf
  · exact fun hd => hT.kept fun j t ha => hd j t (up ha)
  · exact fun hd => hT.dead fun j t ha => hd j t (up ha)

/-- an operation that sees the whole heap -/
theorem Ts.whole (hT : Ts P ops base tm0 nt M L tm c np mk ns ws) (hM : Plan ops M) {s : St} (ho : ops[L.length]? = some s.o) (htm : s.tm = tm) (hw : s.wanted = wantedB ops.toList s.o s.tm) (hwt : s.wanted = true)
    (h1 : s.wanted = true → ∀ t, Operand.tmp t ∈ s.o.op.operands → undefd (s.tmr.get t) = undefd (s.tm.get t)) (h2 : s.wanted = true → ∀ t, Operand.tmp t ∉ s.o.op.operands → undefd (s.tmr.get t) = undef)
    (hrun : Jop P s.o s.tmr s.pre s.v s.post) (hpre : s.pre = c) (hf : s.full = true) (hnp : Nat.beq (Nat.land mk (maskAt M L.length)) mk = true) (hle : c.next ≤ s.post.next) (hdst : ∀ d, s.o.dst = some d → d < nt)
    (ht : ∀ j, tm1.get j = if s.o.dst = some j then some s.v else tm.get j) : Ts P ops base tm0 nt M (s :: L) tm1 s.post (Nat.lor mk (Nat.pow 2 L.length)) (Nat.lor mk (Nat.pow 2 L.length)) [] [] := by
  have up : ∀ {j t}, At L j t → At (s :: L) j t := fun h => At.cons_iff.2 (.inr h)
  have me : At (s :: L) L.length s := At.cons_iff.2 (.inl ⟨rfl, rfl⟩)
  have bit : ∀ j, Nat.testBit mk j = true → befM M L.length j = true := fun j hj => land_bit hnp hj
  have has' : DK s → ∀ b o, s.post.get b = some o → s.has b := fun hd b o hb => by
    by_cases hlt : b < s.pre.next
    · cases e : s.pre.get b with
      | none => rw [hd.dead b hlt e] at hb; cases hb
      | some o' => exact .inl (by rw [e]; rfl)
    · exact .inr ⟨by omega, hd.live b (by rw [hb]; rfl)⟩
  refine ⟨⟨hT.links.cons ho hw h1 h2 (fun _ => hrun) (fun h => by rw [hwt] at h; cases h) (by rw [hpre]; exact hT.nx) (fun hd b hb => ?_) (fun t h => by rw [hpre]; exact hT.ord t h)
    (fun S hS hd b o hb => ?_) (fun i t ha b hb _ => bit i (hT.np i t ha b hb)) (fun t => by rw [htm]; exact hT.tms t) (hT.toDs.pairs hM ho) hdst (fun h => by rw [hf] at h; cases h), hT.toDs.put ht, ?_, Nat.le_trans hT.nx hle, ?_, fun j hj => ?_⟩, ?_, fun _ h => h, fun _ _ h => (by cases h), fun _ _ h => (by cases h), ?_, ?_, ?_, ?_, ?_⟩
  · rw [hpre] at hb ⊢
    exact hT.live (fun j t ha hj => hd j t ha (bit j hj)) b hb
  · rw [hpre] at hb
    exact hT.heap b o hb S (fun j hj => hS j (bit j (hT.npm j hj))) (fun j hj => hS j (bit j (hT.nsm j b (hT.wsn j b hj)))) (fun j t ha hj => hd j t ha (bit j (hj.elim (hT.npm j) fun h => hT.nsm j b (hT.wsn j b h))))
  · intro t h
    rcases List.mem_cons.1 h with rfl | h
    · exact Nat.le_refl _
    · exact Nat.le_trans (hT.ord t h) hle
  · intro i t ha b hb
    rcases At.cons_iff.1 ha with ⟨e, _⟩ | ha
    · exact lor_bit.2 (.inr e)
    · exact lor_bit.2 (.inl (hT.np i t ha b hb))
  · rcases lor_bit.1 hj with h | h
    · have := hT.npLt j h; simp; omega
    · simp; omega
  · intro i t ha b hb
    rcases At.cons_iff.1 ha with ⟨e, _⟩ | ha
    · exact .inl (lor_bit.2 (.inr e))
    · exact .inl (lor_bit.2 (.inl (hT.np i t ha b hb)))
  · intro b o hb S hS _ hd
    have hh := has' (hd _ s me (.inl (lor_bit.2 (.inr rfl)))) b o hb
    unfold CS
    simp only [pick]
    rw [if_pos ⟨hS _ (lor_bit.2 (.inr rfl)), hh, .inr hf⟩]
    exact hb
  · exact fun hd b hb => (hd _ s me (lor_bit.2 (.inr rfl))).live b hb
  · intro hd
    obtain ⟨g1, g2⟩ := hT.low fun j t ha => hd j t (up ha)
    have hl := (hd _ s me).low
    rw [hpre] at hl
    refine ⟨Nat.le_trans hl g1, fun i t ha hft => ?_⟩
    rcases At.cons_iff.1 ha with ⟨_, e⟩ | ha
    · rw [e]; exact Nat.le_refl _
    · exact Nat.le_trans hl (g2 i t ha hft)
  · intro hd b hb hlow
    have hds := hd _ s me
    have hl := hds.low
    have hn := hT.nx
    rw [hds.kept b (by rw [hpre]; omega) hlow, hpre]
    rw [hpre] at hl
    exact hT.kept (fun j t ha => hd j t (up ha)) b hb (by omega)
  · intro hd b hb hn
    have hx := hT.nx
    refine (hd _ s me).dead b (by rw [hpre]; omega) ?_
    rw [hpre]
    exact hT.dead (fun j t ha => hd j t (up ha)) b hb hn


/-- a store that sees one block alone -/
theorem Ts.store (hT : Ts P ops base tm0 nt M L tm c np mk ns ws) (hM : Plan ops M) {s : St} (ho : ops[L.length]? = some s.o) (htm : s.tm = tm) (hw : s.wanted = wantedB ops.toList s.o s.tm) (hwt : s.wanted = true)
    (h1 : s.wanted = true → ∀ t, Operand.tmp t ∈ s.o.op.operands → undefd (s.tmr.get t) = undefd (s.tm.get t)) (h2 : s.wanted = true → ∀ t, Operand.tmp t ∉ s.o.op.operands → undefd (s.tmr.get t) = undef)
    (hrun : Jop P s.o s.tmr s.pre s.v s.post) (hf : s.full = true) (hnp : Nat.beq (Nat.land np (maskAt M L.length)) np = true) {b : Nat} {ob ob1 : CObj} (hns : ∀ j, (j, b) ∈ ns → befM M L.length j = true) (hb : b < c.next) (hob : c.get b = some ob)
    (hpre : s.pre.next = c.next) (hget : ∀ j, s.pre.get j = if j = b then some ob else none) (hpost : s.post.next = c.next) (hob1 : s.post.get b = some ob1) {c2 : CW} (hc2n : c2.next = c.next) (hc2l : c2.low = min c.low b) (hc2 : ∀ j, c2.get j = if j = b then some ob1 else c.get j)
    (hlow : c2.low ≤ s.post.low) (hdst : ∀ d, s.o.dst = some d → d < nt)
    (ht : ∀ j, tm1.get j = if s.o.dst = some j then some s.v else tm.get j) : Ts P ops base tm0 nt M (s :: L) tm1 c2 np (Nat.lor mk (Nat.pow 2 L.length)) ((L.length, b) :: ns) ((L.length, b) :: ws) := by
  have up : ∀ {j t}, At L j t → At (s :: L) j t := fun h => At.cons_iff.2 (.inr h)
  have me : At (s :: L) L.length s := At.cons_iff.2 (.inl ⟨rfl, rfl⟩)
  have bit : ∀ j, Nat.testBit np j = true → befM M L.length j = true := fun j hj => land_bit hnp hj
  have has1 : ∀ {x}, s.has x → x = b := fun {x} h => by
    rcases h with h | h
    · rw [hget] at h
      by_cases e : x = b
      · exact e
      · rw [if_neg e] at h; cases h
    · omega
  have hasb : s.has b := .inl (by rw [hget, if_pos rfl]; rfl)
  have offS : ∀ {S : Nat → Bool} {x : Nat}, x ≠ b → CS base S (s :: L) x = CS base S L x := fun hx => by
    unfold CS
    simp only [pick]
    rw [if_neg (fun h => hx (has1 h.2.1))]
  refine ⟨⟨hT.links.cons ho hw h1 h2 (fun _ => hrun) (fun h => by rw [hwt] at h; cases h) (by rw [hpre]; exact hT.nx) (fun _ x hx => by rw [has1 (.inl hx), hpre]; exact hb) (fun t h => by rw [hpre]; exact hT.ord t h)
    (fun S hS hd x o hx => ?_) (fun i t ha x hx htc => ?_) (fun t => by rw [htm]; exact hT.tms t) (hT.toDs.pairs hM ho) hdst (fun h => by rw [hf] at h; cases h), hT.toDs.put ht, ?_, by rw [hc2n]; exact hT.nx, ?_, fun j hj => ?_⟩, ?_, ?_, ?_, ?_, ?_, ?_, ?_, ?_, ?_⟩
  · obtain rfl := has1 (.inl (by rw [hx]; rfl))
    rw [hget, if_pos rfl] at hx; cases hx
    exact hT.heap x _ hob S (fun j hj => hS j (bit j hj)) (fun j hj => hS j (hns j (hT.wsn j _ hj))) fun j t ha hj => hd j t ha (hj.elim (bit j) fun h => hns j (hT.wsn j _ h))
  · obtain rfl := has1 htc.1
    exact (hT.cov i t ha x hx).elim (bit i) (hns i)
  · intro t h
    rw [hc2n]
    rcases List.mem_cons.1 h with rfl | h
    · omega
    · exact hT.ord t h
  · intro i t ha x hx
    rcases At.cons_iff.1 ha with ⟨e, _⟩ | ha
    · exact lor_bit.2 (.inr e)
    · exact lor_bit.2 (.inl (hT.np i t ha x hx))
  · rcases lor_bit.1 hj with h | h
    · have := hT.npLt j h; simp; omega
    · simp; omega
  · intro i t ha x hx
    rcases At.cons_iff.1 ha with ⟨e, e2⟩ | ha
    · subst e; rw [e2] at hx; rw [has1 hx]; exact .inr (by simp)
    · rcases hT.cov i t ha x hx with h | h
      · exact .inl h
      · exact .inr (by simp [h])
  · exact fun j hj => lor_bit.2 (.inl (hT.npm j hj))
  · intro j x hj
    rcases List.mem_cons.1 hj with h | h
    · cases h; exact lor_bit.2 (.inr rfl)
    · exact lor_bit.2 (.inl (hT.nsm j x h))
  · intro j x hj
    rcases List.mem_cons.1 hj with h | h
    · cases h; simp
    · exact List.mem_cons_of_mem _ (hT.wsn j x h)
  · intro x o hx S hS hS2 hd
    rw [hc2] at hx
    by_cases e : x = b
    · subst e
      rw [if_pos rfl] at hx; cases hx
      unfold CS
      simp only [pick]
      rw [if_pos ⟨hS2 _ (by simp), hasb, .inr hf⟩]
      exact hob1
    · rw [if_neg e] at hx
      rw [offS e]
      exact hT.heap x o hx S hS (fun j hj => hS2 j (by simp [hj])) fun j t ha hj => hd j t (up ha) (hj.elim .inl fun h => .inr (by simp [h]))
  · intro hd x hx
    rw [hc2] at hx; rw [hc2n]
    by_cases e : x = b
    · rw [e]; exact hb
    · rw [if_neg e] at hx
      exact hT.live (fun j t ha hj => hd j t (up ha) (lor_bit.2 (.inl hj))) x hx
  · intro hd
    obtain ⟨g1, g2⟩ := hT.low fun j t ha => hd j t (up ha)
    have hm : c2.low ≤ c.low := by rw [hc2l]; exact Nat.min_le_left _ _
    refine ⟨Nat.le_trans hm g1, fun i t ha hft => ?_⟩
    rcases At.cons_iff.1 ha with ⟨_, e⟩ | ha
    · rw [e]; exact hlow
    · exact Nat.le_trans hm (g2 i t ha hft)
  · intro hd x hx hl
    rw [hc2, if_neg (by rw [hc2l] at hl; omega)]
    exact hT.kept (fun j t ha => hd j t (up ha)) x hx (by rw [hc2l] at hl; omega)
  · intro hd x hx hn
    have h3 := hT.dead (fun j t ha => hd j t (up ha)) x hx hn
    rw [hc2]
    by_cases e : x = b
    · rw [e, hob] at h3; cases h3
    · rw [if_neg e]; exact h3

/-- a load that sees one block alone, an old one -/
theorem Ts.load (hT : Ts P ops base tm0 nt M L tm c np mk ns ws) (hM : Plan ops M) {s : St} (ho : ops[L.length]? = some s.o) (htm : s.tm = tm) (hw : s.wanted = wantedB ops.toList s.o s.tm) (hwt : s.wanted = true)
    (h1 : s.wanted = true → ∀ t, Operand.tmp t ∈ s.o.op.operands → undefd (s.tmr.get t) = undefd (s.tm.get t)) (h2 : s.wanted = true → ∀ t, Operand.tmp t ∉ s.o.op.operands → undefd (s.tmr.get t) = undef)
    (hrun : Jop P s.o s.tmr s.pre s.v s.post) (hf : s.full = false) (hnp : Nat.beq (Nat.land np (maskAt M L.length)) np = true) {b : Nat} {ob : CObj} (hns : ∀ j, (j, b) ∈ ws → befM M L.length j = true) (hb : b < base.next) (hob : c.get b = some ob)
    (hpre : s.pre.next = c.next) (hget : ∀ j, s.pre.get j = if j = b then some ob else none) (hpost : s.post.next = c.next)
    (hlow : c.next ≤ s.post.low) (hdst : ∀ d, s.o.dst = some d → d < nt)
    (ht : ∀ j, tm1.get j = if s.o.dst = some j then some s.v else tm.get j) : Ts P ops base tm0 nt M (s :: L) tm1 c np (Nat.lor mk (Nat.pow 2 L.length)) ((L.length, b) :: ns) ws := by
  have up : ∀ {j t}, At L j t → At (s :: L) j t := fun h => At.cons_iff.2 (.inr h)
  have bit : ∀ j, Nat.testBit np j = true → befM M L.length j = true := fun j hj => land_bit hnp hj
  have has1 : ∀ {x}, s.has x → x = b := fun {x} h => by
    rcases h with h | h
    · rw [hget] at h
      by_cases e : x = b
      · exact e
      · rw [if_neg e] at h; cases h
    · omega
  have no : ∀ {x}, ¬ s.tch base.next x := fun {x} h => by
    have := has1 h.1
    rcases h.2 with h3 | h3
    · omega
    · rw [hf] at h3; cases h3
  have offS : ∀ {S : Nat → Bool} {x : Nat}, CS base S (s :: L) x = CS base S L x := by
    intro S x
    unfold CS
    simp only [pick]
    rw [if_neg (fun h => no h.2)]
  have hnx := hT.nx
  refine ⟨⟨hT.links.cons ho hw h1 h2 (fun _ => hrun) (fun h => by rw [hwt] at h; cases h) (by rw [hpre]; exact hT.nx) (fun _ x hx => by rw [has1 (.inl hx), hpre]; omega) (fun t h => by rw [hpre]; exact hT.ord t h)
    (fun S hS hd x o hx => ?_) (fun i t ha x hx htc => (no htc).elim) (fun t => by rw [htm]; exact hT.tms t) (hT.toDs.pairs hM ho) hdst (fun _ => by omega), hT.toDs.put ht, ?_, hT.nx, ?_, fun j hj => ?_⟩, ?_, ?_, ?_, ?_, ?_, ?_, ?_, ?_, ?_⟩
  · obtain rfl := has1 (.inl (by rw [hx]; rfl))
    rw [hget, if_pos rfl] at hx; cases hx
    exact hT.heap x _ hob S (fun j hj => hS j (bit j hj)) (fun j hj => hS j (hns j hj)) fun j t ha hj => hd j t ha (hj.elim (bit j) (hns j))
  · intro t h
    rcases List.mem_cons.1 h with rfl | h
    · omega
    · exact hT.ord t h
  · intro i t ha x hx
    rcases At.cons_iff.1 ha with ⟨e, _⟩ | ha
    · exact lor_bit.2 (.inr e)
    · exact lor_bit.2 (.inl (hT.np i t ha x hx))
  · rcases lor_bit.1 hj with h | h
    · have := hT.npLt j h; simp; omega
    · simp; omega
  · intro i t ha x hx
    rcases At.cons_iff.1 ha with ⟨e, e2⟩ | ha
    · subst e; rw [e2] at hx; rw [has1 hx]; exact .inr (by simp)
    · rcases hT.cov i t ha x hx with h | h
      · exact .inl h
      · exact .inr (by simp [h])
  · exact fun j hj => lor_bit.2 (.inl (hT.npm j hj))
  · intro j x hj
    rcases List.mem_cons.1 hj with h | h
    · cases h; exact lor_bit.2 (.inr rfl)
    · exact lor_bit.2 (.inl (hT.nsm j x h))
  · exact fun j x hj => List.mem_cons_of_mem _ (hT.wsn j x hj)
  · intro x o hx S hS hS2 hd
    rw [offS]
    exact hT.heap x o hx S hS hS2 fun j t ha hj => hd j t (up ha) hj
  · exact fun hd x hx => hT.live (fun j t ha hj => hd j t (up ha) (lor_bit.2 (.inl hj))) x hx
  · intro hd
    obtain ⟨g1, g2⟩ := hT.low fun j t ha => hd j t (up ha)
    refine ⟨g1, fun i t ha hft => ?_⟩
    rcases At.cons_iff.1 ha with ⟨_, e⟩ | ha
    · rw [e, hf] at hft; cases hft
    · exact g2 i t ha hft
  · exact fun hd => hT.kept fun j t ha => hd j t (up ha)
  · exact fun hd => hT.dead fun j t ha => hd j t (up ha)

theorem Ts.ends (hT : Ts P ops base tm0 nt M L tm c np mk ns ws) : Ends base tm0 L tm c :=
  ⟨hT.tms, fun i t ha => hT.ord t ha.mem, hT.nx, fun S hS hd b o hb => hT.heap b o hb S (fun j hj => hS j (hT.npLt j (hT.npm j hj))) (fun j hj => hS j (hT.npLt j (hT.nsm j b (hT.wsn j b hj)))) (fun j t ha _ => hd j t ha), fun hd => hT.live fun j t ha _ => hd j t ha, hT.low, hT.kept, hT.dead⟩
end
end Go.Can
