/- A part of the proof: see the last file. -/
import Derived.Test.YtdilcbocnndkmaaGreatDoorCg
import Derived.Below
set_option linter.unusedVariables false
set_option linter.unusedSimpArgs false
set_option linter.unusedSectionVars false
namespace Go.Can
open Go
variable [Glob]
set_option linter.unusedSectionVars false

/-- what holds along the first part of a drawn region -/
structure Qs (P : Program) (ops : Array Oper) (base : CW) (tm0 : T Value) (nt M : Nat) (L : List St) (tm : T Value) (nxt mk : Nat) (fr : List Fr) : Prop extends Ds P ops base tm0 nt M L tm nxt mk where
  part : ∀ t ∈ L, t.full = false
  hasLt : ∀ t ∈ L, ∀ b, t.has b → b < nxt
  fr1 : ∀ x ∈ fr, ∀ S : Nat → Bool, (∀ j, Nat.testBit x.by_ j = true → S j = true) → CS base S L x.blk = some x.obj
  fr2 : ∀ x ∈ fr, ∀ j t, At L j t → t.has x.blk → Nat.testBit x.by_ j = true
  fr3 : ∀ x ∈ fr, base.next ≤ x.blk ∧ x.blk < nxt
  fr4 : ∀ x ∈ fr, ∀ j, Nat.testBit x.by_ j = true → Nat.testBit mk j = true

theorem pick_not {α : Type} {S : Nat → Bool} {p : St → Prop} {g : St → α} {d : α} : ∀ {L : List St}, (∀ t ∈ L, ¬ p t) → pick S p g d L = d
  | [], _ => rfl
  | s :: L, h => by
    simp only [pick]
    rw [if_neg (fun x => h s (by simp) x.2)]
    exact pick_not fun t ht => h t (by simp [ht])

section
variable {P : Program} {ops : Array Oper} {base : CW} {tm0 : T Value} {nt M : Nat} {L : List St} {tm tm1 : T Value} {nx np : Nat} {fr fr1 fr' : List Fr}

theorem Qs.start : Qs P ops base tm0 nt M [] tm0 base.next 0 [] :=
  ⟨⟨Links.nil, fun _ => rfl, fun _ h => (by cases h), Nat.le_refl _, fun _ _ h => absurd h.mem (by simp), fun j h => by simp at h⟩, fun _ h => (by cases h), fun _ h => (by cases h), fun _ h => (by cases h), fun _ h => (by cases h), fun _ h => (by cases h), fun _ h => (by cases h)⟩

theorem Qs.quiet (hT : Qs P ops base tm0 nt M L tm nx np fr) (hM : Plan ops M) (hbl : ∀ b, (base.get b).isSome = true → b < base.next) {s : St} (ho : ops[L.length]? = some s.o) (htm : s.tm = tm) (hw : s.wanted = wantedB ops.toList s.o s.tm) (hwt : s.wanted = true)
    (h1 : s.wanted = true → ∀ t, Operand.tmp t ∈ s.o.op.operands → undefd (s.tmr.get t) = undefd (s.tm.get t)) (h2 : s.wanted = true → ∀ t, Operand.tmp t ∉ s.o.op.operands → undefd (s.tmr.get t) = undef)
    (hrun : Jop P s.o s.tmr s.pre s.v s.post) (hf : s.full = false) (hpre : s.pre.next = nx) (hle : nx ≤ s.post.next) (hlow : base.next ≤ s.post.low) (hdst : ∀ d, s.o.dst = some d → d < nt)
    (hg2 : ∀ b o, s.pre.get b = some o → (∃ x ∈ fr, givenB (maskAt M L.length) x = true ∧ x.blk = b ∧ x.obj = o) ∨ base.get b = some o) (hg3 : ∀ x ∈ fr, givenB (maskAt M L.length) x = true → (s.pre.get x.blk).isSome = true)
    (hold : ∀ y ∈ fr1, y ∈ ([] : List Fr) ∨ ∃ x ∈ fr, y.blk = x.blk ∧ ((givenB (maskAt M L.length) x = false ∧ y = x ∧ s.pre.get x.blk = none) ∨ (givenB (maskAt M L.length) x = true ∧ s.post.get x.blk = some y.obj ∧ y.by_ = Nat.lor x.by_ (Nat.pow 2 L.length))))
    (hnew : ∀ y ∈ fr', y ∈ fr1 ∨ (nx ≤ y.blk ∧ y.blk < nx + (s.post.next - nx) ∧ s.post.get y.blk = some y.obj ∧ y.by_ = Nat.pow 2 L.length))
    (ht : ∀ j, tm1.get j = if s.o.dst = some j then some s.v else tm.get j) : Qs P ops base tm0 nt M (s :: L) tm1 s.post.next (Nat.lor np (Nat.pow 2 L.length)) fr' := by
  have hnx := hT.nx
  have alive : ∀ b, (s.pre.get b).isSome = true → b < nx := fun b hb => by
    obtain ⟨o, ho⟩ := Option.isSome_iff_exists.1 hb
    rcases hg2 b o ho with ⟨x, hx, _, rfl, _⟩ | h
    · exact (hT.fr3 x hx).2
    · have := hbl b (by rw [h]; rfl); omega
  have hasS : ∀ b, s.has b → b < s.post.next := fun b hb => by
    rcases hb with h | h
    · have := alive b h; omega
    · exact h.2
  have me : At (s :: L) L.length s := At.cons_iff.2 (.inl ⟨rfl, rfl⟩)
  have onS : ∀ {S : Nat → Bool} {b : Nat}, S L.length = true → s.has b → base.next ≤ b → CS base S (s :: L) b = s.post.get b := fun hS hb hn => by
    unfold CS
    simp only [pick]
    rw [if_pos ⟨hS, hb, .inl hn⟩]
  have offS : ∀ {S : Nat → Bool} {b : Nat}, ¬ s.has b → CS base S (s :: L) b = CS base S L b := fun hb => by
    unfold CS
    simp only [pick]
    rw [if_neg (fun x => hb x.2.1)]
  -- the entries afterwards
  have entry : ∀ y ∈ fr', (base.next ≤ y.blk ∧ y.blk < s.post.next) ∧ (∀ S : Nat → Bool, (∀ j, Nat.testBit y.by_ j = true → S j = true) → CS base S (s :: L) y.blk = some y.obj) ∧
      (∀ j t, At (s :: L) j t → t.has y.blk → Nat.testBit y.by_ j = true) ∧ ∀ j, Nat.testBit y.by_ j = true → Nat.testBit (Nat.lor np (Nat.pow 2 L.length)) j = true := by
    intro y hy
    rcases hnew y hy with h | ⟨n1, n2, n3, n4⟩
    · rcases hold y h with h | ⟨x, hx, hb, ⟨q1, rfl, q3⟩ | ⟨q1, q2, q3⟩⟩
      · cases h
      · have hn : ¬ s.has y.blk := fun h => by
          rcases h with h | h
          · rw [q3] at h; cases h
          · have := (hT.fr3 y hx).2; omega
        refine ⟨⟨(hT.fr3 y hx).1, by have := (hT.fr3 y hx).2; omega⟩, fun S hS => by rw [offS hn]; exact hT.fr1 y hx S hS, fun j t ha hh => ?_, fun j hj => lor_bit.2 (.inl (hT.fr4 y hx j hj))⟩
        rcases At.cons_iff.1 ha with ⟨_, e⟩ | ha
        · rw [e] at hh; exact absurd hh hn
        · exact hT.fr2 y hx j t ha hh
      · have h3 := hT.fr3 x hx
        rw [hb, q3]
        refine ⟨⟨h3.1, by omega⟩, fun S hS => by rw [onS (hS _ (lor_bit.2 (.inr rfl))) (.inl (hg3 x hx q1)) h3.1]; exact q2, fun j t ha hh => ?_, fun j hj => ?_⟩
        · rcases At.cons_iff.1 ha with ⟨e, _⟩ | ha
          · exact lor_bit.2 (.inr e)
          · exact lor_bit.2 (.inl (hT.fr2 x hx j t ha hh))
        · rcases lor_bit.1 hj with h | h
          · exact lor_bit.2 (.inl (hT.fr4 x hx j h))
          · exact lor_bit.2 (.inr h)
    · rw [n4]
      have hr : s.has y.blk := .inr ⟨by omega, by omega⟩
      refine ⟨⟨by omega, by omega⟩, fun S hS => by rw [onS (hS _ (pow_bit.2 rfl)) hr (by omega)]; exact n3, fun j t ha hh => ?_, fun j hj => lor_bit.2 (.inr (pow_bit.1 hj))⟩
      rcases At.cons_iff.1 ha with ⟨e, _⟩ | ha
      · exact pow_bit.2 e
      · have := hT.hasLt t ha.mem _ hh; omega
  refine ⟨⟨hT.links.cons ho hw h1 h2 (fun _ => hrun) (fun h => by rw [hwt] at h; cases h) (by omega) (fun _ b hb => by rw [hpre]; exact alive b hb) (fun t h => by rw [hpre]; exact hT.ord t h)
    (fun S hS _ b o hb => ?_) (fun i t ha b hb htc => ?_) (fun t => by rw [htm]; exact hT.tms t) (hT.toDs.pairs hM ho) hdst (fun _ => hlow), hT.toDs.put ht, ?_, by omega, ?_, fun j hj => ?_⟩, ?_, ?_,
    fun y hy => (entry y hy).2.1, fun y hy => (entry y hy).2.2.1, fun y hy => (entry y hy).1, fun y hy => (entry y hy).2.2.2⟩
  · rcases hg2 b o hb with ⟨x, hx, hgv, rfl, rfl⟩ | h
    · exact hT.fr1 x hx S fun j hj => hS j (givenB_ok hgv hj)
    · have hlt := hbl b (by rw [h]; rfl)
      unfold CS
      rw [pick_not, h]
      intro t ht htc
      rcases htc.2 with h3 | h3
      · omega
      · rw [hT.part t ht] at h3; cases h3
  · have hn : base.next ≤ b := by
      rcases htc.2 with h3 | h3
      · exact h3
      · rw [hf] at h3; cases h3
    rcases htc.1 with h | h
    · obtain ⟨o, ho'⟩ := Option.isSome_iff_exists.1 h
      rcases hg2 b o ho' with ⟨x, hx, hgv, rfl, _⟩ | h4
      · exact givenB_ok hgv (hT.fr2 x hx i t ha hb)
      · have := hbl b (by rw [h4]; rfl); omega
    · have := hT.hasLt t ha.mem b hb; omega
  · intro t h
    rcases List.mem_cons.1 h with rfl | h
    · exact Nat.le_refl _
    · exact Nat.le_trans (hT.ord t h) hle
  · intro i t ha b hb
    rcases At.cons_iff.1 ha with ⟨e, _⟩ | ha
    · exact lor_bit.2 (.inr e)
    · exact lor_bit.2 (.inl (hT.np i t ha b hb))
  · rcases lor_bit.1 hj with h | h
    · have := hT.npLt j h; simp; omega
    · simp; omega
  · intro t h
    rcases List.mem_cons.1 h with rfl | h
    · exact hf
    · exact hT.part t h
  · intro t h b hb
    rcases List.mem_cons.1 h with rfl | h
    · exact hasS b hb
    · have := hT.hasLt t h b hb; omega
end
end Go.Can
namespace Go.Can
open Go
variable [Glob]
set_option linter.unusedSectionVars false
section
variable {P : Program} {ops : Array Oper} {base : CW} {tm0 : T Value} {nt M : Nat} {L : List St} {tm tm1 : T Value} {nx np : Nat} {fr : List Fr}

theorem Qs.light (hT : Qs P ops base tm0 nt M L tm nx np fr) (hM : Plan ops M) {s : St} (ho : ops[L.length]? = some s.o) (htm : s.tm = tm) (hw : s.wanted = wantedB ops.toList s.o s.tm)
    (h1 : s.wanted = true → ∀ t, Operand.tmp t ∈ s.o.op.operands → undefd (s.tmr.get t) = undefd (s.tm.get t)) (h2 : s.wanted = true → ∀ t, Operand.tmp t ∉ s.o.op.operands → undefd (s.tmr.get t) = undef)
    (hrun : s.wanted = true → Jop P s.o s.tmr s.pre s.v s.post) (hidle : s.wanted = false → s.v = undef ∧ s.post = s.pre)
    (hnil : ∀ b, s.pre.get b = none) (hpre : s.pre.next = nx) (hpost : s.post.next = nx) (hlow : base.next ≤ s.post.low) (hnf : s.full = false) (hdst : ∀ d, s.o.dst = some d → d < nt)
    (ht : ∀ j, tm1.get j = if s.o.dst = some j then some s.v else tm.get j) : Qs P ops base tm0 nt M (s :: L) tm1 nx np fr := by
  have no : ∀ b, ¬ s.has b := fun b h => by
    rcases h with h | h
    · rw [hnil] at h; cases h
    · omega
  refine ⟨hT.toDs.light hM ho htm hw h1 h2 hrun hidle hnil hpre hpost hlow hdst ht, ?_, ?_, ?_, ?_, hT.fr3, hT.fr4⟩
  · intro t h
    rcases List.mem_cons.1 h with rfl | h
    · exact hnf
    · exact hT.part t h
  · intro t h b hb
    rcases List.mem_cons.1 h with rfl | h
    · exact absurd hb (no b)
    · exact hT.hasLt t h b hb
  · intro x hx S hS
    rw [CS_light no]; exact hT.fr1 x hx S hS
  · intro x hx j t ha hb
    rcases At.cons_iff.1 ha with ⟨_, e⟩ | ha
    · rw [e] at hb; exact absurd hb (no _)
    · exact hT.fr2 x hx j t ha hb

theorem Qs.merge (hT : Qs P ops base tm0 nt M L tm nx np fr) (hbl : ∀ b, (base.get b).isSome = true → b < base.next) {h' : T CObj}
    (g1 : ∀ b o, h'.get b = some o → (∃ x ∈ fr, x.blk = b ∧ x.obj = o) ∨ base.get b = some o) (g2 : ∀ b, (∀ x ∈ fr, x.blk ≠ b) → h'.get b = base.get b) :
    Ts P ops base tm0 nt M L tm ⟨h', nx, base.low⟩ np np [] [] := by
  have hnx := hT.nx
  refine ⟨hT.toDs, fun i t ha b hb => .inl (hT.np i t ha b hb), fun _ h => h, fun _ _ h => (by cases h), fun _ _ h => (by cases h), ?_, ?_, ?_, ?_, ?_⟩
  · intro b o hb S hS _ _
    rcases g1 b o hb with ⟨x, hx, rfl, rfl⟩ | h
    · exact hT.fr1 x hx S fun j hj => hS j (hT.fr4 x hx j hj)
    · have hlt := hbl b (by rw [h]; rfl)
      unfold CS
      rw [pick_not, h]
      intro t ht htc
      rcases htc.2 with h3 | h3
      · omega
      · rw [hT.part t ht] at h3; cases h3
  · intro _ b hb
    show b < nx
    obtain ⟨o, ho⟩ := Option.isSome_iff_exists.1 hb
    rcases g1 b o ho with ⟨x, hx, rfl, rfl⟩ | h
    · exact (hT.fr3 x hx).2
    · have := hbl b (by rw [h]; rfl); omega
  · exact fun _ => ⟨Nat.le_refl _, fun i t ha hf => by rw [hT.part t ha.mem] at hf; cases hf⟩
  · exact fun _ b hb _ => g2 b fun x hx e => by have := (hT.fr3 x hx).1; omega
  · exact fun _ b hb hn => by rw [← hn]; exact g2 b fun x hx e => by have := (hT.fr3 x hx).1; omega

theorem pureK_ok (hP : Fair P) {r : Rec} (hr : Ok P r) {o : Oper} {tm : T Value} {nx : Nat} {k : Value → Bool} (h : pureK P r o tm nx k = true) :
    ∃ v tmr c1, k v = true ∧ (∀ t, Operand.tmp t ∈ o.op.operands → undefd (tmr.get t) = undefd (tm.get t)) ∧ (∀ t, Operand.tmp t ∉ o.op.operands → undefd (tmr.get t) = undef) ∧ Jop P o tmr ⟨.nil, nx, nx⟩ v c1 ∧ c1.next = nx ∧ nx ≤ c1.low := by
  unfold pureK at h
  obtain ⟨tmr, e1, e2, e3⟩ := restrK_ok h
  obtain ⟨v, c1, e4, hj⟩ := goOp_ok hP hr e1
  split at e4
  · next hc =>
    simp only [Bool.and_eq_true] at hc
    exact ⟨v, tmr, c1, e4, fun t ht => e2 t (by simpa using ht), fun t ht => by rw [e3 t (by simpa using ht), T.get_nil]; rfl, hj, Nat.eq_of_beq_eq_true hc.1, Nat.le_of_ble_eq_true hc.2⟩
  · cases e4
end
end Go.Can
namespace Go.Can
open Go
variable [Glob]
set_option linter.unusedSectionVars false
section
variable {P : Program} {r : Rec} {ops : Array Oper} {base : CW} {tm0 : T Value} {nt M : Nat}

theorem nsOk_ok {m b : Nat} : ∀ {l : List (Nat × Nat)}, nsOk m b l = true → ∀ j, (j, b) ∈ l → Nat.testBit m j = true
  | [], _, j, h => by cases h
  | (i, x) :: l, h, j, hj => by
    simp only [nsOk] at h
    split at h
    · next hx =>
      split at h
      · next hm =>
        rcases List.mem_cons.1 hj with e | e
        · cases e; exact hm
        · exact nsOk_ok h j e
      · cases h
    · next hx =>
      rcases List.mem_cons.1 hj with e | e
      · cases e; simp at hx
      · exact nsOk_ok h j e
theorem addrAt_ok {o : Oper} {tm : T Value} {k : Nat → Bool} (h : addrAt o tm k = true) : ∃ b, k b = true := by
  unfold addrAt at h
  split at h
  · obtain ⟨v, h1, _⟩ := evK_ok h
    split at h1
    · exact ⟨_, h1⟩
    · cases h1
  · obtain ⟨v, h1, _⟩ := evK_ok h
    split at h1
    · exact ⟨_, h1⟩
    · cases h1
  · cases h
theorem oneK_ok (hP : Fair P) (hr : Ok P r) {o : Oper} {tm : T Value} {c : CW} {b : Nat} {k : Value → CW → Bool} (h : oneK P r o tm c b k = true) :
    ∃ ob h1 tmr v c1, c.get b = some ob ∧ k v c1 = true ∧ (∀ j, (⟨h1, c.next, c.next⟩ : CW).get j = if j = b then some ob else none) ∧ (∀ t, Operand.tmp t ∈ o.op.operands → undefd (tmr.get t) = undefd (tm.get t)) ∧
      (∀ t, Operand.tmp t ∉ o.op.operands → undefd (tmr.get t) = undef) ∧ Jop P o tmr ⟨h1, c.next, c.next⟩ v c1 := by
  unfold oneK at h
  split at h
  · next ob hob =>
    obtain ⟨h1, t1, t2⟩ := T.put_ok h
    obtain ⟨tmr, q1, q2, q3⟩ := restrK_ok t1
    obtain ⟨v, c1, b1, b4⟩ := goOp_ok hP hr q1
    exact ⟨ob, h1, tmr, v, c1, hob, b1, fun j => by rw [← T.get_nil (α := CObj) j]; exact t2 j, fun t ht => q2 t (by simpa using ht), fun t ht => by rw [q3 t (by simpa using ht), T.get_nil]; rfl, b4⟩
  · cases h

theorem goTail_ok (hP : Fair P) (hr : Ok P r) (hM : Plan ops M) : ∀ (todo : List Oper) (i np mk : Nat) (ns ws : List (Nat × Nat)) (tm : T Value) (ds : List CDef) (c : CW) (k : K) (L : List St), L.length = i → L.length ≤ ops.size → ops.toList.drop i = todo →
    goTail P r nt ops M base.next todo i np mk ns ws tm ds c k = true → ∃ tm' c' v' L' np' mk' ns' ws', k .normal v' tm' ds c' = true ∧ L'.length = ops.size ∧ (Ts P ops base tm0 nt M L tm c np mk ns ws → Ts P ops base tm0 nt M L' tm' c' np' mk' ns' ws')
  | [], i, np, mk, ns, ws, tm, ds, c, k, L, hi, hle, hd, h => by
    refine ⟨tm, c, undef, L, np, mk, ns, ws, h, ?_, id⟩
    have := congrArg List.length hd
    simp at this; omega
  | o :: rest, i, np, mk, ns, ws, tm, ds, c, k, L, hi, hle, hd, h => by
    subst hi
    obtain ⟨e1, e2⟩ := drop_cons hd
    have ho : ops[L.length]? = some o := by rw [← Array.getElem?_toList]; exact e1
    have hlt : L.length < ops.size := (Array.getElem?_eq_some_iff.1 ho).1
    have whole : true = wantedB ops.toList o tm → subB mk M L.length = true → (restrK tm o.op.operands.toList .nil fun tmr => goOp P r o tmr c fun v c1 => match Nat.ble c.next c1.next with
        | true => putK o.dst v nt tm fun tm => goTail P r nt ops M base.next rest (L.length+1) (Nat.lor mk (Nat.pow 2 L.length)) (Nat.lor mk (Nat.pow 2 L.length)) [] [] tm ds c1 k
        | false => false) = true → ∃ tm' c' v' L' np' mk' ns' ws', k .normal v' tm' ds c' = true ∧ L'.length = ops.size ∧ (Ts P ops base tm0 nt M L tm c np mk ns ws → Ts P ops base tm0 nt M L' tm' c' np' mk' ns' ws') := fun hw hnp h => by
      obtain ⟨tmr, q1, q2, q3⟩ := restrK_ok h
      obtain ⟨v, c1, b1, b4⟩ := goOp_ok hP hr q1
      split at b1
      · next hn =>
        obtain ⟨tm1, g1, g2, g3, _⟩ := putK_ok b1
        obtain ⟨tm', c', v', L', np', mk', ns', ws', a1, a2, a3⟩ := goTail_ok hP hr hM rest _ _ _ _ _ _ _ _ _ (⟨o, true, tm, tmr, c, c1, v, true⟩ :: L) (by simp) (by simp; omega) e2 g1
        refine ⟨tm', c', v', L', np', mk', ns', ws', a1, a2, fun hT => a3 (hT.whole hM ho rfl hw rfl (fun _ t ht => q2 t (by simpa using ht)) (fun _ t ht => by rw [q3 t (by simpa using ht), T.get_nil]; rfl) b4 rfl rfl hnp (Nat.le_of_ble_eq_true hn) g3 g2)⟩
      · cases b1
    simp only [goTail, natK_eq] at h
    split at h
    · next hw =>
      obtain ⟨tm1, g1, g2, g3, _⟩ := putK_ok h
      obtain ⟨tm', c', v', L', np', mk', ns', ws', a1, a2, a3⟩ := goTail_ok hP hr hM rest _ _ _ _ _ _ _ _ _ (⟨o, false, tm, tm, ⟨.nil, c.next, c.next⟩, ⟨.nil, c.next, c.next⟩, undef, false⟩ :: L) (by simp) (by simp; omega) e2 g1
      refine ⟨tm', c', v', L', np', mk', ns', ws', a1, a2, fun hT => a3 (hT.light hM ho rfl hw.symm (fun e => by cases e) (fun e => by cases e) (fun e => by cases e) (fun _ => ⟨rfl, rfl⟩) (fun b => T.get_nil b) rfl rfl hT.nx rfl g3 g2)⟩
    · next hw =>
      split at h
      · obtain ⟨v, tmr, c1, b1, b2, b3, b4, b5, b6⟩ := pureK_ok hP hr h
        obtain ⟨tm1, g1, g2, g3, _⟩ := putK_ok b1
        obtain ⟨tm', c', v', L', np', mk', ns', ws', a1, a2, a3⟩ := goTail_ok hP hr hM rest _ _ _ _ _ _ _ _ _ (⟨o, true, tm, tmr, ⟨.nil, c.next, c.next⟩, c1, v, false⟩ :: L) (by simp) (by simp; omega) e2 g1
        refine ⟨tm', c', v', L', np', mk', ns', ws', a1, a2, fun hT => a3 (hT.light hM ho rfl hw.symm (fun _ => b2) (fun _ => b3) (fun _ => b4) (fun e => by cases e) (fun b => T.get_nil b) rfl b5 (Nat.le_trans hT.nx b6) rfl g3 g2)⟩
      · split at h
        · next hlb =>
          simp only [Bool.and_eq_true] at hlb
          obtain ⟨b, s1⟩ := addrAt_ok h
          split at s1
          · next hb =>
            simp only [Bool.and_eq_true] at hb
            obtain ⟨ob, h1, tmr, v, c1, hob, b1, hget, q2, q3, b4⟩ := oneK_ok hP hr s1
            split at b1
            · next hc =>
              simp only [Bool.and_eq_true] at hc
              obtain ⟨tm1, g1, g2, g3, _⟩ := putK_ok b1
              obtain ⟨tm', c', v', L', np', mk', ns', ws', a1, a2, a3⟩ := goTail_ok hP hr hM rest _ _ _ _ _ _ _ _ _ (⟨o, true, tm, tmr, ⟨h1, c.next, c.next⟩, c1, v, false⟩ :: L) (by simp) (by simp; omega) e2 g1
              refine ⟨tm', c', v', L', np', mk', ns', ws', a1, a2, fun hT => a3 (hT.load (ob := ob) hM ho rfl hw.symm rfl (fun _ => q2) (fun _ => q3) b4 rfl hlb.2
                (fun j hj => nsOk_ok hb.1 j hj) (Nat.le_of_ble_eq_true hb.2) hob rfl hget (Nat.eq_of_beq_eq_true hc.1) (Nat.le_of_ble_eq_true hc.2) g3 g2)⟩
            · cases b1
          · split at s1
            · next hnp => exact whole hw.symm hnp s1
            · cases s1
        · split at h
          · next hnp => exact whole hw.symm hnp h
          · split at h
            · next hnp =>
              obtain ⟨b, s1⟩ := addrAt_ok h
              split at s1
              · next hb =>
                simp only [Bool.and_eq_true] at hb
                obtain ⟨ob, h1, tmr, v, c1, hob, b1, hget, q2, q3, b4⟩ := oneK_ok hP hr s1
                split at b1
                · next ob1 hob1 =>
                  obtain ⟨c2, d1, d2, d3, d4⟩ := CW.set_ok b1
                  split at d1
                  · next hc =>
                    simp only [Bool.and_eq_true] at hc
                    obtain ⟨tm1, g1, g2, g3, _⟩ := putK_ok d1
                    obtain ⟨tm', c', v', L', np', mk', ns', ws', a1, a2, a3⟩ := goTail_ok hP hr hM rest _ _ _ _ _ _ _ _ _ (⟨o, true, tm, tmr, ⟨h1, c.next, c.next⟩, c1, v, true⟩ :: L) (by simp) (by simp; omega) e2 g1
                    refine ⟨tm', c', v', L', np', mk', ns', ws', a1, a2, fun hT => a3 (hT.store (ob := ob) (ob1 := ob1) hM ho rfl hw.symm rfl (fun _ => q2) (fun _ => q3) b4 rfl hnp
                      (fun j hj => nsOk_ok hb.1 j hj) (Nat.le_of_ble_eq_true hb.2) hob rfl hget (Nat.eq_of_beq_eq_true hc.1) hob1 d2 d3 d4 (Nat.le_of_ble_eq_true hc.2) g3 g2)⟩
                  · cases d1
                · cases b1
              · cases s1
            · cases h
end
end Go.Can
namespace Go.Can
open Go
variable [Glob]
set_option linter.unusedSectionVars false
section
variable {P : Program} {r : Rec} {ops : Array Oper} {base : CW} {tm0 : T Value} {nt M : Nat}

theorem goDrawn_ok (hP : Fair P) (hr : Ok P r) (hM : Plan ops M) {q : Nat} : ∀ (todo : List Oper) (i np : Nat) (fr : List Fr) (tm : T Value) (ds : List CDef) (nx : Nat) (k : K) (L : List St), L.length = i → L.length ≤ ops.size → ops.toList.drop i = todo →
    goDrawn P r nt ops M q base.next todo i np fr tm ds ⟨base.heap, nx, base.low⟩ k = true → ∃ tm' c' v' L' np' mk' ns' ws', k .normal v' tm' ds c' = true ∧ L'.length = ops.size ∧
      ((∀ b, (base.get b).isSome = true → b < base.next) → Qs P ops base tm0 nt M L tm nx np fr → Ts P ops base tm0 nt M L' tm' c' np' mk' ns' ws')
  | [], i, np, fr, tm, ds, nx, k, L, hi, hle, hd, h => by
    simp only [goDrawn] at h
    obtain ⟨h', g1, g2, g3⟩ := mergeK_ok h
    obtain ⟨tm', c', v', L', np', mk', ns', ws', a1, a2, a3⟩ := goTail_ok (base := base) (tm0 := tm0) hP hr hM [] i np np [] [] tm ds _ k L hi hle hd g1
    exact ⟨tm', c', v', L', np', mk', ns', ws', a1, a2, fun hbl hQ => a3 (hQ.merge hbl g2 g3)⟩
  | o :: rest, i, np, fr, tm, ds, nx, k, L, hi, hle, hd, h => by
    simp only [goDrawn, natK_eq] at h
    split at h
    · obtain ⟨h', g1, g2, g3⟩ := mergeK_ok h
      obtain ⟨tm', c', v', L', np', mk', ns', ws', a1, a2, a3⟩ := goTail_ok (base := base) (tm0 := tm0) hP hr hM (o :: rest) i np np [] [] tm ds _ k L hi hle hd g1
      exact ⟨tm', c', v', L', np', mk', ns', ws', a1, a2, fun hbl hQ => a3 (hQ.merge hbl g2 g3)⟩
    · subst hi
      obtain ⟨e1, e2⟩ := drop_cons hd
      have ho : ops[L.length]? = some o := by rw [← Array.getElem?_toList]; exact e1
      have hlt : L.length < ops.size := (Array.getElem?_eq_some_iff.1 ho).1
      split at h
      · next hw =>
        obtain ⟨tm1, g1, g2, g3, _⟩ := putK_ok h
        obtain ⟨tm', c', v', L', np', mk', ns', ws', a1, a2, a3⟩ := goDrawn_ok hP hr hM rest _ _ _ _ _ _ _ (⟨o, false, tm, tm, ⟨.nil, nx, nx⟩, ⟨.nil, nx, nx⟩, undef, false⟩ :: L) (by simp) (by simp; omega) e2 g1
        refine ⟨tm', c', v', L', np', mk', ns', ws', a1, a2, fun hbl hT => a3 hbl (hT.light hM ho rfl hw.symm (fun e => by cases e) (fun e => by cases e) (fun e => by cases e) (fun _ => ⟨rfl, rfl⟩) (fun b => T.get_nil b) rfl rfl hT.nx rfl g3 g2)⟩
      · next hw =>
        split at h
        · obtain ⟨v, tmr, c1, b1, b2, b3, b4, b5, b6⟩ := pureK_ok hP hr h
          obtain ⟨tm1, g1, g2, g3, _⟩ := putK_ok b1
          obtain ⟨tm', c', v', L', np', mk', ns', ws', a1, a2, a3⟩ := goDrawn_ok hP hr hM rest _ _ _ _ _ _ _ (⟨o, true, tm, tmr, ⟨.nil, nx, nx⟩, c1, v, false⟩ :: L) (by simp) (by simp; omega) e2 g1
          refine ⟨tm', c', v', L', np', mk', ns', ws', a1, a2, fun hbl hT => a3 hbl (hT.light hM ho rfl hw.symm (fun _ => b2) (fun _ => b3) (fun _ => b4) (fun e => by cases e) (fun b => T.get_nil b) rfl b5 (Nat.le_trans hT.nx b6) rfl g3 g2)⟩
        · unfold drawK at h
          obtain ⟨tmr, q1, q2, q3⟩ := restrK_ok h
          obtain ⟨hg, w1, w2, w3, _⟩ := giveK_ok q1
          obtain ⟨v, c1, b1, b4⟩ := goOp_ok hP hr w1
          obtain ⟨h1, nx1, lo1⟩ := c1
          dsimp only at b1
          split at b1
          · next hc =>
            simp only [Bool.and_eq_true] at hc
            obtain ⟨fr1, y1, y2⟩ := frOld_ok b1
            obtain ⟨fr2, z1, z2⟩ := frNew_ok y1
            obtain ⟨tm1, g1, g2, g3, _⟩ := putK_ok z1
            obtain ⟨tm', c', v', L', np', mk', ns', ws', a1, a2, a3⟩ := goDrawn_ok hP hr hM rest _ _ _ _ _ _ _ (⟨o, true, tm, tmr, ⟨hg, nx, nx⟩, ⟨h1, nx1, lo1⟩, v, false⟩ :: L) (by simp) (by simp; omega) e2 g1
            refine ⟨tm', c', v', L', np', mk', ns', ws', a1, a2, fun hbl hT => a3 hbl (hT.quiet hM hbl ho rfl hw.symm rfl (fun _ t ht => q2 t (by simpa using ht)) (fun _ t ht => by rw [q3 t (by simpa using ht), T.get_nil]; rfl) b4 rfl rfl (Nat.le_of_ble_eq_true hc.2) (Nat.le_of_ble_eq_true hc.1) g3 w2 w3 y2 z2 g2)⟩
          · cases b1

theorem drawOk (hP : Fair P) {r : Rec} (hr : Ok P r) : DrawOk P r := by
  intro nt ops tm ds c k h
  unfold goDraw at h
  rw [natK_eq, natK_eq] at h
  split at h
  · next hpl =>
    have hM := planB_ok hpl
    obtain ⟨hp, nx, lo⟩ := c
    obtain ⟨tm', c', v', L', np', mk', ns', ws', a1, a2, a3⟩ := goDrawn_ok (base := ⟨hp, nx, lo⟩) (tm0 := tm) hP hr hM ops.toList 0 0 [] tm ds nx k [] rfl (by simp) rfl h
    refine ⟨tm', c', v', a1, fun id rd f a w rd' hrd ht hd hh Q hQ => ?_⟩
    have hT := a3 hh.live Qs.start
    have hl := hT.links
    have hC : Chain P ops ⟨hp, nx, lo⟩ tm nt (befM (infoGo 0 ops.toList 0)) L' :=
      ⟨a2, hl.op, hl.want, hl.tmr1, hl.tmr2, hl.run, hl.idle, hl.nx, fun i s ha hdk => hl.live i s ha fun j t hj _ hb => hdk j t hj hb, hl.order,
        fun L2 s L1 e S hS hdk => hl.frag L2 s L1 e S hS fun j t hj hb => hdk j t (by obtain ⟨M2, M1, rfl, rfl⟩ := hj; exact ⟨L2 ++ s :: M2, M1, by rw [e]; simp, rfl⟩) hb,
        hl.apt, hl.tms, hl.pairs, hl.dst, hl.full, hM.closed, hM.back⟩
    exact drawn_code hP hC hM.noSelect hT.ends id rd ds f a w rd' hrd ht hd hh Q hQ
  · cases h

/-- **A function without arguments that the evaluator runs to a result which 'chk' takes does so at every world, and leaves what was there as it was.** -/
theorem runs_sound (hP : Fair P) {n : Nat} {g : FuncId} {gl : List (Nat × CObj)} {chk : Value → Bool} (h : runs P n g gl chk = true) (w : World) (hw : GW gl w) :
    ∃ v, chk v = true ∧ CallsIn (FW none) 0 P g #[] w (retK fun v' w' => (∃ f', VR f' v v') ∧ w.heap.size ≤ w'.heap.size ∧ (∀ i, i < w.heap.size → w'.heap[i]? = w.heap[i]?) ∧ w'.tape = w.tape ∧ w'.os = w.os ∧ w'.output = w.output) :=
  runs_ok hP (fun _ hr => drawOk hP hr) h w hw
end
end Go.Can
namespace Go.Can
open Go
variable [Glob]
set_option linter.unusedSectionVars false

/-! ### Calls that were run before -/
noncomputable section
def addrEq (a b : Option Addr) : Bool := match a, b with
  | none, none => true
  | some ⟨x, o, none⟩, some ⟨y, p, none⟩ => Nat.beq x y && Nat.beq o p
  | _, _ => false
def bytesEq : List UInt8 → List UInt8 → Bool
  | [], [] => true
  | x :: l, y :: m => match Nat.beq x.toNat y.toNat with
    | true => bytesEq l m
    | false => false
  | _, _ => false
theorem bytesEq_ok : ∀ {l m : List UInt8}, bytesEq l m = true → l = m
  | [], [], _ => rfl
  | x :: l, y :: m, h => by
    simp only [bytesEq] at h
    split at h
    · next hx => rw [UInt8.toNat_inj.1 (Nat.eq_of_beq_eq_true hx), bytesEq_ok h]
    · cases h
  | [], _ :: _, h => by simp [bytesEq] at h
  | _ :: _, [], h => by simp [bytesEq] at h
def valEq : Nat → Value → Value → Bool
  | 0, _, _ => false
  | n+1, a, b => match a, b with
    | .bool x, .bool y => decide (x = y)
    | .int k x, .int l y => decide (k = l) && decide (x = y)
    | .string x, .string y => bytesEq x.data.toList y.data.toList
    | .pointer p, .pointer q => addrEq p q
    | .slice p l c, .slice q m d => addrEq p q && (Nat.beq l m && Nat.beq c d)
    | .nilIface, .nilIface => true
    | .nilFunc, .nilFunc => true
    | .agg x, .agg y => go n x.toList y.toList
    | .tuple x, .tuple y => go n x.toList y.toList
    | _, _ => false
where go (n : Nat) : List Value → List Value → Bool
  | [], [] => true
  | x :: l, y :: m => valEq n x y && go n l m
  | _, _ => false
theorem addrEq_ok {a b : Option Addr} (h : addrEq a b = true) : a = b := by
  unfold addrEq at h
  split at h
  · rfl
  · simp only [Bool.and_eq_true] at h
    rw [Nat.eq_of_beq_eq_true h.1, Nat.eq_of_beq_eq_true h.2]
  · cases h
theorem valEq_go {n : Nat} (ih : ∀ a b, valEq n a b = true → a = b) : ∀ (l m : List Value), valEq.go n l m = true → l = m
  | [], [], _ => rfl
  | x :: l, y :: m, h => by
    simp only [valEq.go, Bool.and_eq_true] at h
    rw [ih x y h.1, valEq_go ih l m h.2]
  | [], _ :: _, h => by simp [valEq.go] at h
  | _ :: _, [], h => by simp [valEq.go] at h
theorem valEq_ok : ∀ (n : Nat) (a b : Value), valEq n a b = true → a = b
  | 0, a, b, h => by simp [valEq] at h
  | n+1, a, b, h => by
    have ih := valEq_ok n
    unfold valEq at h
    split at h <;> first | rfl | (cases h; done) | skip
    · rw [of_decide_eq_true h]
    · simp only [Bool.and_eq_true] at h
      rw [of_decide_eq_true h.1, of_decide_eq_true h.2]
    · next x y =>
      have := bytesEq_ok h
      obtain ⟨⟨x⟩⟩ := x
      obtain ⟨⟨y⟩⟩ := y
      dsimp only at this
      subst this; rfl
    · rw [addrEq_ok h]
    · simp only [Bool.and_eq_true] at h
      rw [addrEq_ok h.1, Nat.eq_of_beq_eq_true h.2.1, Nat.eq_of_beq_eq_true h.2.2]
    · have := valEq_go ih _ _ h
      rw [Array.toList_inj.1 this]
    · have := valEq_go ih _ _ h
      rw [Array.toList_inj.1 this]
def looseEq (a b : Option Nat) : Bool := match a, b with
  | none, none => true
  | some x, some y => Nat.beq x y
  | _, _ => false
theorem looseEq_ok {a b : Option Nat} (h : looseEq a b = true) : a = b := by
  unfold looseEq at h
  split at h
  · rfl
  · rw [Nat.eq_of_beq_eq_true h]
  · cases h
def objEq (a b : CObj) : Bool := match a, b with
  | .cells l e (f1, f2) lo, .cells l' e' (g1, g2) lo' => valEq.go 20 l l' && (Nat.beq e e' && (Nat.beq f1 g1 && (Nat.beq f2 g2 && looseEq lo lo')))
  | _, _ => false
theorem objEq_ok {a b : CObj} (h : objEq a b = true) : a = b := by
  unfold objEq at h
  split at h
  · simp only [Bool.and_eq_true] at h
    obtain ⟨h1, h2, h3, h4, h5⟩ := h
    rw [valEq_go (valEq_ok 20) _ _ h1, Nat.eq_of_beq_eq_true h2, Nat.eq_of_beq_eq_true h3, Nat.eq_of_beq_eq_true h4, looseEq_ok h5]
  · cases h

/-- a call that was run before: on what part of the heap, to what -/
structure Memo where
  g : FuncId
  args : List Value
  frag : List (Nat × CObj)
  next : Nat
  v : Value
  frag' : List (Nat × CObj)
  next' : Nat
structure MemoOk (P : Program) (m : Memo) : Prop where
  ex : ∃ c c', Jcall P m.g m.args c m.v c' ∧ c.next = m.next ∧ (∀ b o, c.get b = some o → (b, o) ∈ m.frag ∧ b < m.next) ∧ c'.next = m.next' ∧ m.next ≤ c'.low ∧ ∀ b o, (b, o) ∈ m.frag' → c'.get b = some o ∧ m.next ≤ b

def putsK : List (Nat × CObj) → T CObj → (T CObj → Bool) → Bool
  | [], h, k => k h
  | (b, o) :: l, h, k => T.put (some o) 64 h b fun h => putsK l h k
theorem putsK_ok : ∀ {l : List (Nat × CObj)} {h : T CObj} {k : T CObj → Bool}, putsK l h k = true → ∃ h', k h' = true ∧ (∀ b o, h'.get b = some o → h.get b = some o ∨ (b, o) ∈ l) ∧ (∀ b, (∀ o, (b, o) ∉ l) → h'.get b = h.get b)
  | [], h, k, e => ⟨h, e, fun _ _ g => .inl g, fun _ _ => rfl⟩
  | (b, o) :: l, h, k, e => by
    simp only [putsK] at e
    obtain ⟨h1, e1, e2⟩ := T.put_ok e
    obtain ⟨h2, e3, e4, e5⟩ := putsK_ok e1
    refine ⟨h2, e3, fun j o' hb => ?_, fun j hj => ?_⟩
    · rcases e4 j o' hb with h3 | h3
      · rw [e2] at h3
        by_cases hbg : j = b
        · rw [if_pos hbg] at h3; cases h3; subst hbg; exact .inr (by simp)
        · rw [if_neg hbg] at h3; exact .inl h3
      · exact .inr (by simp [h3])
    · rw [e5 j fun o' ho => hj o' (by simp [ho]), e2, if_neg (fun e => hj o (by simp [e]))]
def belowK (n : Nat) : List (Nat × CObj) → Bool
  | [] => true
  | (b, _) :: l => match Nat.ble (b+1) n with
    | true => belowK n l
    | false => false
theorem belowK_ok {n : Nat} : ∀ {l : List (Nat × CObj)}, belowK n l = true → ∀ b o, (b, o) ∈ l → b < n
  | [], _, b, o, h => by cases h
  | (x, _) :: l, h, b, o, hb => by
    simp only [belowK] at h
    split at h
    · next hx =>
      rcases List.mem_cons.1 hb with e | e
      · cases e; exact Nat.le_of_ble_eq_true hx
      · exact belowK_ok h b o e
    · cases h
def holdsK (n : Nat) (c : CW) : List (Nat × CObj) → Bool
  | [] => true
  | (b, o) :: l => match c.get b with
    | some o' => match objEq o' o && Nat.ble n b with
      | true => holdsK n c l
      | false => false
    | none => false
theorem holdsK_ok {n : Nat} {c : CW} : ∀ {l : List (Nat × CObj)}, holdsK n c l = true → ∀ b o, (b, o) ∈ l → c.get b = some o ∧ n ≤ b
  | [], _, b, o, h => by cases h
  | (x, y) :: l, h, b, o, hb => by
    simp only [holdsK] at h
    split at h
    · next o' ho' =>
      split at h
      · next hx =>
        simp only [Bool.and_eq_true] at hx
        rcases List.mem_cons.1 hb with e | e
        · cases e; exact ⟨by rw [ho', objEq_ok hx.1], Nat.le_of_ble_eq_true hx.2⟩
        · exact holdsK_ok h b o e
      · cases h
    · cases h
def pickM (g : FuncId) (n : Nat) : List Memo → Option Memo
  | [] => none
  | m :: l => match Nat.beq m.next n && Nat.beq m.g g with
    | true => some m
    | false => pickM g n l
theorem pickM_ok {g : FuncId} {n : Nat} : ∀ {l : List Memo} {m : Memo}, pickM g n l = some m → m ∈ l ∧ m.next = n ∧ m.g = g
  | [], m, h => by cases h
  | x :: l, m, h => by
    simp only [pickM] at h
    split at h
    · next hx =>
      simp only [Bool.and_eq_true] at hx
      cases h
      exact ⟨by simp, Nat.eq_of_beq_eq_true hx.1, Nat.eq_of_beq_eq_true hx.2⟩
    · obtain ⟨h1, h2⟩ := pickM_ok h
      exact ⟨by simp [h1], h2⟩
def memoK (m : Memo) (args : List Value) (c : CW) (k : K) : Bool := match valEq.go 20 args m.args && holdsK 0 c m.frag with
  | true => match c with
    | ⟨h, _, lo⟩ => putsK m.frag' h fun h => k .ret m.v .nil [] ⟨h, m.next', lo⟩
  | false => false
def goM (P : Program) (ms : List Memo) (r : Rec) : Rec := fun task tm ds c k => match task with
  | .code rd nt cd => goCode P r rd nt cd tm ds c k
  | .more t => match t with
    | .call g args => match pickM g c.next ms with
      | some m => memoK m args c k
      | none => goCall P r g args c k
    | t => goMore P r t tm ds c k

theorem memoK_ok {P : Program} {m : Memo} (hm : MemoOk P m) {args : List Value} {c : CW} {k : K} (hn : m.next = c.next) (h : memoK m args c k = true) :
    ∃ e v tm' ds' c', k e v tm' ds' c' = true ∧ Jcall P m.g args c v c' := by
  unfold memoK at h
  split at h
  · next he =>
    simp only [Bool.and_eq_true] at he
    have ha : args = m.args := valEq_go (valEq_ok 20) _ _ he.1
    have hfr := holdsK_ok he.2
    obtain ⟨hp, nx, lo⟩ := c
    dsimp only at h hn
    obtain ⟨h', g1, g2, g3⟩ := putsK_ok h
    refine ⟨_, _, _, _, _, g1, ?_⟩
    obtain ⟨d, d', hj, e1, e2, e3, e4, e5⟩ := hm.ex
    subst ha
    refine ⟨hj.1, fun f w args' hl hh K hK => ?_⟩
    have hd : HR f d w := ⟨fun b1 b2 r l1 l2 h1 h2 => by
        obtain ⟨o1, q1⟩ := Option.isSome_iff_exists.1 h1
        obtain ⟨o2, q2⟩ := Option.isSome_iff_exists.1 h2
        exact hh.inj b1 b2 r l1 l2 (by rw [(hfr b1 o1 (e2 b1 o1 q1).1).1]; rfl) (by rw [(hfr b2 o2 (e2 b2 o2 q2).1).1]; rfl),
      fun b o r lz q hf => hh.obj b o r lz (hfr b o (e2 b o q).1).1 hf,
      fun b r lz hf => by have := hh.dom b r lz hf; exact ⟨this.1, by rw [e1, hn]; exact this.2⟩,
      fun b hb => by obtain ⟨o, q⟩ := Option.isSome_iff_exists.1 hb; rw [e1]; exact (e2 b o q).2, hh.glob⟩
    refine hj.2 f w args' hl hd K fun f' v' w' hh' hx hv => ?_
    have oldOf : ∀ b x, b < nx → f' b = some x → f b = some x := fun b x hb hf => (hx.new b x hf).resolve_right (by rw [e1]; omega)
    have still : ∀ r, r < w.heap.size → w'.heap[r]? = w.heap[r]? := fun r hr => hx.old r hr fun b lz hb _ => by
      obtain ⟨o, q⟩ := Option.isSome_iff_exists.1 hb
      have := (e2 b o q).2; omega
    have newR : ∀ b r lz, nx ≤ b → f' b = some (r, lz) → w.heap.size ≤ r := fun b r lz hb hf => by
      rcases hx.fresh b r lz (hh.fresh (by exact hb)) hf with h1 | ⟨b0, lz0, h1, _, h2⟩
      · exact h1
      · obtain ⟨o, q⟩ := Option.isSome_iff_exists.1 h1
        have := (e2 b0 o q).2; omega
    have hle : nx ≤ m.next' := by have := hx.next; omega
    -- what lives afterwards
    have lives : ∀ b o, (⟨h', m.next', lo⟩ : CW).get b = some o → (b < nx ∧ (⟨hp, nx, lo⟩ : CW).get b = some o) ∨ (nx ≤ b ∧ d'.get b = some o) := fun b o hb => by
      rcases g2 b o hb with h1 | h1
      · exact .inl ⟨hh.live b (by show (hp.get b).isSome = true; rw [h1]; rfl), h1⟩
      · obtain ⟨q1, q2⟩ := e5 b o h1
        exact .inr ⟨by omega, q1⟩
    have keep : ∀ b, b < nx → (⟨h', m.next', lo⟩ : CW).get b = (⟨hp, nx, lo⟩ : CW).get b := fun b hb => g3 b fun o ho => by
      have := (e5 b o ho).2; omega
    refine hK f' v' w' ⟨fun b1 b2 r l1 l2 h1 h2 q1 q2 => ?_, fun b o r lz hb hf => ?_, fun b r lz hf => by have := hh'.dom b r lz hf; rw [e3] at this; exact this, fun b hb => ?_, hh'.glob⟩
      ⟨hx.sub, fun b x hf => by have := hx.new b x hf; rw [e1, hn] at this; exact this, hle, Nat.le_refl _, hx.size, hx.tape, hx.os, hx.output, fun r hr _ => still r hr, fun b r lz hb hf => ?_, fun b hb _ => keep b hb, fun b hb q => by rw [keep b hb]; exact q⟩ hv
    · obtain ⟨o1, s1⟩ := Option.isSome_iff_exists.1 h1
      obtain ⟨o2, s2⟩ := Option.isSome_iff_exists.1 h2
      rcases lives b1 o1 s1 with ⟨n1, t1⟩ | ⟨n1, t1⟩ <;> rcases lives b2 o2 s2 with ⟨n2, t2⟩ | ⟨n2, t2⟩
      · exact hh.inj b1 b2 r l1 l2 (by rw [t1]; rfl) (by rw [t2]; rfl) (oldOf _ _ n1 q1) (oldOf _ _ n2 q2)
      · have a1 := (hh.dom _ _ _ (oldOf _ _ n1 q1)).1
        have a2 := newR _ _ _ n2 q2; omega
      · have a1 := (hh.dom _ _ _ (oldOf _ _ n2 q2)).1
        have a2 := newR _ _ _ n1 q1; omega
      · exact hh'.inj b1 b2 r l1 l2 (by rw [t1]; rfl) (by rw [t2]; rfl) q1 q2
    · rcases lives b o hb with ⟨n1, t1⟩ | ⟨n1, t1⟩
      · have q := oldOf _ _ n1 hf
        obtain ⟨o', s1, s2⟩ := hh.obj b o r lz t1 q
        exact ⟨o', by rw [still r (hh.dom _ _ _ q).1]; exact s1, s2.mono hx.sub⟩
      · exact hh'.obj b o r lz t1 hf
    · obtain ⟨o, s1⟩ := Option.isSome_iff_exists.1 hb
      show b < m.next'
      rcases lives b o s1 with ⟨n1, t1⟩ | ⟨n1, t1⟩
      · omega
      · have := hh'.live b (by rw [t1]; rfl); omega
    · by_cases hn : b < nx
      · have := oldOf _ _ hn hf; rw [hb] at this; cases this
      · exact .inl (newR _ _ _ (by omega) hf)
  · cases h

theorem goM_ok {P : Program} (hP : Fair P) {ms : List Memo} (hms : ∀ m ∈ ms, MemoOk P m) {r : Rec} (hr : Ok P r) : Ok P (goM P ms r) := by
  intro task tm ds c k h
  cases task with
  | code rd nt cd => exact goStep_ok hP hr (drawOk hP hr) (.code rd nt cd) tm ds c k h
  | more t =>
    cases t with
    | call g args =>
      simp only [goM] at h
      split at h
      · next m hm =>
        obtain ⟨h1, h2, rfl⟩ := pickM_ok hm
        exact memoK_ok (hms m h1) h2 h
      · exact goStep_ok hP hr (drawOk hP hr) (.more (.call g args)) tm ds c k h
    | round rd nt cd => exact goStep_ok hP hr (drawOk hP hr) (.more (.round rd nt cd)) tm ds c k h
    | yield l args => exact goStep_ok hP hr (drawOk hP hr) (.more (.yield l args)) tm ds c k h
    | leave fn => exact goStep_ok hP hr (drawOk hP hr) (.more (.leave fn)) tm ds c k h
    | dcall g args => exact goStep_ok hP hr (drawOk hP hr) (.more (.dcall g args)) tm ds c k h
def goN (P : Program) (ms : List Memo) (n : Nat) : Rec := Nat.rec (fun _ _ _ _ _ => false) (fun _ r => goM P ms r) n
theorem goN_ok {P : Program} (hP : Fair P) {ms : List Memo} (hms : ∀ m ∈ ms, MemoOk P m) : ∀ n, Ok P (goN P ms n)
  | 0 => fun task tm ds c k h => by cases h
  | n+1 => goM_ok hP hms (goN_ok hP hms n)

def kMemo (m : Memo) : K := fun _ v _ _ c => match c with
  | ⟨h, nx, lo⟩ => valEq 20 v m.v && (Nat.beq nx m.next' && (Nat.ble m.next lo && holdsK m.next ⟨h, nx, lo⟩ m.frag'))
/-- the run that a memo is of -/
def runMemo (P : Program) (ms : List Memo) (n : Nat) (m : Memo) : Bool := belowK m.next m.frag && putsK m.frag .nil fun h => goN P ms n (.more (.call m.g m.args)) .nil [] ⟨h, m.next, m.next⟩ (kMemo m)
theorem memo_ok {P : Program} (hP : Fair P) {ms : List Memo} (hms : ∀ m ∈ ms, MemoOk P m) {n : Nat} {m : Memo} (h : runMemo P ms n m = true) : MemoOk P m := by
  unfold runMemo at h
  simp only [Bool.and_eq_true] at h
  obtain ⟨hb, h⟩ := h
  obtain ⟨h', g1, g2, g3⟩ := putsK_ok h
  obtain ⟨e, v, tm', ds', c', h1, hj⟩ := goN_ok hP hms n _ _ _ _ _ g1
  obtain ⟨hp, nx, lo⟩ := c'
  simp only [kMemo, Bool.and_eq_true] at h1
  obtain ⟨h2, h3, h4, h5⟩ := h1
  refine ⟨⟨⟨h', m.next, m.next⟩, ⟨hp, nx, lo⟩, by rw [← valEq_ok 20 _ _ h2]; exact hj, rfl, fun b o q => ?_, Nat.eq_of_beq_eq_true h3, Nat.le_of_ble_eq_true h4, holdsK_ok h5⟩⟩
  rcases g2 b o q with h6 | h6
  · rw [T.get_nil] at h6; cases h6
  · exact ⟨h6, belowK_ok hb b o h6⟩

def runsM (P : Program) (ms : List Memo) (n : Nat) (f : FuncId) (gl : List (Nat × CObj)) (chk : Value → Bool) : Bool := layK gl .nil fun h => goN P ms n (.more (.call f [])) .nil [] ⟨h, Glob.num, Glob.num⟩ (kLow chk)
/-- as runs_sound, with calls that were run before -/
theorem runsM_sound {P : Program} (hP : Fair P) {ms : List Memo} (hms : ∀ m ∈ ms, MemoOk P m) {n : Nat} {g : FuncId} {gl : List (Nat × CObj)} {chk : Value → Bool} (h : runsM P ms n g gl chk = true) (w : World) (hw : GW gl w) :
    ∃ v, chk v = true ∧ CallsIn (FW none) 0 P g #[] w (retK fun v' w' => (∃ f', VR f' v v') ∧ w.heap.size ≤ w'.heap.size ∧ (∀ i, i < w.heap.size → w'.heap[i]? = w.heap[i]?) ∧ w'.tape = w.tape ∧ w'.os = w.os ∧ w'.output = w.output) := by
  obtain ⟨h', g1, g2⟩ := layK_ok h
  obtain ⟨e, v, tm', ds', c', h1, _, h2⟩ := goN_ok hP hms n _ _ _ _ _ g1
  unfold kLow at h1
  split at h1
  · next hlow =>
    have hlow := Nat.le_of_ble_eq_true hlow
    have hh : ∀ b o, h'.get b = some o → b < Glob.num ∧ (b, o) ∈ gl := fun b o hb => by
      rcases g2 b o hb with h3 | h3
      · rw [T.get_nil] at h3; cases h3
      · exact h3
    refine ⟨v, h1, h2 gMp w #[] .nil (HR_g hw hh) _ fun f' v' w' _ hx hv => ⟨⟨f', hv⟩, hx.size, fun i hi => hx.old i hi fun b lz hb hf => ?_, hx.tape, hx.os, hx.output⟩⟩
    exact Nat.lt_of_lt_of_le (gMp_eq hf).2.2 hlow
  · cases h1
end
end Go.Can
namespace Go.Can
open Go Go.RowKit
variable [Glob]
set_option linter.unusedSectionVars false

theorem HR.below {f : Mp} {c : CW} {w w' : World} (h : HR f c w) (hb : Below w.heap.size w w') : HR f c w' ∧ Ext f c w f c w' :=
  ⟨⟨h.inj, fun b o r lz h1 h2 => by
      obtain ⟨o', h3, h4⟩ := h.obj b o r lz h1 h2
      exact ⟨o', by rw [hb.block r (h.dom b r lz h2).1]; exact h3, h4⟩,
    fun b r lz e => ⟨Nat.lt_of_lt_of_le (h.dom b r lz e).1 hb.size, (h.dom b r lz e).2⟩, h.live, h.glob⟩,
   ⟨Sub.refl f, fun _ _ h => .inl h, Nat.le_refl _, Nat.le_refl _, hb.size, hb.tape, hb.os, hb.output, fun r hr _ => hb.block r hr, fun _ _ _ h e => (by rw [h] at e; cases e), fun _ _ _ => rfl, fun _ _ h => h⟩⟩

/-- a call whose contract is known: it makes nothing that is looked at -/
theorem memo_of_calls {P : Program} (hP : Fair P) {m : Memo} {fn : Func} {b : Code} (hf : P.funcs[m.g]? = some fn) (hb : fn.body = some b) (h1 : m.frag' = []) (h2 : m.next' = m.next)
    (hk : (belowK m.next m.frag && putsK m.frag .nil fun h => holdsK 0 ⟨h, m.next, m.next⟩ m.frag) = true)
    (h : ∀ (f : Mp) (w : World) (args' : Array Value) (c : CW), LR f m.args args'.toList → HR f c w → (∀ b o, (b, o) ∈ m.frag → c.get b = some o) →
      Calls P m.g args' w fun e w' => ∃ v', e = .returned v' ∧ VR f m.v v' ∧ Below w.heap.size w w') : MemoOk P m := by
  simp only [Bool.and_eq_true] at hk
  obtain ⟨hb1, hk⟩ := hk
  obtain ⟨h', g1, g2, _⟩ := putsK_ok hk
  have hh := holdsK_ok g1
  refine ⟨⟨⟨h', m.next, m.next⟩, ⟨h', m.next, m.next⟩, ⟨fun args w => run_callFunc_body hP hf hb args w, fun f w args' hl hr K hK => ?_⟩, rfl, fun b o q => ?_, h2.symm, Nat.le_refl _, fun b o hbo => by rw [h1] at hbo; cases hbo⟩⟩
  · refine callsIn_wide.2 ((h f w args' _ hl hr fun b o hbo => (hh b o hbo).1).mono fun e w' ⟨v', he, hv, hbl⟩ => ?_)
    subst he
    obtain ⟨q1, q2⟩ := hr.below hbl
    exact hK f v' w' q1 q2 hv
  · rcases g2 b o q with h3 | h3
    · rw [T.get_nil] at h3; cases h3
    · exact ⟨h3, belowK_ok hb1 b o h3⟩

/-- cells of plain values, as they stand -/
theorem OR.plain {l : List Value} {e : TypeId} {fr : Nat × Nat} (h : l.all plainB = true) : OR gMp none (.cells l e fr none) (.cells l.toArray e fr) :=
  ⟨rfl, rfl, .inl ⟨rfl, rfl⟩, ⟨by simp, fun _ => by simp, fun i v hv => ⟨v, by simpa using hv, .of_plain (List.all_eq_true.1 h v (List.mem_of_getElem? hv))⟩⟩⟩
theorem runsM_true {P : Program} (hP : Fair P) {ms : List Memo} (hms : ∀ m ∈ ms, MemoOk P m) {n : Nat} {g : FuncId} {gl : List (Nat × CObj)} (h : runsM P ms n g gl isTrue = true) (w : World) (hw : GW gl w) :
    Calls P g #[] w fun e w' => e = .returned (.bool true) ∧ Below w.heap.size w w' := by
  obtain ⟨v, h1, h2⟩ := runsM_sound hP hms h w hw
  refine (callsIn_wide.1 h2).mono fun e w' he => ?_
  cases e with
  | returned u =>
    obtain ⟨⟨f', hv⟩, s1, s2, s3, s4, s5⟩ := he
    refine ⟨?_, ⟨s4, s3, s5, s1, s2⟩⟩
    cases hv <;> simp [isTrue] at h1
    rw [h1]
  | panicked _ => exact he.elim
  | outgrown => exact he.elim
end Go.Can
namespace Go.Can
open Go Go.RowKit
variable [Glob]
set_option linter.unusedSectionVars false
noncomputable section
/-- what stands at (b, o), o+1, .. of the evaluator's memory -/
def readC (c : CW) (v : Value) : Option (List Value) := match v with
  | .slice (some ⟨b, o, none⟩) n m => match c.get b with
    | some (.cells l _ _ _) => if o + n ≤ l.length ∧ n ≤ m then some ((l.drop o).take n) else none
    | _ => none
  | _ => none
/-- lists of numbers that a slice of slices of int holds -/
def intsV : List Value → Option (List Int)
  | [] => some []
  | .int .i64 n :: l => (intsV l).map (n :: ·)
  | _ => none
def readI (c : CW) (v : Value) : Option (List Int) := match readC c v with
  | some l => intsV l
  | none => none
def readsI (c : CW) : List Value → Option (List (List Int))
  | [] => some []
  | v :: l => match readI c v with
    | some x => (readsI c l).map (x :: ·)
    | none => none
def readII (c : CW) (v : Value) : Option (List (List Int)) := match readC c v with
  | some l => readsI c l
  | none => none
/-- in memory -/
def SlI (w : World) (v : Value) (l : List Int) : Prop := ∃ b o cap, v = .slice (some ⟨b, o, none⟩) l.length cap ∧ l.length ≤ cap ∧ b < w.heap.size ∧ ∀ i (h : i < l.length), w.cell? ⟨b, o + i, none⟩ = some (.int .i64 (l[i]))
def SlII (w : World) (v : Value) (l : List (List Int)) : Prop := ∃ b o cap, v = .slice (some ⟨b, o, none⟩) l.length cap ∧ b < w.heap.size ∧ ∀ i (h : i < l.length), ∃ u, w.cell? ⟨b, o + i, none⟩ = some u ∧ SlI w u (l[i])
theorem SlI.below {w w' : World} {v : Value} {l : List Int} (h : SlI w v l) (hb : Below w.heap.size w w') : SlI w' v l := by
  obtain ⟨b, o, cap, h1, h0, h2, h3⟩ := h
  exact ⟨b, o, cap, h1, h0, Nat.lt_of_lt_of_le h2 hb.size, fun i hi => (hb.cell (p := ⟨b, o + i, none⟩) h2).trans (h3 i hi)⟩
theorem SlII.below {w w' : World} {v : Value} {l : List (List Int)} (h : SlII w v l) (hb : Below w.heap.size w w') : SlII w' v l := by
  obtain ⟨b, o, cap, h1, h2, h3⟩ := h
  refine ⟨b, o, cap, h1, Nat.lt_of_lt_of_le h2 hb.size, fun i hi => ?_⟩
  obtain ⟨u, h4, h5⟩ := h3 i hi
  exact ⟨u, (hb.cell (p := ⟨b, o + i, none⟩) h2).trans h4, h5.below hb⟩
theorem readC_ok {f : Mp} {c : CW} {w : World} {v v' : Value} {l : List Value} (hv : VR f v v') (hh : HR f c w) (h : readC c v = some l) (hl : 0 < l.length) :
    ∃ r o cap, v' = .slice (some ⟨r, o, none⟩) l.length cap ∧ l.length ≤ cap ∧ r < w.heap.size ∧ ∀ i x, l[i]? = some x → ∃ x', w.cell? ⟨r, o + i, none⟩ = some x' ∧ VR f x x' := by
  unfold readC at h
  split at h
  · next b o n cap =>
    split at h
    · next ls e fr lo hg =>
      split at h
      · next hlen =>
        cases h
        have hln : ((ls.drop o).take n).length = n := by simp; omega
        rw [hln] at hl ⊢
        cases hv with
        | slice _ _ hf h1 h2 =>
          rename_i r lz cap'
          obtain ⟨o', ho, hor⟩ := hh.obj _ _ _ _ hg hf
          cases o' <;> simp only [OR] at hor
          have hcs := hor.2.2.2
          refine ⟨r, o, _, rfl, by omega, (hh.dom _ _ _ hf).1, fun i x hx => ?_⟩
          have hin : i < n := by
            rcases Nat.lt_or_ge i n with q | q
            · exact q
            · rw [List.getElem?_eq_none (by rw [hln]; exact q)] at hx; cases hx
          rw [List.getElem?_take, if_pos hin, List.getElem?_drop] at hx
          obtain ⟨x', h4, h5⟩ := hcs.get _ _ hx
          exact ⟨x', by rw [cell_of ho]; exact h4, h5⟩
        | sliceE => omega
      · cases h
    · cases h
  · cases h
theorem intsV_ok : ∀ {l : List Value} {m : List Int}, intsV l = some m → l = m.map (Value.int .i64)
  | [], m, h => by cases h; rfl
  | v :: l, m, h => by
    unfold intsV at h
    split at h
    · next e => cases e
    · next n l2 e =>
      cases e
      cases h2 : intsV l with
      | none => rw [h2] at h; cases h
      | some m2 => rw [h2] at h; cases h; rw [intsV_ok h2]; rfl
    · cases h
theorem readI_ok {f : Mp} {c : CW} {w : World} {v v' : Value} {m : List Int} (hv : VR f v v') (hh : HR f c w) (h : readI c v = some m) (hm : 0 < m.length) : SlI w v' m := by
  unfold readI at h
  split at h
  · next l hl =>
    have e := intsV_ok h
    subst e
    obtain ⟨r, o, cap, h1, h0, h2, h3⟩ := readC_ok hv hh hl (by simpa using hm)
    rw [List.length_map] at h1 h0
    refine ⟨r, o, cap, h1, h0, h2, fun i hi => ?_⟩
    obtain ⟨x', h4, h5⟩ := h3 i (.int .i64 m[i]) (by rw [List.getElem?_map, List.getElem?_eq_getElem hi]; rfl)
    cases h5
    exact h4
  · cases h
theorem readsI_ok {c : CW} : ∀ {l : List Value} {m : List (List Int)}, readsI c l = some m → m.length = l.length ∧ ∀ (i : Nat) (x : Value), l[i]? = some x → ∃ y, m[i]? = some y ∧ readI c x = some y
  | [], m, h => by cases h; exact ⟨rfl, fun i x h => by simp at h⟩
  | v :: l, m, h => by
    unfold readsI at h
    split at h
    · next x hx =>
      cases h2 : readsI c l with
      | none => rw [h2] at h; cases h
      | some m2 =>
        rw [h2] at h; cases h
        obtain ⟨q1, q2⟩ := readsI_ok h2
        refine ⟨by simp [q1], fun i y hy => ?_⟩
        cases i with
        | zero => simp at hy; subst hy; exact ⟨x, rfl, hx⟩
        | succ i => simp at hy; obtain ⟨z, h5, h6⟩ := q2 i y hy; exact ⟨z, by simpa using h5, h6⟩
    · cases h
theorem readII_ok {f : Mp} {c : CW} {w : World} {v v' : Value} {m : List (List Int)} (hv : VR f v v') (hh : HR f c w) (h : readII c v = some m) (hm : 0 < m.length) (hall : ∀ x ∈ m, 0 < x.length) : SlII w v' m := by
  unfold readII at h
  split at h
  · next l hl =>
    obtain ⟨q1, q2⟩ := readsI_ok h
    obtain ⟨r, o, cap, h1, h0, h2, h3⟩ := readC_ok hv hh hl (by omega)
    rw [← q1] at h1
    refine ⟨r, o, cap, h1, h2, fun i hi => ?_⟩
    obtain ⟨x, hx⟩ : ∃ x, l[i]? = some x := ⟨_, List.getElem?_eq_getElem (by omega)⟩
    obtain ⟨x', h4, h5⟩ := h3 i x hx
    obtain ⟨y, h6, h7⟩ := q2 i x hx
    have h8 : m[i] = y := by rw [List.getElem?_eq_getElem hi] at h6; exact Option.some.inj h6
    refine ⟨x', h4, ?_⟩
    rw [h8]
    exact readI_ok h5 hh h7 (hall y (by rw [← h8]; exact List.getElem_mem hi))
  · cases h
def kFin (chk : Value → CW → Bool) : K := fun _ v _ _ c => match Nat.ble Glob.num c.low with
  | true => chk v c
  | false => false
/-- a call with plain arguments, run to its end -/
def runsA (P : Program) (ms : List Memo) (n : Nat) (g : FuncId) (args : List Value) (chk : Value → CW → Bool) : Bool := goN P ms n (.more (.call g args)) .nil [] ⟨.nil, Glob.num, Glob.num⟩ (kFin chk)
theorem LR_plain {f : Mp} : ∀ {l : List Value}, l.all plainB = true → LR f l l
  | [], _ => .nil
  | v :: l, h => by
    rw [List.all_cons, Bool.and_eq_true] at h
    exact .cons (.of_plain h.1) (LR_plain h.2)
theorem runsA_sound {P : Program} (hP : Fair P) {ms : List Memo} (hms : ∀ m ∈ ms, MemoOk P m) {n : Nat} {g : FuncId} {args : List Value} {chk : Value → CW → Bool} (hargs : args.all plainB = true) (h : runsA P ms n g args chk = true) (w : World) (hw : Glob.num ≤ w.heap.size) :
    Calls P g args.toArray w fun e w' => ∃ v v' c f, e = .returned v' ∧ chk v c = true ∧ VR f v v' ∧ HR f c w' ∧ Below w.heap.size w w' := by
  obtain ⟨e, v, tm', ds', c', h1, _, h2⟩ := goN_ok hP hms n _ _ _ _ _ h
  unfold kFin at h1
  split at h1
  · next hlow =>
    have hlow := Nat.le_of_ble_eq_true hlow
    have hgw : GW [] w := ⟨hw, fun _ _ h => by cases h⟩
    have h3 := h2 gMp w args.toArray (by simpa using LR_plain hargs) (HR_g hgw (h := .nil) (fun b o hb => by rw [T.get_nil] at hb; cases hb))
      (fun v' w' => ∃ f, VR f v v' ∧ HR f c' w' ∧ Below w.heap.size w w') fun f' v' w' hr hx hv => ⟨f', hv, hr, ⟨hx.os, hx.tape, hx.output, hx.size, fun i hi => hx.old i hi fun b lz hb hf => by exact Nat.lt_of_lt_of_le (gMp_eq hf).2.2 hlow⟩⟩
    refine (callsIn_wide.1 h3).mono fun e w' he => ?_
    cases e with
    | returned u =>
      obtain ⟨f, q1, q2, q3⟩ := he
      exact ⟨v, u, c', f, rfl, h1, q1, q2, q3⟩
    | panicked _ => exact he.elim
    | outgrown => exact he.elim
  · cases h1
end
end Go.Can
