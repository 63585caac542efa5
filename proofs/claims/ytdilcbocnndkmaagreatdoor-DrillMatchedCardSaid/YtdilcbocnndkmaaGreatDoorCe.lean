/- A part of the proof: see the last file. -/
import Derived.Test.YtdilcbocnndkmaaGreatDoorCd
import Derived.RangeFuncNested
import Derived.RecoverIn
set_option linter.unusedVariables false
set_option linter.unusedSimpArgs false
set_option linter.unusedSectionVars false
namespace Go.Can
open Go
variable [Glob]
set_option linter.unusedSectionVars false

/-! ### What the evaluator's runs say of the machine -/
def FW (rd : Option Nat) : Fence := { Fence.wide with round := rd }
theorem FW_room {rd : Option Nat} (n : Nat) : (FW rd).room n := fun d h => by cases h
theorem FW_fn {rd : Option Nat} (g : FuncId) : (FW rd).fn g := trivial
theorem FW_calls {rd rd' : Option Nat} {P : Program} {g : FuncId} {args : Array Value} {w : World} {R : Ending → World → Prop} (h : CallsIn (FW rd) 0 P g args w R) : CallsIn (FW rd') 0 P g args w R := h
theorem FW_round {rd rd' : Option Nat} {P : Program} {l : Nat} {g : FuncId} {tmps : Array Value} {as bd : Code} {w : World} {R : Ending → World → Prop} (h : RoundIn (FW rd) 0 P l g tmps as bd w R) : RoundIn (FW rd') 0 P l g tmps as bd w R := h

inductive RD (f : Mp) : Option Nat → Option Nat → Prop
  | no : RD f none none
  | yes {l r : Nat} {z : Z} (h : f l = some (r, z)) : RD f (some l) (some r)
theorem RD.mono {f g : Mp} {x y : Option Nat} (s : Sub f g) : RD f x y → RD g x y
  | .no => .no
  | .yes h => .yes (s _ _ h)

def retK (K : Value → World → Prop) : Ending → World → Prop
  | .returned v, w => K v w
  | _, _ => False
def NextIn (P : Program) (K : Value → World → Prop) : Result Next → Prop
  | .ok (.value v) w => K v w
  | .ok .skip w => K undef w
  | .ok (.enter g args) w => CallsIn (FW none) 0 P g args w (retK K)
  | .ok (.round l g tmps as bd) w => RoundIn (FW none) 0 P l g tmps as bd w (retK K)
  | _ => False

theorem wpIn_of_next {P : Program} {o : Oper} {a : Act} {w : World} {rd : Option Nat} {next : Act → World → Prop} {Q : Exit → Act → World → Prop} (hd : ∀ c, o.op ≠ .defer c)
    (h : NextIn P (fun v w' => next (a.put o.dst v) w') ((execOp a.eval o).run P w)) : o.wpIn (FW rd) 0 P a w next Q := by
  refine ⟨fun _ _ => trivial, ?_⟩
  rw [Oper.semAt_eq _ _ _ hd]
  generalize (execOp a.eval o).run P w = r at h
  cases r with
  | halt x w' => cases x <;> exact h.elim
  | ok x w' =>
    cases x <;> first | exact h | exact h.elim | skip
    · exact ⟨fun e => (by cases e), CallsIn.mono h fun e w'' he => by cases e <;> first | exact he | exact he.elim⟩
    · exact ⟨fun e => (by cases e), RoundIn.mono h fun e w'' he => by cases e <;> first | exact he | exact he.elim⟩

section J
variable (P : Program)
def Jop (o : Oper) (tm : T Value) (c : CW) (v : Value) (c' : CW) : Prop :=
  (∀ d, o.op ≠ .defer d) ∧ ∀ (f : Mp) (nt : Nat) (a : Act) (w : World), TR f tm nt a.tmps → HR f c w → ∀ K : Value → World → Prop,
    (∀ f' v' w', HR f' c' w' → Ext f c w f' c' w' → VR f' v v' → K v' w') → NextIn P K ((execOp a.eval o).run P w)
def Jcode (rd : Option Nat) (nt : Nat) (cd : Code) (tm : T Value) (ds : List CDef) (c : CW) (e : Ex) (tm' : T Value) (ds' : List CDef) (c' : CW) : Prop :=
  ∀ (f : Mp) (a : Act) (w : World) (rd' : Option Nat), RD f rd rd' → TR f tm nt a.tmps → DR f ds a.defers → HR f c w → ∀ Q : Exit → Act → World → Prop,
    (∀ f' a' w', TR f' tm' nt a'.tmps → DR f' ds' a'.defers → HR f' c' w' → Ext f c w f' c' w' → Q (exOf e) a' w') → cd.wpIn (FW rd') 0 P Q a w
def Jround (rd : Option Nat) (nt : Nat) (cd : Code) (tm : T Value) (ds : List CDef) (c : CW) (e : Ex) (tm' : T Value) (ds' : List CDef) (c' : CW) : Prop :=
  ∀ (f : Mp) (a : Act) (w : World) (rd' : Option Nat), RD f rd rd' → TR f tm nt a.tmps → DR f ds a.defers → HR f c w → ∀ Q : Exit → Act → World → Prop,
    (∀ f' a' w', TR f' tm' nt a'.tmps → DR f' ds' a'.defers → HR f' c' w' → Ext f c w f' c' w' → Q (exOf e) a' w') →
    ∀ (b : Frame) (k : List Item) (cs : List Frame), b.roundOf = rd' → ∃ e' a' w', Q e' a' w' ∧ ArrivesIn (Machine.fenced P (FW rd')) P (lone (b.atR a (.code cd :: .inLoop cd :: k)) cs w) b k cs e' a' w'
def Jops (rd : Option Nat) (nt : Nat) (all todo : List Oper) (tm : T Value) (ds : List CDef) (c : CW) (tm' : T Value) (ds' : List CDef) (c' : CW) : Prop :=
  ∀ (ops : Array Oper) (i : Nat), ops.toList = all → all.drop i = todo → ∀ (f : Mp) (a : Act) (w : World) (rd' : Option Nat), RD f rd rd' → TR f tm nt a.tmps → DR f ds a.defers → HR f c w → ∀ Q : Exit → Act → World → Prop,
    (∀ f' a' w', TR f' tm' nt a'.tmps → DR f' ds' a'.defers → HR f' c' w' → Ext f c w f' c' w' → Q .normal a' w') → wpOpsIn (FW rd') 0 P ops Q (List.range' i todo.length) a w
def Jenter (g : FuncId) (args : List Value) (c : CW) (v : Value) (c' : CW) : Prop :=
  ∀ (f : Mp) (w : World) (args' : Array Value), LR f args args'.toList → HR f c w → ∀ K : Value → World → Prop,
    (∀ f' v' w', HR f' c' w' → Ext f c w f' c' w' → VR f' v v' → K v' w') → NextIn P K ((callFunc g args').run P w)
def Jcall (g : FuncId) (args : List Value) (c : CW) (v : Value) (c' : CW) : Prop :=
  (∀ (args : Array Value) (w : World), (callFunc g args).run P w = .ok (.enter g args) w) ∧ ∀ (f : Mp) (w : World) (args' : Array Value), LR f args args'.toList → HR f c w → ∀ K : Value → World → Prop,
    (∀ f' v' w', HR f' c' w' → Ext f c w f' c' w' → VR f' v v' → K v' w') → CallsIn (FW none) 0 P g args' w (retK K)
def Jyield (l : Nat) (args : List Value) (c : CW) (v : Value) (c' : CW) : Prop :=
  ∀ (f : Mp) (w : World) (args' : Array Value) (r : Nat) (z : Z), f l = some (r, z) → LR f args args'.toList → HR f c w → ∀ K : Value → World → Prop,
    (∀ f' v' w', HR f' c' w' → Ext f c w f' c' w' → VR f' v v' → K v' w') → NextIn P K ((Instr.yield r args').run P w)
def Jleave (fn : Func) (tm : T Value) (ds : List CDef) (c : CW) (v : Value) (c' : CW) : Prop :=
  ∀ (f : Mp) (tmps : Array Value) (ds' : List Deferred) (w : World), TR f tm fn.ntmps tmps → DR f ds ds' → HR f c w → ∀ K : Value → World → Prop,
    (∀ f' v' w', HR f' c' w' → Ext f c w f' c' w' → VR f' v v' → K v' w') → LeavesInM (FW none) 0 P fn tmps (retK K) ds' .returning w
def retD (K : Value → World → Prop) : Ending → FrameMode → World → Prop
  | .returned v, .returning, w => K v w
  | _, _, _ => False
def Jdcall (g : FuncId) (args : List Value) (c : CW) (v : Value) (c' : CW) : Prop :=
  (∀ (args : Array Value) (w : World), (callFunc g args).run P w = .ok (.enter g args) w) ∧ ∀ (f : Mp) (w : World) (args' : Array Value), LR f args args'.toList → HR f c w → ∀ K : Value → World → Prop,
    (∀ f' v' w', HR f' c' w' → Ext f c w f' c' w' → VR f' v v' → K v' w') → CallsDIn (FW none) 0 P g args' .returning w (retD K)
end J

section
variable {P : Program} {rd : Option Nat} {nt : Nat} {tm tm1 tm2 : T Value} {ds ds1 ds2 : List CDef} {c c1 c2 : CW}

theorem Jcode.leaf {cd : Code} {e : Ex} (h : ∀ (rd' : Option Nat) (Q : Exit → Act → World → Prop) (a : Act) (w : World), Q (exOf e) a w → cd.wpIn (FW rd') 0 P Q a w) : Jcode P rd nt cd tm ds c e tm ds c :=
  fun f a w rd' _ ht hd hr Q hQ => h rd' Q a w (hQ f a w ht hd hr (Ext.refl _ _ _))
theorem Jcode.seq_go {x y : Code} {e : Ex} (hx : Jcode P rd nt x tm ds c .normal tm1 ds1 c1) (hy : Jcode P rd nt y tm1 ds1 c1 e tm2 ds2 c2) : Jcode P rd nt (.seq x y) tm ds c e tm2 ds2 c2 :=
  fun f a w rd' hrd ht hd hr Q hQ => wpIn_seq (hx f a w rd' hrd ht hd hr _ fun f1 a1 w1 ht1 hd1 hr1 hx1 =>
    hy f1 a1 w1 rd' (hrd.mono hx1.sub) ht1 hd1 hr1 Q fun f2 a2 w2 ht2 hd2 hr2 hx2 => hQ f2 a2 w2 ht2 hd2 hr2 (hx1.trans hr hx2))
theorem Jcode.seq_out {x y : Code} {e : Ex} (he : e ≠ .normal) (hx : Jcode P rd nt x tm ds c e tm1 ds1 c1) : Jcode P rd nt (.seq x y) tm ds c e tm1 ds1 c1 :=
  fun f a w rd' hrd ht hd hr Q hQ => wpIn_seq (hx f a w rd' hrd ht hd hr _ fun f1 a1 w1 ht1 hd1 hr1 hx1 => by
    have := hQ f1 a1 w1 ht1 hd1 hr1 hx1
    cases e <;> first | exact absurd rfl he | exact this)
theorem Jcode.cond {x : Operand} {y z : Code} {b : Bool} {e : Ex} (hx : EvR tm x (.bool b)) (h : Jcode P rd nt (if b then y else z) tm ds c e tm1 ds1 c1) : Jcode P rd nt (.cond x y z) tm ds c e tm1 ds1 c1 :=
  fun f a w rd' hrd ht hd hr Q hQ => by
    have e1 : a.eval x = .bool b := by
      have := hx f nt a ht
      generalize a.eval x = u at this
      cases this; rfl
    exact wpIn_cond e1 (by have := h f a w rd' hrd ht hd hr Q hQ; cases b <;> exact this)
theorem Jcode.block {id : Nat} {x : Code} {e e' : Ex} (he : ∀ (Q : Exit → Act → World → Prop) a w, Q (exOf e') a w → Exit.inBlock id Q (exOf e) a w) (hx : Jcode P rd nt x tm ds c e tm1 ds1 c1) : Jcode P rd nt (.block id x) tm ds c e' tm1 ds1 c1 :=
  fun f a w rd' hrd ht hd hr Q hQ => wpIn_block (hx f a w rd' hrd ht hd hr _ fun f1 a1 w1 ht1 hd1 hr1 hx1 => he Q a1 w1 (hQ f1 a1 w1 ht1 hd1 hr1 hx1))
theorem stepR_scope {b : Frame} {a : Act} {k : List Item} {cs : List Frame} {w : World} {x : Code} : step P (lone (b.atR a (.code (.scope x) :: k)) cs w) = .next (lone (b.atR a (.code x :: .inScope x :: k)) cs w) :=
  step_lone_go (by simp [stepG, stepG.exec, Frame.atR])
theorem stepR_inScope {b : Frame} {a : Act} {k : List Item} {cs : List Frame} {w : World} {x : Code} : step P (lone (b.atR a (.inScope x :: k)) cs w) = .next (lone (b.atR a k) cs w) :=
  step_lone_go (by simp [stepG, stepG.exec, Frame.atR])
theorem exitTo_inScope {id : Nat} {x : Code} {k k' : List Item} (h : exitTo id k = some k') : exitTo id (.inScope x :: k) = some k' := by simp [exitTo, h]
theorem Jcode.scope {x : Code} {e : Ex} (hx : Jcode P rd nt x tm ds c e tm1 ds1 c1) : Jcode P rd nt (.scope x) tm ds c e tm1 ds1 c1 :=
  fun f a w rd' hrd ht hd hr Q hQ b k cs hro hb hroom => by
    have h0 : (lone (b.atR a (.code (.scope x) :: k)) cs w).fenced P (FW rd') := fenced_calm hb hroom rfl
    obtain ⟨e', a', w', ⟨he, hq⟩, harr⟩ := hx f a w rd' hrd ht hd hr (fun e' a' w' => e' = exOf e ∧ Q e' a' w') (fun f1 a1 w1 h1 h2 h3 h4 => ⟨rfl, hQ f1 a1 w1 h1 h2 h3 h4⟩) b (.inScope x :: k) cs hro hb hroom
    cases e' with
    | normal => exact ⟨.normal, a', w', hq, .head h0 stepR_scope (StepsIn.trans harr (.one (fenced_calm hb hroom rfl) stepR_inScope))⟩
    | exit id =>
      have hx : exitTo id (.inScope x :: k) = exitTo id k := by simp [exitTo]
      exact ⟨.exit id, a', w', hq, fun k' hk => .head h0 stepR_scope (harr.1 k' (by rw [hx]; exact hk)), fun hr' hk => let ⟨k₁, h1, h2⟩ := harr.2 hr' (by rw [hx]; exact hk); ⟨k₁, h1, .head h0 stepR_scope h2⟩⟩
    | ret => exact ⟨_, a', w', hq, .of_steps (.one h0 stepR_scope) harr⟩
    | goto l => cases e <;> cases he
    | panic ch => cases e <;> cases he
    | outgrown => cases e <;> cases he
theorem Jround.again {x : Code} {e : Ex} (hx : Jcode P rd nt x tm ds c .normal tm1 ds1 c1) (h : Jround P rd nt x tm1 ds1 c1 e tm2 ds2 c2) : Jround P rd nt x tm ds c e tm2 ds2 c2 :=
  fun f a w rd' hrd ht hd hr Q hQ b k cs hro => by
    obtain ⟨e', a', w', ⟨rfl, hq⟩, harr⟩ := hx f a w rd' hrd ht hd hr (fun e' a' w' => e' = .normal ∧ ∃ e' a'' w'', Q e' a'' w'' ∧ ArrivesIn (Machine.fenced P (FW rd')) P (lone (b.atR a' (.code x :: .inLoop x :: k)) cs w') b k cs e' a'' w'')
      (fun f1 a1 w1 ht1 hd1 hr1 hx1 => ⟨rfl, h f1 a1 w1 rd' (hrd.mono hx1.sub) ht1 hd1 hr1 Q (fun f2 a2 w2 ht2 hd2 hr2 hx2 => hQ f2 a2 w2 ht2 hd2 hr2 (hx1.trans hr hx2)) b k cs hro⟩) b (.inLoop x :: k) cs hro trivial (FW_room _)
    obtain ⟨e2, a2, w2, hq2, harr2⟩ := hq
    exact ⟨e2, a2, w2, hq2, .of_steps (StepsIn.trans harr (.one (fenced_calm (n := 0) trivial (FW_room _) rfl) stepR_inLoop)) harr2⟩
theorem Jround.out {x : Code} {e : Ex} (he : e ≠ .normal) (hx : Jcode P rd nt x tm ds c e tm1 ds1 c1) : Jround P rd nt x tm ds c e tm1 ds1 c1 :=
  fun f a w rd' hrd ht hd hr Q hQ b k cs hro => by
    obtain ⟨e', a', w', ⟨he', hq⟩, harr⟩ := hx f a w rd' hrd ht hd hr (fun e' a' w' => e' = exOf e ∧ Q e' a' w') (fun f1 a1 w1 h1 h2 h3 h4 => ⟨rfl, hQ f1 a1 w1 h1 h2 h3 h4⟩) b (.inLoop x :: k) cs hro trivial (FW_room _)
    have hn : e' ≠ .normal := by rw [he']; cases e <;> simp [exOf] at he ⊢
    exact ⟨e', a', w', hq, .pass (x := .inLoop x) rfl (fun _ _ => .inl hn) harr⟩
theorem Jcode.loop {x : Code} {e : Ex} (h : Jround P rd nt x tm ds c e tm1 ds1 c1) : Jcode P rd nt (.loop x) tm ds c e tm1 ds1 c1 :=
  fun f a w rd' hrd ht hd hr Q hQ b k cs hro hb hroom => by
    obtain ⟨e', a', w', hq, harr⟩ := h f a w rd' hrd ht hd hr Q hQ b k cs hro
    exact ⟨e', a', w', hq, .of_steps (.one (fenced_calm hb hroom rfl) stepR_loop) harr⟩
theorem Jcode.region {id : Nat} {ops : Array Oper} (h : Jops P rd nt ops.toList ops.toList tm ds c tm1 ds1 c1) : Jcode P rd nt (.region id ops false) tm ds c .normal tm1 ds1 c1 :=
  fun f a w rd' hrd ht hd hr Q hQ => wpIn_region (by
    have := h ops 0 rfl rfl f a w rd' hrd ht hd hr Q hQ
    rwa [Array.length_toList, ← List.range_eq_range'] at this)
end
end Go.Can
namespace Go.Can
open Go
variable [Glob]
set_option linter.unusedSectionVars false

/-- no function is one that the machine itself answers for -/
structure Fair (P : Program) : Prop where
  named : ∀ (g : FuncId) (fn : Func), P.funcs[g]? = some fn → (fn.name == "runtime.NumGoroutine") = false
  mixed : P.follows .mixedOrders = true

section
variable {P : Program}
theorem run_callFunc_body (hP : Fair P) {g : FuncId} {fn : Func} {b : Code} (hf : P.funcs[g]? = some fn) (hb : fn.body = some b) (args : Array Value) (w : World) :
    (callFunc g args).run P w = .ok (.enter g args) w := by
  have h1 : fn.name ≠ "runtime.NumGoroutine" := by simpa using hP.named g fn hf
  simp [callFunc, hf, h1, hb, Sem.run]

theorem goExt_ok (hP : Fair P) {g : FuncId} {fn : Func} (hf : P.funcs[g]? = some fn) (hb : fn.body = none) {args : List Value} {c : CW} {k : Value → CW → Bool} (h : goExt P fn args c k = true) :
    ∃ v c', k v c' = true ∧ Jenter P g args c v c' := by
  unfold goExt at h
  split at h
  · next hn =>
    split at h
    · next e he =>
      split at h
      · next hc =>
        obtain ⟨v, h1, hv, h2⟩ := cPure_ok h
        refine ⟨v, c, h1, fun f w args' hl hr K hK => ?_⟩
        have e1 : args' = args.toArray := Array.toList_inj.1 (by rw [hl.closed hc])
        rw [run_callFunc_extern hf (hP.named g fn hf) (by simp [hb]) hn he, e1, h2 w]
        exact hK f v w hr (Ext.refl _ _ _) (.of_closed hv)
      · cases h
    · cases h
  · cases h

/-- what is shown of each run of the evaluator -/
def J (P : Program) : Task → T Value → List CDef → CW → Ex → Value → T Value → List CDef → CW → Prop
  | .code rd nt cd, tm, ds, c, e, _, tm', ds', c' => Jcode P rd nt cd tm ds c e tm' ds' c'
  | .more (.round rd nt cd), tm, ds, c, e, _, tm', ds', c' => Jround P rd nt cd tm ds c e tm' ds' c'
  | .more (.call g args), _, _, c, _, v, _, _, c' => Jcall P g args c v c'
  | .more (.yield l args), _, _, c, _, v, _, _, c' => Jyield P l args c v c'
  | .more (.leave fn), tm, ds, c, _, v, _, _, c' => Jleave P fn tm ds c v c'
  | .more (.dcall g args), _, _, c, _, v, _, _, c' => Jdcall P g args c v c'
def Ok (P : Program) (r : Rec) : Prop :=
  ∀ (task : Task) (tm : T Value) (ds : List CDef) (c : CW) (k : K), r task tm ds c k = true → ∃ e v tm' ds' c', k e v tm' ds' c' = true ∧ J P task tm ds c e v tm' ds' c'
variable {r : Rec}

theorem goEnter_ok (hP : Fair P) (hr : Ok P r) {g : FuncId} {args : List Value} {c : CW} {k : Value → CW → Bool} (h : goEnter P r g args c k = true) :
    ∃ v c', k v c' = true ∧ Jenter P g args c v c' := by
  unfold goEnter at h
  split at h
  · next fn hf =>
    split at h
    · next b hb =>
      obtain ⟨e, v, tm', ds', c', h1, h2⟩ := hr _ _ _ _ _ h
      refine ⟨v, c', h1, fun f w args' hl hh K hK => ?_⟩
      rw [h2.1]
      exact h2.2 f w args' hl hh K hK
    · next hb => exact goExt_ok hP hf hb h
  · cases h

/-- a value that is called: what it resolves to, and what that does -/
def Jval (P : Program) (fv : Value) (args : List Value) (c : CW) (v : Value) (c' : CW) : Prop :=
  ∀ (f : Mp) (w : World) (fv' : Value) (args' : Array Value), VR f fv fv' → LR f args args'.toList → HR f c w → ∀ K : Value → World → Prop,
    (∀ f' v' w', HR f' c' w' → Ext f c w f' c' w' → VR f' v v' → K v' w') → NextIn P K ((do let d ← Deferred.ofValue fv' args'; invoke d.target d.args : Sem Next).run P w)
theorem goVal_ok (hP : Fair P) (hr : Ok P r) {fv : Value} {args : List Value} {c : CW} {k : Value → CW → Bool} (h : goVal P r fv args c k = true) :
    ∃ v c', k v c' = true ∧ Jval P fv args c v c' := by
  unfold goVal at h
  split at h
  · next g first cap =>
    obtain ⟨v, c', h1, h2⟩ := goEnter_ok hP hr h
    refine ⟨v, c', h1, fun f w fv' args' hv hl hh K hK => ?_⟩
    cases hv
    next first' cap' hl1 hl2 =>
    have := h2 f w (first' ++ args' ++ cap') (by simpa using (hl1.append hl).append hl2) hh K hK
    simpa [Deferred.ofValue, invoke] using this
  · next l first cap =>
    split at h
    · next e1 e2 =>
      obtain ⟨e, v, tm', ds', c', h1, h2⟩ := hr _ _ _ _ _ h
      refine ⟨v, c', h1, fun f w fv' args' hv hl hh K hK => ?_⟩
      cases hv
      next rr lz hf =>
      have := h2 f w args' rr lz hf hl hh K hK
      simpa [Deferred.ofValue, invoke] using this
    · cases h
  · cases h

theorem methodK_ok {t : TypeId} {name : String} {k : FuncId → Bool} (h : methodK P t name k = true) :
    ∃ g, k g = true ∧ ∀ (n : Nat) (v : Value) (w : World), (method (n+1) t v name).run P w = .ok (g, v) w := by
  unfold methodK at h
  split at h
  · next i hi =>
    split at h
    · next m hm =>
      split at h
      · next hp =>
        have hpe : m.path.isEmpty = true := by
          have : m.path = #[] := Array.toList_inj.1 (by rw [hp])
          rw [this]; rfl
        split at h
        · next f pr hf =>
          split at h
          · next e hu =>
            split at h
            · next _ => exact ⟨f, h, fun n v w => by simp [method, run_info hi, hm, hp, follow, hf, receiverAt, run_und hu, Place.get]⟩
            · cases h
          · next d hnp hu =>
            split at h
            · cases h
            · next _ =>
              refine ⟨f, h, fun n v w => ?_⟩
              cases d <;> first | exact absurd rfl (hnp _) | simp [method, run_info hi, hm, hp, follow, hf, receiverAt, run_und hu, Place.get]
          · cases h
        · cases h
      · cases h
    · cases h
  · cases h
/-- a method that is called -/
def Jinv (P : Program) (rv : Value) (name : String) (args : List Value) (c : CW) (v : Value) (c' : CW) : Prop :=
  ∀ (f : Mp) (w : World) (rv' : Value) (args' : Array Value), VR f rv rv' → LR f args args'.toList → HR f c w → ∀ K : Value → World → Prop,
    (∀ f' v' w', HR f' c' w' → Ext f c w f' c' w' → VR f' v v' → K v' w') → NextIn P K ((callMethod rv' name args' : Sem Next).run P w)
theorem goInv_ok (hP : Fair P) (hr : Ok P r) {rv : Value} {name : String} {args : List Value} {c : CW} {k : Value → CW → Bool} (h : goInv P r rv name args c k = true) :
    ∃ v c', k v c' = true ∧ Jinv P rv name args c v c' := by
  unfold goInv at h
  split at h
  · next t x =>
    obtain ⟨g, h1, hm⟩ := methodK_ok h
    obtain ⟨v, c', h2, h3⟩ := goEnter_ok hP hr h1
    refine ⟨v, c', h2, fun f w rv' args' hv hl hh K hK => ?_⟩
    cases hv
    next x' hx =>
    have := h3 f w (#[x'] ++ args') (by simpa using LR.cons hx hl) hh K hK
    simpa [callMethod, Made.depth, hm] using this
  · cases h

theorem OpS.jop {o : Oper} {tm : T Value} {c c' : CW} {v : Value} (hd : ∀ d, o.op ≠ .defer d) (h : OpS P tm c (fun a => execOp a.eval o) v c') : Jop P o tm c v c' :=
  ⟨hd, fun f nt a w ht hh K hK => by
    obtain ⟨f', v', w', h1, h2, h3, h4⟩ := h f nt a w ht hh
    rcases h1 with h1 | ⟨h1, rfl⟩
    · rw [h1]; exact hK f' v' w' h2 h3 h4
    · rw [h1]; exact hK f' undef w' h2 h3 h4⟩
theorem opK_defer {o : Oper} {f : Operand} {args : List Operand} (h : opK P o = .defer f args) : ∃ cl, o.op = .defer cl ∧ cl.callee = .value f ∧ args = cl.args.toList := by
  obtain ⟨dst, op, type, pos, after, guard⟩ := o
  unfold opK at h
  dsimp only at h
  split at h
  · split at h
    · cases h
    · cases h
    · cases h
  · next cl =>
    split at h
    · next f' hcl => cases h; exact ⟨cl, rfl, hcl, rfl⟩
    · cases h
  · cases h
theorem opK_call {o : Oper} {f : Operand} {args : List Operand} (h : opK P o = .call f args) : ∃ cl, o.op = .call cl ∧ cl.callee = .value f ∧ args = cl.args.toList := by
  obtain ⟨dst, op, type, pos, after, guard⟩ := o
  unfold opK at h
  dsimp only at h
  split at h
  · next cl =>
    split at h
    · next f' hcl => cases h; exact ⟨cl, rfl, hcl, rfl⟩
    · cases h
    · cases h
  · split at h
    · cases h
    · cases h
  · cases h
theorem opK_inv {o : Oper} {x : Operand} {name : String} {args : List Operand} (h : opK P o = .inv x name args) : ∃ cl, o.op = .call cl ∧ cl.callee = .invoke x name ∧ args = cl.args.toList := by
  obtain ⟨dst, op, type, pos, after, guard⟩ := o
  unfold opK at h
  dsimp only at h
  split at h
  · next cl =>
    split at h
    · cases h
    · next x' n' hcl => cases h; exact ⟨cl, rfl, hcl, rfl⟩
    · cases h
  · split at h
    · cases h
    · cases h
  · cases h
theorem opK_plain {o : Oper} {g : T Value → CW → (Value → CW → Bool) → Bool} (h : opK P o = .plain g) : (∀ d, o.op ≠ .defer d) ∧ ∀ tm c k, cop P tm o c k = g tm c k := by
  obtain ⟨dst, op, type, pos, after, guard⟩ := o
  unfold opK at h
  dsimp only at h
  split at h
  · next cl =>
    split at h
    · cases h
    · cases h
    · cases h; exact ⟨fun d hd => (by cases hd), fun tm c k => rfl⟩
  · split at h
    · cases h
    · cases h
  · next h1 h2 => cases h; exact ⟨fun d hd => h2 d hd, fun tm c k => rfl⟩
theorem goOp_ok (hP : Fair P) (hr : Ok P r) {o : Oper} {tm : T Value} {c : CW} {k : Value → CW → Bool} (h : goOp P r o tm c k = true) :
    ∃ v c', k v c' = true ∧ Jop P o tm c v c' := by
  unfold goOp at h
  split at h
  · next g hg =>
    obtain ⟨h0, h1⟩ := opK_plain hg
    rw [← h1] at h
    obtain ⟨v, c', h2, h3⟩ := cop_ok h
    exact ⟨v, c', h2, OpS.jop h0 h3⟩
  · next f args hg =>
    obtain ⟨cl, hop, hcl, rfl⟩ := opK_call hg
    obtain ⟨args, h1, ha⟩ := evsK_ok h
    obtain ⟨fv, h2, hf⟩ := evK_ok h1
    obtain ⟨v, c', h3, h4⟩ := goVal_ok hP hr h2
    refine ⟨v, c', h3, fun d hd => (by rw [hop] at hd; cases hd), fun f' nt a w ht hh K hK => ?_⟩
    have hl := ha f' nt a ht
    have := h4 f' w (a.eval f) (cl.args.map a.eval) (hf f' nt a ht) (by rw [Array.toList_map]; exact hl) hh K hK
    have e1 : (execOp a.eval o) = (do let d ← Deferred.ofValue (a.eval f) (cl.args.map a.eval); invoke d.target d.args) := by
      unfold execOp; rw [hop]; simp only [resolve, hcl]
    rw [e1]; exact this
  · next x name args hg =>
    obtain ⟨cl, hop, hcl, rfl⟩ := opK_inv hg
    obtain ⟨args, h1, ha⟩ := evsK_ok h
    obtain ⟨rv, h2, hf⟩ := evK_ok h1
    obtain ⟨v, c', h3, h4⟩ := goInv_ok hP hr h2
    refine ⟨v, c', h3, fun d hd => (by rw [hop] at hd; cases hd), fun f' nt a w ht hh K hK => ?_⟩
    have hl := ha f' nt a ht
    have := h4 f' w (a.eval x) (cl.args.map a.eval) (hf f' nt a ht) (by rw [Array.toList_map]; exact hl) hh K hK
    have e1 : (execOp a.eval o) = callMethod (a.eval x) name (cl.args.map a.eval) := by
      have e2 : (#[a.eval x] ++ cl.args.map a.eval).extract 1 (#[a.eval x] ++ cl.args.map a.eval).size = cl.args.map a.eval := by
        apply Array.ext
        · simp
        · intro i h1 h2; simp
      have e3 : (#[a.eval x] ++ cl.args.map a.eval)[0]? = some (a.eval x) := by rw [Array.getElem?_append_left (by simp)]; rfl
      unfold execOp; rw [hop]; simp only [resolve, hcl, invoke, pure_bind, e2, e3]
    rw [e1]; exact this
  · cases h
end
end Go.Can
namespace Go.Can
open Go
variable [Glob]
set_option linter.unusedSectionVars false
section
variable {P : Program} {r : Rec}

theorem put_defers (a : Act) (dst : Option Tmp) (v : Value) : (a.put dst v).defers = a.defers := by cases dst <;> rfl
theorem drop_cons {all rest : List Oper} {o : Oper} {i : Nat} (h : all.drop i = o :: rest) : all[i]? = some o ∧ all.drop (i + 1) = rest := by
  constructor
  · have := congrArg (·[0]?) h
    simpa using this
  · have := congrArg List.tail h
    simpa [List.tail_drop] using this

/-- what the rest of a region's operations comes to -/
def ContOk (P : Program) (rd : Option Nat) (nt : Nat) (all rest : List Oper) (ih : Cont) : Prop :=
  ∀ (tm : T Value) (ds : List CDef) (c : CW) (k : K), ih tm ds c k = true → ∃ tm' ds' c' v', k .normal v' tm' ds' c' = true ∧ Jops P rd nt all rest tm ds c tm' ds' c'
/-- one operation done, the rest behind it -/
theorem opPut_ok {rd : Option Nat} {nt : Nat} {all rest : List Oper} {ih : Cont} (hi : ContOk P rd nt all rest ih) {dst : Option Tmp} {tm : T Value} {ds : List CDef} {k : K} {v : Value} {c : CW} (h : opPut ih nt dst tm ds k v c = true) :
    ∃ tm' ds' c' v', k .normal v' tm' ds' c' = true ∧ ∀ (ops : Array Oper) (i : Nat), ops.toList = all → all.drop i = rest → ∀ (f : Mp) (a : Act) (w : World) (rd' : Option Nat) (u : Value), RD f rd rd' → TR f tm nt a.tmps → DR f ds a.defers → HR f c w → VR f v u → ∀ Q : Exit → Act → World → Prop,
      (∀ f' a' w', TR f' tm' nt a'.tmps → DR f' ds' a'.defers → HR f' c' w' → Ext f c w f' c' w' → Q .normal a' w') → wpOpsIn (FW rd') 0 P ops Q (List.range' i rest.length) (a.put dst u) w := by
  unfold opPut at h
  obtain ⟨tm1, h1, _, _, h2⟩ := putK_ok h
  obtain ⟨tm', ds', c', v', h3, h4⟩ := hi _ _ _ _ h1
  exact ⟨tm', ds', c', v', h3, fun ops i ho hi f a w rd' u hrd ht hd hh hu Q hQ =>
    h4 ops i ho hi f (a.put dst u) w rd' hrd (h2 f a u ht hu) (by rw [put_defers]; exact hd) hh Q hQ⟩

theorem opsStep_ok (hP : Fair P) (hr : Ok P r) {rd : Option Nat} {nt : Nat} {all rest : List Oper} {o : Oper} {ih : Cont} (hi : ContOk P rd nt all rest ih) : ContOk P rd nt all (o :: rest) (opsStep P r rd nt all o ih) := by
  intro tm ds c k h
  unfold opsStep at h
  have wl : ∀ (ops : Array Oper) (f : Mp) (a : Act), ops.toList = all → TR f tm nt a.tmps → Region.wanted o (yielded ops a.tmps) = wantedB all o tm := fun ops f a ho ht => by
    rw [← ho]; exact wantedB_ok fun j want g d _ _ _ => ht.get d
  have plain : goOp P r o tm c (opPut ih nt o.dst tm ds k) = true → wantedB all o tm = true → ∃ tm' ds' c' v', k .normal v' tm' ds' c' = true ∧ Jops P rd nt all (o :: rest) tm ds c tm' ds' c' := fun h hw => by
    obtain ⟨v, c1, h1, hj⟩ := goOp_ok hP hr h
    obtain ⟨tm', ds', c', v', h3, h4⟩ := opPut_ok hi h1
    refine ⟨tm', ds', c', v', h3, fun ops i ho hi f a w rd' hrd ht hd hh Q hQ => ?_⟩
    obtain ⟨e1, e2⟩ := drop_cons hi
    have e3 : ops[i]? = some o := by rw [← Array.getElem?_toList, ho]; exact e1
    have hwl := (wl ops f a ho ht).trans hw
    show wpOpsIn (FW rd') 0 P ops Q (i :: List.range' (i + 1) rest.length) a w
    simp only [wpOpsIn, e3, hwl, if_true]
    exact wpIn_of_next hj.1 (hj.2 f nt a w ht hh _ fun f' u w' hh' hx hu =>
      h4 ops (i + 1) ho e2 f' a w' rd' u (hrd.mono hx.sub) (ht.mono hx.sub) (hd.mono hx.sub) hh' hu Q fun f2 a2 w2 ht2 hd2 hh2 hx2 => hQ f2 a2 w2 ht2 hd2 hh2 (hx.trans hh hx2))
  split at h
  · next hw =>
    obtain ⟨tm', ds', c', v', h1, h2⟩ := opPut_ok hi h
    refine ⟨tm', ds', c', v', h1, fun ops i ho hi f a w rd' hrd ht hd hh Q hQ => ?_⟩
    obtain ⟨e1, e2⟩ := drop_cons hi
    have e3 : ops[i]? = some o := by rw [← Array.getElem?_toList, ho]; exact e1
    have hwl := (wl ops f a ho ht).trans hw
    show wpOpsIn (FW rd') 0 P ops Q (i :: List.range' (i + 1) rest.length) a w
    simp only [wpOpsIn, e3, hwl]
    exact ⟨fun _ _ => trivial, h2 ops (i + 1) ho e2 f a w rd' undef hrd ht hd hh (.tuple .nil) Q hQ⟩
  · next hw =>
    split at h
    · next fo args hk =>
      obtain ⟨cl, hop, hcl, rfl⟩ := opK_defer hk
      unfold opDefer at h
      split at h
      · obtain ⟨args, h1, ha⟩ := evsK_ok h
        obtain ⟨fv, h2, hf⟩ := evK_ok h1
        split at h2
        · next g first cap =>
          obtain ⟨tm', ds', c', v', h3, h4⟩ := opPut_ok hi h2
          refine ⟨tm', ds', c', v', h3, fun ops i ho hi f a w rd' hrd ht hd hh Q hQ => ?_⟩
          obtain ⟨e1, e2⟩ := drop_cons hi
          have e3 : ops[i]? = some o := by rw [← Array.getElem?_toList, ho]; exact e1
          have hwl := (wl ops f a ho ht).trans hw
          cases hrd
          show wpOpsIn (FW none) 0 P ops Q (i :: List.range' (i + 1) rest.length) a w
          simp only [wpOpsIn, e3, hwl, if_true]
          refine ⟨fun _ _ => trivial, ?_⟩
          have hfv := hf f nt a ht
          have hal := ha f nt a ht
          generalize hg : a.eval fo = fv' at hfv
          cases hfv
          next first' cap' hl1 hl2 =>
          have e4 : (o.semAt (FW none).round a.eval).run P w = .ok (.defer { target := .fn (.func g) cap', args := first' ++ cl.args.map a.eval }) w := by
            show (execOp a.eval o).run P w = _
            unfold execOp; rw [hop]; simp only [resolve, hcl, hg, Deferred.ofValue]; rfl
          rw [e4, Oper.uponIn_defer]
          exact h4 ops (i + 1) ho e2 f { a with defers := _ :: a.defers } w none undef .no ht (.fn g (by simpa using hl1.append hal) hl2 hd) hh (.tuple .nil) Q hQ
        · cases h2
      · cases h
    · exact plain h hw

theorem goOps_ok (hP : Fair P) (hr : Ok P r) {rd : Option Nat} {nt : Nat} {all : List Oper} : ∀ todo : List Oper, ContOk P rd nt all todo (goOps P r rd nt all todo)
  | [] => fun tm ds c k h => ⟨tm, ds, c, undef, h, fun ops i _ _ f a w rd' hrd ht hd hh Q hQ => hQ f a w ht hd hh (Ext.refl _ _ _)⟩
  | _ :: rest => opsStep_ok hP hr (goOps_ok hP hr rest)

/-! ### Calls -/
theorem kBody_ok (hr : Ok P r) {fn : Func} {k : K} {e : Ex} {v : Value} {tm : T Value} {ds : List CDef} {c : CW} (h : kBody r fn k e v tm ds c = true) :
    (e = .normal ∨ e = .ret) ∧ ∃ e' v tm' ds' c', k e' v tm' ds' c' = true ∧ Jleave P fn tm ds c v c' := by
  unfold kBody at h
  cases e with
  | exit id => cases h
  | normal => obtain ⟨e', v, tm', ds', c', h1, h2⟩ := hr _ _ _ _ _ h; exact ⟨.inl rfl, e', v, tm', ds', c', h1, h2⟩
  | ret => obtain ⟨e', v, tm', ds', c', h1, h2⟩ := hr _ _ _ _ _ h; exact ⟨.inr rfl, e', v, tm', ds', c', h1, h2⟩

theorem goCall_ok (hP : Fair P) (hr : Ok P r) {g : FuncId} {args : List Value} {c : CW} {k : K} (h : goCall P r g args c k = true) :
    ∃ e v tm' ds' c', k e v tm' ds' c' = true ∧ Jcall P g args c v c' := by
  unfold goCall at h
  split at h
  · next fn hf =>
    split at h
    · next body hb =>
      obtain ⟨hle, h1⟩ := leK_ok h
      obtain ⟨tm, h2, htm⟩ := argsK_ok h1
      obtain ⟨e1, v1, tm1, ds1, c1, h3, hcode⟩ := hr _ _ _ _ _ h2
      obtain ⟨he, e', v, tm', ds', c', h4, hleave⟩ := kBody_ok hr h3
      refine ⟨e', v, tm', ds', c', h4, run_callFunc_body hP hf hb, fun f w args' hl hh K hK => callsIn_of_wp_marks hf hb trivial ?_⟩
      refine hcode f { tmps := args' ++ Array.replicate (fn.ntmps - args'.size) undef, defers := [] } w none .no (TR.start htm hl hle hh.glob) .nil hh _ fun f1 a1 w1 ht1 hd1 hh1 hx1 => ?_
      have := hleave f1 a1.tmps a1.defers w1 ht1 hd1 hh1 K fun f2 v2 w2 hh2 hx2 hv2 => hK f2 v2 w2 hh2 (hx1.trans hh hx2) hv2
      rcases he with rfl | rfl <;> exact this
    · cases h
  · cases h

theorem putObj_mod {w : World} {b : Nat} {o o' : Obj} (h : w.heap[b]? = some o) : Mod w (w.putObj b o') b o' :=
  ⟨World.putObj_heap_same (Array.getElem?_eq_some_iff.1 h).1, fun _ hj => World.putObj_heap_other hj, World.putObj_size, rfl, rfl, rfl⟩

theorem callsDIn_mono {F : Fence} {n : Nat} {g : FuncId} {args : Array Value} {u : FrameMode} {w : World} {R R' : Ending → FrameMode → World → Prop} (h : CallsDIn F n P g args u w R) (hR : ∀ e u w, R e u w → R' e u w) : CallsDIn F n P g args u w R' :=
  ⟨h.1, fun c cs hu hroom => let ⟨e, u', w', fr, q, s⟩ := h.2 c cs hu hroom; ⟨e, u', w', fr, hR _ _ _ q, s⟩⟩

theorem goLeave_ok (hr : Ok P r) {fn : Func} {tm : T Value} {ds : List CDef} {c : CW} {k : K} (h : goLeave P r fn tm ds c k = true) :
    ∃ e v tm' ds' c', k e v tm' ds' c' = true ∧ Jleave P fn tm ds c v c' := by
  unfold goLeave at h
  split at h
  · obtain ⟨vs, h1, h2⟩ := resK_ok h
    refine ⟨_, _, _, _, _, h1, fun f tmps ds' w ht hd hh K hK => ?_⟩
    cases hd
    obtain ⟨vs', h3, h4⟩ := h2 f _ tmps w ht hh
    exact ⟨_, results_run h3, hK f _ w hh (Ext.refl _ _ _) h4.resV⟩
  · next b ds =>
    unfold deferK at h
    split at h
    · next hg =>
      obtain ⟨c1, h1, hn, hlo, hget⟩ := CW.set_ok h
      obtain ⟨e, v, tm', ds', c', h2, h3⟩ := hr _ _ _ _ _ h1
      refine ⟨e, v, tm', ds', c', h2, fun f tmps dd w ht hd hh K hK => ?_⟩
      cases hd
      next rr z dd' hf hd' =>
      obtain ⟨o', ho', hor⟩ := hh.obj _ _ _ _ hg hf
      have hor : o' = .deferred (some []) := hor
      subst hor
      obtain ⟨g1, g2⟩ := set_HR (o := .obj (.deferred none)) (o' := .deferred none) hh hn hlo hget (by simp [hg]) hf rfl (putObj_mod ho')
      exact ⟨by simp, .inl ⟨rr, _, rfl, run_takeDeferred ho', h3 f tmps dd' _ ht hd' g1 K fun f2 v2 w2 hh2 hx2 hv2 => hK f2 v2 w2 hh2 (g2.trans hh hx2) hv2⟩⟩
    · cases h
  · next g args cap ds =>
    obtain ⟨e1, v1, tm1, ds1, c1, h1, hdc⟩ := hr _ _ _ _ _ h
    obtain ⟨e, v, tm', ds', c', h2, h3⟩ := hr _ _ _ _ _ h1
    refine ⟨e, v, tm', ds', c', h2, fun f tmps dd w ht hd hh K hK => ?_⟩
    cases hd
    next args' cap' dd' hl1 hl2 hd' =>
    refine ⟨by simp, .inr ⟨fun e => (by cases e), .func g, cap', g, args' ++ cap', rfl, ?_, fun _ _ => trivial, ?_⟩⟩
    · simp [invoke, hdc.1]
    · refine callsDIn_mono (hdc.2 f w (args' ++ cap') (by simpa using hl1.append hl2) hh (fun _ w' => LeavesInM (FW none) 0 P fn tmps (retK K) dd' .returning w') fun f1 v1 w1 hh1 hx1 _ =>
        h3 f1 tmps dd' w1 (ht.mono hx1.sub) (hd'.mono hx1.sub) hh1 K fun f2 v2 w2 hh2 hx2 hv2 => hK f2 v2 w2 hh2 (hx1.trans hh hx2) hv2) ?_
      intro e u w' q
      cases e <;> cases u <;> first | exact q | exact q.elim
end
end Go.Can
namespace Go.Can
open Go
variable [Glob]
set_option linter.unusedSectionVars false
section
variable {P : Program} {r : Rec}

theorem recB_ok {o : Oper} (h : recB o = true) : o.guard = none ∧ ∀ (ρ : Operand → Value) (w : World), (execOp ρ o).run P w = .ok .recover w := by
  unfold recB at h
  split at h
  · next cl hop hg =>
    split at h
    · next hcl =>
      refine ⟨hg, fun ρ w => ?_⟩
      unfold execOp; rw [hop]; simp only [resolve, hcl]; simp [invoke, builtin]
    · cases h
  · cases h

theorem movesK_ok {nt : Nat} : ∀ {l : List Oper} {tm : T Value} {k : T Value → Bool}, movesK nt l tm k = true → ∃ tm', k tm' = true ∧
    ∀ (ops : Array Oper) (i : Nat), ops.toList.drop i = l → ∀ (f : Mp) (a : Act) (cs : List Frame) (w : World) (Q : Exit → Act → List Frame → World → Prop), TR f tm nt a.tmps →
      (∀ a', a'.defers = a.defers → TR f tm' nt a'.tmps → Q .normal a' cs w) → wpOpsSIn (FW none) 0 P ops Q (List.range' i l.length) a cs w
  | [], tm, k, h => ⟨tm, h, fun ops i _ f a cs w Q ht hQ => hQ a rfl ht⟩
  | o :: l, tm, k, h => by
    simp only [movesK] at h
    split at h
    · cases h
    · next hg =>
      have hw : ∀ y, Region.wanted o y = true := fun y => by simp [Region.wanted, hg]
      have step : ∀ x : Operand, (∀ (ρ : Operand → Value) (w : World), (execOp ρ o).run P w = .ok (.value (ρ x)) w) → (∀ (w : World) (ρ : Operand → Value) f, o.about P w ρ = some f → (FW none).fn f) →
          (evK tm x fun v => putK o.dst v nt tm fun tm => movesK nt l tm k) = true → ∃ tm', k tm' = true ∧
          ∀ (ops : Array Oper) (i : Nat), ops.toList.drop i = o :: l → ∀ (f : Mp) (a : Act) (cs : List Frame) (w : World) (Q : Exit → Act → List Frame → World → Prop), TR f tm nt a.tmps →
            (∀ a', a'.defers = a.defers → TR f tm' nt a'.tmps → Q .normal a' cs w) → wpOpsSIn (FW none) 0 P ops Q (List.range' i (o :: l).length) a cs w := fun x hrun hab h => by
        obtain ⟨v, h1, hv⟩ := evK_ok h
        obtain ⟨tm1, h2, _, _, hput⟩ := putK_ok h1
        obtain ⟨tm', h3, h4⟩ := movesK_ok h2
        refine ⟨tm', h3, fun ops i hi f a cs w Q ht hQ => ?_⟩
        obtain ⟨e1, e2⟩ := drop_cons hi
        have e3 : ops[i]? = some o := by rw [← Array.getElem?_toList]; exact e1
        show wpOpsSIn (FW none) 0 P ops Q (i :: List.range' (i + 1) l.length) a cs w
        simp only [wpOpsSIn, e3, hw, if_true, hrun]
        exact ⟨fun g hg => hab w a.eval g hg, h4 ops (i + 1) e2 f _ cs w Q (hput f a _ ht (hv f nt a ht)) fun a' hd hta => hQ a' (by rw [hd, put_defers]) hta⟩
      split at h
      · next x hop => exact step x (fun ρ w => by unfold execOp; rw [hop]; rfl) (fun _ _ _ _ => trivial) h
      · next x hop => exact step x (fun ρ w => by unfold execOp; rw [hop]; rfl) (fun _ _ _ _ => trivial) h
      · cases h

theorem goDcall_ok (hP : Fair P) (hr : Ok P r) {g : FuncId} {args : List Value} {c : CW} {k : K} (h : goDcall P r g args c k = true) :
    ∃ e v tm' ds' c', k e v tm' ds' c' = true ∧ Jdcall P g args c v c' := by
  unfold goDcall at h
  split at h
  · next fn hf =>
    split at h
    · next id ops rest hb =>
      split at h
      · next o more ho =>
        split at h
        · next hrec =>
          obtain ⟨hg, hrun⟩ := recB_ok (P := P) hrec
          obtain ⟨hle, h1⟩ := leK_ok h
          obtain ⟨tm, h2, htm⟩ := argsK_ok h1
          obtain ⟨tm0, h3, _, _, hput⟩ := putK_ok h2
          obtain ⟨tmv, h3v, hmv⟩ := movesK_ok (P := P) h3
          obtain ⟨e1, v1, tm1, ds1, c1, h4, hcode⟩ := hr _ _ _ _ _ h3v
          unfold kDcall at h4
          cases ds1 with
          | cons _ _ => cases h4
          | nil =>
            have he : e1 = .normal ∨ e1 = .ret := by cases e1 <;> first | exact .inl rfl | exact .inr rfl | cases h4
            have h5 : resK P tm1 c1 fn.results.toList [] (fun vs => k .ret (resV vs) .nil [] c1) = true := by rcases he with rfl | rfl <;> exact h4
            obtain ⟨vs, h6, h7⟩ := resK_ok h5
            refine ⟨_, _, _, _, _, h6, run_callFunc_body hP hf hb, fun f w args' hl hh K hK => callsDIn_of_wpSIn hf hb trivial fun c₀ cs hu => wpSIn_seq (wpSIn_region ?_)⟩
            have e0 : ops[0]? = some o := by rw [← Array.getElem?_toList, ho]; rfl
            have es : ops.size = more.length + 1 := by rw [← Array.length_toList, ho]; rfl
            rw [es, List.range_eq_range']
            show wpOpsSIn (FW none) 0 P ops _ (0 :: List.range' 1 more.length) _ _ _
            have hw : ∀ y, Region.wanted o y = true := fun y => by simp [Region.wanted, hg]
            simp only [wpOpsSIn, e0, hw, if_true, hrun]
            refine ⟨fun _ _ => trivial, ?_⟩
            have hrd : recoverD (c₀ :: cs) = none := by simp [recoverD, hu]
            rw [hrd]
            have ht := TR.start htm hl hle hh.glob
            refine hmv ops 1 (by rw [ho]; rfl) f _ _ w _ (hput f { tmps := args' ++ Array.replicate (fn.ntmps - args'.size) undef, defers := [] } .nilIface ht .nilIface) fun a2 ha2 hta2 => ?_
            refine wpSIn_of_wpIn rfl (hcode f a2 w none .no hta2 (by rw [ha2, put_defers]; exact .nil) hh _ fun f1 a1 w1 ht1 hd1 hh1 hx1 => ?_)
            have hdn : a1.defers = [] := by
              generalize a1.defers = dd at hd1 ⊢
              cases hd1; rfl
            obtain ⟨vs', g1, g2⟩ := h7 f1 _ a1.tmps w1 ht1 hh1
            have hc : c₀ :: cs = { c₀ with mode := .returning } :: cs := by cases c₀; simp only at hu; subst hu; rfl
            have : a1.defers = [] ∧ ∃ u', c₀ :: cs = { c₀ with mode := u' } :: cs ∧ ∃ v, (results fn a1.tmps).run P w1 = .ok v w1 ∧ retD K (.returned v) u' w1 :=
              ⟨hdn, .returning, hc, _, results_run g1, hK f1 _ w1 hh1 hx1 g2.resV⟩
            rcases he with rfl | rfl <;> exact this
        · cases h
      · cases h
    · cases h
  · cases h

theorem setsK_ok : ∀ {ts : List Tmp} {vs : List Value} {nt : Nat} {tm : T Value} {k : T Value → Bool}, setsK ts vs nt tm k = true →
    ∃ tm', k tm' = true ∧ vs.length = ts.length ∧ ∀ (f : Mp) (tmps : Array Value) (vs' : List Value), TR f tm nt tmps → LR f vs vs' → TR f tm' nt ((ts.zip vs').foldl (fun tmps x => tmps.setIfInBounds x.1 x.2) tmps)
  | [], [], nt, tm, k, h => ⟨tm, h, rfl, fun f tmps vs' ht hl => by simpa using ht⟩
  | [], _ :: _, _, _, _, h => by simp [setsK] at h
  | _ :: _, [], _, _, _, h => by simp [setsK] at h
  | t :: ts, v :: vs, nt, tm, k, h => by
    simp only [setsK] at h
    split at h
    · next hlt =>
      obtain ⟨tm1, h1, h2⟩ := T.put_ok h
      obtain ⟨tm', h3, h4, h5⟩ := setsK_ok h1
      refine ⟨tm', h3, by simp [h4], fun f tmps vs' ht hl => ?_⟩
      cases hl
      next u us hv hl' =>
      exact h5 f _ us (ht.put hv h2 (Nat.le_of_ble_eq_true hlt)) hl'
    · cases h

theorem loopAt_ok {c : CW} {l : Nat} {k : LoopState → Option Code → T Value → Nat → List Tmp → Code → Code → Nat → Bool} (h : loopAt c l k = true) :
    ∃ s pe tm nt ps as bd df, c.get l = some (.loop s pe tm nt ps as bd df) ∧ k s pe tm nt ps as bd df = true := by
  unfold loopAt at h
  split at h
  · next s pe tm nt ps as bd df hg => exact ⟨s, pe, tm, nt, ps, as, bd, df, hg, h⟩
  · cases h

/-- the record of a loop, in the heap -/
theorem HR.loop {f : Mp} {c : CW} {w : World} {l rr : Nat} {z : Z} {s : LoopState} {pe : Option Code} {tm : T Value} {nt : Nat} {ps : List Tmp} {as bd : Code} {df : Nat}
    (hh : HR f c w) (hg : c.get l = some (.loop s pe tm nt ps as bd df)) (hf : f l = some (rr, z)) :
    ∃ lp : Loop, w.heap[rr]? = some (.loop lp) ∧ lp.state = s ∧ lp.pending = pe ∧ TR f tm nt lp.tmps ∧ lp.params.toList = ps ∧ lp.assign = as ∧ lp.body = bd ∧ ∃ z, f df = some (lp.defers, z) := by
  obtain ⟨o', ho', hor⟩ := hh.obj _ _ _ _ hg hf
  cases o' with
  | loop lp => exact ⟨lp, ho', hor⟩
  | _ => exact hor.elim
theorem HR.setLoop {f : Mp} {c c' : CW} {w : World} {l rr : Nat} {z : Z} {s s' : LoopState} {pe pe' : Option Code} {tm : T Value} {nt : Nat} {ps : List Tmp} {as bd : Code} {df : Nat} {lp lp' : Loop}
    (hh : HR f c w) (hg : c.get l = some (.loop s pe tm nt ps as bd df)) (hf : f l = some (rr, z)) (ho : w.heap[rr]? = some (.loop lp))
    (hn : c'.next = c.next) (hl : c'.low = min c.low l) (hget : ∀ j, c'.get j = if j = l then some (.loop s' pe' tm nt ps as bd df) else c.get j)
    (h1 : lp'.state = s') (h2 : lp'.pending = pe') (h3 : lp'.tmps = lp.tmps) (h4 : lp'.params = lp.params) (h5 : lp'.assign = lp.assign) (h6 : lp'.body = lp.body) (h7 : lp'.defers = lp.defers) :
    HR f c' (w.putObj rr (.loop lp')) ∧ Ext f c w f c' (w.putObj rr (.loop lp')) := by
  obtain ⟨lp0, g0, _, _, g3, g4, g5, g6, z', g7⟩ := hh.loop hg hf
  rw [ho] at g0; cases g0
  exact set_HR hh hn hl hget (by simp [hg]) hf (o := .loop s' pe' tm nt ps as bd df) (o' := .loop lp') ⟨h1, h2, by rw [h3]; exact g3, by rw [h4]; exact g4, by rw [h5]; exact g5, by rw [h6]; exact g6, z', by rw [h7]; exact g7⟩ (putObj_mod ho)

theorem goYield_ok (hr : Ok P r) {l : Nat} {args : List Value} {c : CW} {k : K} (h : goYield r l args c k = true) :
    ∃ e v tm' ds' c', k e v tm' ds' c' = true ∧ Jyield P l args c v c' := by
  unfold goYield at h
  obtain ⟨s, pe, tm, nt, ps, as, bd, df, hg, h⟩ := loopAt_ok h
  obtain ⟨tm1, h1, hlen, hsets⟩ := setsK_ok h
  obtain ⟨e1, v1, tm2, ds2, c1, h2, hass⟩ := hr _ _ _ _ _ h1
  unfold kAssign at h2
  cases e1 with
  | exit id => cases h2
  | ret => cases h2
  | normal =>
    obtain ⟨s2, pe2, tmL, ntL, psL, asL, bdL, dfL, hg2, h2⟩ := loopAt_ok h2
    cases s2 with
    | busy => cases h2
    | done => cases h2
    | exhausted => cases h2
    | ready =>
      obtain ⟨c2, h3, hn2, hl2, hget2⟩ := CW.set_ok h2
      obtain ⟨e3, v3, tm3, ds3, c3, h4, hbody⟩ := hr _ _ _ _ _ h3
      unfold kEnd at h4
      obtain ⟨s4, pe4, tm4, nt4, ps4, as4, bd4, df4, hg4, h4⟩ := loopAt_ok h4
      -- how a round ends
      have fin : ∃ (jump : Option Code) (s5 : LoopState) (c5 : CW) (e v : _) (tm' : _) (ds' : _), k e (.bool jump.isNone) tm' ds' c5 = true ∧ v = Value.bool jump.isNone ∧ s5 = (if jump.isNone then LoopState.ready else .done) ∧
          c5.next = c3.next ∧ c5.low = min c3.low l ∧ (∀ j, c5.get j = if j = l then some (.loop s5 jump tm4 nt4 ps4 as4 bd4 df4) else c3.get j) ∧
          ∀ (R : Ending → World → Prop) (a : Act) (w : World) (rr : Nat), (∃ v w', (Instr.endRound rr jump).run P w = .ok v w' ∧ R (.returned v) w') → roundPost P rr R (exOf e3) a w := by
        cases e3 with
        | normal =>
          obtain ⟨c5, h5, a1, a2, a3⟩ := CW.set_ok h4
          exact ⟨none, .ready, c5, _, _, _, _, h5, rfl, rfl, a1, a2, a3, fun R a w rr h => h⟩
        | ret =>
          obtain ⟨c5, h5, a1, a2, a3⟩ := CW.set_ok h4
          exact ⟨some .ret, .done, c5, _, _, _, _, h5, rfl, rfl, a1, a2, a3, fun R a w rr h => h⟩
        | exit id =>
          obtain ⟨c5, h5, a1, a2, a3⟩ := CW.set_ok h4
          exact ⟨some (.exit id), .done, c5, _, _, _, _, h5, rfl, rfl, a1, a2, a3, fun R a w rr h => h⟩
      obtain ⟨jump, s5, c5, e, v, tm', ds', h5, _, hs5, hn5, hl5, hget5, hpost⟩ := fin
      refine ⟨e, _, tm', ds', c5, h5, fun f w args' rr z hf hl hh K hK => ?_⟩
      obtain ⟨lp, ho, g1, g2, g3, g4, g5, g6, z', g7⟩ := hh.loop hg hf
      have hsz : args'.size = lp.params.size := by
        have := hl.length
        rw [← Array.length_toList, ← Array.length_toList, g4, this, hlen]
      rw [run_yield ho hsz]
      show RoundIn (FW none) 0 P rr lp.fn _ lp.assign lp.body w (retK K)
      have htm : TR f tm1 nt ((lp.params.zip args').foldl (fun tmps (t, a) => tmps.setIfInBounds t a) lp.tmps) := by
        rw [← Array.foldl_toList, Array.toList_zip, g4]
        exact hsets f lp.tmps args'.toList g3 hl
      rw [g5, g6]
      refine roundIn_of_wpIn trivial (hass f { tmps := _, defers := [] } w (some rr) (.yes hf) htm .nil hh _ fun f1 a1 w1 ht1 hd1 hh1 hx1 => ?_)
      have hf1 := hx1.sub _ _ hf
      obtain ⟨lp1, ho1, i1, i2, i3, i4, i5, i6, z1, i7⟩ := hh1.loop hg2 hf1
      refine ⟨_, run_beginRound ho1 i1, ?_⟩
      obtain ⟨hh2, hx2⟩ := hh1.setLoop (lp' := { lp1 with state := .busy }) hg2 hf1 ho1 hn2 hl2 hget2 rfl i2 rfl rfl rfl rfl rfl
      refine hbody f1 a1 _ (some rr) (.yes hf1) ht1 hd1 hh2 _ fun f3 a3 w3 ht3 hd3 hh3 hx3 => hpost (retK K) a3 w3 rr ?_
      have hf3 := hx3.sub _ _ hf1
      obtain ⟨lp3, ho3, j1, j2, j3, j4, j5, j6, z3, j7⟩ := hh3.loop hg4 hf3
      obtain ⟨hh5, hx5⟩ := hh3.setLoop (lp' := { lp3 with state := if jump.isNone then .ready else .done, pending := jump }) hg4 hf3 ho3 hn5 hl5 hget5 hs5.symm rfl rfl rfl rfl rfl rfl
      exact ⟨_, _, run_endRound jump ho3, hK f3 _ _ hh5 (hx1.trans hh (hx2.trans hh1 (hx3.trans hh2 hx5))) (.bool _)⟩
end
end Go.Can
namespace Go.Can
open Go
variable [Glob]
set_option linter.unusedSectionVars false
section
variable {P : Program} {r : Rec}

theorem kSeq_ok (hr : Ok P r) {rd : Option Nat} {nt : Nat} {b : Code} {k : K} {e : Ex} {v : Value} {tm : T Value} {ds : List CDef} {c : CW} (h : kSeq r rd nt b k e v tm ds c = true) :
    (e = .normal ∧ ∃ e' v tm' ds' c', k e' v tm' ds' c' = true ∧ Jcode P rd nt b tm ds c e' tm' ds' c') ∨ (e ≠ .normal ∧ k e undef tm ds c = true) := by
  unfold kSeq at h
  cases e with
  | normal => obtain ⟨e', v, tm', ds', c', h1, h2⟩ := hr _ _ _ _ _ h; exact .inl ⟨rfl, e', v, tm', ds', c', h1, h2⟩
  | exit id => exact .inr ⟨by simp, h⟩
  | ret => exact .inr ⟨by simp, h⟩
theorem kBlock_ok {id : Nat} {k : K} {e : Ex} {v : Value} {tm : T Value} {ds : List CDef} {c : CW} (h : kBlock id k e v tm ds c = true) :
    ∃ e', k e' undef tm ds c = true ∧ ∀ (Q : Exit → Act → World → Prop) a w, Q (exOf e') a w → Exit.inBlock id Q (exOf e) a w := by
  unfold kBlock at h
  cases e with
  | normal => exact ⟨.normal, h, fun Q a w q => q⟩
  | ret => exact ⟨.ret, h, fun Q a w q => q⟩
  | exit j =>
    dsimp only at h
    split at h
    · next e => exact ⟨.normal, h, fun Q a w q => by have := Nat.eq_of_beq_eq_true e; simp [exOf, Exit.inBlock, this]; exact q⟩
    · next e => exact ⟨.exit j, h, fun Q a w q => by have := Nat.ne_of_beq_eq_false e; simp [exOf, Exit.inBlock, this]; exact q⟩
theorem kRound_ok (hr : Ok P r) {rd : Option Nat} {nt : Nat} {b : Code} {k : K} {e : Ex} {v : Value} {tm : T Value} {ds : List CDef} {c : CW} (h : kRound r rd nt b k e v tm ds c = true) :
    (e = .normal ∧ ∃ e' v tm' ds' c', k e' v tm' ds' c' = true ∧ Jround P rd nt b tm ds c e' tm' ds' c') ∨ (e ≠ .normal ∧ k e undef tm ds c = true) := by
  unfold kRound at h
  cases e with
  | normal => obtain ⟨e', v, tm', ds', c', h1, h2⟩ := hr _ _ _ _ _ h; exact .inl ⟨rfl, e', v, tm', ds', c', h1, h2⟩
  | exit id => exact .inr ⟨by simp, h⟩
  | ret => exact .inr ⟨by simp, h⟩

/-- what lies behind the call of a range over a function -/
theorem kRange_ok {l : Nat} {tm : T Value} {ds : List CDef} {k : K} {e : Ex} {v : Value} {tm1 : T Value} {ds1 : List CDef} {c : CW} (h : kRange l tm ds k e v tm1 ds1 c = true) :
    ∃ e' c', k e' undef tm ds c' = true ∧ ∀ (f : Mp) (w : World) (rr : Nat) (z : Z), HR f c w → f l = some (rr, z) → ∃ jump w', (Instr.endLoop rr).run P w = .ok jump w' ∧ HR f c' w' ∧ Ext f c w f c' w' ∧
      ∀ (rd : Option Nat) (Q : Exit → Act → World → Prop) (a : Act), Q (exOf e') a w' → (match jump with | none => Q .normal a w' | some cd => cd.wpIn (FW rd) 0 P Q a w') := by
  unfold kRange at h
  obtain ⟨s, pe, tm', nt', ps', as', bd', df, hg, h⟩ := loopAt_ok h
  have hb : s ≠ .busy ∧ c.set l (some (.loop .exhausted pe tm' nt' ps' as' bd' df)) (kJump tm ds k pe) = true := by
    cases s <;> first | exact ⟨by simp, h⟩ | cases h
  obtain ⟨hs, h⟩ := hb
  obtain ⟨c', h1, hn, hl, hget⟩ := CW.set_ok h
  have main : ∀ (f : Mp) (w : World) (rr : Nat) (z : Z), HR f c w → f l = some (rr, z) → ∃ w', (Instr.endLoop rr).run P w = .ok pe w' ∧ HR f c' w' ∧ Ext f c w f c' w' := fun f w rr z hh hf => by
    obtain ⟨lp, ho, g1, g2, g3, g4, g5, g6, g7⟩ := hh.loop hg hf
    obtain ⟨hh', hx'⟩ := hh.setLoop (lp' := { lp with state := .exhausted }) hg hf ho hn hl hget rfl g2 rfl rfl rfl rfl rfl
    exact ⟨_, by rw [run_endLoop ho (by rw [g1]; exact hs), g2], hh', hx'⟩
  cases pe with
  | none => exact ⟨.normal, c', h1, fun f w rr z hh hf => let ⟨w', a1, a2, a3⟩ := main f w rr z hh hf; ⟨none, w', a1, a2, a3, fun rd Q a q => q⟩⟩
  | some cd =>
    cases cd with
    | ret => exact ⟨.ret, c', h1, fun f w rr z hh hf => let ⟨w', a1, a2, a3⟩ := main f w rr z hh hf; ⟨some .ret, w', a1, a2, a3, fun rd Q a q => wpIn_ret q⟩⟩
    | exit id => exact ⟨.exit id, c', h1, fun f w rr z hh hf => let ⟨w', a1, a2, a3⟩ := main f w rr z hh hf; ⟨some (.exit id), w', a1, a2, a3, fun rd Q a q => wpIn_exit q⟩⟩
    | _ => cases h1

theorem range_call {g : FuncId} {args : List Value} {c2 c3 c4 : CW} {v : Value} {l : Nat} {e' : Ex} (hcall : Jcall P g args c2 v c3)
    (hend : ∀ (f : Mp) (w : World) (rr : Nat) (z : Z), HR f c3 w → f l = some (rr, z) → ∃ jump w', (Instr.endLoop rr).run P w = .ok jump w' ∧ HR f c4 w' ∧ Ext f c3 w f c4 w' ∧
      ∀ (rd : Option Nat) (Q : Exit → Act → World → Prop) (a : Act), Q (exOf e') a w' → (match jump with | none => Q .normal a w' | some cd => cd.wpIn (FW rd) 0 P Q a w'))
    {f2 : Mp} {W2 : World} {args' : Array Value} {rr : Nat} {z : Z} (hl : LR f2 args args'.toList) (hh2 : HR f2 c2 W2) (hf : f2 l = some (rr, z)) (rd : Option Nat) (Q : Exit → Act → World → Prop) (a' : Act)
    (hQ : ∀ f4 w4, HR f4 c4 w4 → Ext f2 c2 W2 f4 c4 w4 → Q (exOf e') a' w4) : CallsIn (FW none) 0 P g args' W2 (rangePost (FW rd) 0 P rr Q a') := by
  refine CallsIn.mono (hcall.2 f2 W2 args' hl hh2 (fun v w3 => rangePost (FW rd) 0 P rr Q a' (.returned v) w3) ?_) ?_
  · intro f3 v3 w3 hh3 hx3 _
    obtain ⟨jump, w4, g1, g2, g3, g4⟩ := hend f3 w3 rr z hh3 (hx3.sub _ _ hf)
    exact ⟨jump, w4, g1, g4 rd Q _ (hQ f3 w4 g2 (hx3.trans hh2 g3))⟩
  · intro e w' q
    cases e <;> first | exact q | exact q.elim

theorem goRange_ok (hr : Ok P r) {rd : Option Nat} {nt : Nat} {x : Operand} {fv : Value} {ps : Array Tmp} {as bd : Code} {tm : T Value} {ds : List CDef} {c : CW} {k : K} (hx : EvR tm x fv) (h : goRange r rd nt fv ps.toList as bd tm ds c k = true) :
    ∃ e v tm' ds' c', k e v tm' ds' c' = true ∧ Jcode P rd nt (.rangeFunc x ps as bd) tm ds c e tm' ds' c' := by
  unfold goRange at h
  split at h
  · next g first cap =>
    cases rd with
    | none =>
      dsimp only at h
      obtain ⟨c1, h1, hn1, hl1, hget1⟩ := CW.new_ok h
      obtain ⟨c2, h2, hn2, hl2, hget2⟩ := CW.new_ok h1
      obtain ⟨e3, v3, tm3, ds3, c3, h3, hcf, hcall⟩ := hr _ _ _ _ _ h2
      obtain ⟨e', c4, h4, hend⟩ := kRange_ok (P := P) h3
      refine ⟨e', _, tm, _, c4, h4, fun f a w rd' hrd ht hd hh Q hQ => ?_⟩
      cases hrd
      have hfv := hx f nt a ht
      generalize hg : a.eval x = fv' at hfv
      cases hfv
      next first' cap' hl1' hl2' =>
      refine wpIn_rangeFunc fun fn _ => ?_
      -- the block and the record
      obtain ⟨hh1, hx1⟩ := new_HR (o := .obj (.deferred (some []))) (o' := .deferred (some [])) (lz := none) (w' := w.alloc (.deferred (some []))) hh hn1 hl1 hget1 rfl rfl
      have ef1 : upd f c.next (w.heap.size, none) c.next = some (w.heap.size, none) := upd_same _ _ _
      obtain ⟨hh2, hx2⟩ := new_HR (o := .loop .ready none tm nt ps.toList as bd c.next) (lz := none)
        (o' := .loop { state := .ready, pending := none, fn, tmps := a.tmps, params := ps, assign := as, body := bd, defers := w.heap.size }) (w' := (w.alloc (.deferred (some []))).alloc (.loop { state := .ready, pending := none, fn, tmps := a.tmps, params := ps, assign := as, body := bd, defers := w.heap.size }))
        hh1 hn2 hl2 hget2 ⟨rfl, rfl, ht.mono hx1.sub, rfl, rfl, rfl, none, ef1⟩ rfl
      have hx12 := hx1.trans hh hx2
      have esz : (w.alloc (.deferred (some []))).heap.size = w.heap.size + 1 := by simp
      rw [esz] at hh2 hx2 hx12
      obtain ⟨W2, hW2⟩ : ∃ W2, W2 = (w.alloc (.deferred (some []))).alloc (.loop { state := .ready, pending := none, fn, tmps := a.tmps, params := ps, assign := as, body := bd, defers := w.heap.size }) := ⟨_, rfl⟩
      rw [← hW2] at hh2 hx2 hx12
      refine ⟨w.heap.size + 1, [{ target := .collected w.heap.size, args := #[] }], W2, { target := .fn (.func g) cap', args := first' ++ #[.func (.yield (w.heap.size + 1)) #[] #[]] }, W2, g, first' ++ #[.func (.yield (w.heap.size + 1)) #[] #[]] ++ cap', W2, (by rw [hW2]; exact run_enterLoop_outer _ _ _ _ _), ?_, fun _ _ => trivial, ?_, fun e => (by cases e), ?_⟩
      · simp only [resolve, hg, Deferred.ofValue]; simp [Act.eval]
      · simp only [invoke]; exact hcf _ _
      · have ef2 : upd (upd f c.next (w.heap.size, none)) c1.next (w.heap.size + 1, none) c1.next = some (w.heap.size + 1, none) := upd_same _ _ _
        refine range_call ⟨hcf, hcall⟩ hend ?_ hh2 ef2 none Q _ fun f4 w4 hh4 hx4 => ?_
        · simpa using ((hl1'.mono hx12.sub).append (.cons (.yield ef2) .nil)).append (hl2'.mono hx12.sub)
        · have hx := hx12.trans hh hx4
          exact hQ f4 _ w4 (ht.mono hx.sub) (.mark (hx4.sub _ _ (hx2.sub _ _ ef1)) (hd.mono hx.sub)) hh4 hx
    | some o =>
      dsimp only at h
      obtain ⟨s0, pe0, tm0, nt0, ps0, as0, bd0, d0, hg0, h⟩ := loopAt_ok h
      obtain ⟨c2, h2, hn2, hl2, hget2⟩ := CW.new_ok h
      obtain ⟨e3, v3, tm3, ds3, c3, h3, hcf, hcall⟩ := hr _ _ _ _ _ h2
      obtain ⟨e', c4, h4, hend⟩ := kRange_ok (P := P) h3
      refine ⟨e', _, tm, _, c4, h4, fun f a w rd' hrd ht hd hh Q hQ => ?_⟩
      cases hrd
      next ro zo hfo =>
      have hfv := hx f nt a ht
      generalize hg : a.eval x = fv' at hfv
      cases hfv
      next first' cap' hl1' hl2' =>
      obtain ⟨lp, hlp, k1, k2, k3, k4, k5, k6, zd, k7⟩ := hh.loop hg0 hfo
      refine wpIn_rangeFunc fun fn _ => ?_
      obtain ⟨hh2, hx2⟩ := new_HR (o := .loop .ready none tm nt ps.toList as bd d0) (lz := none)
        (o' := .loop { state := .ready, pending := none, fn, tmps := a.tmps, params := ps, assign := as, body := bd, defers := lp.defers }) (w' := w.alloc (.loop { state := .ready, pending := none, fn, tmps := a.tmps, params := ps, assign := as, body := bd, defers := lp.defers }))
        hh hn2 hl2 hget2 ⟨rfl, rfl, ht, rfl, rfl, rfl, zd, k7⟩ rfl
      obtain ⟨W2, hW2⟩ : ∃ W2, W2 = w.alloc (.loop { state := .ready, pending := none, fn, tmps := a.tmps, params := ps, assign := as, body := bd, defers := lp.defers }) := ⟨_, rfl⟩
      rw [← hW2] at hh2 hx2
      refine ⟨w.heap.size, [], W2, { target := .fn (.func g) cap', args := first' ++ #[.func (.yield w.heap.size) #[] #[]] }, W2, g, first' ++ #[.func (.yield w.heap.size) #[] #[]] ++ cap', W2, (by rw [hW2]; exact run_enterLoop_inner hlp _ _ _ _ _), ?_, fun _ _ => trivial, ?_, fun e => (by cases e), ?_⟩
      · simp only [resolve, hg, Deferred.ofValue]; simp [Act.eval]
      · simp only [invoke]; exact hcf _ _
      · have ef2 : upd f c.next (w.heap.size, none) c.next = some (w.heap.size, none) := upd_same _ _ _
        refine range_call ⟨hcf, hcall⟩ hend ?_ hh2 ef2 (some ro) Q _ fun f4 w4 hh4 hx4 => ?_
        · simpa using ((hl1'.mono hx2.sub).append (.cons (.yield ef2) .nil)).append (hl2'.mono hx2.sub)
        · have hx := hx2.trans hh hx4
          exact hQ f4 _ w4 (ht.mono hx.sub) (hd.mono hx.sub) hh4 hx
  · cases h
end
end Go.Can
namespace Go.Can
open Go
variable [Glob]
set_option linter.unusedSectionVars false
section
variable {P : Program} {r : Rec}

/-- what is asked of a region whose order is drawn -/
def DrawOk (P : Program) (r : Rec) : Prop := ∀ (nt : Nat) (ops : Array Oper) (tm : T Value) (ds : List CDef) (c : CW) (k : K), goDraw P r nt ops tm ds c k = true →
  ∃ tm' c' v', k .normal v' tm' ds c' = true ∧ ∀ (id : Nat) (rd : Option Nat), Jcode P rd nt (.region id ops true) tm ds c .normal tm' ds c'

theorem goCode_ok (hP : Fair P) (hr : Ok P r) (hD : DrawOk P r) {rd : Option Nat} {nt : Nat} {cd : Code} {tm : T Value} {ds : List CDef} {c : CW} {k : K} (h : goCode P r rd nt cd tm ds c k = true) :
    ∃ e v tm' ds' c', k e v tm' ds' c' = true ∧ Jcode P rd nt cd tm ds c e tm' ds' c' := by
  unfold goCode at h
  cases cd <;> simp only [codeF] at h <;> first | (cases h; done) | skip
  case skip => exact ⟨_, _, _, _, _, h, .leaf fun _ _ _ _ q => wpIn_skip q⟩
  case label l => exact ⟨_, _, _, _, _, h, .leaf fun _ _ _ _ q => wpIn_label q⟩
  case exit id => exact ⟨_, _, _, _, _, h, .leaf fun _ _ _ _ q => wpIn_exit q⟩
  case ret => exact ⟨_, _, _, _, _, h, .leaf fun _ _ _ _ q => wpIn_ret q⟩
  case seq a b =>
    obtain ⟨e1, v1, tm1, ds1, c1, h1, hj⟩ := hr _ _ _ _ _ h
    rcases kSeq_ok hr h1 with ⟨rfl, e, v, tm', ds', c', h2, hj2⟩ | ⟨he, h2⟩
    · exact ⟨e, v, tm', ds', c', h2, Jcode.seq_go hj hj2⟩
    · exact ⟨_, _, _, _, _, h2, Jcode.seq_out he hj⟩
  case cond x a b =>
    obtain ⟨v, h1, hv⟩ := evK_ok h
    unfold goCond at h1
    split at h1
    · next t =>
      cases t with
      | true =>
        obtain ⟨e, v, tm', ds', c', h2, hj⟩ := hr _ _ _ _ _ h1
        exact ⟨e, v, tm', ds', c', h2, Jcode.cond (b := true) hv hj⟩
      | false =>
        obtain ⟨e, v, tm', ds', c', h2, hj⟩ := hr _ _ _ _ _ h1
        exact ⟨e, v, tm', ds', c', h2, Jcode.cond (b := false) hv hj⟩
    · cases h1
  case block id a =>
    obtain ⟨e1, v1, tm1, ds1, c1, h1, hj⟩ := hr _ _ _ _ _ h
    obtain ⟨e', h2, he⟩ := kBlock_ok h1
    exact ⟨e', _, tm1, ds1, c1, h2, Jcode.block he hj⟩
  case scope a =>
    obtain ⟨e1, v1, tm1, ds1, c1, h1, hj⟩ := hr _ _ _ _ _ h
    exact ⟨_, _, _, _, _, h1, Jcode.scope hj⟩
  case loop a =>
    obtain ⟨e1, v1, tm1, ds1, c1, h1, hj⟩ := hr _ _ _ _ _ h
    exact ⟨_, _, _, _, _, h1, Jcode.loop hj⟩
  case region id ops draw =>
    cases draw with
    | false =>
      obtain ⟨tm', ds', c', v', h1, hj⟩ := goOps_ok hP hr ops.toList _ _ _ _ h
      exact ⟨_, _, _, _, _, h1, Jcode.region hj⟩
    | true =>
      obtain ⟨tm', c', v', h1, hj⟩ := hD nt ops tm ds c k h
      exact ⟨_, _, _, _, _, h1, hj id rd⟩
  case rangeFunc x ps as bd =>
    obtain ⟨v, h1, hv⟩ := evK_ok h
    exact goRange_ok hr hv h1

theorem goStep_ok (hP : Fair P) (hr : Ok P r) (hD : DrawOk P r) : Ok P (goStep P r) := by
  intro task tm ds c k h
  cases task with
  | code rd nt cd => exact goCode_ok hP hr hD h
  | more t =>
    cases t with
    | round rd nt a =>
      obtain ⟨e1, v1, tm1, ds1, c1, h1, hj⟩ := hr _ _ _ _ _ h
      rcases kRound_ok hr h1 with ⟨rfl, e, v, tm', ds', c', h2, hj2⟩ | ⟨he, h2⟩
      · exact ⟨e, v, tm', ds', c', h2, Jround.again hj hj2⟩
      · exact ⟨_, _, _, _, _, h2, Jround.out he hj⟩
    | call g args => exact goCall_ok hP hr h
    | yield l args => exact goYield_ok hr h
    | leave fn => exact goLeave_ok hr h
    | dcall g args => exact goDcall_ok hP hr h

theorem go_ok (hP : Fair P) (hD : ∀ r, Ok P r → DrawOk P r) : ∀ n, Ok P (go P n)
  | 0 => fun task tm ds c k h => by cases h
  | n+1 => goStep_ok hP (go_ok hP hD n) (hD _ (go_ok hP hD n))

theorem layK_ok : ∀ {gl : List (Nat × CObj)} {h : T CObj} {k : T CObj → Bool}, layK gl h k = true → ∃ h', k h' = true ∧ ∀ b o, h'.get b = some o → h.get b = some o ∨ (b < Glob.num ∧ (b, o) ∈ gl)
  | [], h, k, e => ⟨h, e, fun _ _ g => .inl g⟩
  | (g, o) :: l, h, k, e => by
    simp only [layK] at e
    split at e
    · next hg =>
      obtain ⟨h1, e1, e2⟩ := T.put_ok e
      obtain ⟨h2, e3, e4⟩ := layK_ok e1
      refine ⟨h2, e3, fun b o' hb => ?_⟩
      rcases e4 b o' hb with h3 | ⟨h3, h4⟩
      · rw [e2] at h3
        by_cases hbg : b = g
        · rw [if_pos hbg] at h3; cases h3; subst hbg
          exact .inr ⟨Nat.le_of_ble_eq_true hg, by simp⟩
        · rw [if_neg hbg] at h3; exact .inl h3
      · exact .inr ⟨h3, by simp [h4]⟩
    · cases e
def gMp : Mp := fun b => if b < Glob.num then some (b, none) else none
/-- the package-level variables hold what is told of them -/
structure GW (gl : List (Nat × CObj)) (w : World) : Prop where
  size : Glob.num ≤ w.heap.size
  holds : ∀ g o, (g, o) ∈ gl → ∃ o', w.heap[g]? = some o' ∧ OR gMp none o o'
theorem gMp_eq {b r : Nat} {z : Z} (h : gMp b = some (r, z)) : r = b ∧ z = none ∧ b < Glob.num := by
  unfold gMp at h
  split at h
  · next hb => cases h; exact ⟨rfl, rfl, hb⟩
  · cases h
theorem HR_g {gl : List (Nat × CObj)} {w : World} (hw : GW gl w) {h : T CObj} (hh : ∀ b o, h.get b = some o → b < Glob.num ∧ (b, o) ∈ gl) : HR gMp ⟨h, Glob.num, Glob.num⟩ w :=
  ⟨fun b1 b2 r l1 l2 _ _ e1 e2 => by rw [← (gMp_eq e1).1, (gMp_eq e2).1],
    fun b o r lz h1 h2 => by
      obtain ⟨rfl, rfl, _⟩ := gMp_eq h2
      exact hw.holds _ o (hh _ _ h1).2,
    fun b r lz e => by obtain ⟨rfl, _, h3⟩ := gMp_eq e; exact ⟨Nat.lt_of_lt_of_le h3 hw.size, h3⟩,
    fun b hb => by
      obtain ⟨o, ho⟩ := Option.isSome_iff_exists.1 hb
      exact (hh b o ho).1,
    fun g hg => by simp [gMp, hg]⟩
/-- **A function without arguments that the evaluator runs to a result which 'chk' takes does so at every world whose package-level variables hold what was told, and leaves what was there as it was.** -/
theorem runs_ok (hP : Fair P) (hD : ∀ r, Ok P r → DrawOk P r) {n : Nat} {g : FuncId} {gl : List (Nat × CObj)} {chk : Value → Bool} (h : runs P n g gl chk = true) (w : World) (hw : GW gl w) :
    ∃ v, chk v = true ∧ CallsIn (FW none) 0 P g #[] w (retK fun v' w' => (∃ f', VR f' v v') ∧ w.heap.size ≤ w'.heap.size ∧ (∀ i, i < w.heap.size → w'.heap[i]? = w.heap[i]?) ∧ w'.tape = w.tape ∧ w'.os = w.os ∧ w'.output = w.output) := by
  obtain ⟨h', g1, g2⟩ := layK_ok h
  obtain ⟨e, v, tm', ds', c', h1, _, h2⟩ := go_ok hP hD n _ _ _ _ _ g1
  unfold kLow at h1
  split at h1
  · next hlow =>
    have hlow := Nat.le_of_ble_eq_true hlow
    have hh : ∀ b o, h'.get b = some o → b < Glob.num ∧ (b, o) ∈ gl := fun b o hb => by
      rcases g2 b o hb with h3 | h3
      · rw [T.get_nil] at h3; cases h3
      · exact h3
    refine ⟨v, h1, h2 gMp w #[] .nil (HR_g hw hh) _ fun f' v' w' _ hx hv => ⟨⟨f', hv⟩, hx.size, fun i hi => hx.old i hi fun b lz hb hf => ?_, hx.tape, hx.os, hx.output⟩⟩
    exact Nat.lt_of_lt_of_le (gMp_eq hf).2.2 hlow
  · cases h1
end
end Go.Can
