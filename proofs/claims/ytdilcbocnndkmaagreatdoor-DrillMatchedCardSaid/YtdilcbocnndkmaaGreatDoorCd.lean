/- A part of the proof: see the last file. -/
import Derived.Test.YtdilcbocnndkmaaGreatDoorCc
import Derived.RangeFuncLeaves
import Derived.RecoverIn
import Derived.Scope
import Derived.Laws.Externs
import Derived.OrdersIn
set_option linter.unusedVariables false
set_option linter.unusedSimpArgs false
set_option linter.unusedSectionVars false
namespace Go.Can
noncomputable section
open Go
variable [Glob]
set_option linter.unusedSectionVars false

section ops
variable {P : Program} {tm : T Value} {c : CW}

def closedOn (P : Program) (s : List Value → Sem Value) (vs : List Value) (c : CW) (k : Value → CW → Bool) : Bool := match allClosed vs with
  | true => cPure P (s vs) c k
  | false => false
theorem closedOn_ok {s : List Value → Sem Value} {vs : List Value} {k : Value → CW → Bool} (h : closedOn P s vs c k = true) : ∃ v c', k v c' = true ∧ BS P s vs c v c' := by
  unfold closedOn at h
  split at h
  · next hc =>
    obtain ⟨u, h1, hu, h2⟩ := cPure_ok h
    exact ⟨u, c, h1, fun f w vs' hr hl => ⟨f, u, w, by rw [hl.closed hc]; exact h2 w, hr, Ext.refl _ _ _, .of_closed hu⟩⟩
  · cases h

def cBuiltin (P : Program) (b : Builtin) (ats : Array TypeId) (ty : TypeId) (vs : List Value) (c : CW) (k : Value → CW → Bool) : Bool := match b with
  | .append => match ats.toList, vs with
    | [sT, xT], [s, x] => cAppend P sT xT s x c k
    | _, _ => false
  | .len => cLen P ats ty vs c k
  | .cap => cCap P ats ty vs c k
  | .copy => cCopy P ats vs c k
  | .min => closedOn P (fun vs => Builtin.min_ ats ty vs.toArray) vs c k
  | .max => closedOn P (fun vs => Builtin.max_ ats ty vs.toArray) vs c k
  | _ => false
theorem cBuiltin_ok {b : Builtin} {ats : Array TypeId} {ty : TypeId} {cons : Array Bool} {vs : List Value} {k : Value → CW → Bool} (h : cBuiltin P b ats ty vs c k = true) :
    ∃ v c' s, k v c' = true ∧ BS P s vs c v c' ∧ ∀ vs' : List Value, builtin b ats ty cons vs'.toArray = (do pure (.value (← s vs'))) := by
  unfold cBuiltin at h
  split at h
  · split at h
    · next sT xT s x hats =>
      obtain ⟨v, c', h1, h2⟩ := cAppend_ok (ty := ty) h
      refine ⟨v, c', fun vs => Builtin.append_ ats ty vs.toArray, h1, fun f w vs' hr hl => ?_, fun _ => rfl⟩
      obtain ⟨s', x', rfl, hs, hx⟩ := hl.two
      have : ats = #[sT, xT] := Array.toList_inj.1 (by rw [hats])
      rw [this]
      exact h2 f w s' x' hr hs hx
    · cases h
  · obtain ⟨v, c', h1, h2⟩ := cLen_ok h; exact ⟨v, c', _, h1, h2, fun _ => rfl⟩
  · obtain ⟨v, c', h1, h2⟩ := cCap_ok h; exact ⟨v, c', _, h1, h2, fun _ => rfl⟩
  · obtain ⟨v, c', h1, h2⟩ := cCopy_ok (ty := ty) h; exact ⟨v, c', _, h1, h2, fun _ => rfl⟩
  · obtain ⟨v, c', h1, h2⟩ := closedOn_ok h; exact ⟨v, c', _, h1, h2, fun _ => rfl⟩
  · obtain ⟨v, c', h1, h2⟩ := closedOn_ok h; exact ⟨v, c', _, h1, h2, fun _ => rfl⟩
  · cases h

/-- an operation that enters nothing: what it does (a closed term: reckoned out once for each operation) -/
inductive CopF where
  | mk (f : T Value → CW → (Value → CW → Bool) → Bool)
def copF (P : Program) (o : Oper) : CopF := match o.op with
  | .move x => .mk fun tm c k => cMove x tm c k
  | .assign x => .mk fun tm c k => cMove x tm c k
  | .load t a => .mk fun tm c k => cLoad P t a tm c k
  | .store t a x => .mk fun tm c k => cStore P t a x tm c k
  | .fieldAddr s x f => .mk fun tm c k => cFieldAddr P s x f tm c k
  | .binOp op t x y _ => .mk fun tm c k => cBin P op t x y tm c k
  | .indexAddr t x ix => .mk fun tm c k => cIndexAddr P t x ix tm c k
  | .extract x i => .mk fun tm c k => cExtract x i tm c k
  | .pick d x y => .mk fun tm c k => cPick d x y tm c k
  | .alloc t => .mk fun tm c k => cAlloc P t c k
  | .box t x => .mk fun tm c k => cBox t x tm c k
  | .build t parts => .mk fun tm c k => cBuild P t parts.toList tm c k
  | .buildSlice t n parts => .mk fun tm c k => cBuildSlice P t n parts.toList tm c k
  | .nilCheck x => .mk fun tm c k => cNil x tm c k
  | .unOp op _ x => .mk fun tm c k => cUn P op x tm c k
  | .convert s t x => .mk fun tm c k => cConv P s t x tm c k
  | .makeInterface t x => .mk fun tm c k => cIface P t x tm c k
  | .makeFunc fn a b => .mk fun tm c k => cFunc fn a.toList b.toList tm c k
  | .makeMap _ none => .mk fun tm c k => cMakeMap c k
  | .makeSlice t x y => .mk fun tm c k => cMakeSlice P t x y tm c k
  | .slice t x lo hi mx => .mk fun tm c k => cSlice P t x lo hi mx tm c k
  | .field s x f => .mk fun tm c k => cField P s x f tm c k
  | .index t x ix => .mk fun tm c k => cIndex P t x ix tm c k
  | .lookup t x ix ok => .mk fun tm c k => cLookup P t x ix ok tm c k
  | .mapUpdate t x ix y => .mk fun tm c k => cMapUpdate P t x ix y tm c k
  | .range t x => .mk fun tm c k => cRange P t x tm c k
  | .next x s => .mk fun tm c k => cNext x s tm c k
  | .typeAssert x s t ok => .mk fun tm c k => cAssert P x s t ok tm c k
  | .call cl => match cl.callee with
    | .builtin b => .mk fun tm c k => evsK tm cl.args.toList [] fun vs => cBuiltin P b cl.argTypes o.type vs c k
    | _ => .mk fun _ _ _ => false
  | _ => .mk fun _ _ _ => false
def cop (P : Program) (tm : T Value) (o : Oper) (c : CW) (k : Value → CW → Bool) : Bool := match copF P o with
  | .mk f => f tm c k
theorem cop_ok {o : Oper} {k : Value → CW → Bool} (h : cop P tm o c k = true) : ∃ v c', k v c' = true ∧ OpS P tm c (fun a => execOp a.eval o) v c' := by
  obtain ⟨dst, op, type, pos, after, guard⟩ := o
  cases op <;> simp only [cop, copF] at h <;> first | (cases h; done) | skip
  case move x => exact cMove_ok h
  case assign x => exact cMove_ok h
  case pick d x y => exact cPick_ok h
  case alloc t => exact cAlloc_ok h
  case box t x => exact cBox_ok h
  case build t parts => exact cBuild_ok h
  case buildSlice t n parts => exact cBuildSlice_ok h
  case load t a => exact cLoad_ok h
  case store t a x => exact cStore_ok h
  case nilCheck x =>
    obtain ⟨v, c', h1, h2⟩ := cNil_ok h
    refine ⟨v, c', h1, fun f nt a w ht hr => ?_⟩
    obtain ⟨rfl, g1, p, g2⟩ := h2 f nt a ht
    exact ⟨f, _, w, .inl (by simp only [execOp, g2]; rfl), hr, Ext.refl _ _ _, by rw [← g2]; exact g1⟩
  case binOp op t x y yt => exact cBin_ok h
  case unOp op t x => exact cUn_ok h
  case convert s t x => exact cConv_ok h
  case makeInterface t x => exact cIface_ok h
  case makeFunc fn a b => exact cFunc_ok h
  case makeMap t r =>
    cases r with
    | none => exact cMakeMap_ok h
    | some x => cases h
  case makeSlice t x y => exact cMakeSlice_ok h
  case slice t x lo hi mx => exact cSlice_ok h
  case fieldAddr s x f => exact cFieldAddr_ok h
  case field s x f => exact cField_ok h
  case indexAddr t x ix => exact cIndexAddr_ok h
  case index t x ix => exact cIndex_ok h
  case lookup t x ix ok => exact cLookup_ok h
  case mapUpdate t x ix y => exact cMapUpdate_ok h
  case range t x => exact cRange_ok h
  case next x s => exact cNext_ok h
  case typeAssert x s t ok => exact cAssert_ok h
  case extract x i => exact cExtract_ok h
  case call cl =>
    obtain ⟨callee, args, ats⟩ := cl
    cases callee with
    | value f => cases h
    | invoke r m => cases h
    | builtin b =>
      obtain ⟨vs, h1, hv⟩ := evsK_ok h
      obtain ⟨v, c', s, h2, h3, h4⟩ := cBuiltin_ok (cons := args.map fun | .const _ => true | _ => false) h1
      refine ⟨v, c', h2, fun f nt a w ht hr => ?_⟩
      obtain ⟨f', v', w', g1, g2, g3, g4⟩ := h3 f w _ hr (hv f nt a ht)
      refine ⟨f', v', w', .inl ?_, g2, g3, g4⟩
      have e2 : args.map a.eval = (args.toList.map a.eval).toArray := by apply Array.toList_inj.1; simp
      have h5 := h4 (args.toList.map a.eval)
      dsimp only at h5
      show (builtin b ats type (args.map fun | .const _ => true | _ => false) (args.map a.eval)).run P w = _
      rw [e2, h5, Sem.run_bind, g1]; rfl
end ops
end
end Go.Can
namespace Go.Can
noncomputable section
open Go
variable [Glob]
set_option linter.unusedSectionVars false

inductive CDef where
  | mark (b : Nat)
  | fn (g : FuncId) (args cap : List Value)
inductive DR (f : Mp) : List CDef → List Deferred → Prop
  | nil : DR f [] []
  | mark {b r : Nat} {z : Z} {ds : List CDef} {ds' : List Deferred} (h : f b = some (r, z)) (t : DR f ds ds') : DR f (.mark b :: ds) ({ target := .collected r, args := #[] } :: ds')
  | fn (g : FuncId) {args cap : List Value} {args' cap' : Array Value} {ds : List CDef} {ds' : List Deferred} (h1 : LR f args args'.toList) (h2 : LR f cap cap'.toList) (t : DR f ds ds') :
      DR f (.fn g args cap :: ds) ({ target := .fn (.func g) cap', args := args' } :: ds')
theorem DR.mono {f g : Mp} (s : Sub f g) : ∀ {ds : List CDef} {ds' : List Deferred}, DR f ds ds' → DR g ds ds'
  | _, _, .nil => .nil
  | _, _, .mark h t => .mark (s _ _ h) (DR.mono s t)
  | _, _, .fn q h1 h2 t => .fn q (h1.mono s) (h2.mono s) (DR.mono s t)

inductive Ex where
  | normal | exit (id : Nat) | ret
def exOf : Ex → Exit
  | .normal => .normal
  | .exit id => .exit id
  | .ret => .ret

def nthO : List Oper → Nat → Option Oper
  | o :: _, 0 => some o
  | _ :: l, n+1 => nthO l n
  | [], _ => none
theorem nthO_eq : ∀ (l : List Oper) (n : Nat), nthO l n = l[n]?
  | _ :: _, 0 => rfl
  | _ :: l, n+1 => by simp [nthO, nthO_eq l n]
  | [], _ => by simp [nthO]
def wantedB (ops : List Oper) (o : Oper) (tm : T Value) : Bool := match o.guard with
  | none => true
  | some (j, want) => match nthO ops j with
    | some g => match g.dst with
      | some d => match tm.get d with
        | some (.bool b) => b == want
        | _ => false
      | none => false
    | none => false
theorem VR.not_bool {f : Mp} {v : Value} {b : Bool} (h : VR f v (.bool b)) : v = .bool b := by cases h; rfl
theorem wantedB_ok {f : Mp} {ops : Array Oper} {o : Oper} {tm : T Value} {ts : Array Value} (h : ∀ j want g d, o.guard = some (j, want) → ops[j]? = some g → g.dst = some d → VR f (undefd (tm.get d)) (ts.getD d undef)) :
    Region.wanted o (yielded ops ts) = wantedB ops.toList o tm := by
  unfold Region.wanted wantedB
  cases hg : o.guard with
  | none => rfl
  | some p =>
    obtain ⟨j, want⟩ := p
    simp only [yielded, nthO_eq, Array.getElem?_toList]
    cases hj : ops[j]? with
    | none => simp
    | some g =>
      simp only [Option.bind_some]
      cases hd : g.dst with
      | none => simp
      | some d =>
        have hv := h j want g d hg hj hd
        simp only [Option.bind_some]
        cases ht : ts[d]? with
        | none =>
          have : ts.getD d undef = undef := by simp [Array.getD_eq_getD_getElem?, ht]
          rw [this] at hv
          simp only
          split
          · next b hb => rw [hb] at hv; cases hv
          · rfl
        | some u =>
          have : ts.getD d undef = u := by simp [Array.getD_eq_getD_getElem?, ht]
          rw [this] at hv
          cases u
          case bool b =>
            have h2 := hv.not_bool
            cases hm : tm.get d with
            | none => rw [hm] at h2; cases h2
            | some x => rw [hm] at h2; simp only [undefd] at h2; subst h2; simp
          all_goals
            simp only
            split
            · next b hb => rw [hb] at hv; cases hv
            · rfl

def putK (dst : Option Tmp) (v : Value) (nt : Nat) (tm : T Value) (k : T Value → Bool) : Bool := match dst with
  | none => k tm
  | some d => match Nat.ble (d+1) nt with
    | true => T.put (some v) 64 tm d k
    | false => false
theorem putK_ok {dst : Option Tmp} {v : Value} {nt : Nat} {tm : T Value} {k : T Value → Bool} (h : putK dst v nt tm k = true) :
    ∃ tm', k tm' = true ∧ (∀ j, tm'.get j = if dst = some j then some v else tm.get j) ∧ (∀ d, dst = some d → d < nt) ∧
      ∀ (f : Mp) (a : Act) (v' : Value), TR f tm nt a.tmps → VR f v v' → TR f tm' nt (a.put dst v').tmps := by
  unfold putK at h
  split at h
  · exact ⟨tm, h, fun j => by simp, (fun d e => by cases e), fun f a v' ht _ => ht⟩
  · next d =>
    split at h
    · next hlt =>
      obtain ⟨tm', h1, h2⟩ := T.put_ok h
      have hd : d < nt := Nat.le_of_ble_eq_true hlt
      refine ⟨tm', h1, fun j => ?_, (fun d' e => by cases e; exact hd), fun f a v' ht hv => ht.put hv h2 hd⟩
      rw [h2]
      by_cases e : j = d
      · subst e; simp
      · have e' : ¬ (some d = some j) := fun x => e (by cases x; rfl)
        rw [if_neg e, if_neg e']
    · cases h

def argsK : List Value → Nat → T Value → (T Value → Bool) → Bool
  | [], _, tm, k => k tm
  | v :: l, n, tm, k => T.put (some v) 64 tm n fun tm => natK (n+1) fun n => argsK l n tm k
theorem argsK_ok : ∀ {l : List Value} {n : Nat} {tm : T Value} {k : T Value → Bool}, argsK l n tm k = true →
    ∃ tm', k tm' = true ∧ ∀ j, tm'.get j = if n ≤ j ∧ j < n + l.length then l[j - n]? else tm.get j
  | [], n, tm, k, h => ⟨tm, h, fun j => by rw [if_neg (by simp only [List.length_nil]; omega)]⟩
  | v :: l, n, tm, k, h => by
    obtain ⟨t1, h1, h2⟩ := T.put_ok h
    rw [natK_eq] at h1
    obtain ⟨tm', h3, h4⟩ := argsK_ok h1
    refine ⟨tm', h3, fun j => ?_⟩
    rw [h4, h2]
    simp only [List.length_cons]
    by_cases e1 : j = n
    · subst e1
      rw [if_neg (by omega), if_pos rfl, if_pos (by omega), Nat.sub_self]; rfl
    · by_cases e2 : n ≤ j ∧ j < n + (l.length + 1)
      · rw [if_pos (by omega), if_pos e2]
        have : j - n = (j - (n + 1)) + 1 := by omega
        rw [this]; rfl
      · rw [if_neg (by omega), if_neg e2, if_neg e1]
theorem TR.start {f : Mp} {tm : T Value} {l : List Value} {args : Array Value} {nt : Nat} (h : ∀ j, tm.get j = if 0 ≤ j ∧ j < 0 + l.length then l[j - 0]? else (T.nil : T Value).get j)
    (hl : LR f l args.toList) (hle : l.length ≤ nt) (hgl : GL f) : TR f tm nt (args ++ Array.replicate (nt - args.size) undef) := by
  have hlen := hl.length
  simp only [Array.length_toList] at hlen
  refine ⟨by simp; omega, fun t => ?_, hgl⟩
  rw [h]
  simp only [Nat.zero_le, true_and, Nat.zero_add, Nat.sub_zero, T.get_nil]
  by_cases ht : t < l.length
  · rw [if_pos ht]
    obtain ⟨v, hv⟩ : ∃ v, l[t]? = some v := ⟨l[t], by simp [ht]⟩
    obtain ⟨v', h1, h2⟩ := hl.get hv
    rw [hv]
    have : (args ++ Array.replicate (nt - args.size) undef).getD t undef = v' := by
      rw [Array.getD_eq_getD_getElem?, Array.getElem?_append_left (by omega)]
      have h1' : args[t]? = some v' := by simpa using h1
      rw [h1']; rfl
    rw [this]; exact h2
  · rw [if_neg ht]
    have : (args ++ Array.replicate (nt - args.size) undef).getD t undef = undef := by
      rw [Array.getD_eq_getD_getElem?, Array.getElem?_append_right (by omega), Array.getElem?_replicate]
      split <;> rfl
    rw [this]; exact .tuple .nil

def resK (P : Program) (tm : T Value) (c : CW) : List ResultVar → List Value → (List Value → Bool) → Bool
  | [], acc, k => revK acc [] k
  | .tmp t :: l, acc, k => resK P tm c l (undefd (tm.get t) :: acc) k
  | .cell a t :: l, acc, k => cPtr (undefd (tm.get a)) fun a => cload P t a c fun v => resK P tm c l (v :: acc) k
def resS (tmps : Array Value) : ResultVar → Sem Value
  | .tmp t => pure (tmps.getD t undef)
  | .cell a t => do loadVar t (← asAddr (tmps.getD a undef))
theorem resK_ok {P : Program} {tm : T Value} {c : CW} : ∀ {l : List ResultVar} {acc : List Value} {k : List Value → Bool}, resK P tm c l acc k = true →
    ∃ vs, k (acc.reverse ++ vs) = true ∧ ∀ (f : Mp) (nt : Nat) (tmps : Array Value) (w : World), TR f tm nt tmps → HR f c w → ∃ vs', (l.mapM (resS tmps)).run P w = .ok vs' w ∧ LR f vs vs'
  | [], acc, k, h => ⟨[], by simpa [resK, revK_eq] using h, fun f nt tmps w _ _ => ⟨[], by simp, .nil⟩⟩
  | .tmp t :: l, acc, k, h => by
    obtain ⟨vs, h1, h2⟩ := resK_ok (l := l) h
    refine ⟨undefd (tm.get t) :: vs, by simpa using h1, fun f nt tmps w ht hr => ?_⟩
    obtain ⟨vs', h3, h4⟩ := h2 f nt tmps w ht hr
    exact ⟨tmps.getD t undef :: vs', by simp [List.mapM_cons, resS, h3], .cons (ht.get t) h4⟩
  | .cell a t :: l, acc, k, h => by
    obtain ⟨ad, he, h1, hp⟩ := cPtr_ok h
    obtain ⟨v, h2, hs, hl⟩ := cload_ok h1
    obtain ⟨vs, h3, h4⟩ := resK_ok (l := l) h2
    refine ⟨v :: vs, by simpa using h3, fun f nt tmps w ht hr => ?_⟩
    obtain ⟨r, z, hf, e⟩ := hp f _ (ht.get a)
    obtain ⟨v', h5, h6⟩ := hl f w r z hr hf
    obtain ⟨vs', h7, h8⟩ := h4 f nt tmps w ht hr
    rw [hs] at e
    refine ⟨v' :: vs', ?_, .cons h6 h8⟩
    simp [List.mapM_cons, resS, e, asAddr, h5, h7]
def resV (vs : List Value) : Value := match vs with
  | [v] => v
  | vs => .tuple vs.toArray
theorem results_run {P : Program} {fn : Func} {tmps : Array Value} {w : World} {vs : List Value} (h : (fn.results.toList.mapM (resS tmps)).run P w = .ok vs w) :
    (results fn tmps).run P w = .ok (resV vs) w := by
  have e2 : (fn.results.mapM (resS tmps)).run P w = Result.ok vs.toArray w := by
    rw [Array.mapM_eq_mapM_toList, Sem.run_map, h]; rfl
  unfold results
  rw [Sem.run_bind]
  refine (congrArg (fun r => Result.andThen r _) e2).trans ?_
  simp only [Result.andThen_ok, Sem.run_pure]
  congr 1
  match vs with
  | [] => rfl
  | [v] => rfl
  | _ :: _ :: _ => rfl
theorem LR.resV {f : Mp} {vs vs' : List Value} (h : LR f vs vs') : VR f (Can.resV vs) (Can.resV vs') := by
  cases h with
  | nil => exact .tuple .nil
  | cons hv ht =>
    cases ht with
    | nil => exact hv
    | cons hu ht => exact .tuple (.cons hv (.cons hu ht))
end
end Go.Can
namespace Go.Can
noncomputable section
open Go
variable [Glob]
set_option linter.unusedSectionVars false

def restrK (tm : T Value) : List Operand → T Value → (T Value → Bool) → Bool
  | [], acc, k => k acc
  | .tmp t :: l, acc, k => T.put (some (undefd (tm.get t))) 64 acc t fun acc => restrK tm l acc k
  | _ :: l, acc, k => restrK tm l acc k

/-- an operation that neither looks at the heap nor makes blocks (if it is told wrongly, the evaluation stops) -/
def pureB (o : Oper) : Bool := match o.op with
  | .move _ => true
  | .assign _ => true
  | .nilCheck _ => true
  | .fieldAddr .. => true
  | .binOp .. => true
  | .unOp .. => true
  | .convert .. => true
  | .extract .. => true
  | .pick .. => true
  | .field .. => true
  | .index .. => true
  | .indexAddr .. => true
  | .makeInterface .. => true
  | .makeFunc .. => true
  | .call cl => match cl.callee with
    | .builtin .len => true
    | .builtin .cap => true
    | .builtin .min => true
    | .builtin .max => true
    | _ => false
  | _ => false

/-- M holds 64 bits for each operation: those that it comes after -/
def maskAt (M i : Nat) : Nat := Nat.land (Nat.shiftRight M (Nat.mul 64 i)) 18446744073709551615
def maskOf (M i : Nat) : List Edge → Nat → Nat
  | [], m => m
  | e :: l, m => match Region.binds .any e && Nat.ble (e.on + 1) i with
    | true => maskOf M i l (Nat.lor m (Nat.lor (Nat.pow 2 e.on) (maskAt M e.on)))
    | false => maskOf M i l m
def infoGo : Nat → List Oper → Nat → Nat
  | _, [], M => M
  | i, o :: l, M => infoGo (i+1) l (Nat.lor M (Nat.shiftLeft (maskOf M i o.after.toList 0) (Nat.mul 64 i)))
def backB (i : Nat) : List Edge → Bool
  | [] => true
  | e :: l => match Region.binds .any e && Nat.ble i e.on with
    | true => false
    | false => backB i l
def infoOk (M : Nat) : Nat → List Oper → Bool
  | _, [] => true
  | i, o :: l => match Nat.beq (maskAt M i) (maskOf M i o.after.toList 0) && backB i o.after.toList with
    | true => infoOk M (i+1) l
    | false => false
def pairB (ops : Array Oper) (M : Nat) (i : Nat) (x : Oper) : Nat → List Oper → Bool
  | _, [] => true
  | j, y :: l => match Nat.testBit (maskAt M j) i || x.apart ops y with
    | true => pairB ops M i x (j+1) l
    | false => false
def pairsB (ops : Array Oper) (M : Nat) : Nat → List Oper → Bool
  | _, [] => true
  | i, x :: l => match pairB ops M i x (i+1) l with
    | true => pairsB ops M (i+1) l
    | false => false
/-- where the tail begins: from there on what is not pure comes after all that is not pure and stands before it -/
def tailQ (M : Nat) : Nat → Nat → Nat → Nat → List Oper → Nat
  | _, _, _, q, [] => q
  | i, np, mk, q, o :: l => match pureB o with
    | true => tailQ M (i+1) np mk q l
    | false => match o.op with
      | .store _ _ _ => tailQ M (i+1) np (Nat.lor mk (Nat.pow 2 i)) (match Nat.beq (Nat.land np (maskAt M i)) np with | true => q | false => i + 1) l
      | _ => tailQ M (i+1) (Nat.lor np (Nat.pow 2 i)) (Nat.lor mk (Nat.pow 2 i)) (match Nat.beq (Nat.land mk (maskAt M i)) mk with | true => q | false => i + 1) l
/-- loads and stores alone: all of it is the tail -/
def simpleB : List Oper → Bool
  | [] => true
  | o :: l => match pureB o with
    | true => simpleB l
    | false => match o.op with
      | .store _ _ _ => simpleB l
      | .load _ _ => simpleB l
      | _ => false
def startQ (M : Nat) (l : List Oper) : Nat := match simpleB l with
  | true => 0
  | false => tailQ M 0 0 0 0 l
def planB (ops : Array Oper) (M : Nat) : Bool := infoOk M 0 ops.toList && pairsB ops M 0 ops.toList && Region.noSelect ops

/-- a block that was made within the region: who touched it, and what it holds -/
structure Fr where
  blk : Nat
  by_ : Nat
  obj : CObj
def givenB (m : Nat) (x : Fr) : Bool := Nat.beq (Nat.land x.by_ m) x.by_
def giveK (m : Nat) : List Fr → T CObj → (T CObj → Bool) → Bool
  | [], h, k => k h
  | x :: l, h, k => match givenB m x with
    | true => T.put (some x.obj) 64 h x.blk fun h => giveK m l h k
    | false => giveK m l h k
def frOld (m i : Nat) (hg h : T CObj) : List Fr → List Fr → (List Fr → Bool) → Bool
  | [], acc, k => k acc
  | x :: l, acc, k => match givenB m x with
    | true => match h.get x.blk with
      | some o => natK (Nat.lor x.by_ (Nat.pow 2 i)) fun b => frOld m i hg h l (⟨x.blk, b, o⟩ :: acc) k
      | none => false
    | false => match hg.get x.blk with
      | some _ => false
      | none => frOld m i hg h l (x :: acc) k
def frNew (i : Nat) (h : T CObj) : Nat → Nat → List Fr → (List Fr → Bool) → Bool
  | 0, _, acc, k => k acc
  | n+1, b, acc, k => match h.get b with
    | some o => natK (b+1) fun b' => frNew i h n b' (⟨b, Nat.pow 2 i, o⟩ :: acc) k
    | none => natK (b+1) fun b' => frNew i h n b' acc k
def mergeK : List Fr → T CObj → (T CObj → Bool) → Bool
  | [], h, k => k h
  | x :: l, h, k => T.put (some x.obj) 64 h x.blk fun h => mergeK l h k

inductive Task2 where
  | round (rd : Option Nat) (nt : Nat) (cd : Code)
  | call (g : FuncId) (args : List Value)
  | yield (l : Nat) (args : List Value)
  | leave (fn : Func)
  | dcall (g : FuncId) (args : List Value)
inductive Task where
  | code (rd : Option Nat) (nt : Nat) (cd : Code)
  | more (t : Task2)

abbrev K := Ex → Value → T Value → List CDef → CW → Bool
abbrev Rec := Task → T Value → List CDef → CW → K → Bool

def loopAt (c : CW) (l : Nat) (k : LoopState → Option Code → T Value → Nat → List Tmp → Code → Code → Nat → Bool) : Bool := match c.get l with
  | some (.loop s pe tm nt ps as bd df) => k s pe tm nt ps as bd df
  | _ => false
def deferK (c : CW) (b : Nat) (k : CW → Bool) : Bool := match c.get b with
  | some (.obj (.deferred (some []))) => c.set b (some (.obj (.deferred none))) k
  | _ => false
def setsK : List Tmp → List Value → Nat → T Value → (T Value → Bool) → Bool
  | t :: ts, v :: vs, nt, tm, k => match Nat.ble (t+1) nt with
    | true => T.put (some v) 64 tm t fun tm => setsK ts vs nt tm k
    | false => false
  | [], [], _, tm, k => k tm
  | _, _, _, _, _ => false

section
variable (P : Program) (r : Rec)
def goExt (fn : Func) (args : List Value) (c : CW) (k : Value → CW → Bool) : Bool := match Extern.findNext fn with
  | none => match Extern.find fn with
    | some e => match allClosed args with
      | true => cPure P (e args.toArray) c k
      | false => false
    | none => false
  | some _ => false
def goEnter (g : FuncId) (args : List Value) (c : CW) (k : Value → CW → Bool) : Bool := match P.funcs[g]? with
  | some fn => match fn.body with
    | some _ => r (.more (.call g args)) .nil [] c fun _ v _ _ c => k v c
    | none => goExt P fn args c k
  | none => false
def goVal (fv : Value) (args : List Value) (c : CW) (k : Value → CW → Bool) : Bool := match fv with
  | .func (.func g) first cap => goEnter P r g (first.toList ++ args ++ cap.toList) c k
  | .func (.yield l) first cap => match first.toList, cap.toList with
    | [], [] => r (.more (.yield l args)) .nil [] c fun _ v _ _ c => k v c
    | _, _ => false
  | _ => false
/-- the method's function, where the receiver is handed over as it is -/
def methodK (P : Program) (t : TypeId) (name : String) (k : FuncId → Bool) : Bool := match P.info? t with
  | some i => match i.methods.find? (·.name == name) with
    | some m => match m.path.toList with
      | [] => match m.func with
        | some (f, pr) => match P.underlying t with
          | some (.pointer _) => match pr with
            | true => k f
            | false => false
          | some _ => match pr with
            | true => false
            | false => k f
          | none => false
        | none => false
      | _ :: _ => false
    | none => false
  | none => false
def goInv (rv : Value) (name : String) (args : List Value) (c : CW) (k : Value → CW → Bool) : Bool := match rv with
  | .iface t v => methodK P t name fun f => goEnter P r f (v :: args) c k
  | _ => false
/-- how an operation is run (a closed term) -/
inductive OpK where
  | plain (f : T Value → CW → (Value → CW → Bool) → Bool)
  | call (f : Operand) (args : List Operand)
  | defer (f : Operand) (args : List Operand)
  | inv (x : Operand) (name : String) (args : List Operand)
  | bad
def opK (o : Oper) : OpK := match o.op with
  | .call cl => match cl.callee with
    | .value f => .call f cl.args.toList
    | .invoke x name => .inv x name cl.args.toList
    | _ => match copF P o with
      | .mk f => .plain f
  | .defer cl => match cl.callee with
    | .value f => .defer f cl.args.toList
    | _ => .bad
  | _ => match copF P o with
    | .mk f => .plain f
def goOp (o : Oper) (tm : T Value) (c : CW) (k : Value → CW → Bool) : Bool := match opK P o with
  | .plain f => f tm c k
  | .call f args => evsK tm args [] fun args => evK tm f fun fv => goVal P r fv args c k
  | .inv x name args => evsK tm args [] fun args => evK tm x fun rv => goInv P r rv name args c k
  | _ => false

def kSeq (rd : Option Nat) (nt : Nat) (b : Code) (k : K) : K := fun e _ tm ds c => match e with
  | .normal => r (.code rd nt b) tm ds c k
  | .exit id => k (.exit id) undef tm ds c
  | .ret => k .ret undef tm ds c
def kBlock (id : Nat) (k : K) : K := fun e _ tm ds c => match e with
  | .normal => k .normal undef tm ds c
  | .exit j => match Nat.beq j id with
    | true => k .normal undef tm ds c
    | false => k (.exit j) undef tm ds c
  | .ret => k .ret undef tm ds c
def kRound (rd : Option Nat) (nt : Nat) (a : Code) (k : K) : K := fun e _ tm ds c => match e with
  | .normal => r (.more (.round rd nt a)) tm ds c k
  | .exit id => k (.exit id) undef tm ds c
  | .ret => k .ret undef tm ds c
def goCond (rd : Option Nat) (nt : Nat) (v : Value) (a b : Code) (tm : T Value) (ds : List CDef) (c : CW) (k : K) : Bool := match v with
  | .bool t => match t with
    | true => r (.code rd nt a) tm ds c k
    | false => r (.code rd nt b) tm ds c k
  | _ => false
abbrev Cont := T Value → List CDef → CW → K → Bool
def opPut (ih : Cont) (nt : Nat) (dst : Option Tmp) (tm : T Value) (ds : List CDef) (k : K) (v : Value) (c : CW) : Bool := putK dst v nt tm fun tm => ih tm ds c k
def opDefer (ih : Cont) (rd : Option Nat) (nt : Nat) (f : Operand) (args : List Operand) (dst : Option Tmp) (tm : T Value) (ds : List CDef) (c : CW) (k : K) : Bool := match rd with
  | none => evsK tm args [] fun args => evK tm f fun fv => match fv with
    | .func (.func g) first cap => opPut ih nt dst tm (.fn g (first.toList ++ args) cap.toList :: ds) k undef c
    | _ => false
  | some _ => false
def opsStep (rd : Option Nat) (nt : Nat) (all : List Oper) (o : Oper) (ih : Cont) (tm : T Value) (ds : List CDef) (c : CW) (k : K) : Bool := match wantedB all o tm with
  | false => opPut ih nt o.dst tm ds k undef c
  | true => match opK P o with
    | .defer f args => opDefer ih rd nt f args o.dst tm ds c k
    | _ => goOp P r o tm c (opPut ih nt o.dst tm ds k)
def opsEnd : Cont := fun tm ds c k => k .normal undef tm ds c
def goOps (rd : Option Nat) (nt : Nat) (all : List Oper) : List Oper → Cont
  | [] => opsEnd
  | o :: rest => opsStep P r rd nt all o (goOps rd nt all rest)

/-- one operation that is pure, on no heap -/
def pureK (o : Oper) (tm : T Value) (nx : Nat) (k : Value → Bool) : Bool :=
  restrK tm o.op.operands.toList .nil fun tmr => goOp P r o tmr ⟨.nil, nx, nx⟩ fun v c1 => match Nat.beq c1.next nx && Nat.ble nx c1.low with
    | true => k v
    | false => false
def drawK (nt : Nat) (o : Oper) (m i : Nat) (tm : T Value) (h : T CObj) (nx nx0 : Nat) (fr : List Fr) (k : T Value → Nat → List Fr → Bool) : Bool :=
  restrK tm o.op.operands.toList .nil fun tmr => giveK m fr h fun hg => goOp P r o tmr ⟨hg, nx, nx⟩ fun v c1 => match c1 with
    | ⟨h1, nx1, lo1⟩ => match Nat.ble nx0 lo1 && Nat.ble nx nx1 with
      | true => frOld m i hg h1 fr [] fun fr => frNew i h1 (nx1 - nx) nx fr fun fr => putK o.dst v nt tm fun tm => k tm nx1 fr
      | false => false
/-- those that stored to the same block come before -/
def nsOk (m b : Nat) : List (Nat × Nat) → Bool
  | [] => true
  | (j, x) :: l => match Nat.beq x b with
    | true => match Nat.testBit m j with
      | true => nsOk m b l
      | false => false
    | false => nsOk m b l
def addrAt (o : Oper) (tm : T Value) (k : Nat → Bool) : Bool := match o.op with
  | .store _ a _ => evK tm a fun v => match v with
    | .pointer (some p) => k p.block
    | _ => false
  | .load _ a => evK tm a fun v => match v with
    | .pointer (some p) => k p.block
    | _ => false
  | _ => false
def loadB (o : Oper) : Bool := match o.op with
  | .load _ _ => true
  | _ => false
def subB (m M i : Nat) : Bool := Nat.beq (Nat.land m (maskAt M i)) m
/-- an operation on one block alone -/
def oneK (o : Oper) (tm : T Value) (c : CW) (b : Nat) (k : Value → CW → Bool) : Bool := match c.get b with
  | some ob => T.put (some ob) 64 .nil b fun h1 => restrK tm o.op.operands.toList .nil fun tmr => goOp P r o tmr ⟨h1, c.next, c.next⟩ k
  | none => false
/-- np: those that saw the whole heap; mk: all that saw a block; ns: those that saw one block alone; ws: of them, those that wrote it -/
def goTail (nt : Nat) (ops : Array Oper) (M nx0 : Nat) : List Oper → Nat → Nat → Nat → List (Nat × Nat) → List (Nat × Nat) → Cont
  | [], _, _, _, _, _, tm, ds, c, k => k .normal undef tm ds c
  | o :: rest, i, np, mk, ns, ws, tm, ds, c, k => natK (i+1) fun i' => match wantedB ops.toList o tm with
    | false => putK o.dst undef nt tm fun tm => goTail nt ops M nx0 rest i' np mk ns ws tm ds c k
    | true => match pureB o with
      | true => pureK P r o tm c.next fun v => putK o.dst v nt tm fun tm => goTail nt ops M nx0 rest i' np mk ns ws tm ds c k
      | false => match loadB o && subB np M i with
        | true => addrAt o tm fun b => match nsOk (maskAt M i) b ws && Nat.ble (b+1) nx0 with
          | true => oneK P r o tm c b fun v c1 => match Nat.beq c1.next c.next && Nat.ble c.next c1.low with
            | true => putK o.dst v nt tm fun tm => natK (Nat.lor mk (Nat.pow 2 i)) fun mk => goTail nt ops M nx0 rest i' np mk ((i, b) :: ns) ws tm ds c k
            | false => false
          | false => match subB mk M i with
            | true => restrK tm o.op.operands.toList .nil fun tmr => goOp P r o tmr c fun v c1 => match Nat.ble c.next c1.next with
              | true => putK o.dst v nt tm fun tm => natK (Nat.lor mk (Nat.pow 2 i)) fun np => goTail nt ops M nx0 rest i' np np [] [] tm ds c1 k
              | false => false
            | false => false
        | false => match subB mk M i with
          | true => restrK tm o.op.operands.toList .nil fun tmr => goOp P r o tmr c fun v c1 => match Nat.ble c.next c1.next with
            | true => putK o.dst v nt tm fun tm => natK (Nat.lor mk (Nat.pow 2 i)) fun np => goTail nt ops M nx0 rest i' np np [] [] tm ds c1 k
            | false => false
          | false => match subB np M i with
            | true => addrAt o tm fun b => match nsOk (maskAt M i) b ns && Nat.ble (b+1) c.next with
              | true => oneK P r o tm c b fun v c1 => match c1.get b with
                | some ob1 => c.set b (some ob1) fun c2 => match Nat.beq c1.next c.next && Nat.ble c2.low c1.low with
                  | true => putK o.dst v nt tm fun tm => natK (Nat.lor mk (Nat.pow 2 i)) fun mk => goTail nt ops M nx0 rest i' np mk ((i, b) :: ns) ((i, b) :: ws) tm ds c2 k
                  | false => false
                | none => false
              | false => false
            | false => false
def goDrawn (nt : Nat) (ops : Array Oper) (M q nx0 : Nat) : List Oper → Nat → Nat → List Fr → Cont
  | [], i, np, fr, tm, ds, c, k => match c with
    | ⟨h, nx, lo⟩ => mergeK fr h fun h => goTail P r nt ops M nx0 [] i np np [] [] tm ds ⟨h, nx, lo⟩ k
  | o :: rest, i, np, fr, tm, ds, c, k => match c with
    | ⟨h, nx, lo⟩ => match Nat.ble q i with
      | true => mergeK fr h fun h => goTail P r nt ops M nx0 (o :: rest) i np np [] [] tm ds ⟨h, nx, lo⟩ k
      | false => natK (i+1) fun i' => match wantedB ops.toList o tm with
        | false => putK o.dst undef nt tm fun tm => goDrawn nt ops M q nx0 rest i' np fr tm ds ⟨h, nx, lo⟩ k
        | true => match pureB o with
          | true => pureK P r o tm nx fun v => putK o.dst v nt tm fun tm => goDrawn nt ops M q nx0 rest i' np fr tm ds ⟨h, nx, lo⟩ k
          | false => natK (maskAt M i) fun m => natK (Nat.lor np (Nat.pow 2 i)) fun np => drawK P r nt o m i tm h nx nx0 fr fun tm nx1 fr => goDrawn nt ops M q nx0 rest i' np fr tm ds ⟨h, nx1, lo⟩ k

def goDraw (nt : Nat) (ops : Array Oper) : Cont := fun tm ds c k =>
  natK (infoGo 0 ops.toList 0) fun M => natK (startQ M ops.toList) fun q => match planB ops M with
    | true => goDrawn P r nt ops M q c.next ops.toList 0 0 [] tm ds c k
    | false => false
def kJump (tm : T Value) (ds : List CDef) (k : K) (pe : Option Code) (c : CW) : Bool := match pe with
  | none => k .normal undef tm ds c
  | some .ret => k .ret undef tm ds c
  | some (.exit id) => k (.exit id) undef tm ds c
  | _ => false
def kRange (l : Nat) (tm : T Value) (ds : List CDef) (k : K) : K := fun _ _ _ _ c => loopAt c l fun s pe tm' nt' ps' as' bd' df => match s with
  | .busy => false
  | _ => c.set l (some (.loop .exhausted pe tm' nt' ps' as' bd' df)) (kJump tm ds k pe)
def goRange (rd : Option Nat) (nt : Nat) (fv : Value) (ps : List Tmp) (as bd : Code) (tm : T Value) (ds : List CDef) (c : CW) (k : K) : Bool := match fv with
  | .func (.func g) first cap => match rd with
    | none => c.new (.obj (.deferred (some []))) fun d c => c.new (.loop .ready none tm nt ps as bd d) fun l c =>
      r (.more (.call g (first.toList ++ [.func (.yield l) #[] #[]] ++ cap.toList))) .nil [] c (kRange l tm (.mark d :: ds) k)
    | some o => loopAt c o fun _ _ _ _ _ _ _ d => c.new (.loop .ready none tm nt ps as bd d) fun l c =>
      r (.more (.call g (first.toList ++ [.func (.yield l) #[] #[]] ++ cap.toList))) .nil [] c (kRange l tm ds k)
  | _ => false
inductive CodeF where
  | mk (f : Option Nat → Nat → Rec → Cont)
def codeF (cd : Code) : CodeF := match cd with
  | .skip => .mk fun _ _ _ tm ds c k => k .normal undef tm ds c
  | .label _ => .mk fun _ _ _ tm ds c k => k .normal undef tm ds c
  | .exit id => .mk fun _ _ _ tm ds c k => k (.exit id) undef tm ds c
  | .ret => .mk fun _ _ _ tm ds c k => k .ret undef tm ds c
  | .seq a b => .mk fun rd nt r tm ds c k => r (.code rd nt a) tm ds c (kSeq r rd nt b k)
  | .cond x a b => .mk fun rd nt r tm ds c k => evK tm x fun v => goCond r rd nt v a b tm ds c k
  | .block id a => .mk fun rd nt r tm ds c k => r (.code rd nt a) tm ds c (kBlock id k)
  | .scope a => .mk fun rd nt r tm ds c k => r (.code rd nt a) tm ds c k
  | .loop a => .mk fun rd nt r tm ds c k => r (.more (.round rd nt a)) tm ds c k
  | .region _ ops draw => match draw with
    | false => .mk fun rd nt r tm ds c k => goOps P r rd nt ops.toList ops.toList tm ds c k
    | true => .mk fun _ nt r tm ds c k => goDraw P r nt ops tm ds c k
  | .rangeFunc x ps as bd => .mk fun rd nt r tm ds c k => evK tm x fun fv => goRange r rd nt fv ps.toList as bd tm ds c k
  | _ => .mk fun _ _ _ _ _ _ _ => false
def goCode (rd : Option Nat) (nt : Nat) (cd : Code) (tm : T Value) (ds : List CDef) (c : CW) (k : K) : Bool := match codeF P cd with
  | .mk f => f rd nt r tm ds c k

def kBody (fn : Func) (k : K) : K := fun e _ tm ds c => match e with
  | .exit _ => false
  | _ => r (.more (.leave fn)) tm ds c k
def goCall (g : FuncId) (args : List Value) (c : CW) (k : K) : Bool := match P.funcs[g]? with
  | some fn => match fn.body with
    | some body => leK args.length fn.ntmps (argsK args 0 .nil fun tm => r (.code none fn.ntmps body) tm [] c (kBody r fn k))
    | none => false
  | none => false
def goLeave (fn : Func) (tm : T Value) (ds : List CDef) (c : CW) (k : K) : Bool := match ds with
  | [] => resK P tm c fn.results.toList [] fun vs => k .ret (resV vs) .nil [] c
  | .mark b :: ds => deferK c b fun c => r (.more (.leave fn)) tm ds c k
  | .fn g args cap :: ds => r (.more (.dcall g (args ++ cap))) .nil [] c fun _ _ _ _ c => r (.more (.leave fn)) tm ds c k
def kEnd (l : Nat) (k : K) : K := fun e _ _ _ c => loopAt c l fun _ _ tm nt ps as bd df => match e with
  | .normal => c.set l (some (.loop .ready none tm nt ps as bd df)) fun c => k .ret (.bool true) .nil [] c
  | .ret => c.set l (some (.loop .done (some .ret) tm nt ps as bd df)) fun c => k .ret (.bool false) .nil [] c
  | .exit id => c.set l (some (.loop .done (some (.exit id)) tm nt ps as bd df)) fun c => k .ret (.bool false) .nil [] c
def kAssign (l : Nat) (nt : Nat) (bd : Code) (k : K) : K := fun e _ tm1 ds1 c => match e with
  | .normal => loopAt c l fun s2 pe2 tm2 nt2 ps2 as2 bd2 df2 => match s2 with
    | .ready => c.set l (some (.loop .busy pe2 tm2 nt2 ps2 as2 bd2 df2)) fun c => r (.code (some l) nt bd) tm1 ds1 c (kEnd l k)
    | _ => false
  | _ => false
def goYield (l : Nat) (args : List Value) (c : CW) (k : K) : Bool := loopAt c l fun _ _ tm nt ps as bd _ =>
  setsK ps args nt tm fun tm1 => r (.code (some l) nt as) tm1 [] c (kAssign r l nt bd k)
def kDcall (fn : Func) (k : K) : K := fun e _ tm ds c => match ds with
  | [] => match e with
    | .exit _ => false
    | _ => resK P tm c fn.results.toList [] fun vs => k .ret (resV vs) .nil [] c
  | _ => false
def recB (o : Oper) : Bool := match o.op, o.guard with
  | .call cl, none => match cl.callee with
    | .builtin .recover => true
    | _ => false
  | _, _ => false
/-- what stands behind 'recover()' in its region: moves alone -/
def movesK (nt : Nat) : List Oper → T Value → (T Value → Bool) → Bool
  | [], tm, k => k tm
  | o :: l, tm, k => match o.guard with
    | some _ => false
    | none => match o.op with
      | .assign x => evK tm x fun v => putK o.dst v nt tm fun tm => movesK nt l tm k
      | .move x => evK tm x fun v => putK o.dst v nt tm fun tm => movesK nt l tm k
      | _ => false
def goDcall (g : FuncId) (args : List Value) (c : CW) (k : K) : Bool := match P.funcs[g]? with
  | some fn => match fn.body with
    | some (.seq (.region _ ops false) rest) => match ops.toList with
      | o :: more => match recB o with
        | true => leK args.length fn.ntmps (argsK args 0 .nil fun tm => putK o.dst .nilIface fn.ntmps tm fun tm => movesK fn.ntmps more tm fun tm => r (.code none fn.ntmps rest) tm [] c (kDcall P fn k))
        | false => false
      | _ => false
    | _ => false
  | none => false
def goMore (t : Task2) (tm : T Value) (ds : List CDef) (c : CW) (k : K) : Bool := match t with
  | .round rd nt a => r (.code rd nt a) tm ds c (kRound r rd nt a k)
  | .call g args => goCall P r g args c k
  | .yield l args => goYield r l args c k
  | .leave fn => goLeave P r fn tm ds c k
  | .dcall g args => goDcall P r g args c k
def goStep : Rec := fun task tm ds c k => match task with
  | .code rd nt cd => goCode P r rd nt cd tm ds c k
  | .more t => goMore P r t tm ds c k
end

def go (P : Program) (n : Nat) : Rec := Nat.rec (fun _ _ _ _ _ => false) (fun _ r => goStep P r) n
def goS (P : Program) : Nat → Rec
  | 0 => fun _ _ _ _ _ => false
  | n+1 => goStep P (goS P n)

/-- the package-level variables that are looked at, with what they hold -/
def layK : List (Nat × CObj) → T CObj → (T CObj → Bool) → Bool
  | [], h, k => k h
  | (g, o) :: l, h, k => match Nat.ble (g+1) Glob.num with
    | true => T.put (some o) 64 h g fun h => layK l h k
    | false => false
def kLow (chk : Value → Bool) : K := fun _ v _ _ c => match Nat.ble Glob.num c.low with
  | true => chk v
  | false => false
def runs (P : Program) (n : Nat) (f : FuncId) (gl : List (Nat × CObj)) (chk : Value → Bool) : Bool := layK gl .nil fun h => go P n (.more (.call f [])) .nil [] ⟨h, Glob.num, Glob.num⟩ (kLow chk)
def runsS (P : Program) (n : Nat) (f : FuncId) (gl : List (Nat × CObj)) (chk : Value → Bool) : Bool := layK gl .nil fun h => goS P n (.more (.call f [])) .nil [] ⟨h, Glob.num, Glob.num⟩ (kLow chk)
def isTrue : Value → Bool
  | .bool b => b
  | _ => false
end
end Go.Can
