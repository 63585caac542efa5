/- A part of the proof: see the last file. -/
import Derived.Test.YtlhgkepdoinlnaaGreatDoorPao
import Derived.RangeFuncLeaves
import Derived.RecoverIn
import Derived.Scope
import Derived.Laws.Externs
import Derived.OrdersIn
import Derived.RangeFuncNested
set_option linter.unusedVariables false
set_option linter.unusedSimpArgs false
set_option linter.unusedSectionVars false
namespace Go.Can
noncomputable section
open Go
variable [Glob]
set_option linter.unusedSectionVars false

/-- What a computation on arguments comes to. -/
def BS (P : Program) (s : List Value → Sem Value) (vs : List Value) (c : CW) (v : Value) (c' : CW) : Prop :=
 ∀ (f : Mp) (w : World) (vs' : List Value), HR f c w → LR f vs vs' → ∃ f' v' w', (s vs').run P w = .ok v' w' ∧ HR f' c' w' ∧ Ext f c w f' c' w' ∧ VR f' v v'

section ops
variable {P : Program} {c : CW}

def cAppend (P : Program) (sT xT : TypeId) (s x : Value) (c : CW) (k : Value → CW → Bool) : Bool := match P.underlying sT with
 | some (.slice e) => match P.info? e with
  | some i => leK i.bytes 100000 (match P.underlying xT with
   | some (.int _) => match s with
    | .slice none 0 0 => natOf x fun n => ltK 0 n (leK n 100000 (ltK 0 i.size (zeroK P e fun z => cellsOf z fun zs => lenK zs i.size (repK n zs [] fun cells => grow c cells e i.size n k))))
    | _ => false
   | _ => appSrc P c i.size xT x fun n new => match n with
    | 0 => match s with
     | .slice b len cap => leK len cap (k (.slice b len cap) c)
     | _ => false
    | n+1 => appOnto P i.size e s (n+1) new c k)
  | none => false
 | _ => false
theorem cAppend_ok {sT xT ty : TypeId} {s x : Value} {k : Value → CW → Bool} (h : cAppend P sT xT s x c k = true) :
  ∃ v c', k v c' = true ∧ ∀ (f : Mp) (w : World) (s' x' : Value), HR f c w → VR f s s' → VR f x x' →
   ∃ f' v' w', (Builtin.append_ #[sT, xT] ty #[s', x']).run P w = .ok v' w' ∧ HR f' c' w' ∧ Ext f c w f' c' w' ∧ VR f' v v' := by
 unfold cAppend at h
 split at h
 ·next e hsT =>
  split at h
  ·next i hi =>
   obtain ⟨hby, h1⟩ := leK_ok h
   split at h1
   ·next q hxT =>
    split at h1
    ·obtain ⟨q', n, rfl, h2⟩ := natOf_ok h1
     obtain ⟨hpos, h3⟩ := ltK_ok h2
     obtain ⟨hsm, h4⟩ := leK_ok h3
     obtain ⟨hsz, h5⟩ := ltK_ok h4
     obtain ⟨i2, z, hi2, hz, hcl, h6⟩ := zeroK_ok h5
     rw [hi] at hi2; cases hi2
     rw [cellsOf_eq] at h6
     obtain ⟨hzl, h7⟩ := lenK_ok h6
     rw [repK_eq, List.append_nil] at h7
     obtain ⟨c', h8, _, _, _, hh⟩ := grow_ok h7
     simp only [Array.length_toList] at hzl
     refine ⟨_, c', h8, fun f w s' x' hr hs hx => ?_⟩
     cases hs
     rw [hx.of_int]
     have hcap : Builtin.nextslicecap n 0 * i.bytes ≤ 281474976710656 := nextcap_ok hpos hsm hby
     have hnb : n * i.bytes ≤ 281474976710656 := Nat.le_trans (Nat.mul_le_mul hsm hby) (by decide)
     have hrun := Lib.run_append_nil_zeros w sT xT ty e i z q' q hsT hxT hi hz n hpos hsz (by omega) hnb
     obtain ⟨f', g1, g2, g3⟩ := hh f w (rep n z.cells.toList) z.cells 0 hr (LR.rep n (closed_cells hcl f)) (by rw [rep_length, Array.length_toList, hzl]) hzl
     have hzc : (rep n z.cells.toList).toArray = Builtin.zeroCells z.cells n := by
      apply Array.toList_inj.1
      rw [← rep_array]; rfl
     rw [hzc] at g1 g2
     exact ⟨f', _, _, hrun, g1, g2, g3⟩
    ·cases h1
   ·obtain ⟨n, vs, h2, hlen, hsrc⟩ := appSrc_ok h1
    split at h2
    ·split at h2
     ·next b len cap =>
      obtain ⟨hle, h3⟩ := leK_ok h2
      refine ⟨_, c, h3, fun f w s' x' hr hs hx => ?_⟩
      obtain ⟨news, hs1, hl⟩ := hsrc f w x' hr hx
      have hn0 : news = [] := List.eq_nil_of_length_eq_zero (by rw [hs1.newsLen]; simp)
      subst hn0
      have hh : ∃ base cap', s' = .slice base len cap' ∧ len ≤ cap' := by
       cases hs
       ·exact ⟨_, _, rfl, hle⟩
       ·exact ⟨_, _, rfl, by omega⟩
       ·exact ⟨_, _, rfl, Nat.zero_le _⟩
      obtain ⟨base, cap', rfl, hle'⟩ := hh
      exact ⟨f, _, w, run_append_nothing w sT xT ty e i hsT hi base len cap' hle' x' hs1, hr, Ext.refl _ _ _, hs⟩
     ·cases h2
    ·obtain ⟨v, c', h3, hh⟩ := appOnto_ok (xT := xT) (ty := ty) hsT hi hby hlen h2
     refine ⟨v, c', h3, fun f w s' x' hr hs hx => ?_⟩
     obtain ⟨news, hs1, hl⟩ := hsrc f w x' hr hx
     exact hh f w s' x' news hr hs hs1 hl
  ·cases h
 ·cases h

def allClosed (vs : List Value) : Bool := vs.all closedB
theorem LR.closed {f : Mp} : ∀ {l l' : List Value}, LR f l l' → allClosed l = true → l' = l
 | _, _, .nil, _ => rfl
 | _, _, .cons r t, h => by
  simp only [allClosed, List.all_cons, Bool.and_eq_true] at h
  rw [r.closed h.1, LR.closed t h.2]

def cLen (P : Program) (ats : Array TypeId) (ty : TypeId) (vs : List Value) (c : CW) (k : Value → CW → Bool) : Bool := match vs with
 | [.slice (some _) n _] => match ats[0]? with
  | some t => match P.underlying t with
   | some (.slice _) => k (.int .i64 n) c
   | _ => false
  | none => false
 | [.map (some r)] => match ats[0]? with
  | some t => mapTy P t fun _ _ => mapAt c r fun es _ => natK es.size fun m => k (.int .i64 m) c
  | none => false
 | vs => match allClosed vs with
  | true => cPure P (Builtin.len_ ats ty vs.toArray) c k
  | false => false
theorem LR.one {f : Mp} {v : Value} {l' : List Value} (h : LR f [v] l') : ∃ v', l' = [v'] ∧ VR f v v' := by
 cases h; next hv ht => cases ht; exact ⟨_, rfl, hv⟩
theorem LR.two {f : Mp} {v u : Value} {l' : List Value} (h : LR f [v, u] l') : ∃ v' u', l' = [v', u'] ∧ VR f v v' ∧ VR f u u' := by
 cases h; next hv ht => obtain ⟨u', rfl, hu⟩ := ht.one; exact ⟨_, _, rfl, hv, hu⟩
theorem cLen_ok {ats : Array TypeId} {ty : TypeId} {vs : List Value} {k : Value → CW → Bool} (h : cLen P ats ty vs c k = true) :
  ∃ v c', k v c' = true ∧ BS P (fun vs => Builtin.len_ ats ty vs.toArray) vs c v c' := by
 unfold cLen at h
 split at h
 ·next a n cp =>
  split at h
  ·next t ht =>
   split at h
   ·next e hu =>
    refine ⟨_, c, h, fun f w vs' hr hl => ?_⟩
    obtain ⟨v', rfl, hv⟩ := hl.one
    refine ⟨f, .int .i64 n, w, ?_, hr, Ext.refl _ _ _, .int _ _⟩
    have : ∃ b' cp', v' = .slice b' n cp' := by
     cases hv
     ·exact ⟨_, _, rfl⟩
     ·exact ⟨_, _, rfl⟩
    obtain ⟨b', cp', rfl⟩ := this
    simp only [Builtin.len_, ht, List.getElem?_toArray, List.getElem?_cons_zero, Sem.run_bind, run_und hu, Result.andThen_ok, Sem.run_pure]
    rfl
   ·cases h
  ·cases h
 ·next r =>
  split at h
  ·next t ht =>
   obtain ⟨kt, et, hu, h1⟩ := mapTy_ok h
   obtain ⟨es, clock, hg, h2⟩ := mapAt_ok h1
   rw [natK_eq] at h2
   refine ⟨_, c, h2, fun f w vs' hr hl => ?_⟩
   obtain ⟨v', rfl, hv⟩ := hl.one
   obtain ⟨r', z, hf, rfl⟩ := hv.of_map
   obtain ⟨o', ho, hor⟩ := hr.obj _ _ _ _ hg hf
   simp only [OR] at hor; subst hor
   refine ⟨f, .int .i64 es.size, w, ?_, hr, Ext.refl _ _ _, .int _ _⟩
   have hgo : (getObj r').run P w = .ok (.map es clock) w := by simp [getObj, Sem.run, ho]
   simp only [Builtin.len_, ht, List.getElem?_toArray, List.getElem?_cons_zero, Sem.run_bind, run_und hu, Result.andThen_ok, hgo, Sem.run_pure]
   rfl
  ·cases h
 ·split at h
  ·next hc =>
   obtain ⟨u, h1, hu, h2⟩ := cPure_ok h
   refine ⟨u, c, h1, fun f w vs' hr hl => ⟨f, u, w, ?_, hr, Ext.refl _ _ _, .of_closed hu⟩⟩
   rw [hl.closed hc]; exact h2 w
  ·cases h

def cCap (P : Program) (ats : Array TypeId) (ty : TypeId) (vs : List Value) (c : CW) (k : Value → CW → Bool) : Bool := match vs with
 | [.slice (some a) _ m] => match ats[0]?, c.get a.block with
  | some t, some (.cells _ _ _ none) => match P.underlying t with
   | some (.slice _) => k (.int .i64 m) c
   | _ => false
  | _, _ => false
 | vs => match allClosed vs with
  | true => cPure P (Builtin.cap_ ats ty vs.toArray) c k
  | false => false
theorem cCap_ok {ats : Array TypeId} {ty : TypeId} {vs : List Value} {k : Value → CW → Bool} (h : cCap P ats ty vs c k = true) :
  ∃ v c', k v c' = true ∧ BS P (fun vs => Builtin.cap_ ats ty vs.toArray) vs c v c' := by
 unfold cCap at h
 split at h
 ·next a n m =>
  split at h
  ·next t l0 e0 fr0 ht hg =>
   split at h
   ·next e hu =>
    refine ⟨_, c, h, fun f w vs' hr hl => ?_⟩
    obtain ⟨v', rfl, hv⟩ := hl.one
    refine ⟨f, .int .i64 m, w, ?_, hr, Ext.refl _ _ _, .int _ _⟩
    rcases hv.of_slice with ⟨r, z, cap', hf, rfl, _, _, hroom⟩ | ⟨_, _, r, p, a', cap', hf, _⟩
    ·obtain ⟨o', ho, hor⟩ := hr.obj _ _ _ _ hg hf
     have hz : z = none := by
      cases o' <;> simp only [OR] at hor
      rcases hor.2.2.1 with ⟨_, h⟩ | ⟨_, h, _⟩
      ·exact h
      ·cases h
     rw [hroom.1 hz]
     simp only [Builtin.cap_, ht, List.getElem?_toArray, List.getElem?_cons_zero, Sem.run_bind, run_und hu, Result.andThen_ok, Sem.run_pure]
     rfl
    ·obtain ⟨o', ho, hor⟩ := hr.obj _ _ _ _ hg hf
     cases o' <;> simp only [OR] at hor
     rcases hor.2.2.1 with ⟨_, h⟩ | ⟨_, h, _⟩ <;> cases h
   ·cases h
  ·cases h
 ·split at h
  ·next hc =>
   obtain ⟨u, h1, hu, h2⟩ := cPure_ok h
   refine ⟨u, c, h1, fun f w vs' hr hl => ⟨f, u, w, ?_, hr, Ext.refl _ _ _, .of_closed hu⟩⟩
   rw [hl.closed hc]; exact h2 w
  ·cases h

def cCopy (P : Program) (ats : Array TypeId) (vs : List Value) (c : CW) (k : Value → CW → Bool) : Bool := match vs with
 | [.slice (some a) dl _, .slice (some b) sl _] => match ats[0]? with
  | some t => match P.underlying t with
   | some (.slice e) => szK P e fun sz => natK (Nat.min sl dl) fun n => ltK 0 n (match b.spot, c.get b.block with
    | none, some (.cells l _ _ _) => natK (n * sz) fun m => takeK l b.off m [] fun vs => cstoreL a vs c fun c => k (.int .i64 n) c
    | _, _ => false)
   | _ => false
  | none => false
 | _ => false
theorem cCopy_ok {ats : Array TypeId} {ty : TypeId} {vs : List Value} {k : Value → CW → Bool} (h : cCopy P ats vs c k = true) :
  ∃ v c', k v c' = true ∧ BS P (fun vs => Builtin.copy_ ats ty vs.toArray) vs c v c' := by
 unfold cCopy at h
 split at h
 ·next a dl dc b sl sc =>
  split at h
  ·next t ht =>
   split at h
   ·next e hu =>
    obtain ⟨i, hi, h1⟩ := szK_ok h
    rw [natK_eq] at h1
    obtain ⟨hpos, h2⟩ := ltK_ok h1
    split at h2
    ·next l e0 fr lo hs hg =>
     rw [natK_eq] at h2
     obtain ⟨hle, h3⟩ := takeK_ok h2
     simp only [List.reverse_nil, List.nil_append] at h3
     obtain ⟨c', h4, hsa, hh⟩ := cstoreL_ok (P := P) h3
     refine ⟨_, c', h4, fun f w vs' hr hl => ?_⟩
     obtain ⟨v', u', rfl, hv, hu'⟩ := hl.two
     have hmin : Nat.min sl dl ≤ sl ∧ Nat.min sl dl ≤ dl := ⟨Nat.min_le_left _ _, Nat.min_le_right _ _⟩
     rcases hv.of_slice with ⟨r, z, cap', hf, rfl, _⟩ | ⟨h0, _⟩
     ·rcases hu'.of_slice with ⟨r2, z2, cap2, hf2, rfl, _⟩ | ⟨h0, _⟩
      ·obtain ⟨o', ho, hor⟩ := hr.obj _ _ _ _ hg hf2
       cases o' <;> simp only [OR] at hor
       rename_i cs e' fr'
       have hc := hor.2.2.2
       have hl2 : b.off + Nat.min sl dl * i.size ≤ cs.size := Nat.le_trans hle hc.le
       obtain ⟨w', g1, g2, g3⟩ := hh f w r z _ hr hf (hc.part _ _ hle)
       refine ⟨f, .int .i64 (Nat.min sl dl), w', ?_, g2, g3, .int _ _⟩
       simp only [Builtin.copy_, ht, List.getElem?_toArray, List.getElem?_cons_zero, List.getElem?_cons_succ, Sem.run_bind, run_und hu, Result.andThen_ok, Builtin.lenOf, Sem.run_pure, run_size hi, firstCells_run ho hl2, g1]
       rfl
      ·omega
     ·omega
    ·cases h2
   ·cases h
  ·cases h
 ·cases h
end ops
end
end Go.Can
namespace Go.Can
noncomputable section
open Go
variable [Glob]
set_option linter.unusedSectionVars false

section ops
variable {P : Program} {tm : T Value} {c : CW}

def closedOn (P : Program) (s : List Value → Sem Value) (vs : List Value) (c : CW) (k : Value → CW → Bool) : Bool := match allClosed vs with
 | true => cPure P (s vs) c k
 | false => false
theorem closedOn_ok {s : List Value → Sem Value} {vs : List Value} {k : Value → CW → Bool} (h : closedOn P s vs c k = true) : ∃ v c', k v c' = true ∧ BS P s vs c v c' := by
 unfold closedOn at h
 split at h
 ·next hc =>
  obtain ⟨u, h1, hu, h2⟩ := cPure_ok h
  exact ⟨u, c, h1, fun f w vs' hr hl => ⟨f, u, w, by rw [hl.closed hc]; exact h2 w, hr, Ext.refl _ _ _, .of_closed hu⟩⟩
 ·cases h

def cBuiltin (P : Program) (b : Builtin) (ats : Array TypeId) (ty : TypeId) (vs : List Value) (c : CW) (k : Value → CW → Bool) : Bool := match b with
 | .append => match ats.toList, vs with
  | [sT, xT], [s, x] => cAppend P sT xT s x c k
  | _, _ => false
 | .len => cLen P ats ty vs c k
 | .cap => cCap P ats ty vs c k
 | .copy => cCopy P ats vs c k
 | .min => closedOn P (fun vs => Builtin.min_ ats ty vs.toArray) vs c k
 | .max => closedOn P (fun vs => Builtin.max_ ats ty vs.toArray) vs c k
 | _ => false
theorem cBuiltin_ok {b : Builtin} {ats : Array TypeId} {ty : TypeId} {cons : Array Bool} {vs : List Value} {k : Value → CW → Bool} (h : cBuiltin P b ats ty vs c k = true) :
  ∃ v c' s, k v c' = true ∧ BS P s vs c v c' ∧ ∀ vs' : List Value, builtin b ats ty cons vs'.toArray = (do pure (.value (← s vs'))) := by
 unfold cBuiltin at h
 split at h
 ·split at h
  ·next sT xT s x hats =>
   obtain ⟨v, c', h1, h2⟩ := cAppend_ok (ty := ty) h
   refine ⟨v, c', fun vs => Builtin.append_ ats ty vs.toArray, h1, fun f w vs' hr hl => ?_, fun _ => rfl⟩
   obtain ⟨s', x', rfl, hs, hx⟩ := hl.two
   have : ats = #[sT, xT] := Array.toList_inj.1 (by rw [hats])
   rw [this]
   exact h2 f w s' x' hr hs hx
  ·cases h
 ·obtain ⟨v, c', h1, h2⟩ := cLen_ok h; exact ⟨v, c', _, h1, h2, fun _ => rfl⟩
 ·obtain ⟨v, c', h1, h2⟩ := cCap_ok h; exact ⟨v, c', _, h1, h2, fun _ => rfl⟩
 ·obtain ⟨v, c', h1, h2⟩ := cCopy_ok (ty := ty) h; exact ⟨v, c', _, h1, h2, fun _ => rfl⟩
 ·obtain ⟨v, c', h1, h2⟩ := closedOn_ok h; exact ⟨v, c', _, h1, h2, fun _ => rfl⟩
 ·obtain ⟨v, c', h1, h2⟩ := closedOn_ok h; exact ⟨v, c', _, h1, h2, fun _ => rfl⟩
 ·cases h

/-- an operation that enters nothing: what it does (a closed term: reckoned out once for each operation) -/
inductive CopF where
 | mk (f : T Value → CW → (Value → CW → Bool) → Bool)
def copF (P : Program) (o : Oper) : CopF := match o.op with
 | .move x => .mk fun tm c k => cMove x tm c k
 | .assign x => .mk fun tm c k => cMove x tm c k
 | .load t a => .mk fun tm c k => cLoad P t a tm c k
 | .store t a x => .mk fun tm c k => cStore P t a x tm c k
 | .fieldAddr s x f => .mk fun tm c k => cFieldAddr P s x f tm c k
 | .binOp op t x y _ => .mk fun tm c k => cBin P op t x y tm c k
 | .indexAddr t x ix => .mk fun tm c k => cIndexAddr P t x ix tm c k
 | .extract x i => .mk fun tm c k => cExtract x i tm c k
 | .pick d x y => .mk fun tm c k => cPick d x y tm c k
 | .alloc t => .mk fun tm c k => cAlloc P t c k
 | .box t x => .mk fun tm c k => cBox t x tm c k
 | .build t parts => .mk fun tm c k => cBuild P t parts.toList tm c k
 | .buildSlice t n parts => .mk fun tm c k => cBuildSlice P t n parts.toList tm c k
 | .nilCheck x => .mk fun tm c k => cNil x tm c k
 | .unOp op _ x => .mk fun tm c k => cUn P op x tm c k
 | .convert s t x => .mk fun tm c k => cConv P s t x tm c k
 | .makeInterface t x => .mk fun tm c k => cIface P t x tm c k
 | .makeFunc fn a b => .mk fun tm c k => cFunc fn a.toList b.toList tm c k
 | .makeMap _ none => .mk fun tm c k => cMakeMap c k
 | .makeSlice t x y => .mk fun tm c k => cMakeSlice P t x y tm c k
 | .slice t x lo hi mx => .mk fun tm c k => cSlice P t x lo hi mx tm c k
 | .field s x f => .mk fun tm c k => cField P s x f tm c k
 | .index t x ix => .mk fun tm c k => cIndex P t x ix tm c k
 | .lookup t x ix ok => .mk fun tm c k => cLookup P t x ix ok tm c k
 | .mapUpdate t x ix y => .mk fun tm c k => cMapUpdate P t x ix y tm c k
 | .range t x => .mk fun tm c k => cRange P t x tm c k
 | .next x s => .mk fun tm c k => cNext x s tm c k
 | .typeAssert x s t ok => .mk fun tm c k => cAssert P x s t ok tm c k
 | .call cl => match cl.callee with
  | .builtin b => .mk fun tm c k => evsK tm cl.args.toList [] fun vs => cBuiltin P b cl.argTypes o.type vs c k
  | _ => .mk fun _ _ _ => false
 | _ => .mk fun _ _ _ => false
def cop (P : Program) (tm : T Value) (o : Oper) (c : CW) (k : Value → CW → Bool) : Bool := match copF P o with
 | .mk f => f tm c k
theorem cop_ok {o : Oper} {k : Value → CW → Bool} (h : cop P tm o c k = true) : ∃ v c', k v c' = true ∧ OpS P tm c (fun a => execOp a.eval o) v c' := by
 obtain ⟨dst, op, type, pos, after, guard⟩ := o
 cases op <;> simp only [cop, copF] at h <;> first | (cases h; done) | skip
 case move x => exact cMove_ok h
 case assign x => exact cMove_ok h
 case pick d x y => exact cPick_ok h
 case alloc t => exact cAlloc_ok h
 case box t x => exact cBox_ok h
 case build t parts => exact cBuild_ok h
 case buildSlice t n parts => exact cBuildSlice_ok h
 case load t a => exact cLoad_ok h
 case store t a x => exact cStore_ok h
 case nilCheck x =>
  obtain ⟨v, c', h1, h2⟩ := cNil_ok h
  refine ⟨v, c', h1, fun f nt a w ht hr => ?_⟩
  obtain ⟨rfl, g1, p, g2⟩ := h2 f nt a ht
  exact ⟨f, _, w, .inl (by simp only [execOp, g2]; rfl), hr, Ext.refl _ _ _, by rw [← g2]; exact g1⟩
 case binOp op t x y yt => exact cBin_ok h
 case unOp op t x => exact cUn_ok h
 case convert s t x => exact cConv_ok h
 case makeInterface t x => exact cIface_ok h
 case makeFunc fn a b => exact cFunc_ok h
 case makeMap t r =>
  cases r with
  | none => exact cMakeMap_ok h
  | some x => cases h
 case makeSlice t x y => exact cMakeSlice_ok h
 case slice t x lo hi mx => exact cSlice_ok h
 case fieldAddr s x f => exact cFieldAddr_ok h
 case field s x f => exact cField_ok h
 case indexAddr t x ix => exact cIndexAddr_ok h
 case index t x ix => exact cIndex_ok h
 case lookup t x ix ok => exact cLookup_ok h
 case mapUpdate t x ix y => exact cMapUpdate_ok h
 case range t x => exact cRange_ok h
 case next x s => exact cNext_ok h
 case typeAssert x s t ok => exact cAssert_ok h
 case extract x i => exact cExtract_ok h
 case call cl =>
  obtain ⟨callee, args, ats⟩ := cl
  cases callee with
  | value f => cases h
  | invoke r m => cases h
  | builtin b =>
   obtain ⟨vs, h1, hv⟩ := evsK_ok h
   obtain ⟨v, c', s, h2, h3, h4⟩ := cBuiltin_ok (cons := args.map fun | .const _ => true | _ => false) h1
   refine ⟨v, c', h2, fun f nt a w ht hr => ?_⟩
   obtain ⟨f', v', w', g1, g2, g3, g4⟩ := h3 f w _ hr (hv f nt a ht)
   refine ⟨f', v', w', .inl ?_, g2, g3, g4⟩
   have e2 : args.map a.eval = (args.toList.map a.eval).toArray := by apply Array.toList_inj.1; simp
   have h5 := h4 (args.toList.map a.eval)
   dsimp only at h5
   show (builtin b ats type (args.map fun | .const _ => true | _ => false) (args.map a.eval)).run P w = _
   rw [e2, h5, Sem.run_bind, g1]; rfl
end ops
end
end Go.Can
namespace Go.Can
noncomputable section
open Go
variable [Glob]
set_option linter.unusedSectionVars false

inductive CDef where
 | mark (b : Nat)
 | fn (g : FuncId) (args cap : List Value)
inductive DR (f : Mp) : List CDef → List Deferred → Prop
 | nil : DR f [] []
 | mark {b r : Nat} {z : Z} {ds : List CDef} {ds' : List Deferred} (h : f b = some (r, z)) (t : DR f ds ds') : DR f (.mark b :: ds) ({ target := .collected r, args := #[] } :: ds')
 | fn (g : FuncId) {args cap : List Value} {args' cap' : Array Value} {ds : List CDef} {ds' : List Deferred} (h1 : LR f args args'.toList) (h2 : LR f cap cap'.toList) (t : DR f ds ds') :
   DR f (.fn g args cap :: ds) ({ target := .fn (.func g) cap', args := args' } :: ds')
theorem DR.mono {f g : Mp} (s : Sub f g) : ∀ {ds : List CDef} {ds' : List Deferred}, DR f ds ds' → DR g ds ds'
 | _, _, .nil => .nil
 | _, _, .mark h t => .mark (s _ _ h) (DR.mono s t)
 | _, _, .fn q h1 h2 t => .fn q (h1.mono s) (h2.mono s) (DR.mono s t)

inductive Ex where
 | normal | exit (id : Nat) | ret
def exOf : Ex → Exit
 | .normal => .normal
 | .exit id => .exit id
 | .ret => .ret

def nthO : List Oper → Nat → Option Oper
 | o :: _, 0 => some o
 | _ :: l, n+1 => nthO l n
 | [], _ => none
theorem nthO_eq : ∀ (l : List Oper) (n : Nat), nthO l n = l[n]?
 | _ :: _, 0 => rfl
 | _ :: l, n+1 => by simp [nthO, nthO_eq l n]
 | [], _ => by simp [nthO]
def wantedB (ops : List Oper) (o : Oper) (tm : T Value) : Bool := match o.guard with
 | none => true
 | some (j, want) => match nthO ops j with
  | some g => match g.dst with
   | some d => match tm.get d with
    | some (.bool b) => b == want
    | _ => false
   | none => false
  | none => false
theorem VR.not_bool {f : Mp} {v : Value} {b : Bool} (h : VR f v (.bool b)) : v = .bool b := by cases h; rfl
theorem wantedB_ok {f : Mp} {ops : Array Oper} {o : Oper} {tm : T Value} {ts : Array Value} (h : ∀ j want g d, o.guard = some (j, want) → ops[j]? = some g → g.dst = some d → VR f (undefd (tm.get d)) (ts.getD d undef)) :
  Region.wanted o (yielded ops ts) = wantedB ops.toList o tm := by
 unfold Region.wanted wantedB
 cases hg : o.guard with
 | none => rfl
 | some p =>
  obtain ⟨j, want⟩ := p
  simp only [yielded, nthO_eq, Array.getElem?_toList]
  cases hj : ops[j]? with
  | none => simp
  | some g =>
   simp only [Option.bind_some]
   cases hd : g.dst with
   | none => simp
   | some d =>
    have hv := h j want g d hg hj hd
    simp only [Option.bind_some]
    cases ht : ts[d]? with
    | none =>
     have : ts.getD d undef = undef := by simp [Array.getD_eq_getD_getElem?, ht]
     rw [this] at hv
     simp only
     split
     ·next b hb => rw [hb] at hv; cases hv
     ·rfl
    | some u =>
     have : ts.getD d undef = u := by simp [Array.getD_eq_getD_getElem?, ht]
     rw [this] at hv
     cases u
     case bool b =>
      have h2 := hv.not_bool
      cases hm : tm.get d with
      | none => rw [hm] at h2; cases h2
      | some x => rw [hm] at h2; simp only [undefd] at h2; subst h2; simp
     all_goals
      simp only
      split
      ·next b hb => rw [hb] at hv; cases hv
      ·rfl

def putK (dst : Option Tmp) (v : Value) (nt : Nat) (tm : T Value) (k : T Value → Bool) : Bool := match dst with
 | none => k tm
 | some d => match Nat.ble (d+1) nt with
  | true => T.put (some v) 64 tm d k
  | false => false
theorem putK_ok {dst : Option Tmp} {v : Value} {nt : Nat} {tm : T Value} {k : T Value → Bool} (h : putK dst v nt tm k = true) :
  ∃ tm', k tm' = true ∧ (∀ j, tm'.get j = if dst = some j then some v else tm.get j) ∧ (∀ d, dst = some d → d < nt) ∧
   ∀ (f : Mp) (a : Act) (v' : Value), TR f tm nt a.tmps → VR f v v' → TR f tm' nt (a.put dst v').tmps := by
 unfold putK at h
 split at h
 ·exact ⟨tm, h, fun j => by simp, (fun d e => by cases e), fun f a v' ht _ => ht⟩
 ·next d =>
  split at h
  ·next hlt =>
   obtain ⟨tm', h1, h2⟩ := T.put_ok h
   have hd : d < nt := Nat.le_of_ble_eq_true hlt
   refine ⟨tm', h1, fun j => ?_, (fun d' e => by cases e; exact hd), fun f a v' ht hv => ht.put hv h2 hd⟩
   rw [h2]
   by_cases e : j = d
   ·subst e; simp
   ·have e' : ¬ (some d = some j) := fun x => e (by cases x; rfl)
    rw [if_neg e, if_neg e']
  ·cases h

def argsK : List Value → Nat → T Value → (T Value → Bool) → Bool
 | [], _, tm, k => k tm
 | v :: l, n, tm, k => T.put (some v) 64 tm n fun tm => natK (n+1) fun n => argsK l n tm k
theorem argsK_ok : ∀ {l : List Value} {n : Nat} {tm : T Value} {k : T Value → Bool}, argsK l n tm k = true →
  ∃ tm', k tm' = true ∧ ∀ j, tm'.get j = if n ≤ j ∧ j < n + l.length then l[j - n]? else tm.get j
 | [], n, tm, k, h => ⟨tm, h, fun j => by rw [if_neg (by simp only [List.length_nil]; omega)]⟩
 | v :: l, n, tm, k, h => by
  obtain ⟨t1, h1, h2⟩ := T.put_ok h
  rw [natK_eq] at h1
  obtain ⟨tm', h3, h4⟩ := argsK_ok h1
  refine ⟨tm', h3, fun j => ?_⟩
  rw [h4, h2]
  simp only [List.length_cons]
  by_cases e1 : j = n
  ·subst e1
   rw [if_neg (by omega), if_pos rfl, if_pos (by omega), Nat.sub_self]; rfl
  ·by_cases e2 : n ≤ j ∧ j < n + (l.length + 1)
   ·rw [if_pos (by omega), if_pos e2]
    have : j - n = (j - (n + 1)) + 1 := by omega
    rw [this]; rfl
   ·rw [if_neg (by omega), if_neg e2, if_neg e1]
theorem TR.start {f : Mp} {tm : T Value} {l : List Value} {args : Array Value} {nt : Nat} (h : ∀ j, tm.get j = if 0 ≤ j ∧ j < 0 + l.length then l[j - 0]? else (T.nil : T Value).get j)
  (hl : LR f l args.toList) (hle : l.length ≤ nt) (hgl : GL f) : TR f tm nt (args ++ Array.replicate (nt - args.size) undef) := by
 have hlen := hl.length
 simp only [Array.length_toList] at hlen
 refine ⟨by simp; omega, fun t => ?_, hgl⟩
 rw [h]
 simp only [Nat.zero_le, true_and, Nat.zero_add, Nat.sub_zero, T.get_nil]
 by_cases ht : t < l.length
 ·rw [if_pos ht]
  obtain ⟨v, hv⟩ : ∃ v, l[t]? = some v := ⟨l[t], by simp [ht]⟩
  obtain ⟨v', h1, h2⟩ := hl.get hv
  rw [hv]
  have : (args ++ Array.replicate (nt - args.size) undef).getD t undef = v' := by
   rw [Array.getD_eq_getD_getElem?, Array.getElem?_append_left (by omega)]
   have h1' : args[t]? = some v' := by simpa using h1
   rw [h1']; rfl
  rw [this]; exact h2
 ·rw [if_neg ht]
  have : (args ++ Array.replicate (nt - args.size) undef).getD t undef = undef := by
   rw [Array.getD_eq_getD_getElem?, Array.getElem?_append_right (by omega), Array.getElem?_replicate]
   split <;> rfl
  rw [this]; exact .tuple .nil

def resK (P : Program) (tm : T Value) (c : CW) : List ResultVar → List Value → (List Value → Bool) → Bool
 | [], acc, k => revK acc [] k
 | .tmp t :: l, acc, k => resK P tm c l (undefd (tm.get t) :: acc) k
 | .cell a t :: l, acc, k => cPtr (undefd (tm.get a)) fun a => cload P t a c fun v => resK P tm c l (v :: acc) k
def resS (tmps : Array Value) : ResultVar → Sem Value
 | .tmp t => pure (tmps.getD t undef)
 | .cell a t => do loadVar t (← asAddr (tmps.getD a undef))
theorem resK_ok {P : Program} {tm : T Value} {c : CW} : ∀ {l : List ResultVar} {acc : List Value} {k : List Value → Bool}, resK P tm c l acc k = true →
  ∃ vs, k (acc.reverse ++ vs) = true ∧ ∀ (f : Mp) (nt : Nat) (tmps : Array Value) (w : World), TR f tm nt tmps → HR f c w → ∃ vs', (l.mapM (resS tmps)).run P w = .ok vs' w ∧ LR f vs vs'
 | [], acc, k, h => ⟨[], by simpa [resK, revK_eq] using h, fun f nt tmps w _ _ => ⟨[], by simp, .nil⟩⟩
 | .tmp t :: l, acc, k, h => by
  obtain ⟨vs, h1, h2⟩ := resK_ok (l := l) h
  refine ⟨undefd (tm.get t) :: vs, by simpa using h1, fun f nt tmps w ht hr => ?_⟩
  obtain ⟨vs', h3, h4⟩ := h2 f nt tmps w ht hr
  exact ⟨tmps.getD t undef :: vs', by simp [List.mapM_cons, resS, h3], .cons (ht.get t) h4⟩
 | .cell a t :: l, acc, k, h => by
  obtain ⟨ad, he, h1, hp⟩ := cPtr_ok h
  obtain ⟨v, h2, hs, hl⟩ := cload_ok h1
  obtain ⟨vs, h3, h4⟩ := resK_ok (l := l) h2
  refine ⟨v :: vs, by simpa using h3, fun f nt tmps w ht hr => ?_⟩
  obtain ⟨r, z, hf, e⟩ := hp f _ (ht.get a)
  obtain ⟨v', h5, h6⟩ := hl f w r z hr hf
  obtain ⟨vs', h7, h8⟩ := h4 f nt tmps w ht hr
  rw [hs] at e
  refine ⟨v' :: vs', ?_, .cons h6 h8⟩
  simp [List.mapM_cons, resS, e, asAddr, h5, h7]
def resV (vs : List Value) : Value := match vs with
 | [v] => v
 | vs => .tuple vs.toArray
theorem results_run {P : Program} {fn : Func} {tmps : Array Value} {w : World} {vs : List Value} (h : (fn.results.toList.mapM (resS tmps)).run P w = .ok vs w) :
  (results fn tmps).run P w = .ok (resV vs) w := by
 have e2 : (fn.results.mapM (resS tmps)).run P w = Result.ok vs.toArray w := by
  rw [Array.mapM_eq_mapM_toList, Sem.run_map, h]; rfl
 unfold results
 rw [Sem.run_bind]
 refine (congrArg (fun r => Result.andThen r _) e2).trans ?_
 simp only [Result.andThen_ok, Sem.run_pure]
 congr 1
 match vs with
 | [] => rfl
 | [v] => rfl
 | _ :: _ :: _ => rfl
theorem LR.resV {f : Mp} {vs vs' : List Value} (h : LR f vs vs') : VR f (Can.resV vs) (Can.resV vs') := by
 cases h with
 | nil => exact .tuple .nil
 | cons hv ht =>
  cases ht with
  | nil => exact hv
  | cons hu ht => exact .tuple (.cons hv (.cons hu ht))
end
end Go.Can
namespace Go.Can
noncomputable section
open Go
variable [Glob]
set_option linter.unusedSectionVars false

def restrK (tm : T Value) : List Operand → T Value → (T Value → Bool) → Bool
  | [], acc, k => k acc
  | .tmp t :: l, acc, k => T.put (some (undefd (tm.get t))) 64 acc t fun acc => restrK tm l acc k
  | _ :: l, acc, k => restrK tm l acc k

/-- an operation that neither looks at the heap nor makes blocks (if it is told wrongly, the evaluation stops) -/
def pureB (o : Oper) : Bool := match o.op with
  | .move _ => true
  | .assign _ => true
  | .nilCheck _ => true
  | .fieldAddr .. => true
  | .binOp .. => true
  | .unOp .. => true
  | .convert .. => true
  | .extract .. => true
  | .pick .. => true
  | .field .. => true
  | .index .. => true
  | .indexAddr .. => true
  | .makeInterface .. => true
  | .makeFunc .. => true
  | .call cl => match cl.callee with
    | .builtin .len => true
    | .builtin .cap => true
    | .builtin .min => true
    | .builtin .max => true
    | _ => false
  | _ => false

/-- M holds 64 bits for each operation: those that it comes after -/
def maskAt (M i : Nat) : Nat := Nat.land (Nat.shiftRight M (Nat.mul 64 i)) 18446744073709551615
def maskOf (M i : Nat) : List Edge → Nat → Nat
  | [], m => m
  | e :: l, m => match Region.binds .any e && Nat.ble (e.on + 1) i with
    | true => maskOf M i l (Nat.lor m (Nat.lor (Nat.pow 2 e.on) (maskAt M e.on)))
    | false => maskOf M i l m
def infoGo : Nat → List Oper → Nat → Nat
  | _, [], M => M
  | i, o :: l, M => infoGo (i+1) l (Nat.lor M (Nat.shiftLeft (maskOf M i o.after.toList 0) (Nat.mul 64 i)))
def backB (i : Nat) : List Edge → Bool
  | [] => true
  | e :: l => match Region.binds .any e && Nat.ble i e.on with
    | true => false
    | false => backB i l
def infoOk (M : Nat) : Nat → List Oper → Bool
  | _, [] => true
  | i, o :: l => match Nat.beq (maskAt M i) (maskOf M i o.after.toList 0) && backB i o.after.toList with
    | true => infoOk M (i+1) l
    | false => false
def pairB (ops : Array Oper) (M : Nat) (i : Nat) (x : Oper) : Nat → List Oper → Bool
  | _, [] => true
  | j, y :: l => match Nat.testBit (maskAt M j) i || x.apart ops y with
    | true => pairB ops M i x (j+1) l
    | false => false
def pairsB (ops : Array Oper) (M : Nat) : Nat → List Oper → Bool
  | _, [] => true
  | i, x :: l => match pairB ops M i x (i+1) l with
    | true => pairsB ops M (i+1) l
    | false => false
/-- an operation that looks at no block and makes some -/
def blindB (o : Oper) : Bool := match o.op with
  | .alloc _ => true
  | .box .. => true
  | .buildSlice .. => true
  | _ => false
/-- those that all that are not pure and stand behind them come after -/
def joinK (M : Nat) : Nat → List Oper → (Nat → Nat → Bool) → Bool
  | _, [], k => k 18446744073709551615 0
  | i, o :: l, k => natK (i+1) fun i' => joinK M i' l fun acc W => natK (match Nat.testBit acc i with | true => Nat.lor W (Nat.pow 2 i) | false => W) fun W => match pureB o || blindB o with
    | true => k acc W
    | false => natK (Nat.land acc (maskAt M i)) fun acc => k acc W
def planB (ops : Array Oper) (M : Nat) : Bool := infoOk M 0 ops.toList && pairsB ops M 0 ops.toList && Region.noSelect ops

/-- a block that was made within the region: who touched it, and what it holds -/
structure Fr where
  blk : Nat
  by_ : Nat
  obj : CObj
def givenB (m : Nat) (x : Fr) : Bool := Nat.beq (Nat.land x.by_ m) x.by_
def giveK (m : Nat) : List Fr → T CObj → (T CObj → Bool) → Bool
  | [], h, k => k h
  | x :: l, h, k => match givenB m x with
    | true => T.put (some x.obj) 64 h x.blk fun h => giveK m l h k
    | false => giveK m l h k
def frOld (m i : Nat) (hg h : T CObj) : List Fr → List Fr → (List Fr → Bool) → Bool
  | [], acc, k => k acc
  | x :: l, acc, k => match givenB m x with
    | true => match h.get x.blk with
      | some o => natK (Nat.lor x.by_ (Nat.pow 2 i)) fun b => frOld m i hg h l (⟨x.blk, b, o⟩ :: acc) k
      | none => frOld m i hg h l acc k
    | false => match hg.get x.blk with
      | some _ => false
      | none => frOld m i hg h l (x :: acc) k
def frNew (p : Nat) (h : T CObj) : Nat → Nat → List Fr → (List Fr → Bool) → Bool
  | 0, _, acc, k => k acc
  | n+1, b, acc, k => match h.get b with
    | some o => natK (b+1) fun b' => frNew p h n b' (⟨b, p, o⟩ :: acc) k
    | none => natK (b+1) fun b' => frNew p h n b' acc k
def mergeK : List Fr → T CObj → (T CObj → Bool) → Bool
  | [], h, k => k h
  | x :: l, h, k => T.put (some x.obj) 64 h x.blk fun h => mergeK l h k

inductive Task2 where
  | round (rd : Option Nat) (nt : Nat) (cd : Code)
  | call (g : FuncId) (args : List Value)
  | yield (l : Nat) (args : List Value)
  | leave (fn : Func)
  | dcall (g : FuncId) (args : List Value)
inductive Task where
  | code (rd : Option Nat) (nt : Nat) (cd : Code)
  | more (t : Task2)

abbrev K := Ex → Value → T Value → List CDef → CW → Bool
abbrev Rec := Task → T Value → List CDef → CW → K → Bool

def loopAt (c : CW) (l : Nat) (k : LoopState → Option Code → T Value → Nat → List Tmp → Code → Code → Nat → Bool) : Bool := match c.get l with
  | some (.loop s pe tm nt ps as bd df) => k s pe tm nt ps as bd df
  | _ => false
def deferK (c : CW) (b : Nat) (k : CW → Bool) : Bool := match c.get b with
  | some (.obj (.deferred (some []))) => c.set b (some (.obj (.deferred none))) k
  | _ => false
def setsK : List Tmp → List Value → Nat → T Value → (T Value → Bool) → Bool
  | t :: ts, v :: vs, nt, tm, k => match Nat.ble (t+1) nt with
    | true => T.put (some v) 64 tm t fun tm => setsK ts vs nt tm k
    | false => false
  | [], [], _, tm, k => k tm
  | _, _, _, _, _ => false

section
variable (P : Program) (r : Rec)
def goExt (fn : Func) (args : List Value) (c : CW) (k : Value → CW → Bool) : Bool := match Extern.findNext fn with
  | none => match Extern.find fn with
    | some e => match allClosed args with
      | true => cPure P (e args.toArray) c k
      | false => false
    | none => false
  | some _ => false
def goEnter (g : FuncId) (args : List Value) (c : CW) (k : Value → CW → Bool) : Bool := match P.funcs[g]? with
  | some fn => match fn.body with
    | some _ => r (.more (.call g args)) .nil [] c fun _ v _ _ c => k v c
    | none => goExt P fn args c k
  | none => false
def goVal (fv : Value) (args : List Value) (c : CW) (k : Value → CW → Bool) : Bool := match fv with
  | .func (.func g) first cap => goEnter P r g (first.toList ++ args ++ cap.toList) c k
  | .func (.yield l) first cap => match first.toList, cap.toList with
    | [], [] => r (.more (.yield l args)) .nil [] c fun _ v _ _ c => k v c
    | _, _ => false
  | _ => false
/-- the method's function, where the receiver is handed over as it is -/
def methodK (P : Program) (t : TypeId) (name : String) (k : FuncId → Bool) : Bool := match P.info? t with
  | some i => match i.methods.find? (·.name == name) with
    | some m => match m.path.toList with
      | [] => match m.func with
        | some (f, pr) => match P.underlying t with
          | some (.pointer _) => match pr with
            | true => k f
            | false => false
          | some _ => match pr with
            | true => false
            | false => k f
          | none => false
        | none => false
      | _ :: _ => false
    | none => false
  | none => false
def goInv (rv : Value) (name : String) (args : List Value) (c : CW) (k : Value → CW → Bool) : Bool := match rv with
  | .iface t v => methodK P t name fun f => goEnter P r f (v :: args) c k
  | _ => false
/-- how an operation is run (a closed term) -/
inductive OpK where
  | plain (f : T Value → CW → (Value → CW → Bool) → Bool)
  | call (f : Operand) (args : List Operand)
  | defer (f : Operand) (args : List Operand)
  | inv (x : Operand) (name : String) (args : List Operand)
  | bad
def opK (o : Oper) : OpK := match o.op with
  | .call cl => match cl.callee with
    | .value f => .call f cl.args.toList
    | .invoke x name => .inv x name cl.args.toList
    | _ => match copF P o with
      | .mk f => .plain f
  | .defer cl => match cl.callee with
    | .value f => .defer f cl.args.toList
    | _ => .bad
  | _ => match copF P o with
    | .mk f => .plain f
def goOp (o : Oper) (tm : T Value) (c : CW) (k : Value → CW → Bool) : Bool := match opK P o with
  | .plain f => f tm c k
  | .call f args => evsK tm args [] fun args => evK tm f fun fv => goVal P r fv args c k
  | .inv x name args => evsK tm args [] fun args => evK tm x fun rv => goInv P r rv name args c k
  | _ => false

def kSeq (rd : Option Nat) (nt : Nat) (b : Code) (k : K) : K := fun e _ tm ds c => match e with
  | .normal => r (.code rd nt b) tm ds c k
  | .exit id => k (.exit id) undef tm ds c
  | .ret => k .ret undef tm ds c
def kBlock (id : Nat) (k : K) : K := fun e _ tm ds c => match e with
  | .normal => k .normal undef tm ds c
  | .exit j => match Nat.beq j id with
    | true => k .normal undef tm ds c
    | false => k (.exit j) undef tm ds c
  | .ret => k .ret undef tm ds c
def kRound (rd : Option Nat) (nt : Nat) (a : Code) (k : K) : K := fun e _ tm ds c => match e with
  | .normal => r (.more (.round rd nt a)) tm ds c k
  | .exit id => k (.exit id) undef tm ds c
  | .ret => k .ret undef tm ds c
def goCond (rd : Option Nat) (nt : Nat) (v : Value) (a b : Code) (tm : T Value) (ds : List CDef) (c : CW) (k : K) : Bool := match v with
  | .bool t => match t with
    | true => r (.code rd nt a) tm ds c k
    | false => r (.code rd nt b) tm ds c k
  | _ => false
abbrev Cont := T Value → List CDef → CW → K → Bool
def opPut (ih : Cont) (nt : Nat) (dst : Option Tmp) (tm : T Value) (ds : List CDef) (k : K) (v : Value) (c : CW) : Bool := putK dst v nt tm fun tm => ih tm ds c k
def opDefer (ih : Cont) (rd : Option Nat) (nt : Nat) (f : Operand) (args : List Operand) (dst : Option Tmp) (tm : T Value) (ds : List CDef) (c : CW) (k : K) : Bool := match rd with
  | none => evsK tm args [] fun args => evK tm f fun fv => match fv with
    | .func (.func g) first cap => opPut ih nt dst tm (.fn g (first.toList ++ args) cap.toList :: ds) k undef c
    | _ => false
  | some _ => false
def opsStep (rd : Option Nat) (nt : Nat) (all : List Oper) (o : Oper) (ih : Cont) (tm : T Value) (ds : List CDef) (c : CW) (k : K) : Bool := match wantedB all o tm with
  | false => opPut ih nt o.dst tm ds k undef c
  | true => match opK P o with
    | .defer f args => opDefer ih rd nt f args o.dst tm ds c k
    | _ => goOp P r o tm c (opPut ih nt o.dst tm ds k)
def opsEnd : Cont := fun tm ds c k => k .normal undef tm ds c
def goOps (rd : Option Nat) (nt : Nat) (all : List Oper) : List Oper → Cont
  | [] => opsEnd
  | o :: rest => opsStep P r rd nt all o (goOps rd nt all rest)

/-- one operation that is pure, on no heap -/
def pureK (o : Oper) (tm : T Value) (nx : Nat) (k : Value → Bool) : Bool :=
  restrK tm o.op.operands.toList .nil fun tmr => goOp P r o tmr ⟨.nil, nx, nx⟩ fun v c1 => match Nat.beq c1.next nx && Nat.ble nx c1.low with
    | true => k v
    | false => false
def drawK (nt : Nat) (o : Oper) (m i : Nat) (tm : T Value) (h : T CObj) (nx nb : Nat) (fr : List Fr) (k : T Value → Nat → List Fr → Bool) : Bool :=
  restrK tm o.op.operands.toList .nil fun tmr => giveK m fr h fun hg => goOp P r o tmr ⟨hg, nx, nx⟩ fun v c1 => match c1 with
    | ⟨h1, nx1, lo1⟩ => match Nat.ble nb lo1 && Nat.ble nx nx1 with
      | true => frOld m i hg h1 fr [] fun fr => natK (Nat.pow 2 i) fun p => frNew p h1 (nx1 - nx) nx fr fun fr => putK o.dst v nt tm fun tm => k tm nx1 fr
      | false => false
/-- those that stored to the same block come before -/
def nsOk (m b : Nat) : List (Nat × Nat) → Bool
  | [] => true
  | (j, x) :: l => match Nat.beq x b with
    | true => match Nat.testBit m j with
      | true => nsOk m b l
      | false => false
    | false => nsOk m b l
def wsOk (m : Nat) : List (Nat × Nat) → Bool
  | [] => true
  | (j, _) :: l => match Nat.testBit m j with
    | true => wsOk m l
    | false => false
def addrAt (o : Oper) (tm : T Value) (k : Nat → Bool) : Bool := match o.op with
  | .store _ a _ => evK tm a fun v => match v with
    | .pointer (some p) => k p.block
    | _ => false
  | .load _ a => evK tm a fun v => match v with
    | .pointer (some p) => k p.block
    | _ => false
  | _ => false
def loadB (o : Oper) : Bool := match o.op with
  | .load _ _ => true
  | _ => false
def storeB (o : Oper) : Bool := match o.op with
  | .store _ _ _ => true
  | _ => false
def subB (m M i : Nat) : Bool := Nat.beq (Nat.land m (maskAt M i)) m
/-- an operation on one block alone -/
def oneK (o : Oper) (tm : T Value) (c : CW) (b : Nat) (k : Value → CW → Bool) : Bool := match c.get b with
  | some ob => T.put (some ob) 64 .nil b fun h1 => restrK tm o.op.operands.toList .nil fun tmr => goOp P r o tmr ⟨h1, c.next, c.next⟩ k
  | none => false
/-- an operation that sees the whole heap -/
def wholeK (nt i mk : Nat) (o : Oper) (fr : List Fr) (tm : T Value) (c : CW) (k : Nat → T Value → CW → Bool) : Bool := match c with
  | ⟨h, nx, lo⟩ => mergeK fr h fun h => restrK tm o.op.operands.toList .nil fun tmr => goOp P r o tmr ⟨h, nx, lo⟩ fun v c1 => match Nat.ble nx c1.next with
    | true => putK o.dst v nt tm fun tm => natK (Nat.lor mk (Nat.pow 2 i)) fun np => k np tm c1
    | false => false
/-- an operation that changes blocks of its own alone -/
def ownK (nt M i np mk oq nb : Nat) (o : Oper) (fr : List Fr) (ws : List (Nat × Nat)) (tm : T Value) (c : CW) (k : Nat → Nat → List Fr → T Value → CW → Bool) : Bool := match c with
  | ⟨h, nx, lo⟩ => natK (maskAt M i) fun m => match subB np M i && wsOk (maskAt M i) ws with
    | true => drawK P r nt o m i tm h nx nb fr fun tm nx1 fr => natK (Nat.lor mk (Nat.pow 2 i)) fun mk => natK (Nat.lor oq (Nat.pow 2 i)) fun oq => k mk oq fr tm ⟨h, nx1, lo⟩
    | false => false
/-- an operation that looks at no block -/
def blindK (nt i mk oq : Nat) (o : Oper) (fr : List Fr) (tm : T Value) (c : CW) (k : Nat → Nat → List Fr → T Value → CW → Bool) : Bool := match c with
  | ⟨h, nx, lo⟩ => restrK tm o.op.operands.toList .nil fun tmr => goOp P r o tmr ⟨.nil, nx, nx⟩ fun v c1 => match c1 with
    | ⟨h1, nx1, lo1⟩ => match Nat.ble nx lo1 && Nat.ble nx nx1 with
      | true => natK (Nat.pow 2 i) fun p => frNew p h1 (nx1 - nx) nx fr fun fr => putK o.dst v nt tm fun tm => natK (Nat.lor mk (Nat.pow 2 i)) fun mk => natK (Nat.lor oq (Nat.pow 2 i)) fun oq => k mk oq fr tm ⟨h, nx1, lo⟩
      | false => false
/-- np: those up to the last that saw the whole heap; mk: all that saw a block; oq: those on blocks of their own; nb: the blocks behind it are in fr; ns: those that saw one block alone; ws: of them, those that wrote it -/
def goTail (nt : Nat) (ops : Array Oper) (M W : Nat) : List Oper → Nat → Nat → Nat → Nat → Nat → List Fr → List (Nat × Nat) → List (Nat × Nat) → Cont
  | [], _, _, _, _, _, fr, _, _, tm, ds, c, k => match c with
    | ⟨h, nx, lo⟩ => mergeK fr h fun h => k .normal undef tm ds ⟨h, nx, lo⟩
  | o :: rest, i, np, mk, oq, nb, fr, ns, ws, tm, ds, c, k => natK (i+1) fun i' => match wantedB ops.toList o tm with
    | false => putK o.dst undef nt tm fun tm => goTail nt ops M W rest i' np mk oq nb fr ns ws tm ds c k
    | true => match pureB o with
      | true => pureK P r o tm c.next fun v => putK o.dst v nt tm fun tm => goTail nt ops M W rest i' np mk oq nb fr ns ws tm ds c k
      | false => match blindB o with
       | true => blindK P r nt i mk oq o fr tm c fun mk oq fr tm c => goTail nt ops M W rest i' np mk oq nb fr ns ws tm ds c k
       | false => match loadB o && subB np M i with
        | true => addrAt o tm fun b => match nsOk (maskAt M i) b ws && Nat.ble (b+1) nb with
          | true => oneK P r o tm c b fun v c1 => match Nat.beq c1.next c.next && Nat.ble c.next c1.low with
            | true => putK o.dst v nt tm fun tm => natK (Nat.lor mk (Nat.pow 2 i)) fun mk => goTail nt ops M W rest i' np mk oq nb fr ((i, b) :: ns) ws tm ds c k
            | false => false
          | false => match subB mk M i && Nat.testBit W i with
            | true => wholeK P r nt i mk o fr tm c fun np tm c1 => goTail nt ops M W rest i' np np 0 c1.next [] [] [] tm ds c1 k
            | false => ownK P r nt M i np mk oq nb o fr ws tm c fun mk oq fr tm c => goTail nt ops M W rest i' np mk oq nb fr ns ws tm ds c k
        | false => match subB mk M i && Nat.testBit W i with
          | true => wholeK P r nt i mk o fr tm c fun np tm c1 => goTail nt ops M W rest i' np np 0 c1.next [] [] [] tm ds c1 k
          | false => match storeB o with
            | false => ownK P r nt M i np mk oq nb o fr ws tm c fun mk oq fr tm c => goTail nt ops M W rest i' np mk oq nb fr ns ws tm ds c k
            | true => addrAt o tm fun b => match Nat.ble (b+1) nb with
              | false => ownK P r nt M i np mk oq nb o fr ws tm c fun mk oq fr tm c => goTail nt ops M W rest i' np mk oq nb fr ns ws tm ds c k
              | true => match subB np M i && subB oq M i && nsOk (maskAt M i) b ns with
                | true => oneK P r o tm c b fun v c1 => match c1.get b with
                  | some ob1 => c.set b (some ob1) fun c2 => match Nat.beq c1.next c.next && Nat.ble c2.low c1.low with
                    | true => putK o.dst v nt tm fun tm => natK (Nat.lor mk (Nat.pow 2 i)) fun mk => goTail nt ops M W rest i' np mk oq nb fr ((i, b) :: ns) ((i, b) :: ws) tm ds c2 k
                    | false => false
                  | none => false
                | false => false

def goDraw (nt : Nat) (ops : Array Oper) : Cont := fun tm ds c k =>
  natK (infoGo 0 ops.toList 0) fun M => joinK M 0 ops.toList fun _ W => match planB ops M with
    | true => goTail P r nt ops M W ops.toList 0 0 0 0 c.next [] [] [] tm ds c k
    | false => false
def kJump (tm : T Value) (ds : List CDef) (k : K) (pe : Option Code) (c : CW) : Bool := match pe with
  | none => k .normal undef tm ds c
  | some .ret => k .ret undef tm ds c
  | some (.exit id) => k (.exit id) undef tm ds c
  | _ => false
def kRange (l : Nat) (tm : T Value) (ds : List CDef) (k : K) : K := fun _ _ _ _ c => loopAt c l fun s pe tm' nt' ps' as' bd' df => match s with
  | .busy => false
  | _ => c.set l (some (.loop .exhausted pe tm' nt' ps' as' bd' df)) (kJump tm ds k pe)
def goRange (rd : Option Nat) (nt : Nat) (fv : Value) (ps : List Tmp) (as bd : Code) (tm : T Value) (ds : List CDef) (c : CW) (k : K) : Bool := match fv with
  | .func (.func g) first cap => match rd with
    | none => c.new (.obj (.deferred (some []))) fun d c => c.new (.loop .ready none tm nt ps as bd d) fun l c =>
      r (.more (.call g (first.toList ++ [.func (.yield l) #[] #[]] ++ cap.toList))) .nil [] c (kRange l tm (.mark d :: ds) k)
    | some o => loopAt c o fun _ _ _ _ _ _ _ d => c.new (.loop .ready none tm nt ps as bd d) fun l c =>
      r (.more (.call g (first.toList ++ [.func (.yield l) #[] #[]] ++ cap.toList))) .nil [] c (kRange l tm ds k)
  | _ => false
inductive CodeF where
  | mk (f : Option Nat → Nat → Rec → Cont)
def codeF (cd : Code) : CodeF := match cd with
  | .skip => .mk fun _ _ _ tm ds c k => k .normal undef tm ds c
  | .label _ => .mk fun _ _ _ tm ds c k => k .normal undef tm ds c
  | .exit id => .mk fun _ _ _ tm ds c k => k (.exit id) undef tm ds c
  | .ret => .mk fun _ _ _ tm ds c k => k .ret undef tm ds c
  | .seq a b => .mk fun rd nt r tm ds c k => r (.code rd nt a) tm ds c (kSeq r rd nt b k)
  | .cond x a b => .mk fun rd nt r tm ds c k => evK tm x fun v => goCond r rd nt v a b tm ds c k
  | .block id a => .mk fun rd nt r tm ds c k => r (.code rd nt a) tm ds c (kBlock id k)
  | .scope a => .mk fun rd nt r tm ds c k => r (.code rd nt a) tm ds c k
  | .loop a => .mk fun rd nt r tm ds c k => r (.more (.round rd nt a)) tm ds c k
  | .region _ ops draw => match draw with
    | false => .mk fun rd nt r tm ds c k => goOps P r rd nt ops.toList ops.toList tm ds c k
    | true => .mk fun _ nt r tm ds c k => goDraw P r nt ops tm ds c k
  | .rangeFunc x ps as bd => .mk fun rd nt r tm ds c k => evK tm x fun fv => goRange r rd nt fv ps.toList as bd tm ds c k
  | _ => .mk fun _ _ _ _ _ _ _ => false
def goCode (rd : Option Nat) (nt : Nat) (cd : Code) (tm : T Value) (ds : List CDef) (c : CW) (k : K) : Bool := match codeF P cd with
  | .mk f => f rd nt r tm ds c k

def kBody (fn : Func) (k : K) : K := fun e _ tm ds c => match e with
  | .exit _ => false
  | _ => r (.more (.leave fn)) tm ds c k
def goCall (g : FuncId) (args : List Value) (c : CW) (k : K) : Bool := match P.funcs[g]? with
  | some fn => match fn.body with
    | some body => leK args.length fn.ntmps (argsK args 0 .nil fun tm => r (.code none fn.ntmps body) tm [] c (kBody r fn k))
    | none => false
  | none => false
def goLeave (fn : Func) (tm : T Value) (ds : List CDef) (c : CW) (k : K) : Bool := match ds with
  | [] => resK P tm c fn.results.toList [] fun vs => k .ret (resV vs) .nil [] c
  | .mark b :: ds => deferK c b fun c => r (.more (.leave fn)) tm ds c k
  | .fn g args cap :: ds => r (.more (.dcall g (args ++ cap))) .nil [] c fun _ _ _ _ c => r (.more (.leave fn)) tm ds c k
def kEnd (l : Nat) (k : K) : K := fun e _ _ _ c => loopAt c l fun _ _ tm nt ps as bd df => match e with
  | .normal => c.set l (some (.loop .ready none tm nt ps as bd df)) fun c => k .ret (.bool true) .nil [] c
  | .ret => c.set l (some (.loop .done (some .ret) tm nt ps as bd df)) fun c => k .ret (.bool false) .nil [] c
  | .exit id => c.set l (some (.loop .done (some (.exit id)) tm nt ps as bd df)) fun c => k .ret (.bool false) .nil [] c
def kAssign (l : Nat) (nt : Nat) (bd : Code) (k : K) : K := fun e _ tm1 ds1 c => match e with
  | .normal => loopAt c l fun s2 pe2 tm2 nt2 ps2 as2 bd2 df2 => match s2 with
    | .ready => c.set l (some (.loop .busy pe2 tm2 nt2 ps2 as2 bd2 df2)) fun c => r (.code (some l) nt bd) tm1 ds1 c (kEnd l k)
    | _ => false
  | _ => false
def goYield (l : Nat) (args : List Value) (c : CW) (k : K) : Bool := loopAt c l fun _ _ tm nt ps as bd _ =>
  setsK ps args nt tm fun tm1 => r (.code (some l) nt as) tm1 [] c (kAssign r l nt bd k)
def kDcall (fn : Func) (k : K) : K := fun e _ tm ds c => match ds with
  | [] => match e with
    | .exit _ => false
    | _ => resK P tm c fn.results.toList [] fun vs => k .ret (resV vs) .nil [] c
  | _ => false
def recB (o : Oper) : Bool := match o.op, o.guard with
  | .call cl, none => match cl.callee with
    | .builtin .recover => true
    | _ => false
  | _, _ => false
/-- what stands behind 'recover()' in its region: moves alone -/
def movesK (nt : Nat) : List Oper → T Value → (T Value → Bool) → Bool
  | [], tm, k => k tm
  | o :: l, tm, k => match o.guard with
    | some _ => false
    | none => match o.op with
      | .assign x => evK tm x fun v => putK o.dst v nt tm fun tm => movesK nt l tm k
      | .move x => evK tm x fun v => putK o.dst v nt tm fun tm => movesK nt l tm k
      | _ => false
def goDcall (g : FuncId) (args : List Value) (c : CW) (k : K) : Bool := match P.funcs[g]? with
  | some fn => match fn.body with
    | some (.seq (.region _ ops false) rest) => match ops.toList with
      | o :: more => match recB o with
        | true => leK args.length fn.ntmps (argsK args 0 .nil fun tm => putK o.dst .nilIface fn.ntmps tm fun tm => movesK fn.ntmps more tm fun tm => r (.code none fn.ntmps rest) tm [] c (kDcall P fn k))
        | false => false
      | _ => false
    | _ => false
  | none => false
def goMore (t : Task2) (tm : T Value) (ds : List CDef) (c : CW) (k : K) : Bool := match t with
  | .round rd nt a => r (.code rd nt a) tm ds c (kRound r rd nt a k)
  | .call g args => goCall P r g args c k
  | .yield l args => goYield r l args c k
  | .leave fn => goLeave P r fn tm ds c k
  | .dcall g args => goDcall P r g args c k
def goStep : Rec := fun task tm ds c k => match task with
  | .code rd nt cd => goCode P r rd nt cd tm ds c k
  | .more t => goMore P r t tm ds c k
end

def go (P : Program) (n : Nat) : Rec := Nat.rec (fun _ _ _ _ _ => false) (fun _ r => goStep P r) n
/-- the package-level variables that are looked at, with what they hold -/
def layK : List (Nat × CObj) → T CObj → (T CObj → Bool) → Bool
  | [], h, k => k h
  | (g, o) :: l, h, k => match Nat.ble (g+1) Glob.num with
    | true => T.put (some o) 64 h g fun h => layK l h k
    | false => false
def kLow (chk : Value → Bool) : K := fun _ v _ _ c => match Nat.ble Glob.num c.low with
  | true => chk v
  | false => false
def runs (P : Program) (n : Nat) (f : FuncId) (gl : List (Nat × CObj)) (chk : Value → Bool) : Bool := layK gl .nil fun h => go P n (.more (.call f [])) .nil [] ⟨h, Glob.num, Glob.num⟩ (kLow chk)
def isTrue : Value → Bool
  | .bool b => b
  | _ => false
end
end Go.Can
namespace Go.Can
open Go
variable [Glob]
set_option linter.unusedSectionVars false

/-! ### What the evaluator's runs say of the machine -/
def FW (rd : Option Nat) : Fence := { Fence.wide with round := rd }
theorem FW_room {rd : Option Nat} (n : Nat) : (FW rd).room n := fun d h => by cases h
inductive RD (f : Mp) : Option Nat → Option Nat → Prop
 | no : RD f none none
 | yes {l r : Nat} {z : Z} (h : f l = some (r, z)) : RD f (some l) (some r)
theorem RD.mono {f g : Mp} {x y : Option Nat} (s : Sub f g) : RD f x y → RD g x y
 | .no => .no
 | .yes h => .yes (s _ _ h)

def retK (K : Value → World → Prop) : Ending → World → Prop
 | .returned v, w => K v w
 | _, _ => False
def NextIn (P : Program) (K : Value → World → Prop) : Result Next → Prop
 | .ok (.value v) w => K v w
 | .ok .skip w => K undef w
 | .ok (.enter g args) w => CallsIn (FW none) 0 P g args w (retK K)
 | .ok (.round l g tmps as bd) w => RoundIn (FW none) 0 P l g tmps as bd w (retK K)
 | _ => False

theorem wpIn_of_next {P : Program} {o : Oper} {a : Act} {w : World} {rd : Option Nat} {next : Act → World → Prop} {Q : Exit → Act → World → Prop} (hd : ∀ c, o.op ≠ .defer c)
  (h : NextIn P (fun v w' => next (a.put o.dst v) w') ((execOp a.eval o).run P w)) : o.wpIn (FW rd) 0 P a w next Q := by
 refine ⟨fun _ _ => trivial, ?_⟩
 rw [Oper.semAt_eq _ _ _ hd]
 generalize (execOp a.eval o).run P w = r at h
 cases r with
 | halt x w' => cases x <;> exact h.elim
 | ok x w' =>
  cases x <;> first | exact h | exact h.elim | skip
  ·exact ⟨fun e => (by cases e), CallsIn.mono h fun e w'' he => by cases e <;> first | exact he | exact he.elim⟩
  ·exact ⟨fun e => (by cases e), RoundIn.mono h fun e w'' he => by cases e <;> first | exact he | exact he.elim⟩

section J
variable (P : Program)
def Jop (o : Oper) (tm : T Value) (c : CW) (v : Value) (c' : CW) : Prop :=
 (∀ d, o.op ≠ .defer d) ∧ ∀ (f : Mp) (nt : Nat) (a : Act) (w : World), TR f tm nt a.tmps → HR f c w → ∀ K : Value → World → Prop,
  (∀ f' v' w', HR f' c' w' → Ext f c w f' c' w' → VR f' v v' → K v' w') → NextIn P K ((execOp a.eval o).run P w)
def Jcode (rd : Option Nat) (nt : Nat) (cd : Code) (tm : T Value) (ds : List CDef) (c : CW) (e : Ex) (tm' : T Value) (ds' : List CDef) (c' : CW) : Prop :=
 ∀ (f : Mp) (a : Act) (w : World) (rd' : Option Nat), RD f rd rd' → TR f tm nt a.tmps → DR f ds a.defers → HR f c w → ∀ Q : Exit → Act → World → Prop,
  (∀ f' a' w', TR f' tm' nt a'.tmps → DR f' ds' a'.defers → HR f' c' w' → Ext f c w f' c' w' → Q (exOf e) a' w') → cd.wpIn (FW rd') 0 P Q a w
def Jround (rd : Option Nat) (nt : Nat) (cd : Code) (tm : T Value) (ds : List CDef) (c : CW) (e : Ex) (tm' : T Value) (ds' : List CDef) (c' : CW) : Prop :=
 ∀ (f : Mp) (a : Act) (w : World) (rd' : Option Nat), RD f rd rd' → TR f tm nt a.tmps → DR f ds a.defers → HR f c w → ∀ Q : Exit → Act → World → Prop,
  (∀ f' a' w', TR f' tm' nt a'.tmps → DR f' ds' a'.defers → HR f' c' w' → Ext f c w f' c' w' → Q (exOf e) a' w') →
  ∀ (b : Frame) (k : List Item) (cs : List Frame), b.roundOf = rd' → ∃ e' a' w', Q e' a' w' ∧ ArrivesIn (Machine.fenced P (FW rd')) P (lone (b.atR a (.code cd :: .inLoop cd :: k)) cs w) b k cs e' a' w'
def Jops (rd : Option Nat) (nt : Nat) (all todo : List Oper) (tm : T Value) (ds : List CDef) (c : CW) (tm' : T Value) (ds' : List CDef) (c' : CW) : Prop :=
 ∀ (ops : Array Oper) (i : Nat), ops.toList = all → all.drop i = todo → ∀ (f : Mp) (a : Act) (w : World) (rd' : Option Nat), RD f rd rd' → TR f tm nt a.tmps → DR f ds a.defers → HR f c w → ∀ Q : Exit → Act → World → Prop,
  (∀ f' a' w', TR f' tm' nt a'.tmps → DR f' ds' a'.defers → HR f' c' w' → Ext f c w f' c' w' → Q .normal a' w') → wpOpsIn (FW rd') 0 P ops Q (List.range' i todo.length) a w
def Jenter (g : FuncId) (args : List Value) (c : CW) (v : Value) (c' : CW) : Prop :=
 ∀ (f : Mp) (w : World) (args' : Array Value), LR f args args'.toList → HR f c w → ∀ K : Value → World → Prop,
  (∀ f' v' w', HR f' c' w' → Ext f c w f' c' w' → VR f' v v' → K v' w') → NextIn P K ((callFunc g args').run P w)
def Jcall (g : FuncId) (args : List Value) (c : CW) (v : Value) (c' : CW) : Prop :=
 (∀ (args : Array Value) (w : World), (callFunc g args).run P w = .ok (.enter g args) w) ∧ ∀ (f : Mp) (w : World) (args' : Array Value), LR f args args'.toList → HR f c w → ∀ K : Value → World → Prop,
  (∀ f' v' w', HR f' c' w' → Ext f c w f' c' w' → VR f' v v' → K v' w') → CallsIn (FW none) 0 P g args' w (retK K)
def Jyield (l : Nat) (args : List Value) (c : CW) (v : Value) (c' : CW) : Prop :=
 ∀ (f : Mp) (w : World) (args' : Array Value) (r : Nat) (z : Z), f l = some (r, z) → LR f args args'.toList → HR f c w → ∀ K : Value → World → Prop,
  (∀ f' v' w', HR f' c' w' → Ext f c w f' c' w' → VR f' v v' → K v' w') → NextIn P K ((Instr.yield r args').run P w)
def Jleave (fn : Func) (tm : T Value) (ds : List CDef) (c : CW) (v : Value) (c' : CW) : Prop :=
 ∀ (f : Mp) (tmps : Array Value) (ds' : List Deferred) (w : World), TR f tm fn.ntmps tmps → DR f ds ds' → HR f c w → ∀ K : Value → World → Prop,
  (∀ f' v' w', HR f' c' w' → Ext f c w f' c' w' → VR f' v v' → K v' w') → LeavesInM (FW none) 0 P fn tmps (retK K) ds' .returning w
def retD (K : Value → World → Prop) : Ending → FrameMode → World → Prop
 | .returned v, .returning, w => K v w
 | _, _, _ => False
def Jdcall (g : FuncId) (args : List Value) (c : CW) (v : Value) (c' : CW) : Prop :=
 (∀ (args : Array Value) (w : World), (callFunc g args).run P w = .ok (.enter g args) w) ∧ ∀ (f : Mp) (w : World) (args' : Array Value), LR f args args'.toList → HR f c w → ∀ K : Value → World → Prop,
  (∀ f' v' w', HR f' c' w' → Ext f c w f' c' w' → VR f' v v' → K v' w') → CallsDIn (FW none) 0 P g args' .returning w (retD K)
end J

section
variable {P : Program} {rd : Option Nat} {nt : Nat} {tm tm1 tm2 : T Value} {ds ds1 ds2 : List CDef} {c c1 c2 : CW}

theorem Jcode.leaf {cd : Code} {e : Ex} (h : ∀ (rd' : Option Nat) (Q : Exit → Act → World → Prop) (a : Act) (w : World), Q (exOf e) a w → cd.wpIn (FW rd') 0 P Q a w) : Jcode P rd nt cd tm ds c e tm ds c :=
 fun f a w rd' _ ht hd hr Q hQ => h rd' Q a w (hQ f a w ht hd hr (Ext.refl _ _ _))
theorem Jcode.seq_go {x y : Code} {e : Ex} (hx : Jcode P rd nt x tm ds c .normal tm1 ds1 c1) (hy : Jcode P rd nt y tm1 ds1 c1 e tm2 ds2 c2) : Jcode P rd nt (.seq x y) tm ds c e tm2 ds2 c2 :=
 fun f a w rd' hrd ht hd hr Q hQ => wpIn_seq (hx f a w rd' hrd ht hd hr _ fun f1 a1 w1 ht1 hd1 hr1 hx1 =>
  hy f1 a1 w1 rd' (hrd.mono hx1.sub) ht1 hd1 hr1 Q fun f2 a2 w2 ht2 hd2 hr2 hx2 => hQ f2 a2 w2 ht2 hd2 hr2 (hx1.trans hr hx2))
theorem Jcode.seq_out {x y : Code} {e : Ex} (he : e ≠ .normal) (hx : Jcode P rd nt x tm ds c e tm1 ds1 c1) : Jcode P rd nt (.seq x y) tm ds c e tm1 ds1 c1 :=
 fun f a w rd' hrd ht hd hr Q hQ => wpIn_seq (hx f a w rd' hrd ht hd hr _ fun f1 a1 w1 ht1 hd1 hr1 hx1 => by
  have := hQ f1 a1 w1 ht1 hd1 hr1 hx1
  cases e <;> first | exact absurd rfl he | exact this)
theorem Jcode.cond {x : Operand} {y z : Code} {b : Bool} {e : Ex} (hx : EvR tm x (.bool b)) (h : Jcode P rd nt (if b then y else z) tm ds c e tm1 ds1 c1) : Jcode P rd nt (.cond x y z) tm ds c e tm1 ds1 c1 :=
 fun f a w rd' hrd ht hd hr Q hQ => by
  have e1 : a.eval x = .bool b := by
   have := hx f nt a ht
   generalize a.eval x = u at this
   cases this; rfl
  exact wpIn_cond e1 (by have := h f a w rd' hrd ht hd hr Q hQ; cases b <;> exact this)
theorem Jcode.block {id : Nat} {x : Code} {e e' : Ex} (he : ∀ (Q : Exit → Act → World → Prop) a w, Q (exOf e') a w → Exit.inBlock id Q (exOf e) a w) (hx : Jcode P rd nt x tm ds c e tm1 ds1 c1) : Jcode P rd nt (.block id x) tm ds c e' tm1 ds1 c1 :=
 fun f a w rd' hrd ht hd hr Q hQ => wpIn_block (hx f a w rd' hrd ht hd hr _ fun f1 a1 w1 ht1 hd1 hr1 hx1 => he Q a1 w1 (hQ f1 a1 w1 ht1 hd1 hr1 hx1))
theorem stepR_scope {b : Frame} {a : Act} {k : List Item} {cs : List Frame} {w : World} {x : Code} : step P (lone (b.atR a (.code (.scope x) :: k)) cs w) = .next (lone (b.atR a (.code x :: .inScope x :: k)) cs w) :=
 step_lone_go (by simp [stepG, stepG.exec, Frame.atR])
theorem stepR_inScope {b : Frame} {a : Act} {k : List Item} {cs : List Frame} {w : World} {x : Code} : step P (lone (b.atR a (.inScope x :: k)) cs w) = .next (lone (b.atR a k) cs w) :=
 step_lone_go (by simp [stepG, stepG.exec, Frame.atR])
theorem Jcode.scope {x : Code} {e : Ex} (hx : Jcode P rd nt x tm ds c e tm1 ds1 c1) : Jcode P rd nt (.scope x) tm ds c e tm1 ds1 c1 :=
 fun f a w rd' hrd ht hd hr Q hQ b k cs hro hb hroom => by
  have h0 : (lone (b.atR a (.code (.scope x) :: k)) cs w).fenced P (FW rd') := fenced_calm hb hroom rfl
  obtain ⟨e', a', w', ⟨he, hq⟩, harr⟩ := hx f a w rd' hrd ht hd hr (fun e' a' w' => e' = exOf e ∧ Q e' a' w') (fun f1 a1 w1 h1 h2 h3 h4 => ⟨rfl, hQ f1 a1 w1 h1 h2 h3 h4⟩) b (.inScope x :: k) cs hro hb hroom
  cases e' with
  | normal => exact ⟨.normal, a', w', hq, .head h0 stepR_scope (StepsIn.trans harr (.one (fenced_calm hb hroom rfl) stepR_inScope))⟩
  | exit id =>
   have hx : exitTo id (.inScope x :: k) = exitTo id k := by simp [exitTo]
   exact ⟨.exit id, a', w', hq, fun k' hk => .head h0 stepR_scope (harr.1 k' (by rw [hx]; exact hk)), fun hr' hk => let ⟨k₁, h1, h2⟩ := harr.2 hr' (by rw [hx]; exact hk); ⟨k₁, h1, .head h0 stepR_scope h2⟩⟩
  | ret => exact ⟨_, a', w', hq, .of_steps (.one h0 stepR_scope) harr⟩
  | goto l => cases e <;> cases he
  | panic ch => cases e <;> cases he
  | outgrown => cases e <;> cases he
theorem Jround.again {x : Code} {e : Ex} (hx : Jcode P rd nt x tm ds c .normal tm1 ds1 c1) (h : Jround P rd nt x tm1 ds1 c1 e tm2 ds2 c2) : Jround P rd nt x tm ds c e tm2 ds2 c2 :=
 fun f a w rd' hrd ht hd hr Q hQ b k cs hro => by
  obtain ⟨e', a', w', ⟨rfl, hq⟩, harr⟩ := hx f a w rd' hrd ht hd hr (fun e' a' w' => e' = .normal ∧ ∃ e' a'' w'', Q e' a'' w'' ∧ ArrivesIn (Machine.fenced P (FW rd')) P (lone (b.atR a' (.code x :: .inLoop x :: k)) cs w') b k cs e' a'' w'')
   (fun f1 a1 w1 ht1 hd1 hr1 hx1 => ⟨rfl, h f1 a1 w1 rd' (hrd.mono hx1.sub) ht1 hd1 hr1 Q (fun f2 a2 w2 ht2 hd2 hr2 hx2 => hQ f2 a2 w2 ht2 hd2 hr2 (hx1.trans hr hx2)) b k cs hro⟩) b (.inLoop x :: k) cs hro trivial (FW_room _)
  obtain ⟨e2, a2, w2, hq2, harr2⟩ := hq
  exact ⟨e2, a2, w2, hq2, .of_steps (StepsIn.trans harr (.one (fenced_calm (n := 0) trivial (FW_room _) rfl) stepR_inLoop)) harr2⟩
theorem Jround.out {x : Code} {e : Ex} (he : e ≠ .normal) (hx : Jcode P rd nt x tm ds c e tm1 ds1 c1) : Jround P rd nt x tm ds c e tm1 ds1 c1 :=
 fun f a w rd' hrd ht hd hr Q hQ b k cs hro => by
  obtain ⟨e', a', w', ⟨he', hq⟩, harr⟩ := hx f a w rd' hrd ht hd hr (fun e' a' w' => e' = exOf e ∧ Q e' a' w') (fun f1 a1 w1 h1 h2 h3 h4 => ⟨rfl, hQ f1 a1 w1 h1 h2 h3 h4⟩) b (.inLoop x :: k) cs hro trivial (FW_room _)
  have hn : e' ≠ .normal := by rw [he']; cases e <;> simp [exOf] at he ⊢
  exact ⟨e', a', w', hq, .pass (x := .inLoop x) rfl (fun _ _ => .inl hn) harr⟩
theorem Jcode.loop {x : Code} {e : Ex} (h : Jround P rd nt x tm ds c e tm1 ds1 c1) : Jcode P rd nt (.loop x) tm ds c e tm1 ds1 c1 :=
 fun f a w rd' hrd ht hd hr Q hQ b k cs hro hb hroom => by
  obtain ⟨e', a', w', hq, harr⟩ := h f a w rd' hrd ht hd hr Q hQ b k cs hro
  exact ⟨e', a', w', hq, .of_steps (.one (fenced_calm hb hroom rfl) stepR_loop) harr⟩
theorem Jcode.region {id : Nat} {ops : Array Oper} (h : Jops P rd nt ops.toList ops.toList tm ds c tm1 ds1 c1) : Jcode P rd nt (.region id ops false) tm ds c .normal tm1 ds1 c1 :=
 fun f a w rd' hrd ht hd hr Q hQ => wpIn_region (by
  have := h ops 0 rfl rfl f a w rd' hrd ht hd hr Q hQ
  rwa [Array.length_toList, ← List.range_eq_range'] at this)
end
end Go.Can
namespace Go.Can
open Go
variable [Glob]
set_option linter.unusedSectionVars false

/-- no function is one that the machine itself answers for -/
structure Fair (P : Program) : Prop where
 named : ∀ (g : FuncId) (fn : Func), P.funcs[g]? = some fn → (fn.name == "runtime.NumGoroutine") = false
 mixed : P.follows .mixedOrders = true

section
variable {P : Program}
theorem run_callFunc_body (hP : Fair P) {g : FuncId} {fn : Func} {b : Code} (hf : P.funcs[g]? = some fn) (hb : fn.body = some b) (args : Array Value) (w : World) :
  (callFunc g args).run P w = .ok (.enter g args) w := by
 have h1 : fn.name ≠ "runtime.NumGoroutine" := by simpa using hP.named g fn hf
 simp [callFunc, hf, h1, hb, Sem.run]

theorem goExt_ok (hP : Fair P) {g : FuncId} {fn : Func} (hf : P.funcs[g]? = some fn) (hb : fn.body = none) {args : List Value} {c : CW} {k : Value → CW → Bool} (h : goExt P fn args c k = true) :
  ∃ v c', k v c' = true ∧ Jenter P g args c v c' := by
 unfold goExt at h
 split at h
 ·next hn =>
  split at h
  ·next e he =>
   split at h
   ·next hc =>
    obtain ⟨v, h1, hv, h2⟩ := cPure_ok h
    refine ⟨v, c, h1, fun f w args' hl hr K hK => ?_⟩
    have e1 : args' = args.toArray := Array.toList_inj.1 (by rw [hl.closed hc])
    rw [run_callFunc_extern hf (hP.named g fn hf) (by simp [hb]) hn he, e1, h2 w]
    exact hK f v w hr (Ext.refl _ _ _) (.of_closed hv)
   ·cases h
  ·cases h
 ·cases h

/-- what is shown of each run of the evaluator -/
def J (P : Program) : Task → T Value → List CDef → CW → Ex → Value → T Value → List CDef → CW → Prop
 | .code rd nt cd, tm, ds, c, e, _, tm', ds', c' => Jcode P rd nt cd tm ds c e tm' ds' c'
 | .more (.round rd nt cd), tm, ds, c, e, _, tm', ds', c' => Jround P rd nt cd tm ds c e tm' ds' c'
 | .more (.call g args), _, _, c, _, v, _, _, c' => Jcall P g args c v c'
 | .more (.yield l args), _, _, c, _, v, _, _, c' => Jyield P l args c v c'
 | .more (.leave fn), tm, ds, c, _, v, _, _, c' => Jleave P fn tm ds c v c'
 | .more (.dcall g args), _, _, c, _, v, _, _, c' => Jdcall P g args c v c'
def Ok (P : Program) (r : Rec) : Prop :=
 ∀ (task : Task) (tm : T Value) (ds : List CDef) (c : CW) (k : K), r task tm ds c k = true → ∃ e v tm' ds' c', k e v tm' ds' c' = true ∧ J P task tm ds c e v tm' ds' c'
variable {r : Rec}

theorem goEnter_ok (hP : Fair P) (hr : Ok P r) {g : FuncId} {args : List Value} {c : CW} {k : Value → CW → Bool} (h : goEnter P r g args c k = true) :
  ∃ v c', k v c' = true ∧ Jenter P g args c v c' := by
 unfold goEnter at h
 split at h
 ·next fn hf =>
  split at h
  ·next b hb =>
   obtain ⟨e, v, tm', ds', c', h1, h2⟩ := hr _ _ _ _ _ h
   refine ⟨v, c', h1, fun f w args' hl hh K hK => ?_⟩
   rw [h2.1]
   exact h2.2 f w args' hl hh K hK
  ·next hb => exact goExt_ok hP hf hb h
 ·cases h

/-- a value that is called: what it resolves to, and what that does -/
def Jval (P : Program) (fv : Value) (args : List Value) (c : CW) (v : Value) (c' : CW) : Prop :=
 ∀ (f : Mp) (w : World) (fv' : Value) (args' : Array Value), VR f fv fv' → LR f args args'.toList → HR f c w → ∀ K : Value → World → Prop,
  (∀ f' v' w', HR f' c' w' → Ext f c w f' c' w' → VR f' v v' → K v' w') → NextIn P K ((do let d ← Deferred.ofValue fv' args'; invoke d.target d.args : Sem Next).run P w)
theorem goVal_ok (hP : Fair P) (hr : Ok P r) {fv : Value} {args : List Value} {c : CW} {k : Value → CW → Bool} (h : goVal P r fv args c k = true) :
  ∃ v c', k v c' = true ∧ Jval P fv args c v c' := by
 unfold goVal at h
 split at h
 ·next g first cap =>
  obtain ⟨v, c', h1, h2⟩ := goEnter_ok hP hr h
  refine ⟨v, c', h1, fun f w fv' args' hv hl hh K hK => ?_⟩
  cases hv
  next first' cap' hl1 hl2 =>
  have := h2 f w (first' ++ args' ++ cap') (by simpa using (hl1.append hl).append hl2) hh K hK
  simpa [Deferred.ofValue, invoke] using this
 ·next l first cap =>
  split at h
  ·next e1 e2 =>
   obtain ⟨e, v, tm', ds', c', h1, h2⟩ := hr _ _ _ _ _ h
   refine ⟨v, c', h1, fun f w fv' args' hv hl hh K hK => ?_⟩
   cases hv
   next rr lz hf =>
   have := h2 f w args' rr lz hf hl hh K hK
   simpa [Deferred.ofValue, invoke] using this
  ·cases h
 ·cases h

theorem methodK_ok {t : TypeId} {name : String} {k : FuncId → Bool} (h : methodK P t name k = true) :
  ∃ g, k g = true ∧ ∀ (n : Nat) (v : Value) (w : World), (method (n+1) t v name).run P w = .ok (g, v) w := by
 unfold methodK at h
 split at h
 ·next i hi =>
  split at h
  ·next m hm =>
   split at h
   ·next hp =>
    have hpe : m.path.isEmpty = true := by
     have : m.path = #[] := Array.toList_inj.1 (by rw [hp])
     rw [this]; rfl
    split at h
    ·next f pr hf =>
     split at h
     ·next e hu =>
      split at h
      ·next _ => exact ⟨f, h, fun n v w => by simp [method, run_info hi, hm, hp, follow, hf, receiverAt, run_und hu, Place.get]⟩
      ·cases h
     ·next d hnp hu =>
      split at h
      ·cases h
      ·next _ =>
       refine ⟨f, h, fun n v w => ?_⟩
       cases d <;> first | exact absurd rfl (hnp _) | simp [method, run_info hi, hm, hp, follow, hf, receiverAt, run_und hu, Place.get]
     ·cases h
    ·cases h
   ·cases h
  ·cases h
 ·cases h
/-- a method that is called -/
def Jinv (P : Program) (rv : Value) (name : String) (args : List Value) (c : CW) (v : Value) (c' : CW) : Prop :=
 ∀ (f : Mp) (w : World) (rv' : Value) (args' : Array Value), VR f rv rv' → LR f args args'.toList → HR f c w → ∀ K : Value → World → Prop,
  (∀ f' v' w', HR f' c' w' → Ext f c w f' c' w' → VR f' v v' → K v' w') → NextIn P K ((callMethod rv' name args' : Sem Next).run P w)
theorem goInv_ok (hP : Fair P) (hr : Ok P r) {rv : Value} {name : String} {args : List Value} {c : CW} {k : Value → CW → Bool} (h : goInv P r rv name args c k = true) :
  ∃ v c', k v c' = true ∧ Jinv P rv name args c v c' := by
 unfold goInv at h
 split at h
 ·next t x =>
  obtain ⟨g, h1, hm⟩ := methodK_ok h
  obtain ⟨v, c', h2, h3⟩ := goEnter_ok hP hr h1
  refine ⟨v, c', h2, fun f w rv' args' hv hl hh K hK => ?_⟩
  cases hv
  next x' hx =>
  have := h3 f w (#[x'] ++ args') (by simpa using LR.cons hx hl) hh K hK
  simpa [callMethod, Made.depth, hm] using this
 ·cases h

theorem OpS.jop {o : Oper} {tm : T Value} {c c' : CW} {v : Value} (hd : ∀ d, o.op ≠ .defer d) (h : OpS P tm c (fun a => execOp a.eval o) v c') : Jop P o tm c v c' :=
 ⟨hd, fun f nt a w ht hh K hK => by
  obtain ⟨f', v', w', h1, h2, h3, h4⟩ := h f nt a w ht hh
  rcases h1 with h1 | ⟨h1, rfl⟩
  ·rw [h1]; exact hK f' v' w' h2 h3 h4
  ·rw [h1]; exact hK f' undef w' h2 h3 h4⟩
theorem opK_defer {o : Oper} {f : Operand} {args : List Operand} (h : opK P o = .defer f args) : ∃ cl, o.op = .defer cl ∧ cl.callee = .value f ∧ args = cl.args.toList := by
 obtain ⟨dst, op, type, pos, after, guard⟩ := o
 unfold opK at h
 dsimp only at h
 split at h
 ·split at h
  ·cases h
  ·cases h
  ·cases h
 ·next cl =>
  split at h
  ·next f' hcl => cases h; exact ⟨cl, rfl, hcl, rfl⟩
  ·cases h
 ·cases h
theorem opK_call {o : Oper} {f : Operand} {args : List Operand} (h : opK P o = .call f args) : ∃ cl, o.op = .call cl ∧ cl.callee = .value f ∧ args = cl.args.toList := by
 obtain ⟨dst, op, type, pos, after, guard⟩ := o
 unfold opK at h
 dsimp only at h
 split at h
 ·next cl =>
  split at h
  ·next f' hcl => cases h; exact ⟨cl, rfl, hcl, rfl⟩
  ·cases h
  ·cases h
 ·split at h
  ·cases h
  ·cases h
 ·cases h
theorem opK_inv {o : Oper} {x : Operand} {name : String} {args : List Operand} (h : opK P o = .inv x name args) : ∃ cl, o.op = .call cl ∧ cl.callee = .invoke x name ∧ args = cl.args.toList := by
 obtain ⟨dst, op, type, pos, after, guard⟩ := o
 unfold opK at h
 dsimp only at h
 split at h
 ·next cl =>
  split at h
  ·cases h
  ·next x' n' hcl => cases h; exact ⟨cl, rfl, hcl, rfl⟩
  ·cases h
 ·split at h
  ·cases h
  ·cases h
 ·cases h
theorem opK_plain {o : Oper} {g : T Value → CW → (Value → CW → Bool) → Bool} (h : opK P o = .plain g) : (∀ d, o.op ≠ .defer d) ∧ ∀ tm c k, cop P tm o c k = g tm c k := by
 obtain ⟨dst, op, type, pos, after, guard⟩ := o
 unfold opK at h
 dsimp only at h
 split at h
 ·next cl =>
  split at h
  ·cases h
  ·cases h
  ·cases h; exact ⟨fun d hd => (by cases hd), fun tm c k => rfl⟩
 ·split at h
  ·cases h
  ·cases h
 ·next h1 h2 => cases h; exact ⟨fun d hd => h2 d hd, fun tm c k => rfl⟩
theorem goOp_ok (hP : Fair P) (hr : Ok P r) {o : Oper} {tm : T Value} {c : CW} {k : Value → CW → Bool} (h : goOp P r o tm c k = true) :
  ∃ v c', k v c' = true ∧ Jop P o tm c v c' := by
 unfold goOp at h
 split at h
 ·next g hg =>
  obtain ⟨h0, h1⟩ := opK_plain hg
  rw [← h1] at h
  obtain ⟨v, c', h2, h3⟩ := cop_ok h
  exact ⟨v, c', h2, OpS.jop h0 h3⟩
 ·next f args hg =>
  obtain ⟨cl, hop, hcl, rfl⟩ := opK_call hg
  obtain ⟨args, h1, ha⟩ := evsK_ok h
  obtain ⟨fv, h2, hf⟩ := evK_ok h1
  obtain ⟨v, c', h3, h4⟩ := goVal_ok hP hr h2
  refine ⟨v, c', h3, fun d hd => (by rw [hop] at hd; cases hd), fun f' nt a w ht hh K hK => ?_⟩
  have hl := ha f' nt a ht
  have := h4 f' w (a.eval f) (cl.args.map a.eval) (hf f' nt a ht) (by rw [Array.toList_map]; exact hl) hh K hK
  have e1 : (execOp a.eval o) = (do let d ← Deferred.ofValue (a.eval f) (cl.args.map a.eval); invoke d.target d.args) := by
   unfold execOp; rw [hop]; simp only [resolve, hcl]
  rw [e1]; exact this
 ·next x name args hg =>
  obtain ⟨cl, hop, hcl, rfl⟩ := opK_inv hg
  obtain ⟨args, h1, ha⟩ := evsK_ok h
  obtain ⟨rv, h2, hf⟩ := evK_ok h1
  obtain ⟨v, c', h3, h4⟩ := goInv_ok hP hr h2
  refine ⟨v, c', h3, fun d hd => (by rw [hop] at hd; cases hd), fun f' nt a w ht hh K hK => ?_⟩
  have hl := ha f' nt a ht
  have := h4 f' w (a.eval x) (cl.args.map a.eval) (hf f' nt a ht) (by rw [Array.toList_map]; exact hl) hh K hK
  have e1 : (execOp a.eval o) = callMethod (a.eval x) name (cl.args.map a.eval) := by
   have e2 : (#[a.eval x] ++ cl.args.map a.eval).extract 1 (#[a.eval x] ++ cl.args.map a.eval).size = cl.args.map a.eval := by
    apply Array.ext
    ·simp
    ·intro i h1 h2; simp
   have e3 : (#[a.eval x] ++ cl.args.map a.eval)[0]? = some (a.eval x) := by rw [Array.getElem?_append_left (by simp)]; rfl
   unfold execOp; rw [hop]; simp only [resolve, hcl, invoke, pure_bind, e2, e3]
  rw [e1]; exact this
 ·cases h
end
end Go.Can
namespace Go.Can
open Go
variable [Glob]
set_option linter.unusedSectionVars false
section
variable {P : Program} {r : Rec}

theorem put_defers (a : Act) (dst : Option Tmp) (v : Value) : (a.put dst v).defers = a.defers := by cases dst <;> rfl
theorem drop_cons {all rest : List Oper} {o : Oper} {i : Nat} (h : all.drop i = o :: rest) : all[i]? = some o ∧ all.drop (i + 1) = rest := by
 constructor
 ·have := congrArg (·[0]?) h
  simpa using this
 ·have := congrArg List.tail h
  simpa [List.tail_drop] using this

/-- what the rest of a region's operations comes to -/
def ContOk (P : Program) (rd : Option Nat) (nt : Nat) (all rest : List Oper) (ih : Cont) : Prop :=
 ∀ (tm : T Value) (ds : List CDef) (c : CW) (k : K), ih tm ds c k = true → ∃ tm' ds' c' v', k .normal v' tm' ds' c' = true ∧ Jops P rd nt all rest tm ds c tm' ds' c'
/-- one operation done, the rest behind it -/
theorem opPut_ok {rd : Option Nat} {nt : Nat} {all rest : List Oper} {ih : Cont} (hi : ContOk P rd nt all rest ih) {dst : Option Tmp} {tm : T Value} {ds : List CDef} {k : K} {v : Value} {c : CW} (h : opPut ih nt dst tm ds k v c = true) :
  ∃ tm' ds' c' v', k .normal v' tm' ds' c' = true ∧ ∀ (ops : Array Oper) (i : Nat), ops.toList = all → all.drop i = rest → ∀ (f : Mp) (a : Act) (w : World) (rd' : Option Nat) (u : Value), RD f rd rd' → TR f tm nt a.tmps → DR f ds a.defers → HR f c w → VR f v u → ∀ Q : Exit → Act → World → Prop,
   (∀ f' a' w', TR f' tm' nt a'.tmps → DR f' ds' a'.defers → HR f' c' w' → Ext f c w f' c' w' → Q .normal a' w') → wpOpsIn (FW rd') 0 P ops Q (List.range' i rest.length) (a.put dst u) w := by
 unfold opPut at h
 obtain ⟨tm1, h1, _, _, h2⟩ := putK_ok h
 obtain ⟨tm', ds', c', v', h3, h4⟩ := hi _ _ _ _ h1
 exact ⟨tm', ds', c', v', h3, fun ops i ho hi f a w rd' u hrd ht hd hh hu Q hQ =>
  h4 ops i ho hi f (a.put dst u) w rd' hrd (h2 f a u ht hu) (by rw [put_defers]; exact hd) hh Q hQ⟩

theorem opsStep_ok (hP : Fair P) (hr : Ok P r) {rd : Option Nat} {nt : Nat} {all rest : List Oper} {o : Oper} {ih : Cont} (hi : ContOk P rd nt all rest ih) : ContOk P rd nt all (o :: rest) (opsStep P r rd nt all o ih) := by
 intro tm ds c k h
 unfold opsStep at h
 have wl : ∀ (ops : Array Oper) (f : Mp) (a : Act), ops.toList = all → TR f tm nt a.tmps → Region.wanted o (yielded ops a.tmps) = wantedB all o tm := fun ops f a ho ht => by
  rw [← ho]; exact wantedB_ok fun j want g d _ _ _ => ht.get d
 have plain : goOp P r o tm c (opPut ih nt o.dst tm ds k) = true → wantedB all o tm = true → ∃ tm' ds' c' v', k .normal v' tm' ds' c' = true ∧ Jops P rd nt all (o :: rest) tm ds c tm' ds' c' := fun h hw => by
  obtain ⟨v, c1, h1, hj⟩ := goOp_ok hP hr h
  obtain ⟨tm', ds', c', v', h3, h4⟩ := opPut_ok hi h1
  refine ⟨tm', ds', c', v', h3, fun ops i ho hi f a w rd' hrd ht hd hh Q hQ => ?_⟩
  obtain ⟨e1, e2⟩ := drop_cons hi
  have e3 : ops[i]? = some o := by rw [← Array.getElem?_toList, ho]; exact e1
  have hwl := (wl ops f a ho ht).trans hw
  show wpOpsIn (FW rd') 0 P ops Q (i :: List.range' (i + 1) rest.length) a w
  simp only [wpOpsIn, e3, hwl, if_true]
  exact wpIn_of_next hj.1 (hj.2 f nt a w ht hh _ fun f' u w' hh' hx hu =>
   h4 ops (i + 1) ho e2 f' a w' rd' u (hrd.mono hx.sub) (ht.mono hx.sub) (hd.mono hx.sub) hh' hu Q fun f2 a2 w2 ht2 hd2 hh2 hx2 => hQ f2 a2 w2 ht2 hd2 hh2 (hx.trans hh hx2))
 split at h
 ·next hw =>
  obtain ⟨tm', ds', c', v', h1, h2⟩ := opPut_ok hi h
  refine ⟨tm', ds', c', v', h1, fun ops i ho hi f a w rd' hrd ht hd hh Q hQ => ?_⟩
  obtain ⟨e1, e2⟩ := drop_cons hi
  have e3 : ops[i]? = some o := by rw [← Array.getElem?_toList, ho]; exact e1
  have hwl := (wl ops f a ho ht).trans hw
  show wpOpsIn (FW rd') 0 P ops Q (i :: List.range' (i + 1) rest.length) a w
  simp only [wpOpsIn, e3, hwl]
  exact ⟨fun _ _ => trivial, h2 ops (i + 1) ho e2 f a w rd' undef hrd ht hd hh (.tuple .nil) Q hQ⟩
 ·next hw =>
  split at h
  ·next fo args hk =>
   obtain ⟨cl, hop, hcl, rfl⟩ := opK_defer hk
   unfold opDefer at h
   split at h
   ·obtain ⟨args, h1, ha⟩ := evsK_ok h
    obtain ⟨fv, h2, hf⟩ := evK_ok h1
    split at h2
    ·next g first cap =>
     obtain ⟨tm', ds', c', v', h3, h4⟩ := opPut_ok hi h2
     refine ⟨tm', ds', c', v', h3, fun ops i ho hi f a w rd' hrd ht hd hh Q hQ => ?_⟩
     obtain ⟨e1, e2⟩ := drop_cons hi
     have e3 : ops[i]? = some o := by rw [← Array.getElem?_toList, ho]; exact e1
     have hwl := (wl ops f a ho ht).trans hw
     cases hrd
     show wpOpsIn (FW none) 0 P ops Q (i :: List.range' (i + 1) rest.length) a w
     simp only [wpOpsIn, e3, hwl, if_true]
     refine ⟨fun _ _ => trivial, ?_⟩
     have hfv := hf f nt a ht
     have hal := ha f nt a ht
     generalize hg : a.eval fo = fv' at hfv
     cases hfv
     next first' cap' hl1 hl2 =>
     have e4 : (o.semAt (FW none).round a.eval).run P w = .ok (.defer { target := .fn (.func g) cap', args := first' ++ cl.args.map a.eval }) w := by
      show (execOp a.eval o).run P w = _
      unfold execOp; rw [hop]; simp only [resolve, hcl, hg, Deferred.ofValue]; rfl
     rw [e4, Oper.uponIn_defer]
     exact h4 ops (i + 1) ho e2 f { a with defers := _ :: a.defers } w none undef .no ht (.fn g (by simpa using hl1.append hal) hl2 hd) hh (.tuple .nil) Q hQ
    ·cases h2
   ·cases h
  ·exact plain h hw

theorem goOps_ok (hP : Fair P) (hr : Ok P r) {rd : Option Nat} {nt : Nat} {all : List Oper} : ∀ todo : List Oper, ContOk P rd nt all todo (goOps P r rd nt all todo)
 | [] => fun tm ds c k h => ⟨tm, ds, c, undef, h, fun ops i _ _ f a w rd' hrd ht hd hh Q hQ => hQ f a w ht hd hh (Ext.refl _ _ _)⟩
 | _ :: rest => opsStep_ok hP hr (goOps_ok hP hr rest)

/-! ### Calls -/
theorem kBody_ok (hr : Ok P r) {fn : Func} {k : K} {e : Ex} {v : Value} {tm : T Value} {ds : List CDef} {c : CW} (h : kBody r fn k e v tm ds c = true) :
  (e = .normal ∨ e = .ret) ∧ ∃ e' v tm' ds' c', k e' v tm' ds' c' = true ∧ Jleave P fn tm ds c v c' := by
 unfold kBody at h
 cases e with
 | exit id => cases h
 | normal => obtain ⟨e', v, tm', ds', c', h1, h2⟩ := hr _ _ _ _ _ h; exact ⟨.inl rfl, e', v, tm', ds', c', h1, h2⟩
 | ret => obtain ⟨e', v, tm', ds', c', h1, h2⟩ := hr _ _ _ _ _ h; exact ⟨.inr rfl, e', v, tm', ds', c', h1, h2⟩

theorem goCall_ok (hP : Fair P) (hr : Ok P r) {g : FuncId} {args : List Value} {c : CW} {k : K} (h : goCall P r g args c k = true) :
  ∃ e v tm' ds' c', k e v tm' ds' c' = true ∧ Jcall P g args c v c' := by
 unfold goCall at h
 split at h
 ·next fn hf =>
  split at h
  ·next body hb =>
   obtain ⟨hle, h1⟩ := leK_ok h
   obtain ⟨tm, h2, htm⟩ := argsK_ok h1
   obtain ⟨e1, v1, tm1, ds1, c1, h3, hcode⟩ := hr _ _ _ _ _ h2
   obtain ⟨he, e', v, tm', ds', c', h4, hleave⟩ := kBody_ok hr h3
   refine ⟨e', v, tm', ds', c', h4, run_callFunc_body hP hf hb, fun f w args' hl hh K hK => callsIn_of_wp_marks hf hb trivial ?_⟩
   refine hcode f { tmps := args' ++ Array.replicate (fn.ntmps - args'.size) undef, defers := [] } w none .no (TR.start htm hl hle hh.glob) .nil hh _ fun f1 a1 w1 ht1 hd1 hh1 hx1 => ?_
   have := hleave f1 a1.tmps a1.defers w1 ht1 hd1 hh1 K fun f2 v2 w2 hh2 hx2 hv2 => hK f2 v2 w2 hh2 (hx1.trans hh hx2) hv2
   rcases he with rfl | rfl <;> exact this
  ·cases h
 ·cases h

theorem putObj_mod {w : World} {b : Nat} {o o' : Obj} (h : w.heap[b]? = some o) : Mod w (w.putObj b o') b o' :=
 ⟨World.putObj_heap_same (Array.getElem?_eq_some_iff.1 h).1, fun _ hj => World.putObj_heap_other hj, World.putObj_size, rfl, rfl, rfl⟩

theorem callsDIn_mono {F : Fence} {n : Nat} {g : FuncId} {args : Array Value} {u : FrameMode} {w : World} {R R' : Ending → FrameMode → World → Prop} (h : CallsDIn F n P g args u w R) (hR : ∀ e u w, R e u w → R' e u w) : CallsDIn F n P g args u w R' :=
 ⟨h.1, fun c cs hu hroom => let ⟨e, u', w', fr, q, s⟩ := h.2 c cs hu hroom; ⟨e, u', w', fr, hR _ _ _ q, s⟩⟩

theorem goLeave_ok (hr : Ok P r) {fn : Func} {tm : T Value} {ds : List CDef} {c : CW} {k : K} (h : goLeave P r fn tm ds c k = true) :
  ∃ e v tm' ds' c', k e v tm' ds' c' = true ∧ Jleave P fn tm ds c v c' := by
 unfold goLeave at h
 split at h
 ·obtain ⟨vs, h1, h2⟩ := resK_ok h
  refine ⟨_, _, _, _, _, h1, fun f tmps ds' w ht hd hh K hK => ?_⟩
  cases hd
  obtain ⟨vs', h3, h4⟩ := h2 f _ tmps w ht hh
  exact ⟨_, results_run h3, hK f _ w hh (Ext.refl _ _ _) h4.resV⟩
 ·next b ds =>
  unfold deferK at h
  split at h
  ·next hg =>
   obtain ⟨c1, h1, hn, hlo, hget⟩ := CW.set_ok h
   obtain ⟨e, v, tm', ds', c', h2, h3⟩ := hr _ _ _ _ _ h1
   refine ⟨e, v, tm', ds', c', h2, fun f tmps dd w ht hd hh K hK => ?_⟩
   cases hd
   next rr z dd' hf hd' =>
   obtain ⟨o', ho', hor⟩ := hh.obj _ _ _ _ hg hf
   have hor : o' = .deferred (some []) := hor
   subst hor
   obtain ⟨g1, g2⟩ := set_HR (o := .obj (.deferred none)) (o' := .deferred none) hh hn hlo hget (by simp [hg]) hf rfl (putObj_mod ho')
   exact ⟨by simp, .inl ⟨rr, _, rfl, run_takeDeferred ho', h3 f tmps dd' _ ht hd' g1 K fun f2 v2 w2 hh2 hx2 hv2 => hK f2 v2 w2 hh2 (g2.trans hh hx2) hv2⟩⟩
  ·cases h
 ·next g args cap ds =>
  obtain ⟨e1, v1, tm1, ds1, c1, h1, hdc⟩ := hr _ _ _ _ _ h
  obtain ⟨e, v, tm', ds', c', h2, h3⟩ := hr _ _ _ _ _ h1
  refine ⟨e, v, tm', ds', c', h2, fun f tmps dd w ht hd hh K hK => ?_⟩
  cases hd
  next args' cap' dd' hl1 hl2 hd' =>
  refine ⟨by simp, .inr ⟨fun e => (by cases e), .func g, cap', g, args' ++ cap', rfl, ?_, fun _ _ => trivial, ?_⟩⟩
  ·simp [invoke, hdc.1]
  ·refine callsDIn_mono (hdc.2 f w (args' ++ cap') (by simpa using hl1.append hl2) hh (fun _ w' => LeavesInM (FW none) 0 P fn tmps (retK K) dd' .returning w') fun f1 v1 w1 hh1 hx1 _ =>
    h3 f1 tmps dd' w1 (ht.mono hx1.sub) (hd'.mono hx1.sub) hh1 K fun f2 v2 w2 hh2 hx2 hv2 => hK f2 v2 w2 hh2 (hx1.trans hh hx2) hv2) ?_
   intro e u w' q
   cases e <;> cases u <;> first | exact q | exact q.elim
end
end Go.Can
